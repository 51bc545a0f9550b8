/- Stretched key poses: the program and the model. -/
import Derived.Test.YtibafngidpmgdaaProg
import Derived.Test.YtibafngidpmgdaaPose
import Derived.Test.YtibafngidpmgdaaKeys
import Derived.Test.YtibafngidpmgdaaKeyOk
import Derived.Test.YtibafngidpmgdaaPoseLaw
import Derived.Test.YtibafngidpmgdaaBetween
import Derived.Test.YtibafngidpmgdaaAt2
import Derived.Test.YtibafngidpmgdaaAtLaw
import Derived.Test.YtibafngidpmgdaaStretch
import Derived.Test.YtibafngidpmgdaaStretch2
import Derived.Test.YtibafngidpmgdaaAll
import Derived.IntWalk
import Derived.WalkSpells
import Derived.OwnWalk
import Derived.Deep.RegionWith
import Derived.Deep.DrawnRows
import Derived.Deep.RegionHeld3
import Derived.Tactics
import Derived.Tactics2
import Derived.WalkKit
import Derived.LoopTactic
import Derived.BigQuiet
import Derived.RegionTactic
import Derived.Deep.QuietTactic
import Derived.Outline
import Derived.Lib.Hide
import Derived.Below
import Derived.KernelRfl
namespace Go.Proofs.Ytibafngidpmgdaa
set_option linter.unusedSimpArgs false
set_option linter.unusedVariables false
open Go.RowKit


/-- What StretchKeys hands back. -/
def StrR (w : World) (z : Int) (qs : List Key) (e : Ending) (w' : World) : Prop := ∃ v es, e = .returned (.tuple #[v, .int .i64 z]) ∧ Keys w' w.heap.size v es qs ∧ Below w.heap.size w w'
theorem keys_nil (w : World) (B : Nat) : Keys w B nv [] [] := ⟨rfl, World.ownsRow_nil _ _ _ _, fun _ h => by simp at h, fun _ _ _ h => by simp at h⟩
theorem keys_lit (w : World) {B : Nat} (h : B ≤ w.heap.size) : Keys (w.alloc (.cells #[] 55)) B (.slice (some ⟨w.heap.size, 0, none⟩) 0 0) [] [] := ⟨rfl, World.ownsRow_lit w #[] 0 h (Nat.zero_le _) rfl, fun _ h => by simp at h, fun _ _ _ h => by simp at h⟩
theorem totK_8 : ∀ ks : List Key, (∀ k ∈ ks, k.2.length ≤ 8) → totK ks ≤ ks.length * 8
  | [], _ => by simp [totK]
  | k :: ks, h => by
    have h1 := totK_8 ks (fun x hx => h x (List.mem_cons_of_mem _ hx))
    have h2 := h k (List.mem_cons_self ..)
    simp only [totK, List.length_cons]
    omega
theorem totK_keys {ks : List Key} (h : keysB ks = true) : totK ks ≤ 80 := by
  obtain ⟨h1, h2, h3⟩ := keysB_ok h
  have := totK_8 ks (fun k hk => by
    obtain ⟨i, hi, rfl⟩ := List.mem_iff_getElem.1 hk
    have h4 := (poseB_len (h3 i hi).2.2.1).2
    rw [List.getD_eq_getElem?_getD, List.getElem?_eq_getElem hi] at h4
    exact h4)
  omega
theorem strL_append (ks ls : List Key) (x s : Int) : strL (ks ++ ls) x s = strL ks x s ++ strL ls x s := by simp [strL]
theorem strL_snoc (ks : List Key) (x s : Int) (k : Nat) (h : k < ks.length) : strL (ks.take (k + 1)) x s = strL (ks.take k) x s ++ [(x + ((ks.getD k k0).1 - x) * s, (ks.getD k k0).2)] := by
  rw [take_snocK ks k h, strL_append]
  rfl

theorem two_newV (w : World) (x y : Value) (t : TypeId) : ∀ j u, [x, y][j]? = some u → (w.alloc (.cells #[x, y] t)).cell? ((⟨w.heap.size, 0, none⟩ : Addr).add j) = some u := by
  intro j u hj
  match j, hj with
  | 0, hj =>
    simp only [List.getElem?_cons_zero, Option.some.injEq] at hj
    subst hj
    rw [addP]
    go_simp
  | 1, hj =>
    simp only [List.getElem?_cons_succ, List.getElem?_cons_zero, Option.some.injEq] at hj
    subst hj
    rw [addP]
    go_simp
theorem two_cellV {x y : Value} (h : x.oneCell' = true) (h' : y.oneCell' = true) : ∀ u ∈ [x, y], u.oneCell' = true := by
  intro u hu
  simp only [List.mem_cons, List.not_mem_nil, or_false] at hu
  rcases hu with rfl | rfl
  · exact h
  · exact h'

theorem keysSnoc {w u : World} {B : Nat} {v v' x : Value} {t : Int} {es : List Ent} {ks : List Key} {p : List Pt} (h : Keys w B v es ks) (hp : Pts w B x p) (hs : ∀ i, i < es.length → Sep (own1 (es.getD i e0).2) (own1 x)) (c : Chg (own1 v) w u)
    (ho : u.ownsRow B 55 2 v' (ks.length + 1) (flatE es ++ [.int .i64 t, x])) : Keys u B v' (es ++ [(t, x)]) (ks ++ [(t, p)]) := by
  have hl := h.1
  have ty : ∀ {y : Value} {q : List Pt}, Pts w B y q → Sep (own1 y) (own1 v) := fun hq => ownsTypes hq h.2.1 (by decide)
  refine ⟨by simp [hl], by rw [flatE_append]; simpa [flatE] using ho, fun i hi => ?_, fun i j hij hj => ?_⟩
  · by_cases hi2 : i < ks.length
    · rw [getD_l (show i < es.length by omega), getD_l hi2]
      have q := h.2.2.1 i hi2
      exact ⟨q.1, q.2.chg c (ty q.2)⟩
    · have hie : i = ks.length := by simp at hi; omega
      have e1 : (es ++ [(t, x)]).getD i e0 = (t, x) := by rw [hie, ← hl]; exact getD_last _ _ _
      have e2 : (ks ++ [(t, p)]).getD i k0 = (t, p) := by rw [hie]; exact getD_last _ _ _
      rw [e1, e2]
      exact ⟨rfl, hp.chg c (ty hp)⟩
  · by_cases hj2 : j < ks.length
    · rw [getD_l (show i < es.length by omega), getD_l (show j < es.length by omega)]
      exact h.2.2.2 i j hij hj2
    · have hje : j = ks.length := by simp at hj; omega
      have e1 : (es ++ [(t, x)]).getD j e0 = (t, x) := by rw [hje, ← hl]; exact getD_last _ _ _
      rw [e1, getD_l (show i < es.length by omega)]
      exact hs i (by omega)

/-- impl.StretchKeys, of what are not key poses. -/
theorem implStr_bad (A : Option Addr) (n c : Nat) (ks : List Key) (s : Int) (w : World) (hv : RdK w A n ks) (h : keysB ks = false) :
    Calls Try.prog 29 #[.slice A n c, .int .i64 s] w (StrR w 1 []) := by
  have HV := Lib.hid (hv.below (bAlloc (Below.refl w.heap.size w) (.cells #[.int .i64 s] 2)))
  clear hv
  go_enter Try.func29, Try.ntmps29
  go_wp2_with fail
  refine (validKeys_any A n c ks _ HV.out).mono ?_
  rintro e u ⟨rfl, hd⟩
  have hb := bTrans (bAlloc (Below.refl w.heap.size w) (.cells #[.int .i64 s] 2)) hd
  clear hd
  rw [h]
  go_wp2
  go_ret2
  exact ⟨_, _, rfl, keys_nil _ _, hb⟩

/-- spec.StretchKeys, of what are not key poses. -/
theorem specStr_bad (A : Option Addr) (n c : Nat) (ks : List Key) (s : Int) (w : World) (hv : RdK w A n ks) (h : keysB ks = false) :
    Calls Try.prog 27 #[.slice A n c, .int .i64 s] w (StrR w 1 []) := by
  have HV := Lib.hid hv
  clear hv
  go_enter Try.func27, Try.ntmps27
  go_wp2_with fail
  refine (l04Keys_any A n c ks _ HV.out).mono ?_
  rintro e u ⟨rfl, hd⟩
  have hb := belowDrewn hd
  clear hd
  rw [h]
  go_wp2
  go_ret2
  exact ⟨_, _, rfl, keys_nil _ _, hb⟩

/-- impl.StretchKeys, so many times that it is none. -/
theorem implStr_range (A : Option Addr) (n c : Nat) (ks : List Key) (s : Int) (w : World) (hv : RdK w A n ks) (h : keysB ks = true) (hr : inB s 1 100 = false) :
    Calls Try.prog 29 #[.slice A n c, .int .i64 s] w (StrR w 2 []) := by
  have HV := Lib.hid (hv.below (bAlloc (Below.refl w.heap.size w) (.cells #[.int .i64 s] 2)))
  have hc : s < 1 ∨ (¬ s < 1 ∧ 100 < s) := by
    by_cases h1 : s < 1
    · exact .inl h1
    · refine .inr ⟨h1, Int.not_le.1 fun h2 => ?_⟩
      rw [inB_iff.2 ⟨Int.not_lt.1 h1, h2⟩] at hr
      cases hr
  clear hv
  rcases hc with h1 | ⟨h1, h2⟩
  all_goals
    go_enter Try.func29, Try.ntmps29
    go_wp2_with fail
    refine (validKeys_any A n c ks _ HV.out).mono ?_
    rintro e u ⟨rfl, hd⟩
    have hb := bTrans (bAlloc (Below.refl w.heap.size w) (.cells #[.int .i64 s] 2)) hd
    have cs : u.cell? ⟨w.heap.size, 0, none⟩ = some (.int .i64 s) := (hd.cell (by simp)).trans (by go_simp)
    clear hd
    rw [h]
    go_wp2
    go_ret2
    exact ⟨_, _, rfl, keys_nil _ _, hb⟩

/-- spec.StretchKeys, so many times that it is none. -/
theorem specStr_range (A : Option Addr) (n c : Nat) (ks : List Key) (s : Int) (w : World) (hv : RdK w A n ks) (h : keysB ks = true) (hr : inB s 1 100 = false) :
    Calls Try.prog 27 #[.slice A n c, .int .i64 s] w (StrR w 2 []) := by
  have HV := Lib.hid hv
  clear hv
  go_enter Try.func27, Try.ntmps27
  go_wp2_with fail
  refine (l04Keys_any A n c ks _ HV.out).mono ?_
  rintro e u ⟨rfl, hd⟩
  have hb := belowDrewn hd
  clear hd
  rw [h]
  go_wp2_with fail
  refine (l00In_any _ _ _ _).mono ?_
  rintro e u2 ⟨rfl, rfl⟩
  rw [hr]
  go_wp2
  go_ret2
  exact ⟨_, _, rfl, keys_nil _ _, hb⟩

set_option maxHeartbeats 1000000 in
/-- impl.StretchKeys. -/
theorem implStr_ok (A : Option Addr) (n c : Nat) (ks : List Key) (s : Int) (w : World) (hv : RdK w A n ks) (h : keysB ks = true) (hr : inB s 1 100 = true) (z : Int) (qs : List Key) (hz : (keysB (strL ks (tk ks 0) s) = false ∧ z = 5 ∧ qs = []) ∨ (keysB (strL ks (tk ks 0) s) = true ∧ z = 0 ∧ qs = strL ks (tk ks 0) s)) :
    Calls Try.prog 29 #[.slice A n c, .int .i64 s] w (StrR w z qs) := by
  have hl := keysB_len h
  rw [hv.1] at hl
  obtain ⟨hn1, hn2⟩ := hl
  obtain ⟨hs0, hs1⟩ := inB_iff.1 hr
  have hL := hv.1
  have htk := totK_keys h
  have HV := Lib.hid (hv.below (bAlloc (Below.refl w.heap.size w) (.cells #[.int .i64 s] 2)))
  obtain ⟨x, hx⟩ : ∃ x, x = tk ks 0 := ⟨_, rfl⟩
  rw [← hx] at hz
  have hx' : (ks.getD 0 Go.Proofs.Ytibafngidpmgdaa.k0).1 = x := hx.symm
  have CH := Lib.hid (fun b1 b2 q (r : RdK q A n ks) h1 h2 h3 h4 => changedK_any A n c b1 b2 ks x s q r h hx hs0 hs1 h1 h2 h3 h4)
  have HZ := Lib.hid hz
  have hsl : (strL ks x s).length = n := by rw [strL_length, hL]
  have hst : totK (strL ks x s) ≤ 1048576 := by rw [strL_tot]; omega
  have HST := Lib.hid (And.intro hsl hst)
  clear hv hr hz htk hL hx
  go_enter Try.func29, Try.ntmps29
  go_wp2_with fail
  refine (validKeys_any A n c ks _ HV.out).mono ?_
  rintro e u ⟨rfl, hd⟩
  have HB := Lib.hid (bTrans (bAlloc (Below.refl w.heap.size w) (.cells #[.int .i64 s] 2)) hd)
  have cs : u.cell? ⟨w.heap.size, 0, none⟩ = some (.int .i64 s) := (hd.cell (by simp)).trans (by go_simp)
  have hzu : w.heap.size < u.heap.size := by have := hd.size; simp at this; omega
  have HV1 := Lib.hid (HV.out.below hd)
  obtain ⟨_, _, h3⟩ := HV.out.below hd
  rcases h3 with h0 | ⟨g, rfl, hg, h3⟩
  · omega
  obtain ⟨c0, -, -, -, -⟩ := h3 0 (by omega)
  simp only [Nat.zero_mul, Nat.zero_add] at c0
  rw [hx'] at c0
  clear hd h3 hx'
  rw [h]
  clear h hsl hst
  have x2 : (0:Int) < n := by omega
  go_wp2_with fail
  refine (CH.out u.heap.size w.heap.size _ (HV1.out.below (by repeat (first | exact Below.refl _ _ | refine bSet ?_ (by first | (simp; done) | (simp; omega)) _ | refine bAlloc ?_ _))) (by go_simp) (by simp) ((World.cell?_alloc_lt u _ _ (by exact hzu)).trans cs) (by simp; omega)).mono ?_
  rintro e u2 ⟨A2, c2, es, rfl, p2, hb2⟩
  have hb3 := bTrans (bAlloc (Below.refl u.heap.size u) (.cells #[.int .i64 x] 2)) hb2
  have P2 := Lib.hid (p2.base (B' := w.heap.size) (by simp; omega))
  have HB2 := Lib.hid (bTrans HB.out hb3)
  have R2 := Lib.hid (p2.rdOf HST.out.1 (by omega) HST.out.2)
  clear p2 hb2 hb3 CH cs c0
  go_wp2_with fail
  refine (validKeys_any A2 n c2 (strL ks x s) _ R2.out).mono ?_
  rintro e u3 ⟨rfl, hd3⟩
  have P3 := Lib.hid (P2.out.below hd3)
  have HB3 := Lib.hid (bTrans HB2.out hd3)
  clear hd3 R2 P2
  rcases HZ.out with ⟨h1, h2, h3⟩ | ⟨h1, h2, h3⟩
  · have HE := Lib.hid (And.intro h2 h3)
    rw [h1]
    clear h1 h2 h3 HZ
    go_wp2
    go_ret2
    exact ⟨_, _, by rw [HE.out.1]; rfl, by rw [HE.out.2]; exact keys_nil _ _, HB3.out⟩
  · have HE := Lib.hid (And.intro h2 h3)
    rw [h1]
    clear h1 h2 h3 HZ
    go_wp2
    go_ret2
    exact ⟨_, es, by rw [HE.out.1]; rfl, by rw [HE.out.2]; exact P3.out, HB3.out⟩

set_option maxHeartbeats 4000000 in
set_option maxRecDepth 100000 in
/-- spec.StretchKeys. -/
theorem specStr_ok (A : Option Addr) (n c : Nat) (ks : List Key) (s : Int) (w : World) (hv : RdK w A n ks) (h : keysB ks = true) (hr : inB s 1 100 = true) (z : Int) (qs : List Key) (hz : (keysB (strL ks (tk ks 0) s) = false ∧ z = 5 ∧ qs = []) ∨ (keysB (strL ks (tk ks 0) s) = true ∧ z = 0 ∧ qs = strL ks (tk ks 0) s)) :
    Calls Try.prog 27 #[.slice A n c, .int .i64 s] w (StrR w z qs) := by
  have hl := keysB_len h
  rw [hv.1] at hl
  obtain ⟨hn1, hn2⟩ := hl
  obtain ⟨hs0, hs1⟩ := inB_iff.1 hr
  have hL := hv.1
  have HL := Lib.hid hv.1
  have htk := totK_keys h
  have HV := Lib.hid hv
  have HO := Lib.hid (keysB_ok h).2.2
  obtain ⟨x, hx⟩ : ∃ x, x = tk ks 0 := ⟨_, rfl⟩
  rw [← hx] at hz
  have HX := Lib.hid hx
  have HZ := Lib.hid hz
  have HST := Lib.hid (show (strL ks x s).length = n ∧ totK (strL ks x s) ≤ 1048576 from ⟨by rw [strL_length, hL], by rw [strL_tot]; omega⟩)
  clear hv hr hz htk hL hx
  obtain ⟨i0, hi, hz0, hz1, hz2⟩ := info_parts infoPt
  obtain ⟨j0, hj, hy0, hy1, hy2⟩ := info_parts infoKp
  go_enter Try.func27, Try.ntmps27
  go_wp2_with fail
  refine (l04Keys_any A n c ks _ HV.out).mono ?_
  rintro e u ⟨rfl, hd⟩
  have HB := Lib.hid (belowDrewn hd)
  clear hd
  rw [h]
  clear h
  go_wp2_with fail
  refine (l00In_any _ _ _ _).mono ?_
  rintro e u2 ⟨rfl, rfl⟩
  rw [inB_iff.2 ⟨hs0, hs1⟩]
  go_wp2
  go_loopw [7, 6] (fun i v wr => ∃ (k : Nat) (es : List Ent), k ≤ n ∧ i = .int .i64 k ∧ Hid (Keys wr w.heap.size v es (strL (ks.take k) x s)) ∧ Hid (Below w.heap.size w wr)) (fun i _ _ => n - (intOf i).toNat)
  case atStart => exact ⟨0, [], Nat.zero_le _, rfl, Lib.hid (keys_lit _ HB.out.size), Lib.hid (bAlloc HB.out _)⟩
  case round =>
    obtain ⟨k, es, hk, rfl, HG, HB2⟩ := hrel
    by_cases hlt : k < n
    · obtain ⟨_, _, h3⟩ := HV.out.below HB2.out
      rcases h3 with h0 | ⟨g, rfl, hg, h3⟩
      · omega
      obtain ⟨d0, -, -, -, -⟩ := h3 0 (by omega)
      obtain ⟨c0, A', f', c1, r⟩ := h3 k hlt
      have kk := HO.out k (by rw [HL.out]; exact hlt)
      have hm := poseB_len kk.2.2.1
      have hxk : x ≤ tk ks k := by
        rw [HX.out]
        by_cases h0 : k = 0
        · subst h0; exact Int.le_refl _
        · exact Int.le_of_lt (tk_lt HO.out (by omega) (by rw [HL.out]; exact hlt))
      have hx0 : 0 ≤ x := by rw [HX.out]; exact (HO.out 0 (by rw [HL.out]; omega)).1
      have ht0 := kk.1
      have ht1 := kk.2.1
      have HSN := Lib.hid (strL_snoc ks x s k (by rw [HL.out]; exact hlt))
      have hLk : (strL (ks.take k) x s).length = k := by rw [strL_length, List.length_take, HL.out]; omega
      have hx' : (ks.getD 0 Go.Proofs.Ytibafngidpmgdaa.k0).1 = x := HX.out.symm
      simp only [Nat.zero_mul, Nat.zero_add] at d0
      rw [hx'] at d0
      simp only [tk] at hxk
      have HRm := Lib.hid r.1
      obtain ⟨-, -, r3⟩ := r
      rcases r3 with h0 | ⟨g1, rfl, hg1, r3⟩
      · omega
      have HN := Lib.hid (Rd.news HRm.out r3)
      have HO2 := HG.out.2.1
      rw [hLk] at HO2
      have HOw := Lib.hid HO2
      have HLk := Lib.hid hLk
      have hBw := HB2.out.size
      clear h3 r3 kk hLk hx' HO2
      generalize (ks.getD k Go.Proofs.Ytibafngidpmgdaa.k0).1 = t at *
      generalize (ks.getD k Go.Proofs.Ytibafngidpmgdaa.k0).2 = ps at *
      have hm0 : 0 ≤ (t - x) * s := Int.mul_nonneg (by omega) (by omega)
      have hm1 : (t - x) * s ≤ 1000000 := by
        have : (t - x) * s ≤ 10000 * 100 := Int.mul_le_mul (by omega) hs1 (by omega) (by omega)
        omega
      have hmc : s * (t - x) = (t - x) * s := Int.mul_comm _ _
      have hw0 : IntKind.i64.wrap (t - x) = t - x := IntWalk.i64_in _ (by omega)
      have hw1 : IntKind.i64.wrap ((t - x) * s) = (t - x) * s := IntWalk.i64_in _ (by omega)
      have hw2 : IntKind.i64.wrap (x + (t - x) * s) = x + (t - x) * s := IntWalk.i64_in _ (by omega)
      have x0 : (0:Int) ≤ (k:Int) := by omega
      have x1 : (k:Int) < n := by omega
      have x2 : (0:Int) < n := by omega
      clear hm0 hm1
      go_wp2
      go_quiet (fail)
      obtain ⟨wq, hwq⟩ : ∃ q, q = wr.drewN nq := ⟨_, rfl⟩
      rw [← hwq]
      have hbq : Below wr.heap.size wr wq := belowDrewn ⟨nq, hwq⟩
      have c1q : wq.cell? ⟨g, k * 2 + 1, none⟩ = some (.slice (some ⟨g1, 0, none⟩) ps.length f') := (hbq.cell (p := ⟨g, k * 2 + 1, none⟩) hg).trans c1
      have HNq := Lib.hid (fun j u hj => (hbq.cell (p := (⟨g1, 0, none⟩ : Addr).add j) (by rw [addP]; exact hg1)).trans (HN.out j u hj))
      have hg1q : g1 < wq.heap.size := Nat.lt_of_lt_of_le hg1 hbq.size
      have hgq : g < wq.heap.size := Nat.lt_of_lt_of_le hg hbq.size
      have HBq := Lib.hid hbq
      have hBq := hbq.size
      have HE : Hid ((wq.alloc (.cells #[] 57)).ownsRow wq.heap.size 57 2 (.slice (some ⟨wq.heap.size, 0, none⟩) 0 0) 0 []) := Lib.hid (World.ownsRow_lit wq #[] 0 (Nat.le_refl _) (Nat.zero_le _) rfl)
      clear hwq hbq c0 d0 c1 HN hmc hw0 hw1 hw2 HO
      generalize x + (t - x) * s = T at *
      go_wp2_with (first | (at_builtin; refine wpList_append_own _ rfl _ _ 24 rfl wq.heap.size 57 i0 (fr 0 0) 2 16 Try.underlying24 hi hz0 hz1 hz2 rfl (by decide) _ _ _ rfl (World.ownsRow_lit wq #[] 0 (Nat.le_refl _) (Nat.zero_le _) rfl) ⟨g1, 0, none⟩ ps.length f' (flat ps) rfl (by rw [flat_length]) (fun j u hj => (World.cell?_alloc_lt wq _ _ (by rw [addP]; exact hg1q)).trans (HNq.out j u hj)) (flat_oneCell ps) (by unfold maxLen; omega) (by omega) (by simp) ?_; intro v' w5 hown' hgrow hnil; have HB5 := Lib.hid (Below.grown (bAlloc (Below.refl _ wq) _) hgrow (by simp) (fun j hj => (World.ownsRow.lt HE.out j hj).1)); have hP : Pts w5 wq.heap.size v' ps := (by unfold Pts; simpa using hown'); obtain ⟨A5, c5, rfl, -⟩ := Pts.rd hP (by omega); have HP := Lib.hid hP; have HBr := Lib.hid (bTrans HBq.out HB5.out); have HG5 := Lib.hid (HG.out.below HBr.out); have HO6 := Lib.hid (ownsChg HOw.out (Chg.ofBelow (fun _ => False) HBr.out) (fun _ _ hf => hf)); have hB5 := HBr.out.size; have HSp := Lib.hid (show ∀ i, i < es.length → Sep (own1 (es.getD i Go.Proofs.Ytibafngidpmgdaa.e0).2) (own1 (.slice A5 ps.length c5)) from fun i hi => sepOf wr.heap.size (fun j hj => (ownsLt (HG.out.2.2.1 i (by rw [← HG.out.1]; exact hi)).2 j hj).2) (fun j hj => Nat.le_trans HBq.out.size (ownsLt hP j hj).1)); clear hP hown' hgrow hnil) | (at_builtin; refine wpList_append_own _ rfl _ _ 33 rfl w.heap.size 55 j0 (kv 0 (.slice none 0 0)) 2 32 Try.underlying33 hj hy0 hy1 hy2 rfl (by decide) _ _ _ rfl (HO6.out.alloc _) ⟨w5.heap.size, 0, none⟩ 1 1 [.int .i64 T, .slice A5 ps.length c5] rfl rfl (two_newV _ _ _ _) (two_cellV rfl rfl) (by unfold maxLen; omega) (by omega) (by simp; omega) ?_; intro v6 w6 hown' hgrow hnil) | fail)
      have HG6 := Lib.hid (keysSnoc (t := T) (p := ps) (HG5.out.below (bAlloc (Below.refl _ _) _)) ((HP.out.base (B' := w.heap.size) (by omega)).below (bAlloc (Below.refl _ _) _)) HSp.out (Chg.ofGrown hgrow) (by rw [HLk.out]; exact hown'))
      have HB6 := Lib.hid (Below.grown (bAlloc (bTrans HB2.out HBr.out) _) hgrow (by simp; omega) (fun j hj => (World.ownsRow.lt HO6.out j hj).1))
      clear hown' hgrow hnil HG5 HO6 HSp HP HNq HE
      go_wp2
      go_roundw
      case rel => exact ⟨k + 1, es ++ [(T, .slice A5 ps.length c5)], by omega, by go_num, Lib.hid (by rw [HSN.out]; exact HG6.out), HB6⟩
      case measure => simp [intOf]; omega
    · have : k = n := by omega
      subst this
      have hT : ks.take k = ks := List.take_of_length_le (by rw [HL.out]; exact Nat.le_refl _)
      have HG1 := Lib.hid HG.out
      rw [hT] at HG1
      obtain ⟨A6, c6, rfl, -⟩ := HG1.out.rd (by rw [HST.out.1]; omega) HST.out.2
      have R6 := Lib.hid (HG1.out.rdOf rfl (by rw [HST.out.1]; omega) HST.out.2)
      clear hT HG
      go_wp2_with fail
      refine (l04Keys_any A6 _ c6 (strL ks x s) _ R6.out).mono ?_
      rintro e u3 ⟨rfl, hd3⟩
      have hb3 := belowDrewn hd3
      have P3 := Lib.hid (HG1.out.below hb3)
      have HB3 := Lib.hid (bTrans HB2.out hb3)
      clear hd3 hb3 R6 HG1
      rcases HZ.out with ⟨h1, h2, h3⟩ | ⟨h1, h2, h3⟩
      · have HE := Lib.hid (And.intro h2 h3)
        rw [h1]
        clear h1 h2 h3 HZ
        go_wp2
        go_ret2
        exact ⟨_, _, by rw [HE.out.1]; rfl, by rw [HE.out.2]; exact keys_nil _ _, HB3.out⟩
      · have HE := Lib.hid (And.intro h2 h3)
        rw [h1]
        clear h1 h2 h3 HZ
        go_wp2
        go_ret2
        exact ⟨_, es, by rw [HE.out.1]; rfl, by rw [HE.out.2]; exact P3.out, HB3.out⟩

end Go.Proofs.Ytibafngidpmgdaa
