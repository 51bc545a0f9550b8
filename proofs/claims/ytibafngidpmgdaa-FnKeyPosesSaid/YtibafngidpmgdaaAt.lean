/- The pose at a tick: the program and the model. -/
import Derived.Test.YtibafngidpmgdaaProg
import Derived.Test.YtibafngidpmgdaaAtMath
import Derived.Test.YtibafngidpmgdaaBetween
import Derived.Test.YtibafngidpmgdaaKeyOk
import Derived.OwnWalk
import Derived.Deep.RegionWith
import Derived.Deep.DrawnRows
import Derived.Deep.RegionHeld3
import Derived.Tactics
import Derived.Tactics2
import Derived.WalkKit
import Derived.WalkSpells
import Derived.LoopTactic
import Derived.BigQuiet
import Derived.RegionTactic
import Derived.Deep.QuietTactic
import Derived.IntWalk
import Derived.Outline
import Derived.Lib.Hide
import Derived.Below
import Derived.KernelRfl
namespace Go.Proofs.Ytibafngidpmgdaa
set_option linter.unusedSimpArgs false
set_option linter.unusedVariables false
open Go.RowKit

/-- The cells of a list that is read, as an append wants them. -/
theorem Rd.news {w : World} {g n : Nat} {ps : List Pt} (hl : ps.length = n) (h : ∀ j, j < n → w.cell? ⟨g, j * 2, none⟩ = some (.int .i64 (ps.getD j (0, 0)).1) ∧ w.cell? ⟨g, j * 2 + 1, none⟩ = some (.int .i64 (ps.getD j (0, 0)).2)) :
    ∀ j u, (flat ps)[j]? = some u → w.cell? ((⟨g, 0, none⟩ : Addr).add j) = some u := by
  intro j u hj
  rw [addP, Nat.zero_add]
  have hlt : j < n * 2 := by
    have := (List.getElem?_eq_some_iff.1 hj).1
    rw [flat_length, hl] at this
    exact this
  obtain ⟨q, r, hr, rfl⟩ : ∃ q r, r < 2 ∧ j = q * 2 + r := ⟨j / 2, j % 2, Nat.mod_lt _ (by omega), by omega⟩
  have hq : q < n := by omega
  have hg := flat_get ps q (by omega)
  have hc := h q hq
  match r, hr with
  | 0, _ =>
    rw [Nat.add_zero] at hj ⊢
    rw [hg.1] at hj
    rw [hc.1, ← hj]
  | 1, _ =>
    rw [hg.2] at hj
    rw [hc.2, ← hj]

/-- A list of points compared with nil. -/
theorem eql_nil (w : World) (A : Option Addr) (n c : Nat) : (binOp .eql 24 (.slice A n c) (.slice none 0 0)).run Try.prog w = .ok (.bool A.isNone) w :=
  Lib.run_eql_slice_nil w 24 57 A n c 0 0 Try.underlying24
attribute [local go_sem] eql_nil

set_option maxHeartbeats 1000000 in
set_option maxRecDepth 100000 in
/-- slices.Clone over points. -/
theorem clone_any (A : Option Addr) (n c : Nat) (ps : List Pt) (w : World) (hv : Rd w A n ps) (hn1 : 1 ≤ n) :
    Calls Try.prog 96 #[.slice A n c] w fun e w' => ∃ A' c', e = .returned (.slice A' n c') ∧ Pts w' w.heap.size (.slice A' n c') ps ∧ Below w.heap.size w w' := by
  obtain ⟨i0, hi, hz0, hz1, hz2⟩ := info_parts infoPt
  have HL := Lib.hid hv.1
  have hn := hv.2.1
  obtain ⟨-, -, h3⟩ := hv
  rcases h3 with h0 | ⟨g, rfl, hg, h3⟩
  · omega
  have HN := Lib.hid (Rd.news HL.out h3)
  have HE : Hid ((w.alloc (.cells #[] 57)).ownsRow w.heap.size 57 2 (.slice (some ⟨w.heap.size, 0, none⟩) 0 0) 0 []) := Lib.hid (World.ownsRow_lit w #[] 0 (Nat.le_refl _) (Nat.zero_le _) rfl)
  clear h3
  go_enter Try.func96, Try.ntmps96
  go_wp2_with (first | (at_builtin; refine wpList_append_own _ rfl _ _ 24 rfl w.heap.size 57 i0 (fr 0 0) 2 16 Try.underlying24 hi hz0 hz1 hz2 rfl (by decide) _ _ _ rfl (World.ownsRow_lit w #[] 0 (Nat.le_refl _) (Nat.zero_le _) rfl) ⟨g, 0, none⟩ n c (flat ps) rfl (by rw [flat_length, HL.out]) (fun j u hj => (World.cell?_alloc_lt w _ _ (by rw [addP]; exact hg)).trans (HN.out j u hj)) (flat_oneCell ps) (by unfold maxLen; omega) (by omega) (by simp) ?_; intro v' w1 hown' hgrow hnil) | fail)
  have HO := Lib.hid hown'
  have HB := Lib.hid (Below.grown (bAlloc (Below.refl _ w) _) hgrow (by simp) (fun j hj => (World.ownsRow.lt HE.out j hj).1))
  clear hown' hgrow hnil HN
  have hP : Pts w1 w.heap.size v' ps := by
    unfold Pts
    rw [HL.out]
    simpa using HO.out
  obtain ⟨A', c', rfl, -⟩ := Pts.rd hP (by rw [HL.out]; exact hn)
  rw [HL.out] at hP ⊢
  have HP := Lib.hid hP
  clear hP HO
  go_wp2
  go_ret
  exact ⟨A', c', rfl, HP.out, HB.out⟩

/-- impl.jointsAt. -/
theorem jointsAt_any (t0 t1 t : Int) (A A' : Option Addr) (n c c' : Nat) (w : World) (h0 : 0 ≤ t0) (h1 : t0 ≤ 10000) (h2 : 0 ≤ t1) (h3 : t1 ≤ 10000) (h4 : 0 ≤ t) (h5 : t ≤ 10000) :
    Calls Try.prog 115 #[kv t0 (.slice A n c), kv t1 (.slice A' n c'), .int .i64 t] w fun e w' =>
      ∃ s, e = .returned (.func (.func 145) #[] #[.pointer (some ⟨s, 0, none⟩), .pointer (some ⟨s + 1, 0, none⟩), .pointer (some ⟨s + 2, 0, none⟩), .pointer (some ⟨s + 3, 0, none⟩)]) ∧ Caps w' s A n c A' c' (t - t0) (t1 - t0) ∧ Below w.heap.size w w' := by
  go_enter Try.func115, Try.ntmps115
  go_wp2_with fail
  refine (jointsBetween_any A A' n c c' (t - t0) (t1 - t0) _).mono ?_
  rintro e u ⟨rfl, hc, hb⟩
  rw [World.size_alloc, World.size_alloc] at hc
  have HC := Lib.hid hc
  have HB := Lib.hid (bTrans (bAlloc (bAlloc (Below.refl _ w) _) _) hb)
  clear hc hb
  go_wp2
  go_ret
  exact ⟨_, rfl, HC.out, HB.out⟩

/-- The closure that asks whether a key pose lies behind a tick. -/
theorem behind_any (t x : Int) (A : Option Addr) (n c b : Nat) (w : World) (hb : w.cell? ⟨b, 0, none⟩ = some (.int .i64 x)) (hlt : b < w.heap.size) :
    Calls Try.prog 149 #[kv t (.slice A n c), .pointer (some ⟨b, 0, none⟩)] w fun e w' => e = .returned (.bool (decide (x < t))) ∧ Below w.heap.size w w' := by
  by_cases h : x < t
  · rw [decide_eq_true h]
    go_enter Try.func149, Try.ntmps149
    go_wp2
    go_ret
    exact ⟨rfl, bAlloc (Below.refl _ _) _⟩
  · rw [decide_eq_false h]
    go_enter Try.func149, Try.ntmps149
    go_wp2
    go_ret
    exact ⟨rfl, bAlloc (Below.refl _ _) _⟩

/-- What a search for the first key pose behind a tick finds. -/
def NextR (w : World) (ks : List Key) (n : Nat) (x : Int) (e : Ending) (w' : World) : Prop :=
  (∃ j : Nat, j < n ∧ x < tk ks j ∧ (∀ i, i < j → tk ks i ≤ x) ∧ e = .returned (.int .i64 j) ∧ Below w.heap.size w w') ∨ ((∀ i, i < n → tk ks i ≤ x) ∧ e = .returned (.int .i64 (-1)) ∧ Below w.heap.size w w')

set_option maxHeartbeats 1000000 in
set_option maxRecDepth 100000 in
/-- slices.IndexFunc over key poses, with the closure that asks for the tick. -/
theorem nextKey_any (A : Option Addr) (n c b : Nat) (ks : List Key) (x : Int) (w : World) (hv : RdK w A n ks) (hb : w.cell? ⟨b, 0, none⟩ = some (.int .i64 x)) (hlt : b < w.heap.size) :
    Calls Try.prog 148 #[.slice A n c, .func (.func 149) #[] #[.pointer (some ⟨b, 0, none⟩)]] w (NextR w ks n x) := by
  have hn := hv.2.1
  have HV := Lib.hid hv
  have HX := Lib.hid hb
  clear hv hb
  go_enter Try.func148, Try.ntmps148
  go_wp2
  go_loopw [8] (fun i wr => ∃ k : Nat, k ≤ n ∧ i = .int .i64 k ∧ Hid (∀ j, j < k → tk ks j ≤ x) ∧ Hid (Below w.heap.size w wr)) (fun i _ => n - (intOf i).toNat)
  case atStart => exact ⟨0, Nat.zero_le _, rfl, Lib.hid (fun j hj => by omega), Lib.hid (Below.refl _ _)⟩
  case round =>
    obtain ⟨k, hk, rfl, HP, HB⟩ := hrel
    by_cases hkn : k < n
    · obtain ⟨_, _, h3⟩ := HV.out.below HB.out
      rcases h3 with h0 | ⟨g, rfl, hg, h3⟩
      · omega
      obtain ⟨c0, A1, f1, c1, r1⟩ := h3 k hkn
      have hb := (HB.out.cell (p := ⟨b, 0, none⟩) hlt).trans HX.out
      have hltr : b < wr.heap.size := Nat.lt_of_lt_of_le hlt HB.out.size
      have C := Lib.hid (behind_any (tk ks k) x A1 (jt ks k).length f1 b wr hb hltr)
      simp only [tk, jt] at C
      clear h3 hb r1
      by_cases hgt : x < tk ks k
      · have HG := Lib.hid (show x < (ks.getD k Go.Proofs.Ytibafngidpmgdaa.k0).1 from hgt)
        rw [decide_eq_true hgt] at C
        clear hgt
        generalize hT : (ks.getD k Go.Proofs.Ytibafngidpmgdaa.k0).1 = t at *
        have HT := Lib.hid hT
        clear hT
        generalize (ks.getD k Go.Proofs.Ytibafngidpmgdaa.k0).2.length = m at *
        go_wp2_with fail
        refine C.out.mono ?_
        rintro e u ⟨rfl, hb3⟩
        go_wp2
        go_ret
        exact .inl ⟨k, hkn, by show x < (ks.getD k Go.Proofs.Ytibafngidpmgdaa.k0).1; rw [HT.out]; exact HG.out, HP.out, rfl, bTrans HB.out hb3⟩
      · have HG := Lib.hid (show (ks.getD k Go.Proofs.Ytibafngidpmgdaa.k0).1 ≤ x from Int.not_lt.1 hgt)
        rw [decide_eq_false hgt] at C
        clear hgt
        generalize hT : (ks.getD k Go.Proofs.Ytibafngidpmgdaa.k0).1 = t at *
        have HT := Lib.hid hT
        clear hT
        generalize (ks.getD k Go.Proofs.Ytibafngidpmgdaa.k0).2.length = m at *
        go_wp2_with fail
        refine C.out.mono ?_
        rintro e u ⟨rfl, hb3⟩
        have HB3 := Lib.hid (bTrans HB.out hb3)
        clear hb3
        go_wp2
        go_roundw
        case rel => exact ⟨k + 1, by omega, by go_num, Lib.hid (fun j hj => by
          by_cases hjk : j < k
          · exact HP.out j hjk
          · have : j = k := by omega
            subst this
            show (ks.getD j Go.Proofs.Ytibafngidpmgdaa.k0).1 ≤ x
            rw [HT.out]
            exact HG.out), HB3⟩
        case measure => simp [intOf]; omega
    · have : k = n := by omega
      subst this
      go_wp2
      go_ret
      exact .inr ⟨HP.out, rfl, HB.out⟩

set_option maxHeartbeats 4000000 in
set_option maxRecDepth 100000 in
/-- impl.poseAt. -/
theorem poseAt_any (A : Option Addr) (n c : Nat) (ks : List Key) (t : Int) (w : World) (hv : RdK w A n ks) (hk : keysB ks = true) (ht0 : tk ks 0 ≤ t) (ht1 : t ≤ tk ks (n - 1)) :
    Calls Try.prog 109 #[.slice A n c, .int .i64 t] w fun e w' => ∃ v, e = .returned v ∧ Pts w' w.heap.size v (poseAtN ks t) ∧ Below w.heap.size w w' := by
  have hn := hv.2.1
  have HL := Lib.hid hv.1
  obtain ⟨hk1, hk2, hko⟩ := keysB_ok hk
  rw [hv.1] at hk1 hk2
  have HO := Lib.hid hko
  have HV := Lib.hid (hv.below (bAlloc (Below.refl _ w) (.cells #[.int .i64 t] 2)))
  have NX := Lib.hid (nextKey_any A n c w.heap.size ks t _ HV.out (by go_simp) (by simp))
  have tb0 := (HO.out 0 (by rw [HL.out]; omega)).1
  have tb1 := (HO.out (n - 1) (by rw [HL.out]; omega)).2.1
  have h0t : 0 ≤ t := Int.le_trans tb0 ht0
  have ht9 : t ≤ 10000 := Int.le_trans ht1 tb1
  have HT0 := Lib.hid ht0
  have HT1 := Lib.hid ht1
  clear hv hk hko tb0 tb1 ht0 ht1
  have hmf : ∀ (fn : Fn) (first cap : Array Value) (w : World), (Instr.makeFunc fn first cap).run Try.prog w = .ok (.func fn first cap) w := fun _ _ _ _ => rfl
  go_enter Try.func109, Try.ntmps109
  go_wp2_with fail
  refine NX.out.mono ?_
  clear NX
  rintro e u (⟨j, hj, h1, h2, rfl, hb⟩ | ⟨h2, rfl, hb⟩)
  · cases j with
    | zero =>
      have := HT0.out
      omega
    | succ i =>
      obtain ⟨_, _, h3⟩ := HV.out.below hb
      rcases h3 with h0 | ⟨g, rfl, hg, h3⟩
      · omega
      obtain ⟨c0, A1, f1, c1, r1⟩ := h3 i (by omega)
      obtain ⟨c2, A2, f2, c3, r2⟩ := h3 (i + 1) hj
      have hbx : u.cell? ⟨w.heap.size, 0, none⟩ = some (.int .i64 t) := (hb.cell (by simp)).trans (by go_simp)
      have hzx : w.heap.size < u.heap.size := by have := hb.size; simp at this; omega
      have B1 := Lib.hid (bTrans (bAlloc (Below.refl w.heap.size w) (.cells #[.int .i64 t] 2)) hb)
      have k1 := HO.out i (by omega)
      have k2 := HO.out (i + 1) (by rw [HL.out]; exact hj)
      have hl1 := k1.2.2.2.1
      have hl2 := k2.2.2.2.1
      have hr := tk_lt HO.out (i := i) (j := i + 1) (by omega) (by rw [HL.out]; exact hj)
      have hle : tk ks i ≤ t := h2 i (by omega)
      have HS := Lib.hid (poseAt_seg HO.out (t := t) (j := i + 1) (by omega) (by rw [HL.out]; exact hj) hle h1)
      have HP := Lib.hid (show poseB (jt ks i) = true ∧ poseB (jt ks (i + 1)) = true from ⟨k1.2.2.1, k2.2.2.1⟩)
      have hlm : (ks.getD (i + 1) Go.Proofs.Ytibafngidpmgdaa.k0).2.length = (ks.getD i Go.Proofs.Ytibafngidpmgdaa.k0).2.length := by rw [hl1, hl2]
      rw [hlm] at c3 r2
      have HSG := Lib.hid (show segN ks t (i + 1) = mixL (jt ks i) (jt ks (i + 1)) (t - tk ks i) (tk ks (i + 1) - tk ks i) (ks.getD i Go.Proofs.Ytibafngidpmgdaa.k0).2.length by unfold segN; rw [show i + 1 - 1 = i by omega]; show mixL _ _ _ _ (ks.getD 0 Go.Proofs.Ytibafngidpmgdaa.k0).2.length = _; rw [hl1])
      have a0 := k1.1
      have a1 := k1.2.1
      have a2 := k2.1
      have a3 := k2.2.1
      have RV := Lib.hid (fun q (hb : Below u.heap.size u q) => And.intro (r1.below hb) (r2.below hb))
      simp only [tk] at h1 hr hle HSG
      have JA := Lib.hid (fun q => jointsAt_any (ks.getD i Go.Proofs.Ytibafngidpmgdaa.k0).1 (ks.getD (i + 1) Go.Proofs.Ytibafngidpmgdaa.k0).1 t A1 A2 (ks.getD i Go.Proofs.Ytibafngidpmgdaa.k0).2.length f1 f2 q a0 a1 a2 a3 h0t ht9)
      have CO := Lib.hid (fun s q (hb : Below u.heap.size u q) hC => collect_any s A1 A2 (ks.getD i Go.Proofs.Ytibafngidpmgdaa.k0).2.length f1 f2 (jt ks i) (jt ks (i + 1)) (t - (ks.getD i Go.Proofs.Ytibafngidpmgdaa.k0).1) ((ks.getD (i + 1) Go.Proofs.Ytibafngidpmgdaa.k0).1 - (ks.getD i Go.Proofs.Ytibafngidpmgdaa.k0).1) q (RV.out q hb).1 (RV.out q hb).2 HP.out.1 HP.out.2 (by omega) (by omega) (by omega) (by omega) hC)
      have hwi : IntKind.i64.wrap ((i : Int) + 1 - 1) = (i : Int) := by rw [IntWalk.i64_in _ (by omega)]; omega
      have hcast := Lib.hid (show ((i + 1 : Nat) : Int) = (i : Int) + 1 from by omega)
      clear h3 h2 h1 hb k1 k2 hl1 hl2 hlm hr hle r1 r2 HV RV a0 a1 a2 a3
      generalize (ks.getD i Go.Proofs.Ytibafngidpmgdaa.k0).1 = t0 at *
      generalize (ks.getD (i + 1) Go.Proofs.Ytibafngidpmgdaa.k0).1 = t1 at *
      generalize (ks.getD i Go.Proofs.Ytibafngidpmgdaa.k0).2.length = m at *
      rw [hcast.out]
      go_wp2
      generalize hbw : w.heap.size = b at *
      have x0 : (0:Int) ≤ (i:Int) := by omega
      have hwj : IntKind.i64.wrap (i : Int) = (i : Int) := IntWalk.i64_in _ (by omega)
      have x1 : (i:Int) < n := by omega
      have x2 : (i:Int) + 1 < n := by omega
      have x3 : (0:Int) ≤ (i:Int) + 1 := by omega
      go_region_held3 (fun w' => w'.cell? ⟨g, i * 2, none⟩ = some (.int .i64 t0) ∧ w'.cell? ⟨g, i * 2 + 1, none⟩ = some (.slice A1 m f1) ∧ w'.cell? ⟨g, (i + 1) * 2, none⟩ = some (.int .i64 t1) ∧ w'.cell? ⟨g, (i + 1) * 2 + 1, none⟩ = some (.slice A2 m f2) ∧ w'.cell? ⟨b, 0, none⟩ = some (.int .i64 t)) (go_keep)
        (first
          | (go_at_call 115; with_reducible refine (JA.out _).mono ?_; rintro e w2 ⟨s, rfl, hcaps, hb2⟩; obtain ⟨hc3, hf3⟩ := bCells hb2; have e0 : w2.cell? ⟨g, i * 2, none⟩ = some (.int .i64 t0) := (hc3 _ _ (by first | exact hg | simpa using hg)).trans (by first | exact c0 | simpa using c0); have e1 : w2.cell? ⟨g, i * 2 + 1, none⟩ = some (.slice A1 m f1) := (hc3 _ _ (by first | exact hg | simpa using hg)).trans (by first | exact c1 | simpa using c1); have e2 : w2.cell? ⟨g, (i + 1) * 2, none⟩ = some (.int .i64 t1) := (hc3 _ _ (by first | exact hg | simpa using hg)).trans (by first | exact c2 | simpa using c2); have e3 : w2.cell? ⟨g, (i + 1) * 2 + 1, none⟩ = some (.slice A2 m f2) := (hc3 _ _ (by first | exact hg | simpa using hg)).trans (by first | exact c3 | simpa using c3); have e4 : w2.cell? ⟨b, 0, none⟩ = some (.int .i64 t) := (hc3 _ _ (by first | exact hzx | simpa using hzx)).trans (by first | exact hbx | simpa using hbx))
          | (go_at_call 104; with_reducible refine (CO.out s _ (bUndrew hb2) hcaps).mono ?_; rintro e w3 ⟨v, rfl, p3, hb3⟩; have HP3 := Lib.hid p3; clear p3; have HB3 := Lib.hid (bTrans hb2 hb3); obtain ⟨hc4, hf4⟩ := bCells (bTrans hb2 hb3); have e0 : w3.cell? ⟨g, i * 2, none⟩ = some (.int .i64 t0) := (hc4 _ _ (by first | exact hg | simpa using hg)).trans (by first | exact c0 | simpa using c0); have e1 : w3.cell? ⟨g, i * 2 + 1, none⟩ = some (.slice A1 m f1) := (hc4 _ _ (by first | exact hg | simpa using hg)).trans (by first | exact c1 | simpa using c1); have e2 : w3.cell? ⟨g, (i + 1) * 2, none⟩ = some (.int .i64 t1) := (hc4 _ _ (by first | exact hg | simpa using hg)).trans (by first | exact c2 | simpa using c2); have e3 : w3.cell? ⟨g, (i + 1) * 2 + 1, none⟩ = some (.slice A2 m f2) := (hc4 _ _ (by first | exact hg | simpa using hg)).trans (by first | exact c3 | simpa using c3); have e4 : w3.cell? ⟨b, 0, none⟩ = some (.int .i64 t) := (hc4 _ _ (by first | exact hzx | simpa using hzx)).trans (by first | exact hbx | simpa using hbx)))
      have P := Lib.hid (Pts.base HP3.out (B' := w.heap.size) (by have := hb2.size; simp at this; omega))
      have B3 := Lib.hid (bTrans (show Below w.heap.size w u by rw [hbw]; exact B1.out) (bUndrew HB3.out))
      clear HP3 HB3 hb2 hc3 hf3 hc4 hf4 e0 e1 e2 e3 e4 hcaps
      go_wp2
      go_ret
      exact ⟨v, rfl, by rw [HS.out, HSG.out]; exact P.out, B3.out⟩
  · have hte : t = tk ks (n - 1) := Int.le_antisymm HT1.out (h2 (n - 1) (by omega))
    obtain ⟨_, _, h3⟩ := HV.out.below hb
    rcases h3 with h0 | ⟨g, rfl, hg, h3⟩
    · omega
    obtain ⟨c0, A1, f1, c1, r1⟩ := h3 (n - 1) (by omega)
    have k1 := HO.out (n - 1) (by rw [HL.out]; omega)
    have HS := Lib.hid (show poseAtN ks t = jt ks (n - 1) by rw [hte]; exact poseAt_key HO.out (by rw [HL.out]; omega))
    have hm := poseB_len k1.2.2.1
    have CL := Lib.hid (clone_any A1 _ f1 _ u r1 (by omega))
    have B1 := Lib.hid (bTrans (bAlloc (Below.refl w.heap.size w) (.cells #[.int .i64 t] 2)) hb)
    have hwi : IntKind.i64.wrap ((n : Int) - 1) = (n : Int) - 1 := IntWalk.i64_in _ (by omega)
    have x0 : (0:Int) ≤ (n:Int) - 1 := by omega
    have x1 : (n:Int) - 1 < n := by omega
    have hcast : (n:Int) - 1 = ((n - 1 : Nat) : Int) := by omega
    clear h3 h2 hb k1 r1 hm hte
    generalize (ks.getD (n - 1) Go.Proofs.Ytibafngidpmgdaa.k0).1 = t0 at *
    generalize (ks.getD (n - 1) Go.Proofs.Ytibafngidpmgdaa.k0).2.length = m at *
    go_wp2_with fail
    refine CL.out.mono ?_
    rintro e w3 ⟨A', c', rfl, p3, hb3⟩
    have P := Lib.hid (Pts.base p3 (B' := w.heap.size) (by have := B1.out.size; omega))
    have B3 := Lib.hid (bTrans B1.out hb3)
    clear p3 hb3 CL
    go_wp2
    go_ret
    exact ⟨_, rfl, by rw [HS.out]; exact P.out, B3.out⟩

end Go.Proofs.Ytibafngidpmgdaa
