/- Key poses without which the poses are the same: the program and the model. -/
import Derived.Test.YtibafngidpmgdaaProg
import Derived.Test.YtibafngidpmgdaaPose
import Derived.Test.YtibafngidpmgdaaKeys
import Derived.Test.YtibafngidpmgdaaKeyOk
import Derived.Test.YtibafngidpmgdaaPoseLaw
import Derived.Test.YtibafngidpmgdaaBetween
import Derived.Test.YtibafngidpmgdaaAt2
import Derived.Test.YtibafngidpmgdaaAtLaw
import Derived.Test.YtibafngidpmgdaaLists
import Derived.Test.YtibafngidpmgdaaAll
import Derived.IntWalk
import Derived.WalkSpells
import Derived.OwnWalk
import Derived.Deep.RegionWith
import Derived.Deep.DrawnRows
import Derived.Deep.RegionHeld3
import Derived.Tactics
import Derived.Tactics2
import Derived.WalkKit
import Derived.LoopTactic
import Derived.BigQuiet
import Derived.RegionTactic
import Derived.Deep.QuietTactic
import Derived.Outline
import Derived.Lib.Hide
import Derived.Below
import Derived.KernelRfl
namespace Go.Proofs.Ytibafngidpmgdaa
set_option linter.unusedSimpArgs false
set_option linter.unusedVariables false
open Go.RowKit


theorem infoI64 : (Try.prog.info? 2).map (fun i => (i.zero, i.size, i.bytes)) = some (some (.int .i64 0), 1, 8) := by kernel_rfl

/-- A key pose is needless. -/
def needN (ks : List Key) (i : Nat) : Bool := sameB (jt ks i) (mixL (jt ks (i - 1)) (jt ks (i + 1)) (tk ks i - tk ks (i - 1)) (tk ks (i + 1) - tk ks (i - 1)) (jt ks 0).length)
/-- The needless ones before one. -/
def needL (ks : List Key) : Nat → List Int
  | 0 => []
  | k + 1 => if 1 ≤ k ∧ needN ks k = true then needL ks k ++ [(k : Int)] else needL ks k
theorem needL_yes {ks : List Key} {k : Nat} (h1 : 1 ≤ k) (h : needN ks k = true) : needL ks (k + 1) = needL ks k ++ [(k : Int)] := by
  rw [needL, if_pos ⟨h1, h⟩]
theorem needL_no {ks : List Key} {k : Nat} (h : needN ks k = false) : needL ks (k + 1) = needL ks k := by
  rw [needL, if_neg (by rw [h]; simp)]
theorem needL_one (ks : List Key) : needL ks 1 = [] := rfl
theorem needL_length (ks : List Key) : ∀ k, (needL ks k).length ≤ k
  | 0 => Nat.le_refl _
  | k + 1 => by
    have := needL_length ks k
    unfold needL
    split
    · simp; omega
    · omega

/-- What NeedlessKeys hands back. -/
def NeedR (w : World) (z : Int) (qs : List Int) (e : Ending) (w' : World) : Prop := ∃ v, e = .returned (.tuple #[v, .int .i64 z]) ∧ Ints w' w.heap.size v qs ∧ Below w.heap.size w w'
theorem ints_nil (w : World) (B : Nat) : Ints w B (.slice none 0 0) [] := World.ownsRow_nil _ _ _ _

/-- impl.NeedlessKeys, of what are not key poses. -/
theorem implNeed_bad (A : Option Addr) (n c : Nat) (ks : List Key) (w : World) (hv : RdK w A n ks) (h : keysB ks = false) :
    Calls Try.prog 56 #[.slice A n c] w (NeedR w 1 []) := by
  have HV := Lib.hid hv
  clear hv
  go_enter Try.func56, Try.ntmps56
  go_wp2_with fail
  refine (validKeys_any A n c ks _ HV.out).mono ?_
  rintro e u ⟨rfl, hd⟩
  have hb := hd
  clear hd
  rw [h]
  go_wp2
  go_ret2
  exact ⟨_, rfl, ints_nil _ _, hb⟩

/-- spec.NeedlessKeys, of what are not key poses. -/
theorem specNeed_bad (A : Option Addr) (n c : Nat) (ks : List Key) (w : World) (hv : RdK w A n ks) (h : keysB ks = false) :
    Calls Try.prog 57 #[.slice A n c] w (NeedR w 1 []) := by
  have HV := Lib.hid hv
  clear hv
  go_enter Try.func57, Try.ntmps57
  go_wp2_with fail
  refine (l04Keys_any A n c ks _ HV.out).mono ?_
  rintro e u ⟨rfl, hd⟩
  have hb := belowDrewn hd
  clear hd
  rw [h]
  go_wp2
  go_ret2
  exact ⟨_, rfl, ints_nil _ _, hb⟩

set_option maxHeartbeats 4000000 in
set_option maxRecDepth 100000 in
/-- impl.NeedlessKeys. -/
theorem implNeed_ok (A : Option Addr) (n c : Nat) (ks : List Key) (w : World) (hv : RdK w A n ks) (h : keysB ks = true) (qs : List Int) (hqs : qs = needL ks (n - 1)) :
    Calls Try.prog 56 #[.slice A n c] w (NeedR w 0 qs) := by
  have HV := Lib.hid hv
  have HL := Lib.hid hv.1
  have hl := keysB_len h
  rw [hv.1] at hl
  obtain ⟨hn1, hn2⟩ := hl
  have HO := Lib.hid (keysB_ok h).2.2
  have HQS := Lib.hid hqs
  obtain ⟨i0, hi, hz0, hz1, hz2⟩ := info_parts infoI64
  have hwn : IntKind.i64.wrap ((n : Int) - 1) = (n : Int) - 1 := IntWalk.i64_in _ (by omega)
  clear hv hqs
  go_enter Try.func56, Try.ntmps56
  go_wp2_with fail
  refine (validKeys_any A n c ks _ HV.out).mono ?_
  rintro e u ⟨rfl, hd⟩
  have hb := hd
  have HB := Lib.hid hb
  clear hd hb
  rw [h]
  clear h
  go_wp2
  go_loopw [5, 4] (fun i v wr => ∃ k : Nat, 1 ≤ k ∧ (k ≤ n - 1 ∨ k = 1) ∧ i = .int .i64 k ∧ Hid (wr.ownsRow w.heap.size 2 1 v (needL ks k).length ((needL ks k).map (Value.int .i64))) ∧ Hid (Below w.heap.size w wr)) (fun i _ _ => n - (intOf i).toNat)
  case atStart => exact ⟨1, Nat.le_refl _, .inr rfl, rfl, Lib.hid (ints_nil _ _), Lib.hid (by first | exact HB.out | exact bAlloc HB.out _)⟩
  case round =>
    obtain ⟨k, hk1, hkn, rfl, HW, HB2⟩ := hrel
    have hml := needL_length ks k
    by_cases hlt : k + 1 < n
    · obtain ⟨p, hp⟩ : ∃ p, p + 1 = k := ⟨k - 1, by omega⟩
      obtain ⟨r, hr⟩ : ∃ r, r = k + 1 := ⟨_, rfl⟩
      obtain ⟨_, _, h3⟩ := HV.out.below HB2.out
      rcases h3 with h0 | ⟨g, rfl, hg, h3⟩
      · omega
      obtain ⟨a0, Ap, fp, a1, rp⟩ := h3 p (by omega)
      obtain ⟨b0, Ak, fk, b1, rk⟩ := h3 k (by omega)
      obtain ⟨d0, Ar, fr, d1, rr⟩ := h3 r (by omega)
      have kp := HO.out p (by rw [HL.out]; omega)
      have kk := HO.out k (by rw [HL.out]; omega)
      have kr := HO.out r (by rw [HL.out]; omega)
      have o1 := tk_lt HO.out (i := p) (j := k) (by omega) (by rw [HL.out]; omega)
      have o2 := tk_lt HO.out (i := k) (j := r) (by omega) (by rw [HL.out]; omega)
      have HPB := Lib.hid (And.intro kp.2.2.1 kr.2.2.1)
      have hmp := kp.2.2.2.1
      have hmk := kk.2.2.2.1
      have hmr := kr.2.2.2.1
      have hm8 := (poseB_len (HO.out 0 (by rw [HL.out]; omega)).2.2.1).2
      have HNd := Lib.hid (show needN ks k = sameB (jt ks k) (mixL (jt ks p) (jt ks r) (tk ks k - tk ks p) (tk ks r - tk ks p) (jt ks 0).length) by unfold needN; rw [show k - 1 = p by omega, ← hr])
      rw [hmp] at a1 rp
      rw [hmk] at b1 rk
      rw [hmr] at d1 rr
      have p0 := kp.1
      have p1 := kp.2.1
      have q0 := kk.1
      have q1 := kk.2.1
      have r0 := kr.1
      have r1 := kr.2.1
      simp only [tk, jt] at o1 o2 HNd
      clear kp kk kr hmp hmk hmr h3
      generalize (ks.getD 0 Go.Proofs.Ytibafngidpmgdaa.k0).2.length = m at *
      generalize hjp : (ks.getD p Go.Proofs.Ytibafngidpmgdaa.k0).2 = jp at *
      generalize hjk : (ks.getD k Go.Proofs.Ytibafngidpmgdaa.k0).2 = jk at *
      generalize hjr : (ks.getD r Go.Proofs.Ytibafngidpmgdaa.k0).2 = jr at *
      generalize (ks.getD p Go.Proofs.Ytibafngidpmgdaa.k0).1 = tp at *
      generalize (ks.getD k Go.Proofs.Ytibafngidpmgdaa.k0).1 = tk0 at *
      generalize (ks.getD r Go.Proofs.Ytibafngidpmgdaa.k0).1 = tr at *
      have RV := Lib.hid (fun q (hb : Below wr.heap.size wr q) => And.intro (rp.below hb) (And.intro (rk.below hb) (rr.below hb)))
      have JA := Lib.hid (fun q => jointsAt_any tp tr tk0 Ap Ar m fp fr q p0 p1 r0 r1 q0 q1)
      have CO := Lib.hid (fun s q (hb : Below wr.heap.size wr q) hC => (collect_any s Ap Ar m fp fr jp jr (tk0 - tp) (tr - tp) q (RV.out q hb).1 (RV.out q hb).2.2 HPB.out.1 HPB.out.2 (by omega) (by omega) (by omega) (by omega) hC).mono (R' := fun e w' => ∃ A9 c9, e = .returned (.slice A9 m c9) ∧ Rd w' A9 m (mixL jp jr (tk0 - tp) (tr - tp) m) ∧ Below q.heap.size q w') (by
        rintro e u ⟨v, rfl, p9, hb9⟩
        obtain ⟨A9, c9, rfl, r9⟩ := p9.rd (by rw [mixL_length]; omega)
        rw [mixL_length] at r9 ⊢
        exact ⟨A9, c9, rfl, r9, hb9⟩))
      generalize mixL jp jr (tk0 - tp) (tr - tp) m = zs at *
      have SP := Lib.hid (fun A9 c9 q (hb : Below wr.heap.size wr q) (r9 : Rd q A9 m zs) => samePose_any Ak A9 m m fk c9 jk zs q (RV.out q hb).2.1 r9)
      rw [← HNd.out] at SP
      have hw0 : IntKind.i64.wrap ((k : Int) - 1) = (p : Int) := by rw [IntWalk.i64_in _ (by omega)]; omega
      have hw1 : IntKind.i64.wrap ((k : Int) + 1) = (r : Int) := by rw [IntWalk.i64_in _ (by omega)]; omega
      have hw2 : IntKind.i64.wrap (tk0 - tp) = tk0 - tp := IntWalk.i64_in _ (by omega)
      have hw3 : IntKind.i64.wrap (tr - tp) = tr - tp := IntWalk.i64_in _ (by omega)
      have x0 : (0:Int) ≤ (p:Int) := by omega
      have x1 : (p:Int) < n := by omega
      have x2 : (0:Int) ≤ (k:Int) := by omega
      have x3 : (k:Int) < n := by omega
      have x4 : (0:Int) ≤ (r:Int) := by omega
      have x5 : (r:Int) < n := by omega
      have x6 : (k:Int) < (n:Int) - 1 := by omega
      have hrn := Lib.hid (show (r : Int) = ((k + 1 : Nat) : Int) by omega)
      have hk1' := Lib.hid hk1
      clear hp hr hkn hjp hjk hjr rp rk rr RV HPB o1 o2 p0 p1 q0 q1 r0 r1 hk1
      go_wp2
      go_region_held3 (fun w' => w'.cell? ⟨g, p * 2, none⟩ = some (.int .i64 tp) ∧ w'.cell? ⟨g, p * 2 + 1, none⟩ = some (.slice Ap m fp) ∧ w'.cell? ⟨g, k * 2, none⟩ = some (.int .i64 tk0) ∧ w'.cell? ⟨g, k * 2 + 1, none⟩ = some (.slice Ak m fk) ∧ w'.cell? ⟨g, r * 2, none⟩ = some (.int .i64 tr) ∧ w'.cell? ⟨g, r * 2 + 1, none⟩ = some (.slice Ar m fr)) (go_keep)
        (first
          | (go_at_call 115; with_reducible refine (JA.out _).mono ?_; rintro e w2 ⟨s, rfl, hcaps, hb2⟩; obtain ⟨hc3, hf3⟩ := bCells hb2; have e0 : w2.cell? ⟨g, p * 2, none⟩ = some (.int .i64 tp) := (hc3 _ _ (by first | exact hg | simpa using hg)).trans (by first | exact a0 | simpa using a0); have e1 : w2.cell? ⟨g, p * 2 + 1, none⟩ = some (.slice Ap m fp) := (hc3 _ _ (by first | exact hg | simpa using hg)).trans (by first | exact a1 | simpa using a1); have e2 : w2.cell? ⟨g, k * 2, none⟩ = some (.int .i64 tk0) := (hc3 _ _ (by first | exact hg | simpa using hg)).trans (by first | exact b0 | simpa using b0); have e3 : w2.cell? ⟨g, k * 2 + 1, none⟩ = some (.slice Ak m fk) := (hc3 _ _ (by first | exact hg | simpa using hg)).trans (by first | exact b1 | simpa using b1); have e4 : w2.cell? ⟨g, r * 2, none⟩ = some (.int .i64 tr) := (hc3 _ _ (by first | exact hg | simpa using hg)).trans (by first | exact d0 | simpa using d0); have e5 : w2.cell? ⟨g, r * 2 + 1, none⟩ = some (.slice Ar m fr) := (hc3 _ _ (by first | exact hg | simpa using hg)).trans (by first | exact d1 | simpa using d1))
          | (go_at_call 104; with_reducible refine (CO.out s _ (bUndrew hb2) hcaps).mono ?_; rintro e w3 ⟨A9, c9, rfl, r9, hb3⟩; have HB3 := Lib.hid (bTrans hb2 hb3); obtain ⟨hc4, hf4⟩ := bCells (bTrans hb2 hb3); have e0 : w3.cell? ⟨g, p * 2, none⟩ = some (.int .i64 tp) := (hc4 _ _ (by first | exact hg | simpa using hg)).trans (by first | exact a0 | simpa using a0); have e1 : w3.cell? ⟨g, p * 2 + 1, none⟩ = some (.slice Ap m fp) := (hc4 _ _ (by first | exact hg | simpa using hg)).trans (by first | exact a1 | simpa using a1); have e2 : w3.cell? ⟨g, k * 2, none⟩ = some (.int .i64 tk0) := (hc4 _ _ (by first | exact hg | simpa using hg)).trans (by first | exact b0 | simpa using b0); have e3 : w3.cell? ⟨g, k * 2 + 1, none⟩ = some (.slice Ak m fk) := (hc4 _ _ (by first | exact hg | simpa using hg)).trans (by first | exact b1 | simpa using b1); have e4 : w3.cell? ⟨g, r * 2, none⟩ = some (.int .i64 tr) := (hc4 _ _ (by first | exact hg | simpa using hg)).trans (by first | exact d0 | simpa using d0); have e5 : w3.cell? ⟨g, r * 2 + 1, none⟩ = some (.slice Ar m fr) := (hc4 _ _ (by first | exact hg | simpa using hg)).trans (by first | exact d1 | simpa using d1)))
      have R9 := Lib.hid r9
      have HB4 := Lib.hid (bUndrew HB3.out)
      clear r9 hb3 HB3 hc3 hf3 hc4 hf4 hb2 hcaps a0 a1 b0 b1 d0 d1 JA CO
      go_wp2_with fail
      refine (SP.out A9 c9 _ HB4.out R9.out).mono ?_
      rintro e w4 ⟨rfl, hd4⟩
      have HBr := Lib.hid (bTrans HB4.out (belowDrewn hd4))
      clear hd4 SP
      have HW4 := Lib.hid (Ints.below HW.out HBr.out)
      have HBs := Lib.hid (bTrans HB2.out HBr.out)
      have hBw := HBs.out.size
      have HM1 := Lib.hid (fun h => needL_no (ks := ks) (k := k) h)
      have HM2 := Lib.hid (fun h => needL_yes (ks := ks) (k := k) hk1'.out h)
      clear HNd
      cases hN : needN ks k
      · have HM := Lib.hid (HM1.out hN)
        clear hN HM1 HM2
        go_wp2
        go_roundw
        case rel => exact ⟨k + 1, by omega, .inl (by omega), by rw [hrn.out], Lib.hid (by rw [HM.out]; exact HW4.out), HBs⟩
        case measure => have := hrn.out; simp [intOf]; omega
      · have HM := Lib.hid (HM2.out hN)
        clear hN HM1 HM2
        go_wp2_with (first | (at_builtin; refine wpList_append_own _ rfl _ _ 62 rfl w.heap.size 2 i0 (.int .i64 0) 1 8 Try.underlying62 hi hz0 hz1 hz2 rfl (by decide) _ _ _ rfl (HW4.out.alloc _) ⟨w4.heap.size, 0, none⟩ 1 1 [.int .i64 (k : Int)] rfl rfl (one_newV _ _ _) (one_cellV rfl) (by unfold maxLen; omega) (by omega) (by simp; omega) ?_; intro v' w5 hown' hgrow hnil) | fail)
        have HO' := Lib.hid hown'
        have HB' := Lib.hid (Below.grown (bAlloc HBs.out _) hgrow (by simp; omega) (fun j hj => (World.ownsRow.lt HW4.out j hj).1))
        clear hown' hgrow hnil
        go_wp2
        go_roundw
        case rel => exact ⟨k + 1, by omega, .inl (by omega), by rw [hrn.out], Lib.hid (by rw [HM.out, List.map_append, List.length_append]; exact HO'.out), HB'⟩
        case measure => have := hrn.out; simp [intOf]; omega
    · have HQ := Lib.hid (show qs = needL ks k by
        rw [HQS.out]
        rcases hkn with h | h
        · rw [show n - 1 = k by omega]
        · subst h
          by_cases h1 : n = 1
          · subst h1
            rfl
          · rw [show n - 1 = 1 by omega])
      have hx0 : ¬ ((k : Int) < (n : Int) - 1) := by omega
      have hx1 : ¬ ((k : Int) + 1 < (n : Int)) := by omega
      have hx2 : IntKind.i64.wrap ((k : Int) + 1) = (k : Int) + 1 := IntWalk.i64_in _ (by omega)
      clear hkn
      go_wp2
      go_ret2
      exact ⟨_, rfl, by rw [HQ.out]; exact HW.out, HB2.out⟩

set_option maxHeartbeats 4000000 in
set_option maxRecDepth 100000 in
/-- spec.NeedlessKeys. -/
theorem specNeed_ok (A : Option Addr) (n c : Nat) (ks : List Key) (w : World) (hv : RdK w A n ks) (h : keysB ks = true) (qs : List Int) (hqs : qs = needL ks (n - 1)) :
    Calls Try.prog 57 #[.slice A n c] w (NeedR w 0 qs) := by
  have HV := Lib.hid hv
  have HL := Lib.hid hv.1
  have hl := keysB_len h
  rw [hv.1] at hl
  obtain ⟨hn1, hn2⟩ := hl
  have HO := Lib.hid (keysB_ok h).2.2
  have HQS := Lib.hid hqs
  obtain ⟨i0, hi, hz0, hz1, hz2⟩ := info_parts infoI64
  have hwn : IntKind.i64.wrap ((n : Int) - 1) = (n : Int) - 1 := IntWalk.i64_in _ (by omega)
  clear hv hqs
  go_enter Try.func57, Try.ntmps57
  go_wp2_with fail
  refine (l04Keys_any A n c ks _ HV.out).mono ?_
  rintro e u ⟨rfl, hd⟩
  have hb := belowDrewn hd
  have HB := Lib.hid hb
  clear hd hb
  rw [h]
  clear h
  go_wp2
  go_loopw [5, 4] (fun i v wr => ∃ k : Nat, 1 ≤ k ∧ (k ≤ n - 1 ∨ k = 1) ∧ i = .int .i64 k ∧ Hid (wr.ownsRow w.heap.size 2 1 v (needL ks k).length ((needL ks k).map (Value.int .i64))) ∧ Hid (Below w.heap.size w wr)) (fun i _ _ => n - (intOf i).toNat)
  case atStart => exact ⟨1, Nat.le_refl _, .inr rfl, rfl, Lib.hid (World.ownsRow_lit _ #[] 0 (by have := HB.out.size; first | exact this | simpa using this | omega) (Nat.zero_le _) rfl), Lib.hid (by first | exact HB.out | exact bAlloc HB.out _)⟩
  case round =>
    obtain ⟨k, hk1, hkn, rfl, HW, HB2⟩ := hrel
    have hml := needL_length ks k
    by_cases hlt : k + 1 < n
    · obtain ⟨p, hp⟩ : ∃ p, p + 1 = k := ⟨k - 1, by omega⟩
      obtain ⟨r, hr⟩ : ∃ r, r = k + 1 := ⟨_, rfl⟩
      obtain ⟨_, _, h3⟩ := HV.out.below HB2.out
      rcases h3 with h0 | ⟨g, rfl, hg, h3⟩
      · omega
      obtain ⟨a0, Ap, fp, a1, rp⟩ := h3 p (by omega)
      obtain ⟨b0, Ak, fk, b1, rk⟩ := h3 k (by omega)
      obtain ⟨d0, Ar, fr, d1, rr⟩ := h3 r (by omega)
      have kp := HO.out p (by rw [HL.out]; omega)
      have kk := HO.out k (by rw [HL.out]; omega)
      have kr := HO.out r (by rw [HL.out]; omega)
      have o1 := tk_lt HO.out (i := p) (j := k) (by omega) (by rw [HL.out]; omega)
      have o2 := tk_lt HO.out (i := k) (j := r) (by omega) (by rw [HL.out]; omega)
      have HPB := Lib.hid (And.intro kp.2.2.1 kr.2.2.1)
      have hmp := kp.2.2.2.1
      have hmk := kk.2.2.2.1
      have hmr := kr.2.2.2.1
      have hm8 := (poseB_len (HO.out 0 (by rw [HL.out]; omega)).2.2.1).2
      have HNd := Lib.hid (show needN ks k = sameB (jt ks k) (mixL (jt ks p) (jt ks r) (tk ks k - tk ks p) (tk ks r - tk ks p) (jt ks 0).length) by unfold needN; rw [show k - 1 = p by omega, ← hr])
      rw [hmp] at a1 rp
      rw [hmk] at b1 rk
      rw [hmr] at d1 rr
      have p0 := kp.1
      have p1 := kp.2.1
      have q0 := kk.1
      have q1 := kk.2.1
      have r0 := kr.1
      have r1 := kr.2.1
      simp only [tk, jt] at o1 o2 HNd
      clear kp kk kr hmp hmk hmr h3
      generalize (ks.getD 0 Go.Proofs.Ytibafngidpmgdaa.k0).2.length = m at *
      generalize hjp : (ks.getD p Go.Proofs.Ytibafngidpmgdaa.k0).2 = jp at *
      generalize hjk : (ks.getD k Go.Proofs.Ytibafngidpmgdaa.k0).2 = jk at *
      generalize hjr : (ks.getD r Go.Proofs.Ytibafngidpmgdaa.k0).2 = jr at *
      generalize (ks.getD p Go.Proofs.Ytibafngidpmgdaa.k0).1 = tp at *
      generalize (ks.getD k Go.Proofs.Ytibafngidpmgdaa.k0).1 = tk0 at *
      generalize (ks.getD r Go.Proofs.Ytibafngidpmgdaa.k0).1 = tr at *
      have RV := Lib.hid (fun q (hb : Below wr.heap.size wr q) => And.intro (rp.below hb) (And.intro (rk.below hb) (rr.below hb)))
      have CO := Lib.hid (fun q (hb : Below wr.heap.size wr q) => (l04Between_any Ap Ar m fp fr jp jr (tk0 - tp) (tr - tp) q (RV.out q hb).1 (RV.out q hb).2.2 HPB.out.1 HPB.out.2 (by omega) (by omega) (by omega) (by omega)).mono (R' := fun e w' => ∃ A9 c9, e = .returned (.slice A9 m c9) ∧ Rd w' A9 m (mixL jp jr (tk0 - tp) (tr - tp) m) ∧ Below q.heap.size q w') (by
        rintro e u ⟨v, rfl, p9, hb9⟩
        obtain ⟨A9, c9, rfl, r9⟩ := p9.rd (by rw [mixL_length]; omega)
        rw [mixL_length] at r9 ⊢
        exact ⟨A9, c9, rfl, r9, hb9⟩))
      generalize mixL jp jr (tk0 - tp) (tr - tp) m = zs at *
      have SP := Lib.hid (fun A9 c9 q (hb : Below wr.heap.size wr q) (r9 : Rd q A9 m zs) => specSamePose_any Ak A9 m m fk c9 jk zs q (RV.out q hb).2.1 r9)
      rw [← HNd.out] at SP
      have hw0 : IntKind.i64.wrap ((k : Int) - 1) = (p : Int) := by rw [IntWalk.i64_in _ (by omega)]; omega
      have hw1 : IntKind.i64.wrap ((k : Int) + 1) = (r : Int) := by rw [IntWalk.i64_in _ (by omega)]; omega
      have hw2 : IntKind.i64.wrap (tk0 - tp) = tk0 - tp := IntWalk.i64_in _ (by omega)
      have hw3 : IntKind.i64.wrap (tr - tp) = tr - tp := IntWalk.i64_in _ (by omega)
      have x0 : (0:Int) ≤ (p:Int) := by omega
      have x1 : (p:Int) < n := by omega
      have x2 : (0:Int) ≤ (k:Int) := by omega
      have x3 : (k:Int) < n := by omega
      have x4 : (0:Int) ≤ (r:Int) := by omega
      have x5 : (r:Int) < n := by omega
      have x6 : (k:Int) < (n:Int) - 1 := by omega
      have hrn := Lib.hid (show (r : Int) = ((k + 1 : Nat) : Int) by omega)
      have hk1' := Lib.hid hk1
      clear hp hr hkn hjp hjk hjr rp rk rr RV HPB o1 o2 p0 p1 q0 q1 r0 r1 hk1
      go_wp2
      go_region_held3 (fun w' => w'.cell? ⟨g, p * 2, none⟩ = some (.int .i64 tp) ∧ w'.cell? ⟨g, p * 2 + 1, none⟩ = some (.slice Ap m fp) ∧ w'.cell? ⟨g, k * 2, none⟩ = some (.int .i64 tk0) ∧ w'.cell? ⟨g, k * 2 + 1, none⟩ = some (.slice Ak m fk) ∧ w'.cell? ⟨g, r * 2, none⟩ = some (.int .i64 tr) ∧ w'.cell? ⟨g, r * 2 + 1, none⟩ = some (.slice Ar m fr)) (go_keep)
        (first
          | (go_at_call 107; with_reducible refine (CO.out _ (Below.drew (Below.refl _ _))).mono ?_; rintro e w3 ⟨A9, c9, rfl, r9, hb3⟩; obtain ⟨hc4, hf4⟩ := bCells hb3; have e0 : w3.cell? ⟨g, p * 2, none⟩ = some (.int .i64 tp) := (hc4 _ _ (by first | exact hg | simpa using hg)).trans (by first | exact a0 | simpa using a0); have e1 : w3.cell? ⟨g, p * 2 + 1, none⟩ = some (.slice Ap m fp) := (hc4 _ _ (by first | exact hg | simpa using hg)).trans (by first | exact a1 | simpa using a1); have e2 : w3.cell? ⟨g, k * 2, none⟩ = some (.int .i64 tk0) := (hc4 _ _ (by first | exact hg | simpa using hg)).trans (by first | exact b0 | simpa using b0); have e3 : w3.cell? ⟨g, k * 2 + 1, none⟩ = some (.slice Ak m fk) := (hc4 _ _ (by first | exact hg | simpa using hg)).trans (by first | exact b1 | simpa using b1); have e4 : w3.cell? ⟨g, r * 2, none⟩ = some (.int .i64 tr) := (hc4 _ _ (by first | exact hg | simpa using hg)).trans (by first | exact d0 | simpa using d0); have e5 : w3.cell? ⟨g, r * 2 + 1, none⟩ = some (.slice Ar m fr) := (hc4 _ _ (by first | exact hg | simpa using hg)).trans (by first | exact d1 | simpa using d1))
          | (go_at_call 45; with_reducible refine (SP.out A9 c9 _ (bUndrew hb3) r9).mono ?_; rintro e w4 ⟨rfl, hd4⟩; have HB4 := Lib.hid (bTrans hb3 (belowDrewn hd4)); obtain ⟨hc5, hf5⟩ := bCells HB4.out; have e0 : w4.cell? ⟨g, p * 2, none⟩ = some (.int .i64 tp) := (hc5 _ _ (by first | exact hg | simpa using hg)).trans (by first | exact a0 | simpa using a0); have e1 : w4.cell? ⟨g, p * 2 + 1, none⟩ = some (.slice Ap m fp) := (hc5 _ _ (by first | exact hg | simpa using hg)).trans (by first | exact a1 | simpa using a1); have e2 : w4.cell? ⟨g, k * 2, none⟩ = some (.int .i64 tk0) := (hc5 _ _ (by first | exact hg | simpa using hg)).trans (by first | exact b0 | simpa using b0); have e3 : w4.cell? ⟨g, k * 2 + 1, none⟩ = some (.slice Ak m fk) := (hc5 _ _ (by first | exact hg | simpa using hg)).trans (by first | exact b1 | simpa using b1); have e4 : w4.cell? ⟨g, r * 2, none⟩ = some (.int .i64 tr) := (hc5 _ _ (by first | exact hg | simpa using hg)).trans (by first | exact d0 | simpa using d0); have e5 : w4.cell? ⟨g, r * 2 + 1, none⟩ = some (.slice Ar m fr) := (hc5 _ _ (by first | exact hg | simpa using hg)).trans (by first | exact d1 | simpa using d1)))
      have HBr := Lib.hid (bUndrew HB4.out)
      clear HB4 hd4 r9 hb3 hc4 hf4 hc5 hf5 a0 a1 b0 b1 d0 d1 CO SP e0 e1 e2 e3 e4 e5
      have HW4 := Lib.hid (Ints.below HW.out HBr.out)
      have HBs := Lib.hid (bTrans HB2.out HBr.out)
      have hBw := HBs.out.size
      have HM1 := Lib.hid (fun h => needL_no (ks := ks) (k := k) h)
      have HM2 := Lib.hid (fun h => needL_yes (ks := ks) (k := k) hk1'.out h)
      clear HNd
      cases hN : needN ks k
      · have HM := Lib.hid (HM1.out hN)
        clear hN HM1 HM2
        go_wp2
        go_roundw
        case rel => exact ⟨k + 1, by omega, .inl (by omega), by rw [hrn.out], Lib.hid (by rw [HM.out]; exact HW4.out), HBs⟩
        case measure => have := hrn.out; simp [intOf]; omega
      · have HM := Lib.hid (HM2.out hN)
        clear hN HM1 HM2
        go_wp2_with (first | (at_builtin; refine wpList_append_own _ rfl _ _ 62 rfl w.heap.size 2 i0 (.int .i64 0) 1 8 Try.underlying62 hi hz0 hz1 hz2 rfl (by decide) _ _ _ rfl (HW4.out.alloc _) ⟨w4.heap.size, 0, none⟩ 1 1 [.int .i64 (k : Int)] rfl rfl (one_newV _ _ _) (one_cellV rfl) (by unfold maxLen; omega) (by omega) (by simp; omega) ?_; intro v' w5 hown' hgrow hnil) | fail)
        have HO' := Lib.hid hown'
        have HB' := Lib.hid (Below.grown (bAlloc HBs.out _) hgrow (by simp; omega) (fun j hj => (World.ownsRow.lt HW4.out j hj).1))
        clear hown' hgrow hnil
        go_wp2
        go_roundw
        case rel => exact ⟨k + 1, by omega, .inl (by omega), by rw [hrn.out], Lib.hid (by rw [HM.out, List.map_append, List.length_append]; exact HO'.out), HB'⟩
        case measure => have := hrn.out; simp [intOf]; omega
    · have HQ := Lib.hid (show qs = needL ks k by
        rw [HQS.out]
        rcases hkn with h | h
        · rw [show n - 1 = k by omega]
        · subst h
          by_cases h1 : n = 1
          · subst h1
            rfl
          · rw [show n - 1 = 1 by omega])
      have hx0 : ¬ ((k : Int) < (n : Int) - 1) := by omega
      have hx1 : ¬ ((k : Int) + 1 < (n : Int)) := by omega
      have hx2 : IntKind.i64.wrap ((k : Int) + 1) = (k : Int) + 1 := IntWalk.i64_in _ (by omega)
      clear hkn
      go_wp2
      go_ret2
      exact ⟨_, rfl, by rw [HQ.out]; exact HW.out, HB2.out⟩

end Go.Proofs.Ytibafngidpmgdaa
