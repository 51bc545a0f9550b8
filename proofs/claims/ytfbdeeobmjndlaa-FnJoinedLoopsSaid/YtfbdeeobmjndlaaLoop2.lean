/- The steps of a loop; lists that a function makes element by element: the program and the model. -/
import Derived.Test.YtfbdeeobmjndlaaProg
import Derived.Test.YtfbdeeobmjndlaaLoopMath
import Derived.Test.YtfbdeeobmjndlaaInts
import Derived.Test.YtfbdeeobmjndlaaLoop
import Derived.Test.YtfbdeeobmjndlaaHold
import Derived.IntWalk
import Derived.WalkSpells
import Derived.OwnWalk
import Derived.Laws.AppendOwn
import Derived.Laws.OwnMore
import Derived.Deep.RegionWith
import Derived.Deep.DrawnRows
import Derived.Deep.RegionHeld3
import Derived.Tactics
import Derived.Tactics2
import Derived.WalkKit
import Derived.LoopTactic
import Derived.BigQuiet
import Derived.RegionTactic
import Derived.Deep.QuietTactic
import Derived.Outline
import Derived.Lib.Hide
import Derived.Below
import Derived.KernelRfl
namespace Go.Proofs.Ytfbdeeobmjndlaa
set_option linter.unusedSimpArgs false
set_option linter.unusedVariables false
open Go.RowKit

theorem drewBelow {w u : World} (h : ∃ m, u = w.drewN m) : Below w.heap.size w u := by
  obtain ⟨m, rfl⟩ := h
  exact bDrewN (Below.refl _ _) m

/-- impl.ring.step. -/
theorem ringStep_any (A : Option Addr) (n c : Nat) (zs : List Int) (k : Int) (w : World) (hv : RdI w A n zs) (hz : loopB zs = true) (k0 : 0 ≤ k) (k1 : k ≤ 1000000) :
    Calls Try.prog 121 #[.slice A n c, .int .i64 k] w fun e w' => e = .returned (.int .i64 (stepI zs k)) ∧ ∃ m, w' = w.drewN m := by
  have hl := loopB_len hz
  rw [hv.1] at hl
  have b1 := ringI_bd hz (k + 1)
  have b2 := ringI_bd hz k
  have R1 := Lib.hid (fun u (hu : RdI u A n zs) => ringAt_any A n c zs (k + 1) u hu (by omega) (by omega) (by omega))
  have R2 := Lib.hid (fun u (hu : RdI u A n zs) => ringAt_any A n c zs k u hu (by omega) (by omega) (by omega))
  have HV := Lib.hid hv
  have HS := Lib.hid (show stepI zs k = ringI zs (k + 1) - ringI zs k from rfl)
  clear hv
  have hw : IntKind.i64.wrap (k + 1) = k + 1 := IntWalk.i64_in _ (by omega)
  generalize ringI zs (k + 1) = x at *
  generalize ringI zs k = y at *
  go_enter Try.func121, Try.ntmps121
  go_wp2_with fail
  refine (R1.out _ HV.out).mono ?_
  rintro e u ⟨rfl, m, rfl⟩
  go_wp2_with fail
  refine (R2.out _ (HV.out.drewN m)).mono ?_
  rintro e u ⟨rfl, m2, rfl⟩
  go_wp2
  go_ret
  exact ⟨by rw [HS.out]; rfl, m + m2, rfl⟩

theorem genL_put (f : Nat → Int) (k n : Nat) (hk : k < n) : (genL f k ++ (List.replicate n (0 : Int)).drop k).set k (f k) = genL f (k + 1) ++ (List.replicate n (0 : Int)).drop (k + 1) := by
  have hl := genL_length f k
  rw [List.set_append_right _ _ (by omega), hl, Nat.sub_self, List.drop_eq_getElem_cons (by simp; omega), List.set_cons_zero, genL_succ, List.append_assoc]
  rfl

set_option maxHeartbeats 1000000 in
set_option maxRecDepth 100000 in
/-- impl.listOf, of a ring's steps. -/
theorem listOf_step (x : Value) (n : Nat) (f : Nat → Int) (w : World) (hn : n ≤ 1000000)
    (hf : ∀ k : Nat, k < n → ∀ u : World, Below w.heap.size w u → Calls Try.prog 121 #[x, .int .i64 k] u fun e u' => e = .returned (.int .i64 (f k)) ∧ Below u.heap.size u u') :
    Calls Try.prog 128 #[.int .i64 n, .func (.func 121) #[x] #[]] w fun e w' => ∃ v, e = .returned v ∧ Ints w' w.heap.size v (genL f n) ∧ Below w.heap.size w w' := by
  obtain ⟨i0, hi, hz0, hz1, hz2⟩ := info_parts infoI64
  have hby : i0.bytes * n ≤ 281474976710656 := by rw [hz2]; omega
  have HF := Lib.hid hf
  clear hf
  go_enter Try.func128, Try.ntmps128
  go_wp2_with (first | (at_make; refine wpList_make_full _ rfl _ _ 22 rfl w.heap.size 2 i0 (.int .i64 0) 1 Try.underlying22 hi hz0 hz1 .i64 .i64 (n : Int) (n : Int) n rfl rfl rfl rfl hby (by unfold maxLen; omega) (Nat.le_refl _) ?_; intro w1 hown1 hgrow1) | fail)
  have HO1 := Lib.hid hown1
  have HB1 := Lib.hid (Below.grown (Below.refl _ w) hgrow1 (Nat.le_refl _) (fun k hk => by cases hk))
  have hg1 : w.heap.size < w1.heap.size := (World.ownsRow.lt hown1 _ rfl).2
  clear hown1 hgrow1
  go_wp2
  go_loopw [10] (fun i wr => ∃ k : Nat, k ≤ n ∧ i = .int .i64 k ∧ Hid (wr.ownsRow w.heap.size 2 1 (.slice (some ⟨w.heap.size, 0, none⟩) n n) n ((genL f k ++ (List.replicate n (0 : Int)).drop k).map (Value.int .i64))) ∧ Hid (Below w.heap.size w wr)) (fun i _ => n - (intOf i).toNat)
  case atStart =>
    refine ⟨0, Nat.zero_le _, rfl, Lib.hid ?_, HB1⟩
    have h1 := HO1.out
    rw [made_int] at h1
    simpa [genL] using h1
  case round =>
    obtain ⟨k, hk, rfl, HO, HB⟩ := hrel
    by_cases hlt : k < n
    · have HS := Lib.hid (genL_put f k n hlt)
      have C := Lib.hid (HF.out k hlt wr HB.out)
      generalize f k = fz at *
      go_wp2_with fail
      refine C.out.mono ?_
      rintro e u ⟨rfl, hb⟩
      have HO3 := ownsB HO.out hb
      have HB3 := Lib.hid (bTrans HB.out hb)
      have hbz : w.heap.size ≤ u.heap.size := HB3.out.size
      clear hb C
      obtain ⟨S1, S2⟩ := World.ownsRow.stored HO3 k (.int .i64 fz)
      rw [← List.map_set, HS.out] at S1
      have hf0 : u.frozen? ⟨w.heap.size, k, none⟩ = false := World.ownsRow.frozenAt HO3 _
      have hc0 : ∃ z, u.cell? ⟨w.heap.size, k, none⟩ = some z := by
        rw [World.ownsRow.cellAt HO3 k (by omega)]
        exact ⟨_, List.getElem?_eq_getElem (by rw [HO3.1]; omega)⟩
      obtain ⟨z0, hc0⟩ := hc0
      have H3 := Lib.hid S1
      have H4 := Lib.hid (Below.grown HB3.out S2 hbz (fun j hj => by injection hj; omega))
      clear S1 S2 HO3
      go_wp2
      go_roundw
      case rel => exact ⟨k + 1, by omega, by go_num, Lib.hid H3.out, Lib.hid H4.out⟩
      case measure => simp [intOf]; omega
    · have : k = n := by omega
      subst this
      have h1 := HO.out
      rw [show (genL f k ++ (List.replicate k (0 : Int)).drop k) = genL f k by rw [List.drop_of_length_le (by simp), List.append_nil]] at h1
      have H1 := Lib.hid h1
      clear h1
      go_wp2
      go_ret
      refine ⟨_, rfl, ?_, HB.out⟩
      unfold Ints
      rw [genL_length]
      exact H1.out

set_option maxHeartbeats 1000000 in
set_option maxRecDepth 100000 in
/-- impl.listOf, of a turned ring. -/
theorem listOf_turned (x : Value) (n : Nat) (f : Nat → Int) (w : World) (hn : n ≤ 1000000)
    (hf : ∀ k : Nat, k < n → ∀ u : World, Below w.heap.size w u → Calls Try.prog 129 #[x, .int .i64 k] u fun e u' => e = .returned (.int .i64 (f k)) ∧ Below u.heap.size u u') :
    Calls Try.prog 128 #[.int .i64 n, .func (.func 129) #[x] #[]] w fun e w' => ∃ v, e = .returned v ∧ Ints w' w.heap.size v (genL f n) ∧ Below w.heap.size w w' := by
  obtain ⟨i0, hi, hz0, hz1, hz2⟩ := info_parts infoI64
  have hby : i0.bytes * n ≤ 281474976710656 := by rw [hz2]; omega
  have HF := Lib.hid hf
  clear hf
  go_enter Try.func128, Try.ntmps128
  go_wp2_with (first | (at_make; refine wpList_make_full _ rfl _ _ 22 rfl w.heap.size 2 i0 (.int .i64 0) 1 Try.underlying22 hi hz0 hz1 .i64 .i64 (n : Int) (n : Int) n rfl rfl rfl rfl hby (by unfold maxLen; omega) (Nat.le_refl _) ?_; intro w1 hown1 hgrow1) | fail)
  have HO1 := Lib.hid hown1
  have HB1 := Lib.hid (Below.grown (Below.refl _ w) hgrow1 (Nat.le_refl _) (fun k hk => by cases hk))
  have hg1 : w.heap.size < w1.heap.size := (World.ownsRow.lt hown1 _ rfl).2
  clear hown1 hgrow1
  go_wp2
  go_loopw [10] (fun i wr => ∃ k : Nat, k ≤ n ∧ i = .int .i64 k ∧ Hid (wr.ownsRow w.heap.size 2 1 (.slice (some ⟨w.heap.size, 0, none⟩) n n) n ((genL f k ++ (List.replicate n (0 : Int)).drop k).map (Value.int .i64))) ∧ Hid (Below w.heap.size w wr)) (fun i _ => n - (intOf i).toNat)
  case atStart =>
    refine ⟨0, Nat.zero_le _, rfl, Lib.hid ?_, HB1⟩
    have h1 := HO1.out
    rw [made_int] at h1
    simpa [genL] using h1
  case round =>
    obtain ⟨k, hk, rfl, HO, HB⟩ := hrel
    by_cases hlt : k < n
    · have HS := Lib.hid (genL_put f k n hlt)
      have C := Lib.hid (HF.out k hlt wr HB.out)
      generalize f k = fz at *
      go_wp2_with fail
      refine C.out.mono ?_
      rintro e u ⟨rfl, hb⟩
      have HO3 := ownsB HO.out hb
      have HB3 := Lib.hid (bTrans HB.out hb)
      have hbz : w.heap.size ≤ u.heap.size := HB3.out.size
      clear hb C
      obtain ⟨S1, S2⟩ := World.ownsRow.stored HO3 k (.int .i64 fz)
      rw [← List.map_set, HS.out] at S1
      have hf0 : u.frozen? ⟨w.heap.size, k, none⟩ = false := World.ownsRow.frozenAt HO3 _
      have hc0 : ∃ z, u.cell? ⟨w.heap.size, k, none⟩ = some z := by
        rw [World.ownsRow.cellAt HO3 k (by omega)]
        exact ⟨_, List.getElem?_eq_getElem (by rw [HO3.1]; omega)⟩
      obtain ⟨z0, hc0⟩ := hc0
      have H3 := Lib.hid S1
      have H4 := Lib.hid (Below.grown HB3.out S2 hbz (fun j hj => by injection hj; omega))
      clear S1 S2 HO3
      go_wp2
      go_roundw
      case rel => exact ⟨k + 1, by omega, by go_num, Lib.hid H3.out, Lib.hid H4.out⟩
      case measure => simp [intOf]; omega
    · have : k = n := by omega
      subst this
      have h1 := HO.out
      rw [show (genL f k ++ (List.replicate k (0 : Int)).drop k) = genL f k by rw [List.drop_of_length_le (by simp), List.append_nil]] at h1
      have H1 := Lib.hid h1
      clear h1
      go_wp2
      go_ret
      refine ⟨_, rfl, ?_, HB.out⟩
      unfold Ints
      rw [genL_length]
      exact H1.out

set_option maxHeartbeats 1000000 in
set_option maxRecDepth 100000 in
/-- impl.listOf, of every so many places. -/
theorem listOf_thin (x y : Value) (n : Nat) (f : Nat → Int) (w : World) (hn : n ≤ 1000000)
    (hf : ∀ k : Nat, k < n → ∀ u : World, Below w.heap.size w u → Calls Try.prog 131 #[.int .i64 k, x, y] u fun e u' => e = .returned (.int .i64 (f k)) ∧ Below u.heap.size u u') :
    Calls Try.prog 128 #[.int .i64 n, .func (.func 131) #[] #[x, y]] w fun e w' => ∃ v, e = .returned v ∧ Ints w' w.heap.size v (genL f n) ∧ Below w.heap.size w w' := by
  obtain ⟨i0, hi, hz0, hz1, hz2⟩ := info_parts infoI64
  have hby : i0.bytes * n ≤ 281474976710656 := by rw [hz2]; omega
  have HF := Lib.hid hf
  clear hf
  go_enter Try.func128, Try.ntmps128
  go_wp2_with (first | (at_make; refine wpList_make_full _ rfl _ _ 22 rfl w.heap.size 2 i0 (.int .i64 0) 1 Try.underlying22 hi hz0 hz1 .i64 .i64 (n : Int) (n : Int) n rfl rfl rfl rfl hby (by unfold maxLen; omega) (Nat.le_refl _) ?_; intro w1 hown1 hgrow1) | fail)
  have HO1 := Lib.hid hown1
  have HB1 := Lib.hid (Below.grown (Below.refl _ w) hgrow1 (Nat.le_refl _) (fun k hk => by cases hk))
  have hg1 : w.heap.size < w1.heap.size := (World.ownsRow.lt hown1 _ rfl).2
  clear hown1 hgrow1
  go_wp2
  go_loopw [10] (fun i wr => ∃ k : Nat, k ≤ n ∧ i = .int .i64 k ∧ Hid (wr.ownsRow w.heap.size 2 1 (.slice (some ⟨w.heap.size, 0, none⟩) n n) n ((genL f k ++ (List.replicate n (0 : Int)).drop k).map (Value.int .i64))) ∧ Hid (Below w.heap.size w wr)) (fun i _ => n - (intOf i).toNat)
  case atStart =>
    refine ⟨0, Nat.zero_le _, rfl, Lib.hid ?_, HB1⟩
    have h1 := HO1.out
    rw [made_int] at h1
    simpa [genL] using h1
  case round =>
    obtain ⟨k, hk, rfl, HO, HB⟩ := hrel
    by_cases hlt : k < n
    · have HS := Lib.hid (genL_put f k n hlt)
      have C := Lib.hid (HF.out k hlt wr HB.out)
      generalize f k = fz at *
      go_wp2_with fail
      refine C.out.mono ?_
      rintro e u ⟨rfl, hb⟩
      have HO3 := ownsB HO.out hb
      have HB3 := Lib.hid (bTrans HB.out hb)
      have hbz : w.heap.size ≤ u.heap.size := HB3.out.size
      clear hb C
      obtain ⟨S1, S2⟩ := World.ownsRow.stored HO3 k (.int .i64 fz)
      rw [← List.map_set, HS.out] at S1
      have hf0 : u.frozen? ⟨w.heap.size, k, none⟩ = false := World.ownsRow.frozenAt HO3 _
      have hc0 : ∃ z, u.cell? ⟨w.heap.size, k, none⟩ = some z := by
        rw [World.ownsRow.cellAt HO3 k (by omega)]
        exact ⟨_, List.getElem?_eq_getElem (by rw [HO3.1]; omega)⟩
      obtain ⟨z0, hc0⟩ := hc0
      have H3 := Lib.hid S1
      have H4 := Lib.hid (Below.grown HB3.out S2 hbz (fun j hj => by injection hj; omega))
      clear S1 S2 HO3
      go_wp2
      go_roundw
      case rel => exact ⟨k + 1, by omega, by go_num, Lib.hid H3.out, Lib.hid H4.out⟩
      case measure => simp [intOf]; omega
    · have : k = n := by omega
      subst this
      have h1 := HO.out
      rw [show (genL f k ++ (List.replicate k (0 : Int)).drop k) = genL f k by rw [List.drop_of_length_le (by simp), List.append_nil]] at h1
      have H1 := Lib.hid h1
      clear h1
      go_wp2
      go_ret
      refine ⟨_, rfl, ?_, HB.out⟩
      unfold Ints
      rw [genL_length]
      exact H1.out

/-- impl.stepsOf. -/
theorem stepsOf_any (A : Option Addr) (n c : Nat) (zs : List Int) (w : World) (hv : RdI w A n zs) (hz : loopB zs = true) :
    Calls Try.prog 112 #[.slice A n c] w fun e w' => ∃ v, e = .returned v ∧ Ints w' w.heap.size v (stepsL zs) ∧ Below w.heap.size w w' := by
  have hmf : ∀ (fn : Fn) (first cap : Array Value) (w : World), (Instr.makeFunc fn first cap).run Try.prog w = .ok (.func fn first cap) w := fun _ _ _ _ => rfl
  have hl := loopB_len hz
  rw [hv.1] at hl
  have L := Lib.hid (listOf_step (.slice A n c) n (fun k => stepI zs k) w (by omega) (fun k hk u hb => (ringStep_any A n c zs k u (hv.below hb) hz (by omega) (by omega)).mono fun e u' ⟨he, hd⟩ => ⟨he, drewBelow hd⟩))
  have HE := Lib.hid (show genL (fun k => stepI zs k) n = stepsL zs by unfold stepsL; rw [hv.1])
  rw [HE.out] at L
  have hn := hv.2.1
  clear hv HE
  go_enter Try.func112, Try.ntmps112
  go_wp2_with fail
  refine (ringLen_any _ _ _ _ hn).mono ?_
  rintro e u ⟨rfl, rfl⟩
  go_wp2_with fail
  refine L.out.mono ?_
  rintro e u ⟨v, rfl, io, hb⟩
  go_wp2_with fail
  go_ret
  exact ⟨v, rfl, io, hb⟩

/-- impl.StepsOfLoop. -/
theorem implSteps_bad (A : Option Addr) (n c : Nat) (zs : List Int) (w : World) (hv : RdI w A n zs) (hz : loopB zs = false) :
    Calls Try.prog 28 #[.slice A n c] w fun e w' => ∃ v, e = .returned (.tuple #[v, .int .i64 1]) ∧ Ints w' w.heap.size v [] ∧ Below w.heap.size w w' := by
  have HV := Lib.hid hv
  clear hv
  go_enter Try.func28, Try.ntmps28
  go_wp2_with fail
  refine (validLoop_any A n c zs _ HV.out).mono ?_
  rintro e u ⟨rfl, rfl⟩
  rw [hz]
  go_wp2
  go_ret2
  exact ⟨_, rfl, World.ownsRow_nil _ _ _ _, Below.refl _ _⟩
theorem implSteps_ok (A : Option Addr) (n c : Nat) (zs : List Int) (w : World) (hv : RdI w A n zs) (hz : loopB zs = true) :
    Calls Try.prog 28 #[.slice A n c] w fun e w' => ∃ v, e = .returned (.tuple #[v, .int .i64 0]) ∧ Ints w' w.heap.size v (stepsL zs) ∧ Below w.heap.size w w' := by
  have HV := Lib.hid hv
  clear hv
  have S := Lib.hid (stepsOf_any A n c zs w HV.out hz)
  generalize stepsL zs = qs at *
  go_enter Try.func28, Try.ntmps28
  go_wp2_with fail
  refine (validLoop_any A n c zs _ HV.out).mono ?_
  rintro e u ⟨rfl, rfl⟩
  rw [hz]
  go_wp2_with fail
  refine S.out.mono ?_
  rintro e u ⟨v, rfl, io, hb⟩
  go_wp2_with fail
  go_ret2
  exact ⟨v, rfl, io, hb⟩

end Go.Proofs.Ytfbdeeobmjndlaa
