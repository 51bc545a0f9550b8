/- How many parts two sets share; a turned wheel's open parts. -/
import Derived.Test.YtflgjohknjgdcaaProg
import Derived.Test.YtflgjohknjgdcaaSetOf
import Derived.Laws.Cover1
import Derived.Deep.MidRow
import Derived.Deep.RegionWith
import Derived.Deep.DrawnRows
import Derived.Tactics
import Derived.Tactics2
import Derived.WalkKit
import Derived.LoopTactic
import Derived.BigQuiet
import Derived.BigRegion
import Derived.RegionTactic
import Derived.Deep.QuietTactic
import Derived.Outline
import Derived.Lib.Hide
import Derived.Below
import Derived.KernelRfl
namespace Go.Proofs.Ytflgjohknjgdcaa
set_option linter.unusedSimpArgs false
set_option linter.unusedVariables false
open Go.RowKit

set_option maxHeartbeats 1000000 in
/-- The function of a turned wheel's open parts. -/
theorem turned_any (pi pb b1 b2 : Nat) {S G : Nat} (k y : Nat) (w : World) (hi : w.cell? ⟨pi, 0, none⟩ = some (.func (.func 96) #[] #[.pointer (some ⟨b1, 0, none⟩), .pointer (some ⟨b2, 0, none⟩)])) (hb : w.cell? ⟨pb, 0, none⟩ = some (.int .i64 y)) (h : Op w b1 b2 S G) (hS : 1 ≤ S) (hS2 : S ≤ 1000) (hG : G ≤ 1000) (hk : k ≤ 1000) (hy : y ≤ 1000) :
    Calls Try.prog 100 #[.int .i64 k, .pointer (some ⟨pi, 0, none⟩), .pointer (some ⟨pb, 0, none⟩)] w fun e w' => e = .returned (.bool (openB S G (k + y))) ∧ ∃ n, w' = w.drewN n := by
  have O := Lib.hid (opening1_any b1 b2 (k + y) w h hS hS2 hG (by omega))
  have hw : IntKind.i64.wrap ((k : Int) + (y : Int)) = ((k + y : Nat) : Int) := by rw [IntWalk.i64_in _ (by omega)]; omega
  clear h
  generalize k + y = s at *
  go_enter Try.func100, Try.ntmps100
  go_wp2_with fail
  refine O.out.mono ?_
  rintro e u ⟨rfl, n, rfl⟩
  go_wp2_with fail
  go_ret
  exact ⟨rfl, n, rfl⟩

theorem psL_at (P : Nat → Bool) (k i : Nat) (h : i < 16) : (psL P k)[i]? = some (.int .u64 (wd P k i)) := by
  rw [psL, List.getElem?_map, List.getElem?_range h]
  rfl

theorem elemInfo : (Try.prog.info? 95).map (fun i => (i.size)) = some 1 := by kernel_rfl
/-- An element of an array of words by value. -/
theorem run_index16 (A : Array Value) (i x : Nat) (w : World) (h : i < 16) (hx : A[i]? = some (.int .u64 x)) :
    (Instr.index 102 (.agg A) (.int .i64 i)).run Try.prog w = .ok (.int .u64 x) w := by
  have hi : (0 : Int) ≤ (i : Int) ∧ (i : Int) < ((16 : Nat) : Int) := by omega
  have hs : (sizeOf 95).run Try.prog w = .ok 1 w := by
    have h := elemInfo
    cases hq : Try.prog.info? 95 with
    | none => simp [hq] at h
    | some j => simp [hq] at h; simp [sizeOf, typeInfo, hq, h]
  unfold Instr.index
  simp only [asIntOf, Sem.run_bind, Sem.run_pure, Result.andThen_ok, run_underlying psArr]
  rw [if_pos hi]
  simp only [Sem.run_bind, hs, Result.andThen_ok, Int.toNat_natCast, Nat.mul_one]
  have ha : (isAgg 95).run Try.prog w = .ok false w := by
    unfold isAgg
    rw [Sem.run_bind, run_underlying Try.underlying95 w]
    rfl
  unfold part
  simp only [Sem.run_bind, ha, Result.andThen_ok, hx]
  rfl

set_option maxHeartbeats 4000000 in
set_option maxRecDepth 100000 in
/-- impl.partSet.inBoth. -/
theorem inBoth_of (P Q : Nat → Bool) (A B : List Value) (hA : psL P 1000 = A) (hB : psL Q 1000 = B) (w : World) :
    Calls Try.prog 99 #[.agg A.toArray, .agg B.toArray] w fun e w' => e = .returned (.int .i64 (both P Q 16)) ∧ Below w.heap.size w w' := by
  have lA : A.toArray.size = 16 := by rw [← hA]; simp [psL]
  have lB : B.toArray.size = 16 := by rw [← hB]; simp [psL]
  have gA : ∀ i, i < 16 → A.toArray[i]? = some (.int .u64 (wd P 1000 i)) := fun i h => by rw [← hA, List.getElem?_toArray]; exact psL_at P 1000 i h
  have gB : ∀ i, i < 16 → B.toArray[i]? = some (.int .u64 (wd Q 1000 i)) := fun i h => by rw [← hB, List.getElem?_toArray]; exact psL_at Q 1000 i h
  have GA := Lib.hid gA
  have GB := Lib.hid gB
  clear hA hB gA gB
  go_enter Try.func99, Try.ntmps99
  go_upto_region 2 with fail
  have ha : Below w.heap.size w ((w.alloc (.cells A.toArray 102)).alloc (.cells B.toArray 102)) := bAlloc (bAlloc (Below.refl _ _) _) _
  have hr : ((w.alloc (.cells A.toArray 102)).alloc (.cells B.toArray 102)).rangeAt w.heap.size 0 A := by
    intro j v hv
    rw [Nat.zero_add]
    refine (World.cell?_alloc_lt _ _ _ (by simp)).trans ?_
    rw [World.cell?_alloc_at _ _ _ _ rfl]
    simpa using hv
  have hc : ∀ i, i < 16 → ((w.alloc (.cells A.toArray 102)).alloc (.cells B.toArray 102)).cell? ⟨w.heap.size + 1, i, none⟩ = some (.int .u64 (wd Q 1000 i)) := by
    intro i hi
    rw [World.cell?_alloc_at _ _ _ _ (by simp)]
    simpa using GB.out i hi
  have HA := Lib.hid ha
  have HR := Lib.hid hr
  have HC := Lib.hid hc
  have LA := Lib.hid lA
  clear ha hr hc lA lB GB
  generalize (w.alloc (.cells A.toArray 102)).alloc (.cells B.toArray 102) = u at *
  have hlen : A.length = 16 := by simpa using LA.out
  have hinf : (Try.prog.info? 102).map (·.size) = some A.length := by rw [hlen]; exact psInfo
  go_step
  go_step
  refine wp_load_mid 102 (.tmp 2) rfl w.heap.size 0 rfl A _ HR.out psArr rfl hinf ?_
  clear hinf hlen
  go_wp2_with fail
  go_loop [5, 9] (fun s t => ∃ i : Nat, i ≤ 16 ∧ s = .int .i64 (both P Q i) ∧ t = .int .i64 i) (fun _ t => 16 - (intOf t).toNat)
  case atStart => exact ⟨0, by omega, by rw [both_zero]; rfl, rfl⟩
  case round =>
    obtain ⟨i, hi, rfl, rfl⟩ := hrel
    by_cases hlt : i < 16
    · have c0 := HC.out i hlt
      have g0 := GA.out i hlt
      have i0 : (0 : Int) ≤ (i : Int) := by omega
      have i1 : (i : Int) < 16 := by omega
      have l1 := wd_lt P 1000 i
      have l2 := wd_lt Q 1000 i
      have hs := both_step P Q hlt
      have hb1 := both_le P Q i
      have hb2 := both_le P Q (i + 1)
      have hm := u64mask (wd P 1000 i) (wd Q 1000 i) l1 l2
      have hx : wd P 1000 i &&& wd Q 1000 i < 18446744073709551616 := Nat.lt_of_le_of_lt Nat.and_le_right l2
      have HO := Lib.hid (fun w => onesCount_any (wd P 1000 i &&& wd Q 1000 i) w hx)
      have hix := run_index16 A.toArray i (wd P 1000 i) u hlt g0
      generalize wd P 1000 i = x at *
      generalize wd Q 1000 i = y at *
      generalize x &&& y = z at *
      generalize pop64 z = p at *
      generalize both P Q i = m at *
      generalize hm1 : both P Q (i + 1) = m1 at *
      go_wp2_with fail
      refine (HO.out _).mono ?_
      rintro e v ⟨rfl, rfl⟩
      go_wp2_with fail
      go_round
      case rel => exact ⟨i + 1, by omega, by rw [hm1]; go_num, by go_num⟩
      case measure => simp [intOf]; omega
    · have : i = 16 := by omega
      subst this
      go_wp2_with fail
      go_ret
      exact ⟨rfl, HA.out⟩

end Go.Proofs.Ytflgjohknjgdcaa
