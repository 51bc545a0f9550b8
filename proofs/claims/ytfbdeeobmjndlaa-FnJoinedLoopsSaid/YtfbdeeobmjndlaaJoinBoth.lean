/- What both the program and the model tell of joined, closed, thinned and turned loops. -/
import Derived.Test.YtfbdeeobmjndlaaProg
import Derived.Test.YtfbdeeobmjndlaaLoopMath
import Derived.Test.YtfbdeeobmjndlaaInts
import Derived.Test.YtfbdeeobmjndlaaLoop
import Derived.Test.YtfbdeeobmjndlaaLoop2
import Derived.Test.YtfbdeeobmjndlaaLoop3
import Derived.Test.YtfbdeeobmjndlaaF6
import Derived.Test.YtfbdeeobmjndlaaJoin2
import Derived.Test.YtfbdeeobmjndlaaClose2
import Derived.Test.YtfbdeeobmjndlaaLoopLaw2
import Derived.Deep.AppendLies
import Derived.Deep.DrawnRows
import Derived.Test.YtfbdeeobmjndlaaHold
import Derived.IntWalk
import Derived.WalkSpells
import Derived.OwnWalk
import Derived.Laws.AppendOwn
import Derived.Laws.OwnMore
import Derived.Deep.RegionWith
import Derived.Deep.DrawnRows
import Derived.Deep.RegionHeld3
import Derived.Tactics
import Derived.Tactics2
import Derived.WalkKit
import Derived.LoopTactic
import Derived.BigQuiet
import Derived.RegionTactic
import Derived.Deep.QuietTactic
import Derived.Outline
import Derived.Lib.Hide
import Derived.Below
import Derived.KernelRfl
namespace Go.Proofs.Ytfbdeeobmjndlaa
set_option linter.unusedSimpArgs false
set_option linter.unusedVariables false
open Go.RowKit

theorem ringI_period (zs : List Int) (k : Int) (n : Nat) (h : zs.length = n) : ringI zs (k + n) = ringI zs k := by
  unfold ringI
  rw [h, Int.add_emod_right]
theorem sumI_shift (f : Nat → Int) : ∀ n : Nat, sumI (fun k => f (k + 1)) n = sumI f n + f n - f 0
  | 0 => by simp [sumI]
  | n + 1 => by
    rw [sumI, sumI_shift f n, sumI]
    omega
theorem turn_sum (zs : List Int) (n : Nat) (h : zs.length = n) : ∀ d : Nat, sumI (fun k => ringI zs ((d : Int) + k)) n = sumI (fun k => ringI zs ((0 : Int) + k)) n
  | 0 => rfl
  | d + 1 => by
    rw [← turn_sum zs n h d]
    have e : sumI (fun k => ringI zs (((d + 1 : Nat) : Int) + k)) n = sumI (fun k => (fun k : Nat => ringI zs ((d : Int) + k)) (k + 1)) n := sumI_congr fun i _ => by
      show ringI zs _ = ringI zs _
      congr 1
      omega
    rw [e]
    refine (sumI_shift (fun k : Nat => ringI zs ((d : Int) + k)) n).trans ?_
    show _ + ringI zs ((d : Int) + (n : Int)) - ringI zs ((d : Int) + ((0 : Nat) : Int)) = _
    rw [ringI_period zs _ n h, show (d : Int) + ((0 : Nat) : Int) = (d : Int) by omega]
    omega
theorem turn_tot (zs : List Int) (d : Nat) : totI (turnL zs d) = totI zs := by
  have e1 : totI (turnL zs d) = sumI (fun k => ringI zs ((d : Int) + k)) zs.length := by
    unfold totI turnL
    rw [genL_length]
    exact sumI_congr fun i hi => genL_get _ _ _ hi
  rw [e1, turn_sum zs _ rfl d]
  unfold totI
  refine sumI_congr fun i hi => ?_
  rw [show (0 : Int) + (i : Int) = (i : Int) by omega, ringI_lt zs i hi]

/-- What both JoinLoops tell. -/
theorem join_both (n n' : Nat) (xs ys : List Int) (hn : xs.length = n) (hn' : ys.length = n') : ∃ z qs, (∀ (E : Option Addr) (f : Nat) (E' : Option Addr) (f' : Nat) (u : World), RdI u E n xs → RdI u E' n' ys → Calls Try.prog 38 #[.slice E n f, .slice E' n' f'] u (JoinR u z qs)) ∧
    (∀ (E : Option Addr) (f : Nat) (E' : Option Addr) (f' : Nat) (u : World), RdI u E n xs → RdI u E' n' ys → Calls Try.prog 37 #[.slice E n f, .slice E' n' f'] u (JoinR u z qs)) ∧
    qs.length ≤ 360 ∧ totG qs ≤ 720 ∧ (∀ i, i < qs.length → qs.getD i [] = [xs.getD (i % n) 0, ys.getD (i % n') 0] ∧ 1 ≤ n ∧ n ≤ 60 ∧ 1 ≤ n' ∧ n' ≤ 60) ∧
    (z = 0 → qs.length % n = 0 ∧ qs.length % n' = 0 ∧ 1 ≤ n ∧ n ≤ 60 ∧ 1 ≤ n' ∧ n' ≤ 60) := by
  cases hz : loopB xs && loopB ys
  · exact ⟨1, [], fun E f E' f' u h h' => implJoin_bad E E' n f n' f' xs ys u h h' hz, fun E f E' f' u h h' => specJoin_bad E E' n f n' f' xs ys u h h' hz, by simp, by simp [totG], fun i hi => by simp at hi, fun h => by cases h⟩
  · have hz2 := hz
    simp only [Bool.and_eq_true] at hz2
    obtain ⟨hx, hy⟩ := hz2
    have l1 := loopB_len hx
    have l2 := loopB_len hy
    rw [hn] at l1
    rw [hn'] at l2
    by_cases hm : n / Nat.gcd n n' * n' ≤ 360
    · refine ⟨0, pairsL xs ys (n / Nat.gcd n n' * n'), fun E f E' f' u h h' => implJoin_ok E E' n f n' f' xs ys _ u h h' hz hm rfl, fun E f E' f' u h h' => specJoin_ok E E' n f n' f' xs ys _ u h h' hx hy hm rfl, by rw [pairsL_length]; exact hm, by rw [totG_pairs]; omega, fun i hi => ⟨?_, by omega, by omega, by omega, by omega⟩, fun _ => ⟨?_, ?_, by omega, by omega, by omega, by omega⟩⟩
      · rw [pairsL_length] at hi
        unfold pairsL
        rw [List.getD_eq_getElem?_getD, List.getElem?_map, List.getElem?_range hi]
        show [ringI xs (i : Int), ringI ys (i : Int)] = _
        rw [ringI_nat, ringI_nat, hn, hn']
      · rw [pairsL_length]
        have e1 : n / Nat.gcd n n' * Nat.gcd n n' = n := Nat.div_mul_cancel (Nat.gcd_dvd_left n n')
        have e2 : n' / Nat.gcd n n' * Nat.gcd n n' = n' := Nat.div_mul_cancel (Nat.gcd_dvd_right n n')
        have d1 : n / Nat.gcd n n' * n' = n * (n' / Nat.gcd n n') := by
          have h0 : ∀ a b g : Nat, a * g = n → b * g = n' → a * n' = n * b := fun a b g q1 q2 => by rw [← q1, ← q2, Nat.mul_assoc, Nat.mul_comm g b]
          exact h0 _ _ _ e1 e2
        rw [d1]
        exact Nat.mul_mod_right _ _
      · rw [pairsL_length]
        exact Nat.mul_mod_left _ _
    · exact ⟨5, [], fun E f E' f' u h h' => implJoin_full E E' n f n' f' xs ys u h h' hz hm, fun E f E' f' u h h' => specJoin_full E E' n f n' f' xs ys u h h' hx hy hm, by simp, by simp [totG], fun i hi => by simp at hi, fun h => by cases h⟩

/-- What both CloseLoop tell. -/
theorem close_both (n : Nat) (zs : List Int) (o : Int) (hn : zs.length = n) : ∃ z qs, (∀ (E : Option Addr) (f : Nat) (u : World), RdI u E n zs → Calls Try.prog 34 #[.slice E n f, .int .i64 o] u fun e w' => ∃ v, e = .returned (.tuple #[v, .int .i64 z]) ∧ Ints w' u.heap.size v qs ∧ Below u.heap.size u w') ∧
    (∀ (E : Option Addr) (f : Nat) (u : World), RdI u E n zs → Calls Try.prog 33 #[.slice E n f, .int .i64 o] u fun e w' => ∃ v, e = .returned (.tuple #[v, .int .i64 z]) ∧ Ints w' u.heap.size v qs ∧ Below u.heap.size u w') ∧
    qs.length ≤ 60 ∧ (z = 0 → ∃ d : Nat, o = d ∧ 1 ≤ d ∧ d ≤ n ∧ qs.length = n ∧ ∀ i, i < n - d → qs.getD i 0 = zs.getD i 0) := by
  cases hz : loopB zs
  · exact ⟨1, [], fun E f u h => implClose_bad E n f zs o u h hz, fun E f u h => specClose_bad E n f zs o u h hz, by simp, fun h => by cases h⟩
  · have hl := loopB_len hz
    cases hd : inB o 1 n
    · exact ⟨2, [], fun E f u h => implClose_range E n f zs o u h hz hd, fun E f u h => specClose_range E n f zs o u h hz hd, by simp, fun h => by cases h⟩
    · have d1 := inB_iff.1 hd
      obtain ⟨d, rfl⟩ := Int.eq_ofNat_of_zero_le (show 0 ≤ o by omega)
      refine ⟨0, closeL zs d, fun E f u h => implClose_ok E n f zs d u h hz (by omega) (by omega), fun E f u h => specClose_ok E n f zs d u h hz (by omega) (by omega), by unfold closeL; rw [genL_length]; omega, fun _ => ⟨d, rfl, by omega, by omega, by unfold closeL; rw [genL_length, hn], fun i hi => ?_⟩⟩
      unfold closeL
      rw [genL_get _ _ _ (by omega), closeI_left hz (by omega) (by omega)]

/-- What both ThinLoop tell. -/
theorem thin_both (n : Nat) (zs : List Int) (o : Int) (hn : zs.length = n) : ∃ z qs, (∀ (E : Option Addr) (f : Nat) (u : World), RdI u E n zs → Calls Try.prog 47 #[.slice E n f, .int .i64 o] u fun e w' => ∃ v, e = .returned (.tuple #[v, .int .i64 z]) ∧ Ints w' u.heap.size v qs ∧ Below u.heap.size u w') ∧
    (∀ (E : Option Addr) (f : Nat) (u : World), RdI u E n zs → Calls Try.prog 46 #[.slice E n f, .int .i64 o] u fun e w' => ∃ v, e = .returned (.tuple #[v, .int .i64 z]) ∧ Ints w' u.heap.size v qs ∧ Below u.heap.size u w') ∧
    qs.length ≤ 60 ∧ (z = 0 → (qs.length : Int) * o = n) := by
  cases hz : loopB zs
  · exact ⟨1, [], fun E f u h => implThin_bad E n f zs o u h hz, fun E f u h => specThin_bad E n f zs o u h hz, by simp, fun h => by cases h⟩
  · have hl := loopB_len hz
    cases hd : lenB o
    · exact ⟨2, [], fun E f u h => implThin_range E n f zs o u h hz hd, fun E f u h => specThin_range E n f zs o u h hz hd, by simp, fun h => by cases h⟩
    · have d1 := lenB_iff.1 hd
      obtain ⟨d, rfl⟩ := Int.eq_ofNat_of_zero_le (show 0 ≤ o by omega)
      by_cases hm : n % d = 0
      · have h8 : n / d ≤ n := Nat.div_le_self _ _
        refine ⟨0, thinL zs d, fun E f u h => implThin_ok E n f zs d u h hz hd hm, fun E f u h => specThin_ok E n f zs d u h hz hd hm, by unfold thinL; rw [genL_length, hn]; omega, fun _ => ?_⟩
        unfold thinL
        rw [genL_length, hn, ← Int.natCast_mul, Nat.div_mul_cancel (Nat.dvd_of_mod_eq_zero hm)]
      · exact ⟨8, [], fun E f u h => implThin_odd E n f zs d u h hz hd hm, fun E f u h => specThin_odd E n f zs d u h hz hd hm, by simp, fun h => by cases h⟩

/-- What both TurnLoop tell. -/
theorem turn_both (n : Nat) (zs : List Int) (o : Int) (hn : zs.length = n) : ∃ z qs, (∀ (E : Option Addr) (f : Nat) (u : World), RdI u E n zs → Calls Try.prog 43 #[.slice E n f, .int .i64 o] u fun e w' => ∃ v, e = .returned (.tuple #[v, .int .i64 z]) ∧ Ints w' u.heap.size v qs ∧ Below u.heap.size u w') ∧
    (∀ (E : Option Addr) (f : Nat) (u : World), RdI u E n zs → Calls Try.prog 42 #[.slice E n f, .int .i64 o] u fun e w' => ∃ v, e = .returned (.tuple #[v, .int .i64 z]) ∧ Ints w' u.heap.size v qs ∧ Below u.heap.size u w') ∧
    qs.length ≤ 60 ∧ (z = 0 → totI qs = totI zs ∧ (∀ j, -1000000 ≤ qs.getD j 0 ∧ qs.getD j 0 ≤ 1000000) ∧ (∀ j, -1000000 ≤ zs.getD j 0 ∧ zs.getD j 0 ≤ 1000000)) := by
  cases hz : loopB zs
  · exact ⟨1, [], fun E f u h => implTurn_bad E n f zs o u h hz, fun E f u h => specTurn_bad E n f zs o u h hz, by simp, fun h => by cases h⟩
  · have hl := loopB_len hz
    cases hd : inB o 0 60
    · exact ⟨2, [], fun E f u h => implTurn_range E n f zs o u h hz hd, fun E f u h => specTurn_range E n f zs o u h hz hd, by simp, fun h => by cases h⟩
    · have d1 := inB_iff.1 hd
      obtain ⟨d, rfl⟩ := Int.eq_ofNat_of_zero_le (show 0 ≤ o by omega)
      refine ⟨0, turnL zs d, fun E f u h => implTurn_ok E n f zs d u h hz (by omega), fun E f u h => specTurn_ok E n f zs d u h hz (by omega), by unfold turnL; rw [genL_length]; omega, fun _ => ⟨turn_tot zs d, fun j => ?_, fun j => by have := loopB_get hz j; omega⟩⟩
      by_cases hj : j < zs.length
      · unfold turnL
        rw [genL_get _ _ _ hj]
        have := ringI_bd hz ((d : Int) + j)
        omega
      · rw [List.getD_eq_getElem?_getD, List.getElem?_eq_none (by unfold turnL; rw [genL_length]; omega)]
        decide

end Go.Proofs.Ytfbdeeobmjndlaa
