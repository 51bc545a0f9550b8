/- Texts of numbers and fractions: in the program and in the model; and the statements' walks. -/
import Derived.Test.YtmgkoijnjhfinaaDoorValid
import Derived.Test.YtmgkoijnjhfinaaDoorDec
import Derived.Test.YtmgkoijnjhfinaaDoorSpecDec
import Derived.Tactics
import Derived.Tactics2
import Derived.WalkKit
import Derived.BigQuiet
import Derived.Deep.QuietTactic
import Derived.Deep.RegionHeld3
import Derived.Deep.RegionWith
import Derived.Deep.DrawnRows
import Derived.Laws.Concat
import Derived.Outline
import Derived.Lib.Hide
import Derived.Below
import Derived.KernelRfl
namespace Go.Proofs.YtmgkoijnjhfinaaDoor
open Go.RowKit
set_option linter.unusedSimpArgs false
set_option linter.unusedVariables false

/-- The text of a fraction. -/
def fracText (n d : Int) : List UInt8 := if d = 1 then decText n else decText n ++ 47 :: decText d
theorem decText_length {n : Int} (h1 : -9223372036854775808 ≤ n) (h2 : n ≤ 9223372036854775807) : (decText n).length ≤ 21 := by
  have h3 := natAbs_digits h1 h2
  unfold decText
  split
  · simp; omega
  · omega
theorem slash_bytes (a b : List UInt8) : ((⟨a.toArray⟩ ++ ⟨#[47]⟩) ++ ⟨b.toArray⟩ : ByteArray) = ⟨(a ++ 47 :: b).toArray⟩ := by
  apply ByteArray.ext
  simp [← Array.toList_inj]

theorem size_of_text (l : List UInt8) : (⟨l.toArray⟩ : ByteArray).size = l.length := by simp [ByteArray.size]
/-- The decimal form, cut at 21 bytes: no number of int64 has more. -/
def decB (n : Int) : ByteArray := ⟨((decText n).take 21).toArray⟩
theorem decB_eq {n : Int} (h1 : -9223372036854775808 ≤ n) (h2 : n ≤ 9223372036854775807) : decB n = ⟨(decText n).toArray⟩ := by
  unfold decB
  rw [List.take_of_length_le (decText_length h1 h2)]
theorem decB_size (n : Int) : (decB n).size ≤ 21 := by
  rw [decB, size_of_text]
  simp
  omega
theorem add_dec (n : Int) (w : World) : (binOp .add 9 (.string (decB n)) (.string ⟨#[47]⟩)).run Tryd.prog w = .ok (.string (decB n ++ ⟨#[47]⟩)) w := by
  have h1 := decB_size n
  have h2 : (⟨#[47]⟩ : ByteArray).size = 1 := rfl
  have h3 : (Op.stringOp .add (decB n) ⟨#[47]⟩).run Tryd.prog w = _ := run_string_add_sum w _ _ (by omega)
  simp only [binOp]
  exact h3
theorem add_dec2 (n d : Int) (w : World) : (binOp .add 9 (.string (decB n ++ ⟨#[47]⟩)) (.string (decB d))).run Tryd.prog w = .ok (.string ((decB n ++ ⟨#[47]⟩) ++ decB d)) w := by
  have h1 := decB_size n
  have h4 := decB_size d
  have h2 : (⟨#[47]⟩ : ByteArray).size = 1 := rfl
  have h3 : (Op.stringOp .add (decB n ++ ⟨#[47]⟩) (decB d)).run Tryd.prog w = _ := run_string_add_sum w _ _ (by rw [ByteArray.size_append]; omega)
  simp only [binOp]
  exact h3
theorem sum_dec (n : Int) (w : World) : (Op.stringOp .add (decB n) ⟨#[47]⟩).run Tryd.prog w = .ok (.string (decB n ++ ⟨#[47]⟩)) w := by
  have h1 := decB_size n
  have h2 : (⟨#[47]⟩ : ByteArray).size = 1 := rfl
  exact run_string_add_sum w _ _ (by omega)
theorem sum_dec2 (n d : Int) (w : World) : (Op.stringOp .add (decB n ++ ⟨#[47]⟩) (decB d)).run Tryd.prog w = .ok (.string ((decB n ++ ⟨#[47]⟩) ++ decB d)) w := by
  have h1 := decB_size n
  have h4 := decB_size d
  have h2 : (⟨#[47]⟩ : ByteArray).size = 1 := rfl
  exact run_string_add_sum w _ _ (by rw [ByteArray.size_append]; omega)
attribute [local go_sem ↓] add_dec add_dec2 sum_dec sum_dec2
theorem l01Dec_B (n : Int) (w : World) (h1 : -9223372036854775808 ≤ n) (h2 : n ≤ 9223372036854775807) :
    Calls Tryd.prog 47 #[.int .i64 n] w fun e w' => e = .returned (.string (decB n)) ∧ Below w.heap.size w w' := by
  rw [decB_eq h1 h2]; exact l01Dec_any n w h1 h2
theorem implDecimal_B (n : Int) (w : World) (h1 : -9223372036854775808 ≤ n) (h2 : n ≤ 9223372036854775807) :
    Calls Tryd.prog 30 #[.int .i64 n] w fun e w' => e = .returned (.string (decB n)) ∧ Below w.heap.size w w' := by
  rw [decB_eq h1 h2]; exact implDecimal_any n w h1 h2

/-- The text of a fraction. -/
def fracB (n d : Int) : ByteArray := if d = 1 then decB n else (decB n ++ ⟨#[47]⟩) ++ decB d

/-- The text of a fraction; the empty one where it is not valid. -/
def textB (n d : Int) : ByteArray := if okB n d then fracB n d else ⟨#[]⟩

/-- impl.FractionText. -/
theorem implText_any (n d : Int) (w : World) (h1 : -9223372036854775808 ≤ n) (h2 : n ≤ 9223372036854775807) :
    Calls Tryd.prog 15 #[fr n d] w fun e w' => e = .returned (.string (textB n d)) ∧ Below w.heap.size w w' := by
  cases h : okB n d
  · rw [show textB n d = ⟨#[]⟩ by rw [textB, h]; rfl]
    go_enter Tryd.func15, Tryd.ntmps15
    go_wp2_with fail
    refine (validFraction_any _ _ _).mono ?_
    rintro e u1 ⟨rfl, hb1⟩
    go_wp2_with fail
    go_ret
    exact ⟨rfl, bTrans (bAlloc (Below.refl _ _) _) hb1⟩
  · rw [show textB n d = fracB n d by rw [textB, h]; rfl]
    have hd : 1 ≤ d ∧ d ≤ 1000000 := by
      simp only [okB, Bool.and_eq_true] at h
      exact inB_iff.1 h.1.1
    have h3 : -9223372036854775808 ≤ d := by omega
    have h4 : d ≤ 9223372036854775807 := by omega
    by_cases h5 : d = 1
    · rw [show fracB n d = decB n from if_pos h5]
      subst h5
      go_enter Tryd.func15, Tryd.ntmps15
      go_wp2_with fail
      refine (validFraction_any _ _ _).mono ?_
      rintro e u1 ⟨rfl, hb1⟩
      have B1 : Bk u1 w.heap.size n 1 := bkOf hb1 (by refine ⟨?_, ?_, ?_, ?_, ?_⟩ <;> go_simp)
      obtain ⟨i0, i1, j0, j1, l1⟩ := B1
      go_wp2_with fail
      refine (implDecimal_B _ _ h1 h2).mono ?_
      rintro e u2 ⟨rfl, hb2⟩
      go_wp2_with fail
      go_ret
      exact ⟨rfl, bTrans (bTrans (bAlloc (Below.refl _ _) _) hb1) hb2⟩
    · rw [show fracB n d = (decB n ++ ⟨#[47]⟩) ++ decB d from if_neg h5]
      have h6 : (d == 1) = false := beq_eq_false_iff_ne.2 h5
      go_enter Tryd.func15, Tryd.ntmps15
      go_wp2_with fail
      refine (validFraction_any _ _ _).mono ?_
      rintro e u0 ⟨rfl, hb0⟩
      have B0 : Bk u0 w.heap.size n d := bkOf hb0 (by refine ⟨?_, ?_, ?_, ?_, ?_⟩ <;> go_simp)
      obtain ⟨k0, k1, m0, m1, o1⟩ := B0
      go_wp2_with fail
      go_region_held3 (fun w' => w'.cell? ⟨w.heap.size, 0, none⟩ = some (.int .i64 n) ∧ w'.cell? ⟨w.heap.size, 1, none⟩ = some (.int .i64 d)) (go_keep)
        (first | (go_at_call_of 30 (Value.int .i64 n); refine (implDecimal_B _ _ h1 h2).mono ?_; rintro e u1 ⟨rfl, hb1⟩; have B1 : Bk u1 w.heap.size n d := bkOf hb1 (by refine ⟨?_, ?_, ?_, ?_, ?_⟩ <;> go_simp); obtain ⟨i0, i1, j0, j1, l1⟩ := B1) | (go_at_call_of 30 (Value.int .i64 d); refine (implDecimal_B _ _ h3 h4).mono ?_; rintro e u2 ⟨rfl, hb2⟩; have B1 : Bk u2 w.heap.size n d := bkOf hb2 (by refine ⟨?_, ?_, ?_, ?_, ?_⟩ <;> go_simp); obtain ⟨i2, i3, j2, j3, l2⟩ := B1))
      all_goals go_wp2
      all_goals go_ret
      all_goals exact ⟨rfl, bTrans (bTrans (Below.drew (bTrans (bAlloc (Below.refl _ _) _) hb0)) hb1) hb2⟩

end Go.Proofs.YtmgkoijnjhfinaaDoor
