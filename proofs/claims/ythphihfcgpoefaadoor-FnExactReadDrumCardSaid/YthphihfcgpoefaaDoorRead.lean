/- Decimal forms read back: the program's own way. -/
import Derived.Test.YthphihfcgpoefaaDoorProg
import Derived.Test.YthphihfcgpoefaaDoorShelf
import Derived.Test.YthphihfcgpoefaaDoorDec
import Derived.Test.YthphihfcgpoefaaDoorReadMath
import Derived.Lib.ParseIntBTie
import Derived.Lib.Strings
import Derived.Deep.RegionWith
import Derived.Deep.DrawnRows
import Derived.Tactics
import Derived.Tactics2
import Derived.WalkKit
import Derived.LoopTactic
import Derived.BigQuiet
import Derived.RegionTactic
import Derived.BigRegion
import Derived.Deep.QuietTactic
import Derived.Outline
import Derived.Lib.Hide
import Derived.Below
import Derived.KernelRfl
namespace Go.Proofs.YthphihfcgpoefaaDoor
open Go.RowKit
set_option linter.unusedSimpArgs false
set_option linter.unusedVariables false

theorem below_of_bytes {w w' : World} (h : w' = w ∨ ∃ t, w' = Lib.bytesWorld w 5 t) : Below w.heap.size w w' := by
  rcases h with rfl | ⟨t, rfl⟩
  · exact Below.refl _ _
  · exact Lib.bytesWorld_below w 5 t

set_option maxRecDepth 100000 in
/-- impl.ReadDecimal of a decimal form. -/
theorem implRead_yes (n : Int) (w : World) (hn : n.natAbs < 10 ^ 18) :
    Calls Tryd.prog 11 #[.string ⟨(decText n).toArray⟩] w fun e w' => e = .returned (.tuple #[.int .i64 n, .bool true]) ∧ Below w.heap.size w w' := by
  have hp : (10 : Nat) ^ 18 = 1000000000000000000 := by decide
  have hP := parse_dec hn
  have hl : (decText n).length ≤ 100 := by
    have := natAbs_digits (n := n) (by omega) (by omega)
    unfold decText
    split <;> simp <;> omega
  have CP := Lib.hid (fun w => Tryd.strconv_ParseInt_10_at64_ok ⟨(decText n).toArray⟩ (by show (decText n).toArray.size ≤ _; simp; omega) n (by simpa using hP) w)
  have CD := Lib.hid (fun w => implDecimal_any n w (by omega) (by omega))
  generalize (⟨(decText n).toArray⟩ : ByteArray) = s at *
  have n1 : -999999999999999999 ≤ n := by omega
  have n2 : n ≤ 999999999999999999 := by omega
  clear hP hl hn
  go_enter Tryd.func11, Tryd.ntmps11
  go_wp2_with fail
  refine (CP.out _).mono ?_
  rintro e u1 ⟨rfl, hb1⟩
  have hb1 := below_of_bytes hb1
  go_wp2_with fail
  refine (CD.out _).mono ?_
  rintro e u2 ⟨rfl, hb2⟩
  go_wp2_with fail
  refine bodyPost_ret (v := _) (by simp [results, Tryd.results11, go_sem]) rfl ⟨rfl, bTrans hb1 hb2⟩

theorem neq_text {a b : ByteArray} (h : a ≠ b) : (a.toList == b.toList) = false := by
  rw [beq_eq_false_iff_ne]
  intro e
  rw [Lib.toList_data, Lib.toList_data] at e
  apply h
  show ByteArray.mk a.data = ByteArray.mk b.data
  rw [Array.toList_inj.1 e]

/-- A text that is no decimal form of fewer than 19 digits. -/
def NoDec (s : ByteArray) : Prop := ∀ n : Int, n.natAbs < 10 ^ 18 → (⟨(decText n).toArray⟩ : ByteArray) ≠ s

set_option maxRecDepth 100000 in
/-- impl.ReadDecimal of any other text. -/
theorem implRead_no (s : ByteArray) (w : World) (hs : s.size ≤ 281474976710656) (h : NoDec s) (tp tq : TypeId) (p q : Value) (hv1 : w.var? Tryd.prog "strconv.ErrSyntax" = some #[.iface tp p]) (hv2 : w.var? Tryd.prog "strconv.ErrRange" = some #[.iface tq q]) :
    Calls Tryd.prog 11 #[.string s] w fun e w' => e = .returned (.tuple #[.int .i64 0, .bool false]) ∧ Below w.heap.size w w' := by
  have hp : (10 : Nat) ^ 18 = 1000000000000000000 := by decide
  obtain ⟨z, hz⟩ : ∃ z, Lib.parseIntB 64 s.data.toList = z := ⟨_, rfl⟩
  rcases z with v | _ | _
  · have hP := hz
    have hb := Lib.parseIntB_bounds hP
    rw [show ((2 ^ (64 - 1) : Nat) : Int) = 9223372036854775808 by decide] at hb
    obtain ⟨b1, b2⟩ := hb
    have CP := Lib.hid (fun w => Tryd.strconv_ParseInt_10_at64_ok s (by omega) v hP w)
    clear hP hz
    by_cases hr : v < -999999999999999999 ∨ 999999999999999999 < v
    · rcases (show v < -999999999999999999 ∨ (-999999999999999999 ≤ v ∧ 999999999999999999 < v) by omega) with c1 | ⟨c1, c2⟩
      all_goals
        clear h hr
        go_enter Tryd.func11, Tryd.ntmps11
        go_wp2_with fail
        refine (CP.out _).mono ?_
        rintro e u1 ⟨rfl, hb1⟩
        have hb1 := below_of_bytes hb1
        go_wp2_with fail
        refine bodyPost_ret (v := _) (by simp [results, Tryd.results11, go_sem]) rfl ⟨rfl, hb1⟩
    · have n1 : -999999999999999999 ≤ v := by omega
      have n2 : v ≤ 999999999999999999 := by omega
      have hne := h v (by omega)
      have CD := Lib.hid (fun w => implDecimal_any v w (by omega) (by omega))
      generalize (⟨(decText v).toArray⟩ : ByteArray) = t at *
      have hne2 : (t.toList == s.toList) = false := neq_text hne
      clear h hr hne
      go_enter Tryd.func11, Tryd.ntmps11
      go_wp2_with fail
      refine (CP.out _).mono ?_
      rintro e u1 ⟨rfl, hb1⟩
      have hb1 := below_of_bytes hb1
      go_wp2_with fail
      refine (CD.out _).mono ?_
      rintro e u2 ⟨rfl, hb2⟩
      go_wp2_with fail
      refine bodyPost_ret (v := _) (by simp [results, Tryd.results11, go_sem]) rfl ⟨rfl, bTrans hb1 hb2⟩
  · have CP := Lib.hid (Tryd.strconv_ParseInt_10_at64_syntax_var s hs hz tp p w hv1)
    clear hz h hv1 hv2
    go_enter Tryd.func11, Tryd.ntmps11
    go_wp2_with fail
    refine (CP.out).mono ?_
    rintro e u1 ⟨N, rfl, hN, hN2, hb1⟩
    clear hN2
    go_wp2_with fail
    refine bodyPost_ret (v := _) (by simp [results, Tryd.results11, go_sem]) rfl ⟨rfl, hb1⟩
  · have CP := Lib.hid (Tryd.strconv_ParseInt_10_at64_range_var s hs hz tq q w hv2)
    clear hz h hv1 hv2
    go_enter Tryd.func11, Tryd.ntmps11
    go_wp2_with fail
    refine (CP.out).mono ?_
    rintro e u1 ⟨N, rfl, hN, hN2, hb1⟩
    clear hN2
    go_wp2_with fail
    refine bodyPost_ret (v := _) (by simp [results, Tryd.results11, go_sem]) rfl ⟨rfl, hb1⟩

end Go.Proofs.YthphihfcgpoefaaDoor
