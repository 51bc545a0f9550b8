/- The texts of drums, in the program and in the model. -/
import Derived.Test.YthphihfcgpoefaaProg
import Derived.Test.YthphihfcgpoefaaDrum
import Derived.Test.YthphihfcgpoefaaDec
import Derived.Test.YthphihfcgpoefaaSpecDec
import Derived.IntWalk
import Derived.WalkSpells
import Derived.OwnWalk
import Derived.Laws.AppendOwn
import Derived.Laws.OwnMore
import Derived.Laws.Cover1
import Derived.Deep.RegionWith
import Derived.Deep.DrawnRows
import Derived.Deep.RegionHeld3
import Derived.Tactics
import Derived.Tactics2
import Derived.WalkKit
import Derived.LoopTactic
import Derived.BigQuiet
import Derived.RegionTactic
import Derived.Deep.QuietTactic
import Derived.Outline
import Derived.Lib.Hide
import Derived.Below
import Derived.KernelRfl
namespace Go.Proofs.Ythphihfcgpoefaa
set_option linter.unusedSimpArgs false
set_option linter.unusedVariables false
open Go.RowKit

theorem size_ofD (l : List UInt8) : (⟨l.toArray⟩ : ByteArray).size = l.length := by simp [ByteArray.size]
theorem decD_length {n : Int} (h1 : -9223372036854775808 ≤ n) (h2 : n ≤ 9223372036854775807) : (decText n).length ≤ 21 := by
  have h3 := natAbs_digits h1 h2
  unfold decText
  split
  · simp; omega
  · omega
/-- The decimal form, cut at 21 bytes: no number of int64 has more. -/
def decD (n : Int) : ByteArray := ⟨((decText n).take 21).toArray⟩
theorem decD_eq {n : Int} (h1 : -9223372036854775808 ≤ n) (h2 : n ≤ 9223372036854775807) : decD n = ⟨(decText n).toArray⟩ := by
  unfold decD
  rw [List.take_of_length_le (decD_length h1 h2)]
theorem decD_size (n : Int) : (decD n).size ≤ 21 := by
  rw [decD, size_ofD]
  simp
  omega
theorem implDecD (n : Int) (w : World) (h : -9223372036854775808 ≤ n ∧ n ≤ 9223372036854775807) :
    Calls Try.prog 57 #[.int .i64 n] w fun e w' => e = .returned (.string (decD n)) ∧ Below w.heap.size w w' := by
  rw [decD_eq h.1 h.2]; exact implDecimal_any n w h.1 h.2
theorem specDecD (n : Int) (w : World) (h : -9223372036854775808 ≤ n ∧ n ≤ 9223372036854775807) :
    Calls Try.prog 71 #[.int .i64 n] w fun e w' => e = .returned (.string (decD n)) ∧ Below w.heap.size w w' := by
  rw [decD_eq h.1 h.2]; exact l01Dec_any n w h.1 h.2

/-- The parts of a drum's text. -/
def dt1 (a : Int) : ByteArray := decD a ++ ⟨#[120]⟩
def dt2 (a b : Int) : ByteArray := dt1 a ++ decD b
def dt3 (a b : Int) : ByteArray := dt2 a b ++ ⟨#[47]⟩
def drumT (a b c : Int) : ByteArray := dt3 a b ++ decD c
theorem one_byte (b : UInt8) : (⟨#[b]⟩ : ByteArray).size = 1 := rfl
theorem dt1_size (a : Int) : (dt1 a).size ≤ 22 := by have := decD_size a; rw [dt1, ByteArray.size_append, one_byte]; omega
theorem dt2_size (a b : Int) : (dt2 a b).size ≤ 43 := by have := decD_size b; have := dt1_size a; rw [dt2, ByteArray.size_append]; omega
theorem dt3_size (a b : Int) : (dt3 a b).size ≤ 44 := by have := dt2_size a b; rw [dt3, ByteArray.size_append, one_byte]; omega
theorem drumT_size (a b c : Int) : (drumT a b c).size ≤ 65 := by have := dt3_size a b; have := decD_size c; rw [drumT, ByteArray.size_append]; omega
theorem s1 (a : Int) (w : World) : (Op.stringOp .add (decD a) ⟨#[120]⟩).run Try.prog w = .ok (.string (dt1 a)) w := run_string_add_sum w _ _ (by have := decD_size a; rw [one_byte]; omega)
theorem s2 (a b : Int) (w : World) : (Op.stringOp .add (dt1 a) (decD b)).run Try.prog w = .ok (.string (dt2 a b)) w := run_string_add_sum w _ _ (by have := decD_size b; have := dt1_size a; omega)
theorem s3 (a b : Int) (w : World) : (Op.stringOp .add (dt2 a b) ⟨#[47]⟩).run Try.prog w = .ok (.string (dt3 a b)) w := run_string_add_sum w _ _ (by have := dt2_size a b; rw [one_byte]; omega)
theorem s4 (a b c : Int) (w : World) : (Op.stringOp .add (dt3 a b) (decD c)).run Try.prog w = .ok (.string (drumT a b c)) w := run_string_add_sum w _ _ (by have := dt3_size a b; have := decD_size c; omega)
theorem b1 (a : Int) (w : World) : (binOp .add 9 (.string (decD a)) (.string ⟨#[120]⟩)).run Try.prog w = .ok (.string (dt1 a)) w := by simp only [binOp]; exact s1 a w
theorem b2 (a b : Int) (w : World) : (binOp .add 9 (.string (dt1 a)) (.string (decD b))).run Try.prog w = .ok (.string (dt2 a b)) w := by simp only [binOp]; exact s2 a b w
theorem b3 (a b : Int) (w : World) : (binOp .add 9 (.string (dt2 a b)) (.string ⟨#[47]⟩)).run Try.prog w = .ok (.string (dt3 a b)) w := by simp only [binOp]; exact s3 a b w
theorem b4 (a b c : Int) (w : World) : (binOp .add 9 (.string (dt3 a b)) (.string (decD c))).run Try.prog w = .ok (.string (drumT a b c)) w := by simp only [binOp]; exact s4 a b c w
attribute [local go_sem ↓] s1 s2 s3 s4 b1 b2 b3 b4

/-- spec.l07Text. -/
theorem l07Text_any (b : Nat) (r h s : Int) (w : World) (B : Bd w b r h s) (r0 : I64 r) (h0 : I64 h) (s0 : I64 s) :
    Calls Try.prog 56 #[.pointer (some ⟨b, 0, none⟩)] w fun e w' => e = .returned (.string (drumT r h s)) ∧ Below w.heap.size w w' := by
  obtain ⟨c0, c1, c2, hl⟩ := B
  go_enter Try.func56, Try.ntmps56
  go_wp2_with fail
  go_region_held3 (fun w' => w'.cell? ⟨b, 0, none⟩ = some (.int .i64 r) ∧ w'.cell? ⟨b, 1, none⟩ = some (.int .i64 h) ∧ w'.cell? ⟨b, 2, none⟩ = some (.int .i64 s)) (go_keep)
    (first | (go_at_call_of 71 (Value.int .i64 r); refine (specDecD _ _ r0).mono ?_; rintro e u1 ⟨rfl, hb1⟩; have B1 : Bd u1 b r h s := Bd.below (by refine ⟨?_, ?_, ?_, ?_⟩ <;> go_simp) hb1; obtain ⟨i0, i1, i2, l1⟩ := B1) | (go_at_call_of 71 (Value.int .i64 h); refine (specDecD _ _ h0).mono ?_; rintro e u2 ⟨rfl, hb2⟩; have B2 : Bd u2 b r h s := Bd.below (by refine ⟨?_, ?_, ?_, ?_⟩ <;> go_simp) hb2; obtain ⟨j0, j1, j2, l2⟩ := B2) | (go_at_call_of 71 (Value.int .i64 s); refine (specDecD _ _ s0).mono ?_; rintro e u3 ⟨rfl, hb3⟩; have B3 : Bd u3 b r h s := Bd.below (by refine ⟨?_, ?_, ?_, ?_⟩ <;> go_simp) hb3; obtain ⟨k0, k1, k2, l3⟩ := B3))
  all_goals go_wp2
  all_goals go_ret
  all_goals exact ⟨rfl, by repeat (first | exact Below.refl _ _ | assumption | refine bDrewN ?_ _ | refine Below.drew ?_ | refine bAlloc ?_ _ | refine bTrans ?_ hb3 | refine bTrans ?_ hb2 | refine bTrans ?_ hb1)⟩

/-- The text of a drum; the empty one where it is not valid. -/
def textD (r h s : Int) : ByteArray := if drumB r h s then drumT r h s else ⟨#[]⟩

/-- spec.DrumText. -/
theorem specDrumText_any (r h s : Int) (w : World) :
    Calls Try.prog 33 #[dr r h s] w fun e w' => e = .returned (.string (textD r h s)) ∧ Below w.heap.size w w' := by
  cases h1 : drumB r h s
  · rw [show textD r h s = ⟨#[]⟩ by simp [textD, h1]]
    go_enter Try.func33, Try.ntmps33
    go_wp2_with (go_at_call 39; refine (l07Ok_any _ r h s _ (bdNew _ _ _ _)).mono ?_; rintro e u ⟨rfl, rfl⟩)
    go_ret
    exact ⟨rfl, bAlloc (Below.refl _ _) _⟩
  · rw [show textD r h s = drumT r h s by simp [textD, h1]]
    obtain ⟨⟨r1, r2⟩, ⟨k1, k2⟩, t1, t2⟩ := drumB_yes h1
    go_enter Try.func33, Try.ntmps33
    go_wp2_with (go_at_call 39; refine (l07Ok_any _ r h s _ (bdNew _ _ _ _)).mono ?_; rintro e u ⟨rfl, rfl⟩)
    refine (l07Text_any _ r h s _ (bdNew _ _ _ _) ⟨by omega, by omega⟩ ⟨by omega, by omega⟩ ⟨by omega, by omega⟩).mono ?_
    rintro e u2 ⟨rfl, hb2⟩
    go_wp2
    go_ret
    exact ⟨rfl, bTrans (bAlloc (Below.refl _ _) _) hb2⟩

/-- impl.DrumText. -/
theorem implDrumText_any (r h s : Int) (w : World) :
    Calls Try.prog 34 #[dr r h s] w fun e w' => e = .returned (.string (textD r h s)) ∧ Below w.heap.size w w' := by
  cases h1 : drumB r h s
  · rw [show textD r h s = ⟨#[]⟩ by simp [textD, h1]]
    go_enter Try.func34, Try.ntmps34
    go_wp2_with (go_at_call 15; refine (validDrum_any _ _ _ _).mono ?_; rintro e u ⟨rfl, hb⟩; obtain ⟨hc1, hf1⟩ := bCells hb)
    go_ret
    exact ⟨rfl, bTrans (bAlloc (Below.refl _ _) _) hb⟩
  · rw [show textD r h s = drumT r h s by simp [textD, h1]]
    obtain ⟨⟨r1, r2⟩, ⟨k1, k2⟩, t1, t2⟩ := drumB_yes h1
    have r0 : I64 r := ⟨by omega, by omega⟩
    have h0 : I64 h := ⟨by omega, by omega⟩
    have s0 : I64 s := ⟨by omega, by omega⟩
    clear r1 r2 k1 k2 t1 t2
    go_enter Try.func34, Try.ntmps34
    go_wp2_with fail
    refine (validDrum_any _ _ _ _).mono ?_
    rintro e u ⟨rfl, hb⟩
    have B := (bdNew w r h s).below hb
    obtain ⟨m0, m1, m2, l0⟩ := B
    rw [h1]
    go_wp2_with fail
    go_region_held3 (fun w' => w'.cell? ⟨w.heap.size, 0, none⟩ = some (.int .i64 r) ∧ w'.cell? ⟨w.heap.size, 1, none⟩ = some (.int .i64 h) ∧ w'.cell? ⟨w.heap.size, 2, none⟩ = some (.int .i64 s)) (go_keep)
      (first | (go_at_call_of 57 (Value.int .i64 r); refine (implDecD _ _ r0).mono ?_; rintro e u1 ⟨rfl, hb1⟩; have B1 : Bd u1 w.heap.size r h s := Bd.below (by refine ⟨?_, ?_, ?_, ?_⟩ <;> go_simp) hb1; obtain ⟨i0, i1, i2, l1⟩ := B1) | (go_at_call_of 57 (Value.int .i64 h); refine (implDecD _ _ h0).mono ?_; rintro e u2 ⟨rfl, hb2⟩; have B2 : Bd u2 w.heap.size r h s := Bd.below (by refine ⟨?_, ?_, ?_, ?_⟩ <;> go_simp) hb2; obtain ⟨j0, j1, j2, l2⟩ := B2) | (go_at_call_of 57 (Value.int .i64 s); refine (implDecD _ _ s0).mono ?_; rintro e u3 ⟨rfl, hb3⟩; have B3 : Bd u3 w.heap.size r h s := Bd.below (by refine ⟨?_, ?_, ?_, ?_⟩ <;> go_simp) hb3; obtain ⟨k0, k1, k2, l3⟩ := B3))
    all_goals go_wp2
    all_goals go_ret
    all_goals exact ⟨rfl, by repeat (first | exact Below.refl _ _ | assumption | refine bDrewN ?_ _ | refine Below.drew ?_ | refine bAlloc ?_ _ | refine bTrans ?_ hb3 | refine bTrans ?_ hb2 | refine bTrans ?_ hb1 | refine bTrans ?_ hb)⟩

/-- laws.FnExactDrumText. -/
theorem law_DrumText (r h s : Int) (w : World) :
    Calls Try.prog 11 #[dr r h s] w fun e w' => e = .returned (.bool true) ∧ Below w.heap.size w w' := by
  have S := Lib.hid (specDrumText_any r h s)
  have I := Lib.hid (implDrumText_any r h s)
  generalize textD r h s = T at *
  go_enter Try.func11, Try.ntmps11
  go_wp2_with fail
  refine (toDrum_any _ _ _ _).mono ?_
  rintro e u1 ⟨rfl, hb1⟩
  obtain ⟨hc1, hf1⟩ := bCells hb1
  go_wp2_with fail
  refine (S.out _).mono ?_
  rintro e u2 ⟨rfl, hb2⟩
  obtain ⟨hc2, hf2⟩ := bCells hb2
  have hz1 : w.heap.size < u1.heap.size := by have := hb1.size; simp at this; omega
  go_wp2_with fail
  refine (toDrum_any _ _ _ _).mono ?_
  rintro e u3 ⟨rfl, hb3⟩
  obtain ⟨hc3, hf3⟩ := bCells hb3
  go_wp2_with fail
  refine (I.out _).mono ?_
  rintro e u4 ⟨rfl, hb4⟩
  go_wp2_with fail
  go_ret
  exact ⟨rfl, bTrans (bTrans (bTrans (bTrans (bAlloc (Below.refl _ _) _) hb1) hb2) hb3) hb4⟩

end Go.Proofs.Ythphihfcgpoefaa
