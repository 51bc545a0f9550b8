/- impl.Decimal: its digits, written into a builder. -/
import Derived.Test.YthphihfcgpoefaaDoorBuild
import Derived.Test.YthphihfcgpoefaaDoorDigits
import Derived.Test.YthphihfcgpoefaaDoorShelf
import Derived.Tactics
import Derived.Tactics2
import Derived.WalkKit
import Derived.Lib.RuneBytes
import Derived.Outline
import Derived.Lib.Hide
import Derived.Below
import Derived.KernelRfl
namespace Go.Proofs.YthphihfcgpoefaaDoor
open Go.RowKit
set_option linter.unusedSimpArgs false
set_option linter.unusedVariables false

/-- impl.writeDigits. -/
theorem writeDigits_any (n : Nat) : ∀ (B b : Nat) (l : List UInt8) (w : World), n ≤ 18446744073709551615 → l.length + (digs n).length + 4 ≤ 140737488355328 → B ≤ w.heap.size → Holds B b (Lib.byteCells l) w →
    Calls Tryd.prog 25 #[.pointer (some ⟨b, 0, none⟩), .int .u64 n] w fun e w' => e = .returned (.tuple #[]) ∧ Holds B b (Lib.byteCells (l ++ digs n)) w' ∧ Below B w w' := by
  induction n using Nat.strongRecOn with
  | ind n ih =>
    intro B b l w hn hlen hB h
    by_cases h9 : 9 < n
    · have H := Lib.hid (ih (n / 10) (by omega))
      clear ih
      have hlt : (9 : Int) < (n : Int) := by omega
      rw [digs_big h9] at hlen ⊢
      have HL := Lib.hid hlen
      clear hlen
      go_enter Tryd.func25, Tryd.ntmps25
      go_wp2_with fail
      rw [show ((n : Int) / 10) = ((n / 10 : Nat) : Int) from by omega]
      refine (H.out B b l _ (by omega) (by have h2 := HL.out; simp at h2; omega) hB h).mono ?_
      rintro e u1 ⟨rfl, h1, hb1⟩
      have hz := hb1.size
      go_wp2_with fail
      rw [show ((48 : Int) + (n : Int) % 10) = ((dig n).toNat : Int) from by rw [dig_toNat]; omega]
      refine (writeRune_ascii B b _ _ (by omega) (by rw [dig_toNat]; omega) _ h1 (by have h2 := HL.out; simp [Lib.byteCells_length] at h2 ⊢; omega) (by omega)).mono ?_
      rintro e u2 ⟨rfl, h2, hb2⟩
      go_wp2_with fail
      go_end0
      refine ⟨rfl, ?_, hb1.trans hb2⟩
      rw [← List.append_assoc, Lib.byteCells_append]
      exact h2
    · have hlt : ¬ (9 : Int) < (n : Int) := by omega
      clear ih
      rw [digs_small h9] at hlen ⊢
      have HL := Lib.hid hlen
      clear hlen
      go_enter Tryd.func25, Tryd.ntmps25
      go_wp2_with fail
      rw [show ((48 : Int) + (n : Int) % 10) = ((dig n).toNat : Int) from by rw [dig_toNat]; omega]
      refine (writeRune_ascii B b _ _ (by omega) (by rw [dig_toNat]; omega) _ h (by have h2 := HL.out; simp [Lib.byteCells_length] at h2 ⊢; omega) (by omega)).mono ?_
      rintro e u2 ⟨rfl, h2, hb2⟩
      go_wp2_with fail
      go_end0
      refine ⟨rfl, ?_, hb2⟩
      rw [Lib.byteCells_append]
      exact h2

theorem negSize (n : Int) (h1 : -9223372036854775808 ≤ n) (hn : n < 0) : IntKind.u64.wrap (-IntKind.u64.wrap n) = (n.natAbs : Int) := by
  rw [IntKind.wrap_u64, IntKind.wrap_u64]
  omega

theorem natAbs_digits {n : Int} (h1 : -9223372036854775808 ≤ n) (h2 : n ≤ 9223372036854775807) : (digs n.natAbs).length ≤ 20 :=
  digs_length 19 _ (by omega)

/-- writeDigits at a number that is spelled otherwise. -/
theorem writeDigits_at (n : Nat) (m : Int) (B b : Nat) (l : List UInt8) (w : World) (hm : m = n) (hn : n ≤ 18446744073709551615) (hlen : l.length + (digs n).length + 4 ≤ 140737488355328) (hB : B ≤ w.heap.size) (h : Holds B b (Lib.byteCells l) w) :
    Calls Tryd.prog 25 #[.pointer (some ⟨b, 0, none⟩), .int .u64 m] w fun e w' => e = .returned (.tuple #[]) ∧ Holds B b (Lib.byteCells (l ++ digs n)) w' ∧ Below B w w' := by
  subst hm
  exact writeDigits_any n B b l w hn hlen hB h

/-- impl.Decimal. -/
theorem implDecimal_any (n : Int) (w : World) (h1 : -9223372036854775808 ≤ n) (h2 : n ≤ 9223372036854775807) :
    Calls Tryd.prog 18 #[.int .i64 n] w fun e w' => e = .returned (.string ⟨(decText n).toArray⟩) ∧ Below w.heap.size w w' := by
  have hl := natAbs_digits h1 h2
  have hB0 := Lib.hid (Lib.IsBuilderF.of (Lib.fresh_isBuilder 50 5 w))
  by_cases hn : n < 0
  · rw [decText_neg hn]
    go_enter Tryd.func18, Tryd.ntmps18
    go_wp2_with fail
    refine (writeRune_ascii w.heap.size w.heap.size [] 45 (by omega) (by omega) _ hB0.out (by simp) (by simp)).mono ?_
    rintro e u1 ⟨rfl, k1, hb1⟩
    have hz := hb1.size
    go_wp2_with fail
    refine (writeDigits_at n.natAbs _ w.heap.size w.heap.size [45] _ (negSize n h1 hn) (by omega) (by simp; omega) (by simp at hz; omega) k1).mono ?_
    rintro e u2 ⟨rfl, k2, hb2⟩
    have hz2 := hb2.size
    go_wp2_with (go_at_call 26; refine (Tryd.Builder_String_any_k w.heap.size w.heap.size _ _ k2 (by simp at hz; omega)).mono ?_)
    rintro e u3 ⟨rfl, _, hb3, _⟩
    go_wp2_with fail
    go_ret
    exact ⟨rfl, ((((Below.refl _ _).alloc (Nat.le_refl _) _).trans hb1).trans hb2).trans hb3⟩
  · rw [decText_pos hn]
    go_enter Tryd.func18, Tryd.ntmps18
    go_wp2_with fail
    refine (writeDigits_at n.natAbs _ w.heap.size w.heap.size [] _ (by omega) (by omega) (by simp; omega) (by simp) hB0.out).mono ?_
    rintro e u2 ⟨rfl, k2, hb2⟩
    have hz2 := hb2.size
    go_wp2_with (go_at_call 26; refine (Tryd.Builder_String_any_k w.heap.size w.heap.size _ _ k2 (by simp at hz2; omega)).mono ?_)
    rintro e u3 ⟨rfl, _, hb3, _⟩
    go_wp2_with fail
    go_ret
    exact ⟨rfl, (((Below.refl _ _).alloc (Nat.le_refl _) _).trans hb2).trans hb3⟩

end Go.Proofs.YthphihfcgpoefaaDoor
