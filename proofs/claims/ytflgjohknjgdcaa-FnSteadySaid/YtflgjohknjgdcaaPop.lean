/- bits.OnesCount64: its own walk. -/
import Derived.Test.YtflgjohknjgdcaaProg
import Derived.Test.YtflgjohknjgdcaaSetMath
import Derived.Laws.BitsAllLaws
import Derived.Laws.BitsLemmas
import Derived.Test.YtflgjohknjgdcaaLeaf
import Derived.Tactics
import Derived.Tactics2
import Derived.WalkKit
import Derived.BigQuiet
import Derived.RegionTactic
import Derived.Outline
import Derived.Lib.Hide
import Derived.Below
import Derived.KernelRfl
namespace Go.Proofs.Ytflgjohknjgdcaa
set_option linter.unusedSimpArgs false
set_option linter.unusedVariables false
open Go.RowKit

theorem u64in {n : Nat} (h : n < 18446744073709551616) : IntKind.u64.wrap ((n : Nat) : Int) = (n : Int) := by rw [IntKind.wrap_u64]; omega
theorem u64sum {a b c : Nat} (e : a + b = c) (h : c < 18446744073709551616) : IntKind.u64.wrap ((a : Int) + (b : Int)) = (c : Int) := by
  rw [IntKind.wrap_u64]; omega
theorem u64mask (a m : Nat) (ha : a < 18446744073709551616) (hm : m < 18446744073709551616) : bits .and .u64 (a : Int) (m : Int) = ((a &&& m : Nat) : Int) := u64_and_nat a m ha hm
theorem and_le (a m : Nat) : a &&& m ≤ m := Nat.and_le_right
theorem div_cast (a k : Nat) : (a : Int) / ((k : Nat) : Int) = ((a / k : Nat) : Int) := rfl

set_option maxHeartbeats 4000000 in
theorem onesCount_any (x : Nat) (w : World) (hx : x < 18446744073709551616) :
    Calls Try.prog 102 #[.int .u64 x] w fun e w' => e = .returned (.int .i64 (pop64 x)) ∧ w = w' := by
  obtain ⟨a1, ha1⟩ : ∃ a, a = (x / 2) &&& 6148914691236517205 := ⟨_, rfl⟩
  obtain ⟨a2, ha2⟩ : ∃ a, a = x &&& 6148914691236517205 := ⟨_, rfl⟩
  have la1 := and_le (x / 2) 6148914691236517205
  have la2 := and_le x 6148914691236517205
  have p1 : bits .and .u64 ((x : Int) / 2) 6148914691236517205 = (a1 : Int) := by rw [ha1]; exact u64mask (x / 2) 6148914691236517205 (by omega) (by decide)
  have p2 : bits .and .u64 (x : Int) 6148914691236517205 = (a2 : Int) := by rw [ha2]; exact u64mask x 6148914691236517205 hx (by decide)
  rw [← ha1] at la1
  rw [← ha2] at la2
  obtain ⟨a, ha⟩ : ∃ a, a1 + a2 = a := ⟨_, rfl⟩
  have p3 : IntKind.u64.wrap ((a1 : Int) + (a2 : Int)) = (a : Int) := u64sum ha (by omega)
  obtain ⟨b1, hb1⟩ : ∃ b, b = (a / 4) &&& 3689348814741910323 := ⟨_, rfl⟩
  obtain ⟨b2, hb2⟩ : ∃ b, b = a &&& 3689348814741910323 := ⟨_, rfl⟩
  have lb1 := and_le (a / 4) 3689348814741910323
  have lb2 := and_le a 3689348814741910323
  have p4 : bits .and .u64 ((a : Int) / 4) 3689348814741910323 = (b1 : Int) := by rw [hb1]; exact u64mask (a / 4) 3689348814741910323 (by omega) (by decide)
  have p5 : bits .and .u64 (a : Int) 3689348814741910323 = (b2 : Int) := by rw [hb2]; exact u64mask a 3689348814741910323 (by omega) (by decide)
  rw [← hb1] at lb1
  rw [← hb2] at lb2
  obtain ⟨b, hb⟩ : ∃ b, b1 + b2 = b := ⟨_, rfl⟩
  have p6 : IntKind.u64.wrap ((b1 : Int) + (b2 : Int)) = (b : Int) := u64sum hb (by omega)
  obtain ⟨c0, hc0⟩ : ∃ c, b / 16 + b = c := ⟨_, rfl⟩
  have p7 : IntKind.u64.wrap ((b : Int) / 16 + (b : Int)) = (c0 : Int) := u64sum (a := b / 16) hc0 (by omega)
  obtain ⟨c, hc⟩ : ∃ c, c = c0 &&& 1085102592571150095 := ⟨_, rfl⟩
  have lc := and_le c0 1085102592571150095
  have p8 : bits .and .u64 (c0 : Int) 1085102592571150095 = (c : Int) := by rw [hc]; exact u64mask c0 1085102592571150095 (by omega) (by decide)
  rw [← hc] at lc
  obtain ⟨d, hd⟩ : ∃ d, c + c / 256 = d := ⟨_, rfl⟩
  have p9 : IntKind.u64.wrap ((c : Int) + (c : Int) / 256) = (d : Int) := u64sum (b := c / 256) hd (by omega)
  obtain ⟨e, he⟩ : ∃ e, d + d / 65536 = e := ⟨_, rfl⟩
  have p10 : IntKind.u64.wrap ((d : Int) + (d : Int) / 65536) = (e : Int) := u64sum (b := d / 65536) he (by omega)
  obtain ⟨g, hg⟩ : ∃ g, e + e / 4294967296 = g := ⟨_, rfl⟩
  have p11 : IntKind.u64.wrap ((e : Int) + (e : Int) / 4294967296) = (g : Int) := u64sum (b := e / 4294967296) hg (by omega)
  have p12 : IntKind.i64.wrap (g : Int) = (g : Int) := by rw [IntKind.wrap_i64]; omega
  have p13 : bits .and .i64 (g : Int) 127 = ((g % 128 : Nat) : Int) := bits_mask .i64 63 (by decide) (fun n h0 h1 => by rw [IntKind.wrap_i64]; omega) 7 (by decide) g (by omega) (by omega)
  have hp : pop64 x = g % 128 := by
    unfold pop64
    simp only
    rw [← ha1, ← ha2, ha, ← hb1, ← hb2, hb, hc0, ← hc, hd, he, hg]
  have HP := Lib.hid hp
  clear hp la1 la2 lb1 lb2 lc ha1 ha2 ha hb1 hb2 hb hc0 hc hd he hg
  go_enter Try.func102, Try.ntmps102
  go_wp2
  go_ret
  refine ⟨ret_int ?_, rfl⟩
  rw [HP.out]
  rfl

end Go.Proofs.Ytflgjohknjgdcaa
