/- What the small functions of chapters 1 and 2 return: contracts, the leaves first. -/
import Derived.Test.YtflgjohknjgdcaaProg
import Derived.Test.YtflgjohknjgdcaaMath
import Derived.Tactics
import Derived.Tactics2
import Derived.WalkKit
import Derived.LoopTactic
import Derived.BigQuiet
import Derived.RegionTactic
import Derived.BigRegion
import Derived.ChangeAlike
import Derived.Deep.QuietTactic
import Derived.Deep.RegionHeld3
import Derived.Deep.DeepCutAuto
import Derived.Outline
import Derived.Lib.Hide
import Derived.Below
import Derived.KernelRfl
namespace Go.Proofs.Ytflgjohknjgdcaa
set_option linter.unusedSimpArgs false
set_option linter.unusedVariables false
open Go.RowKit

/-- A contract that leaves the world alone, met in a region that only draws. -/
theorem quietEq {P : Program} {f : FuncId} {args : Array Value} {w : World} {n : Nat} {v : Value}
    (h : Calls P f args (w.drewN n) fun e w' => e = .returned v ∧ w.drewN n = w') :
    Calls P f args (w.drewN n) fun e u => e = .returned v ∧ ∃ m, u = w.drewN m :=
  h.mono fun _ _ hh => ⟨hh.1, n, hh.2.symm⟩

theorem ret_int {k : IntKind} {a b : Int} (h : a = b) : Ending.returned (.int k a) = .returned (.int k b) := by rw [h]

/-- spec.l00Gcd. -/
theorem l00Gcd_any (a b : Nat) (w : World) (ha : a ≤ 9223372036854775807) (hb : b ≤ 9223372036854775807) :
    Calls Try.prog 92 #[.int .i64 a, .int .i64 b] w fun e w' => e = .returned (.int .i64 (Nat.gcd a b : Nat)) ∧ w = w' := by
  go_enter Try.func92, Try.ntmps92
  go_wp2
  go_loop [0, 1] (fun s t => ∃ x y : Nat, x ≤ 9223372036854775807 ∧ y ≤ 9223372036854775807 ∧ s = .int .i64 x ∧ t = .int .i64 y ∧ Hid (Nat.gcd x y = Nat.gcd a b)) (fun _ t => (intOf t).toNat)
  case atStart => exact ⟨a, b, ha, hb, rfl, rfl, Lib.hid rfl⟩
  case round =>
    obtain ⟨x, y, hx, hy, rfl, rfl, H⟩ := hrel
    by_cases h0 : y = 0
    · subst h0
      go_wp2
      go_ret
      exact ⟨ret_int (by rw [← H.out, Nat.gcd_zero_right]), rfl⟩
    · have hy1 : 1 ≤ y := by omega
      have hyb : ((y : Int) != 0) = true := by rw [bne_iff_ne]; omega
      have hlt := Nat.mod_lt x (show y > 0 by omega)
      go_wp2
      go_round
      case rel => exact ⟨y, x % y, hy, by omega, rfl, by rw [Int.natCast_emod], Lib.hid (by rw [gcd_step]; exact H.out)⟩
      case measure => simp [intOf]; omega

/-- impl.greatestDivisor: its exchange draws its order. -/
theorem greatestDivisor_any (a b : Nat) (w : World) (ha : a ≤ 9223372036854775807) (hb : b ≤ 9223372036854775807) :
    Calls Try.prog 87 #[.int .i64 a, .int .i64 b] w fun e w' => e = .returned (.int .i64 (Nat.gcd a b : Nat)) ∧ ∃ n, w' = w.drewN n := by
  go_enter Try.func87, Try.ntmps87
  go_wp2
  go_loopw [0, 1] (fun s t wr => ∃ x y : Nat, x ≤ 9223372036854775807 ∧ y ≤ 9223372036854775807 ∧ s = .int .i64 x ∧ t = .int .i64 y ∧ Hid (Nat.gcd x y = Nat.gcd a b) ∧ ∃ n, Hid (wr = w.drewN n)) (fun _ t _ => (intOf t).toNat)
  case atStart => exact ⟨a, b, ha, hb, rfl, rfl, Lib.hid rfl, 0, Lib.hid rfl⟩
  case round =>
    obtain ⟨x, y, hx, hy, rfl, rfl, H, n, HW⟩ := hrel
    by_cases h0 : y = 0
    · subst h0
      go_wp2
      go_ret
      exact ⟨ret_int (by rw [← H.out, Nat.gcd_zero_right]), n, HW.out⟩
    · have hy1 : 1 ≤ y := by omega
      have hyb : ((y : Int) != 0) = true := by rw [bne_iff_ne]; omega
      have hlt := Nat.mod_lt x (show y > 0 by omega)
      go_wp2
      go_quiet (fail)
      go_wp2
      go_roundw
      case rel => exact ⟨y, x % y, hy, by omega, rfl, by rw [Int.natCast_emod], Lib.hid (by rw [gcd_step]; exact H.out), _, Lib.hid (by rw [HW.out, World.drewN_drewN])⟩
      case measure => simp [intOf]; omega

/-- impl.absolute. -/
theorem absolute_any (a : Int) (w : World) (h1 : -9223372036854775807 ≤ a) (h2 : a ≤ 9223372036854775807) :
    Calls Try.prog 94 #[.int .i64 a] w fun e w' => e = .returned (.int .i64 (a.natAbs : Nat)) ∧ w = w' := by
  by_cases h : a < 0
  · go_enter Try.func94, Try.ntmps94
    go_wp2
    go_ret
    exact ⟨ret_int (by omega), rfl⟩
  · go_enter Try.func94, Try.ntmps94
    go_wp2
    go_ret
    exact ⟨ret_int (by omega), rfl⟩

/-- spec.l00Size. -/
theorem l00Size_any (a : Int) (w : World) (h1 : -9223372036854775807 ≤ a) (h2 : a ≤ 9223372036854775807) :
    Calls Try.prog 93 #[.int .i64 a] w fun e w' => e = .returned (.int .i64 (a.natAbs : Nat)) ∧ w = w' := by
  by_cases h : a < 0
  · go_enter Try.func93, Try.ntmps93
    go_wp2
    go_ret
    exact ⟨ret_int (by omega), rfl⟩
  · go_enter Try.func93, Try.ntmps93
    go_wp2
    go_ret
    exact ⟨ret_int (by omega), rfl⟩

/-- A number lies within two bounds. -/
def inB (n lo hi : Int) : Bool := decide (lo ≤ n) && decide (n ≤ hi)
theorem inB_iff {n lo hi : Int} : inB n lo hi = true ↔ lo ≤ n ∧ n ≤ hi := by simp [inB]
theorem inB_not {n lo hi : Int} : inB n lo hi = false ↔ ¬ (lo ≤ n ∧ n ≤ hi) := by rw [← inB_iff]; simp

theorem ret_bool {a b : Bool} (h : a = b) : Ending.returned (.bool a) = .returned (.bool b) := by rw [h]

/-- spec.l00In. -/
theorem l00In_any (n lo hi : Int) (w : World) :
    Calls Try.prog 75 #[.int .i64 n, .int .i64 lo, .int .i64 hi] w fun e w' => e = .returned (.bool (inB n lo hi)) ∧ w = w' := by
  by_cases h1 : lo ≤ n
  · by_cases h2 : n ≤ hi
    · go_enter Try.func75, Try.ntmps75
      go_wp2
      go_ret
      exact ⟨ret_bool (by simp [inB, h1, h2]), rfl⟩
    · go_enter Try.func75, Try.ntmps75
      go_wp2
      go_ret
      exact ⟨ret_bool (by simp [inB, h2]), rfl⟩
  · go_enter Try.func75, Try.ntmps75
    go_wp2
    go_ret
    have h3 : ¬ lo ≤ n := by omega
    exact ⟨ret_bool (by simp [inB, h3]), rfl⟩

theorem info25 : (Try.prog.info? 27).map (fun i => (i.zero, i.size, i.bytes)) = some (some (.agg #[.int .i64 0, .int .i64 0]), 2, 16) := by kernel_rfl

/-! What a call may do to memory: it makes new blocks and draws; what was there before is as it was. -/
theorem bAlloc {a w : World} (h : Below a.heap.size a w) (o : Obj) : Below a.heap.size a (w.alloc o) := h.alloc h.size o
theorem bSet {a w : World} (h : Below a.heap.size a w) {p : Addr} (hp : a.heap.size ≤ p.block) (u : Value) : Below a.heap.size a (w.setCell p u) := h.setCell hp u
theorem bDrewN {a w : World} (h : Below a.heap.size a w) (n : Nat) : Below a.heap.size a (w.drewN n) := ⟨h.os, h.tape, h.output, h.size, h.block⟩
theorem bTrans {a w u : World} (h : Below a.heap.size a w) (k : Below w.heap.size w u) : Below a.heap.size a u := h.trans (k.mono h.size)
theorem bCells {W w1 : World} (hb : Below W.heap.size W w1) :
    (∀ b o, b < W.heap.size → w1.cell? ⟨b, o, none⟩ = W.cell? ⟨b, o, none⟩) ∧ (∀ b o, b < W.heap.size → w1.frozen? ⟨b, o, none⟩ = W.frozen? ⟨b, o, none⟩) :=
  ⟨fun b o h => hb.cell (p := ⟨b, o, none⟩) h, fun b o h => hb.frozen (p := ⟨b, o, none⟩) h⟩

/-- A fraction as a value. -/
abbrev fr (n d : Int) : Value := .agg #[.int .i64 n, .int .i64 d]

/-- A block of two numbers, known and open to stores. -/
def Bk (w : World) (b : Nat) (x y : Int) : Prop :=
  w.cell? ⟨b, 0, none⟩ = some (.int .i64 x) ∧ w.cell? ⟨b, 1, none⟩ = some (.int .i64 y) ∧ w.frozen? ⟨b, 0, none⟩ = false ∧ w.frozen? ⟨b, 1, none⟩ = false ∧ b < w.heap.size
theorem bkOf {W u : World} (hb : Below W.heap.size W u) {b : Nat} {x y : Int} (h : Bk W b x y) : Bk u b x y := by
  obtain ⟨h1, h2, h3, h4, h5⟩ := h
  exact ⟨(hb.cell h5).trans h1, (hb.cell h5).trans h2, (hb.frozen h5).trans h3, (hb.frozen h5).trans h4, Nat.lt_of_lt_of_le h5 hb.size⟩

/-- laws.toFraction. -/
theorem toFraction_any (n d : Int) (w : World) :
    Calls Try.prog 50 #[fr n d] w fun e w' => e = .returned (fr n d) ∧ Below w.heap.size w w' := by
  go_enter Try.func50, Try.ntmps50
  go_wp2
  refine bodyPost_ret (v := fr n d) (by simp [results, Try.results50, go_sem]) rfl ⟨rfl, ?_⟩
  repeat (first | exact Below.refl _ _ | refine bAlloc ?_ _)

/-- A fraction is valid. -/
def okB (n d : Int) : Bool := inB d 1 1000000 && inB n (-1000000) 1000000 && decide (Nat.gcd n.natAbs d.natAbs = 1)

/-- The terms of a fraction are within their bounds. -/
def termsB (n d : Int) : Bool := inB d 1 1000000 && inB n (-1000000) 1000000

/-- impl.Fraction.hasValidTerms. -/
theorem hasValidTerms_any (n d : Int) (w : World) :
    Calls Try.prog 90 #[fr n d] w fun e w' => e = .returned (.bool (termsB n d)) ∧ Below w.heap.size w w' := by
  by_cases d1 : 1 ≤ d
  · by_cases d2 : d ≤ 1000000
    · by_cases n1 : -1000000 ≤ n
      · by_cases n2 : n ≤ 1000000
        all_goals
          go_enter Try.func90, Try.ntmps90
          go_wp2
          go_ret
          exact ⟨ret_bool (by simp [termsB, inB]; omega), bAlloc (Below.refl _ _) _⟩
      · go_enter Try.func90, Try.ntmps90
        go_wp2
        go_ret
        exact ⟨ret_bool (by simp [termsB, inB]; omega), bAlloc (Below.refl _ _) _⟩
    · go_enter Try.func90, Try.ntmps90
      go_wp2
      go_ret
      exact ⟨ret_bool (by simp [termsB, inB]; omega), bAlloc (Below.refl _ _) _⟩
  · go_enter Try.func90, Try.ntmps90
    go_wp2
    go_ret
    exact ⟨ret_bool (by simp [termsB, inB]; omega), bAlloc (Below.refl _ _) _⟩

end Go.Proofs.Ytflgjohknjgdcaa
