/- The small fractions and numbers that the statements draw. -/
import Derived.Test.YtibafngidpmgdaaProg
import Derived.Test.YtibafngidpmgdaaSrc
import Derived.Test.YtibafngidpmgdaaFull
import Derived.Test.YtibafngidpmgdaaNum
import Derived.Deep.RegionWith
import Derived.Deep.DrawnRows
import Derived.Laws.StructEq
import Derived.Tactics
import Derived.Tactics2
import Derived.WalkKit
import Derived.LoopTactic
import Derived.BigQuiet
import Derived.RegionTactic
import Derived.BigRegion
import Derived.Deep.QuietTactic
import Derived.Outline
import Derived.Lib.Hide
import Derived.Below
import Derived.KernelRfl
namespace Go.Proofs.Ytibafngidpmgdaa
open Go.RowKit
set_option linter.unusedSimpArgs false
set_option linter.unusedVariables false

theorem bkOnly {b c : Nat} {W u : World} {x y : Int} (hb : Only b W u) (hc : c ≠ b) (h : Bk W c x y) : Bk u c x y := by
  obtain ⟨h1, h2, h3, h4, h5⟩ := h
  have hk := hb.block c h5 (fun e => hc (by injection e))
  exact ⟨by rw [World.cell?_of_block (w := W) hk]; exact h1, by rw [World.cell?_of_block (w := W) hk]; exact h2, by rw [World.frozen?_of_block (w := W) hk]; exact h3, by rw [World.frozen?_of_block (w := W) hk]; exact h4, Nat.lt_of_lt_of_le h5 hb.size⟩

theorem Only.alloc {b : Nat} {a w : World} (h : Only b a w) (o : Obj) : Only b a (w.alloc o) :=
  ⟨h.os, h.tape, h.output, by have := h.size; simp; omega, fun i hi hne => by
    rw [← h.block i hi hne]
    have := h.size
    show (w.heap.push o)[i]? = _
    rw [Array.getElem?_push, if_neg (by omega)]⟩
theorem Only.setNew {b : Nat} {a w : World} (h : Only b a w) {p : Addr} (hp : a.heap.size ≤ p.block) (u : Value) : Only b a (w.setCell p u) :=
  ⟨h.os, h.tape, h.output, by simpa [World.setCell] using h.size, fun i hi hne => (Below.heap_setCell w p u i (by omega)).trans (h.block i hi hne)⟩

theorem Src.alloc {w : World} {b : Nat} {a : Option Addr} {len cap k : Nat} {seed : Int} (h : Src w b a len cap k seed) (o : Obj) : Src (w.alloc o) b a len cap k seed := by
  have hb := h.lt
  unfold Src at *
  show (w.heap.push o)[b]? = _
  rw [Array.getElem?_push, if_neg (by omega)]
  exact h

theorem belowOnly {w u : World} (h : Below w.heap.size w u) {b : Nat} (hb : b < w.heap.size) : Only b w u :=
  ⟨h.os, h.tape, h.output, h.size, fun i hi _ => h.block i hi⟩

theorem Src.below {w u : World} {b : Nat} {a : Option Addr} {len cap k : Nat} {seed : Int} (h : Src w b a len cap k seed) (hb : Below w.heap.size w u) : Src u b a len cap k seed := by
  have := hb.block b h.lt
  unfold Src at *
  rw [this, h]

theorem Row.below {w u : World} {a : Option Addr} {len cap : Nat} {zs : List Int} (h : Row w a len cap zs) (k : Below w.heap.size w u) : Row u a len cap zs := by
  rcases h with h | ⟨c, off, rfl, h1, h2, h3, h4, h5, h6⟩
  · exact .inl h
  · refine .inr ⟨c, off, rfl, h1, h2, h3, Nat.lt_of_lt_of_le h4 k.size, fun i hi => ?_, h6⟩
    rw [World.cell?_of_block (w := w) (k.block c h4)]
    exact h5 i hi

theorem Row.only {b : Nat} {w w' : World} {a : Option Addr} {len cap : Nat} {zs : List Int} (h : Row w a len cap zs) (k : Only b w w') (hb : cap ≠ 0 → ∀ x, a = some x → x.block ≠ b) : Row w' a len cap zs := h.keep k hb

theorem lowest_small {n d : Int} (h1 : -1000000 ≤ n) (h2 : n ≤ 1000000) (h3 : 1 ≤ d) (h4 : d ≤ 1000000) :
    okB (n.tdiv (divI n d)) (d.tdiv (divI n d)) = true := by
  have p := tdiv_divI_pos (n := n) (show 0 < d by omega)
  have c := lowest_coprime (n := n) (show d ≠ 0 by omega)
  obtain ⟨t1, t2⟩ := tdivI_le n d
  unfold okB
  rw [inB_iff.2 (by omega), inB_iff.2 (by omega), decide_eq_true c]
  rfl

/-- What a drawn fraction is. -/
def DrawnFr (b : Nat) (a : Option Addr) (len cap k : Nat) (w : World) (e : Ending) (w' : World) : Prop :=
  ∃ n d seed : Int, e = .returned (fr n d) ∧ okB n d = true ∧ -44 ≤ n ∧ n ≤ 44 ∧ 1 ≤ d ∧ d ≤ 20 ∧ Src w' b a len cap k seed ∧ Only b w w'

/-- laws.a2Long. -/
theorem a2Long_any (a b : Option Addr) (l c m k : Nat) (w : World) :
    Calls Try.prog 59 #[.slice a l c, .slice b m k] w fun e w' => e = .returned (.bool (decide (3000 < (l : Int)) || decide (3000 < (m : Int)))) ∧ w = w' := by
  go_enter Try.func59, Try.ntmps59
  go_wp2
  all_goals
    go_ret
    refine ⟨ret_bool ?_, rfl⟩
    simp [*]

/-- laws.a2At: a number from 0 to n - 1. -/
theorem a2At_any (a : Option Addr) (len cap : Nat) (zs : List Int) (at' n : Int) (w : World) (hr : Row w a len cap zs) (h0 : 0 ≤ at') (h1 : at' ≤ 1000) (hn : 1 ≤ n) (hn2 : n ≤ 1000000) (hl : len ≤ 3000) :
    Calls Try.prog 61 #[.slice a len cap, .int .i64 at', .int .i64 n] w fun e w' => ∃ v, 0 ≤ v ∧ v < n ∧ e = .returned (.int .i64 v) ∧ Below w.heap.size w w' := by
  obtain ⟨k, rfl⟩ := Int.eq_ofNat_of_zero_le h0
  by_cases hk : k < len
  · rcases hr with ⟨h0, _⟩ | ⟨xb, off, rfl, h1, h2, h3, h4, h5, h6⟩
    · omega
    · have hc := h5 k (by omega)
      have hz := h6 k
      generalize zs.getD k 0 = z at *
      have hm := Int.emod_nonneg z (show n ≠ 0 by omega)
      have hm2 := Int.emod_lt_of_pos z (show 0 < n by omega)
      have hle : k + 1 ≤ len := hk
      clear h5 h6
      go_enter Try.func61, Try.ntmps61
      go_wp2
      go_ret
      exact ⟨z % n, hm, hm2, rfl, Below.refl _ _⟩
  · go_enter Try.func61, Try.ntmps61
    go_wp2
    go_ret
    exact ⟨0, by omega, by omega, rfl, Below.refl _ _⟩
end Go.Proofs.Ytibafngidpmgdaa
