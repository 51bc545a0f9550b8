/- The source of choices that the statements draw their inputs from: whatever bytes it reads, its numbers are within their bounds. -/
import Derived.Test.YtflgjohknjgdcaaLeaf
import Derived.Tactics
import Derived.Tactics2
import Derived.WalkKit
import Derived.BigQuiet
import Derived.Deep.QuietTactic
import Derived.Lib.Builder
import Derived.Laws.Bits64
import Derived.Laws.AppendOwn
import Derived.Outline
import Derived.Lib.Hide
import Derived.Below
import Derived.KernelRfl
namespace Go.Proofs.Ytflgjohknjgdcaa
open Go.RowKit
set_option linter.unusedSimpArgs false
set_option linter.unusedVariables false

/-- A slice of bytes that came in: nil, or a row of cells. -/
def Row (w : World) (a : Option Addr) (len cap : Nat) (zs : List Int) : Prop :=
  (len = 0 ∧ cap = 0) ∨
  ∃ b off, a = some ⟨b, off, none⟩ ∧ len ≤ cap ∧ cap ≤ maxLen ∧ zs.length = cap ∧ b < w.heap.size ∧ (∀ i, i < cap → w.cell? ⟨b, off + i, none⟩ = some (.int .u8 (zs.getD i 0))) ∧ ∀ i, 0 ≤ zs.getD i 0 ∧ zs.getD i 0 ≤ 255

/-- A source: its bytes, how many have been read, its seed. -/
def Src (w : World) (b : Nat) (a : Option Addr) (len cap : Nat) (k : Nat) (seed : Int) : Prop :=
  w.heap[b]? = some (.cells #[.slice a len cap, .int .i64 k, .int .u64 seed] 97 (0, 0))

theorem Src.c0 {w : World} {b : Nat} {a : Option Addr} {len cap k : Nat} {seed : Int} (h : Src w b a len cap k seed) : w.cell? ⟨b, 0, none⟩ = some (.slice a len cap) := by rw [Lib.cell_of_heap h]; rfl
theorem Src.c1 {w : World} {b : Nat} {a : Option Addr} {len cap k : Nat} {seed : Int} (h : Src w b a len cap k seed) : w.cell? ⟨b, 1, none⟩ = some (.int .i64 k) := by rw [Lib.cell_of_heap h]; rfl
theorem Src.c2 {w : World} {b : Nat} {a : Option Addr} {len cap k : Nat} {seed : Int} (h : Src w b a len cap k seed) : w.cell? ⟨b, 2, none⟩ = some (.int .u64 seed) := by rw [Lib.cell_of_heap h]; rfl
theorem Src.lt {w : World} {b : Nat} {a : Option Addr} {len cap k : Nat} {seed : Int} (h : Src w b a len cap k seed) : b < w.heap.size := (Array.getElem?_eq_some_iff.1 h).1
theorem Src.step {w : World} {b : Nat} {a : Option Addr} {len cap k : Nat} {seed : Int} (h : Src w b a len cap k seed) (x y : Int) (m : Nat) (hx : x = m) :
    Src ((w.setCell ⟨b, 1, none⟩ (.int .i64 x)).setCell ⟨b, 2, none⟩ (.int .u64 y)) b a len cap m y := by
  subst hx
  unfold Src at *
  simp [World.setCell, Array.getElem?_modify, h]

theorem Src.drew {w : World} {b : Nat} {a : Option Addr} {len cap k : Nat} {seed : Int} (h : Src w b a len cap k seed) {n : Nat} : Src (w.drewN n) b a len cap k seed := h

/-- Only the block b has changed, and what is new. -/
abbrev Only (b : Nat) (w w' : World) : Prop := w.grownBy w' (some b)
theorem Only.refl (b : Nat) (w : World) : Only b w w := ⟨rfl, rfl, rfl, Nat.le_refl _, fun _ _ _ => rfl⟩
theorem Only.drewN {b : Nat} {a w : World} (h : Only b a w) (n : Nat) : Only b a (w.drewN n) := ⟨h.os, h.tape, h.output, h.size, h.block⟩
theorem Only.set {b : Nat} {a w : World} (h : Only b a w) (o : Nat) (u : Value) : Only b a (w.setCell ⟨b, o, none⟩ u) :=
  ⟨h.os, h.tape, h.output, by simpa [World.setCell] using h.size, fun i hi hne => (Below.heap_setCell w ⟨b, o, none⟩ u i (fun e => hne (by rw [e]))).trans (h.block i hi hne)⟩
theorem Only.trans {b : Nat} {a w u : World} (h : Only b a w) (k : Only b w u) : Only b a u :=
  ⟨k.os.trans h.os, k.tape.trans h.tape, k.output.trans h.output, Nat.le_trans h.size k.size, fun i hi hne => (k.block i (Nat.lt_of_lt_of_le hi h.size) hne).trans (h.block i hi hne)⟩
theorem Only.below {b : Nat} {a w : World} (h : Only b a w) {B : Nat} (hB : B ≤ b) (hs : B ≤ a.heap.size) : Below B a w :=
  ⟨h.os, h.tape, h.output, h.size, fun i hi => h.block i (Nat.lt_of_lt_of_le hi hs) (fun e => by injection e; omega)⟩
theorem Row.keep {b : Nat} {w w' : World} {a : Option Addr} {len cap : Nat} {zs : List Int} (h : Row w a len cap zs) (k : Only b w w') (hb : cap ≠ 0 → ∀ x, a = some x → x.block ≠ b) : Row w' a len cap zs := by
  rcases h with h | ⟨c, off, rfl, h1, h2, h3, h4, h5, h6⟩
  · exact .inl h
  by_cases h0 : cap = 0
  · exact .inl ⟨by omega, h0⟩
  · refine .inr ⟨c, off, rfl, h1, h2, h3, Nat.lt_of_lt_of_le h4 k.size, fun i hi => ?_, h6⟩
    have hc := h5 i hi
    have hne := hb h0 _ rfl
    rw [World.cell?_of_block (w := w) (k.block c h4 (fun e => hne (by injection e)))]
    exact hc

/-- A slice of bytes, as a statement's input brings it. -/
theorem Row.of {w : World} {x : Addr} {len cap : Nat} {zs : List Int} (hl : len ≤ cap) (hm : cap ≤ maxLen) (hz : zs.length = cap) (hc : ∀ i, i < zs.length → w.cell? (x.add i) = some (.int .u8 (zs.getD i 0))) (hw : ∀ n ∈ zs, (Lit.int .u8 n).wf = true) : Row w (some x) len cap zs := by
  by_cases h0 : cap = 0
  · exact .inl ⟨by omega, h0⟩
  obtain ⟨b, off, spot⟩ := x
  have hspot : spot = none := by simpa [Addr.add] using World.cell?_spot (hc 0 (by omega))
  subst hspot
  have hlt : b < w.heap.size := by simpa [Addr.add] using World.block_lt_of_cell? w _ (hc 0 (by omega))
  refine .inr ⟨b, off, rfl, hl, hm, hz, hlt, fun i hi => ?_, fun i => ?_⟩
  · have := hc i (by omega)
    unfold Addr.add at this
    split at this
    · rename_i e; subst e; exact this
    · exact this
  · by_cases hi : i < zs.length
    · have h2 := hw (zs.getD i 0) (by rw [List.getD_eq_getElem?_getD, List.getElem?_eq_getElem hi]; exact List.getElem_mem hi)
      have h3 : 0 ≤ zs.getD i 0 ∧ zs.getD i 0 ≤ 255 := by
        generalize zs.getD i 0 = z at *
        simp only [Lit.wf, Bool.and_eq_true, decide_eq_true_eq] at h2
        exact h2
      exact h3
    · rw [List.getD_eq_getElem?_getD, List.getElem?_eq_none (by omega)]
      decide

theorem and_255 (x : Int) : 0 ≤ bits .and .u64 x 255 ∧ bits .and .u64 x 255 ≤ 255 := by
  have h : (BitVec.ofInt 64 x &&& BitVec.ofInt 64 255).toNat ≤ 255 := by
    rw [BitVec.toNat_and]
    exact Nat.and_le_right
  have e : bits .and .u64 x 255 = IntKind.u64.wrap (((BitVec.ofInt 64 x &&& BitVec.ofInt 64 255).toNat : Nat) : Int) := rfl
  rw [e, IntKind.wrap_u64]
  omega

/-- What a draw leaves: a number within bounds, the source one byte on. -/
def Drawn (b : Nat) (a : Option Addr) (len cap k : Nat) (hi : Int) (w : World) (e : Ending) (w' : World) : Prop :=
  ∃ v seed : Int, 0 ≤ v ∧ v ≤ hi ∧ e = .returned (.int .i64 v) ∧ Src w' b a len cap k seed ∧ Only b w w'

/-- l00Src.next. -/
theorem next_any (b : Nat) (a : Option Addr) (len cap k : Nat) (seed : Int) (zs : List Int) (w : World) (h : Src w b a len cap k seed) (hr : Row w a len cap zs) (hk : k ≤ 1000000) :
    Calls Try.prog 95 #[.pointer (some ⟨b, 0, none⟩)] w (Drawn b a len cap (k + 1) 255 w) := by
  have c0 := h.c0
  have c1 := h.c1
  have c2 := h.c2
  have f1 : w.frozen? ⟨b, 1, none⟩ = false := Lib.frozen_of_heap h 1
  have f2 : w.frozen? ⟨b, 2, none⟩ = false := Lib.frozen_of_heap h 2
  have hS := Lib.hid h
  by_cases hlt : k < len
  · rcases hr with ⟨h0, _⟩ | ⟨xb, off, rfl, h1, h2, h3, h4, h5, h6⟩
    · omega
    · have hc := h5 k (by omega)
      have hz := h6 k
      generalize zs.getD k 0 = z at *
      unfold maxLen at h2
      have hle : k + 1 ≤ len := hlt
      clear h5 h6 h
      go_enter Try.func95, Try.ntmps95
      go_wp2
      go_quiet (fail)
      go_wp2
      go_quiet (fail)
      go_wp2
      go_quiet (fail)
      go_wp2
      go_ret
      refine ⟨z, _, hz.1, hz.2, rfl, Src.step hS.out _ _ _ (by omega), ?_⟩
      repeat (first | exact Only.refl _ _ | refine Only.drewN ?_ _ | refine Only.set ?_ _ _)
  · have hle : ¬ k + 1 ≤ len := by omega
    clear h hr
    go_enter Try.func95, Try.ntmps95
    go_wp2
    go_quiet (fail)
    go_wp2
    go_quiet (fail)
    go_wp2
    go_ret
    have hv := and_255 (IntKind.u64.wrap (IntKind.u64.wrap (IntKind.u64.wrap (seed * 6364136223846793005)) + 1442695040888963407) / 1099511627776)
    refine ⟨_, _, ?_, ?_, rfl, Src.step hS.out _ _ _ (by omega), ?_⟩
    · unfold wrap64; omega
    · unfold wrap64; omega
    · repeat (first | exact Only.refl _ _ | refine Only.drewN ?_ _ | refine Only.set ?_ _ _)

/-- l00Src.pick of fewer than 200 numbers. -/
theorem pick_small (n : Int) (b : Nat) (a : Option Addr) (len cap k : Nat) (seed : Int) (zs : List Int) (w : World) (hn1 : 1 < n) (hn2 : n ≤ 200) (h : Src w b a len cap k seed) (hr : Row w a len cap zs) (hk : k ≤ 1000000) :
    Calls Try.prog 73 #[.pointer (some ⟨b, 0, none⟩), .int .i64 n] w (Drawn b a len cap (k + 1) (n - 1) w) := by
  have H := Lib.hid h
  clear h
  go_enter Try.func73, Try.ntmps73
  go_wp2_with fail
  refine (next_any b a len cap k seed zs _ H.out hr hk).mono ?_
  rintro e u ⟨v, seed2, v0, v1, rfl, hs, ho⟩
  have HS := Lib.hid hs
  clear hs
  go_wp2_with fail
  go_ret
  have hm := Int.emod_nonneg v (show n ≠ 0 by omega)
  have hm2 := Int.emod_lt_of_pos v (show 0 < n by omega)
  exact ⟨v % n, seed2, hm, by omega, rfl, HS.out, ho⟩

/-- spec.l00From. -/
theorem from_any (a : Option Addr) (len cap : Nat) (w : World) :
    Calls Try.prog 52 #[.slice a len cap] w fun e w' => e = .returned (.pointer (some ⟨w.heap.size, 0, none⟩)) ∧ w.alloc (.cells #[.slice a len cap, .int .i64 0, .int .u64 0] 97) = w' := by
  go_enter Try.func52, Try.ntmps52
  go_wp2
  go_ret
  exact ⟨rfl, rfl⟩

end Go.Proofs.Ytflgjohknjgdcaa
