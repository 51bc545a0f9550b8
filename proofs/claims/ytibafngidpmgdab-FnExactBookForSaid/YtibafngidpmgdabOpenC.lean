/- Lists of scenes that a statement's input brings: opened. -/
import Derived.Test.YtibafngidpmgdabScn
import Derived.Deep.SlicePairs
import Derived.ChangeArms
import Derived.KernelRfl
namespace Go.Proofs.Ytibafngidpmgdab
open Go.ChangeShapes Go.WideShapes Go.Deep Go.RowKit
set_option linter.unusedSimpArgs false
set_option linter.unusedVariables false

/-- A list of scenes, opened. -/
theorem rowC {H : Type} {enc : TypeId × Value → H} {W : World} {spare : Nat → Bool} {held : Bool} {fuel : Nat} {a : Option Addr} {len cap : Nat} {x : DataW H × List MemPlace}
    (h : DataW.trod enc Try.prog W 0 spare held fuel 40 (Value.cells (.slice a len cap)).toList = some x) : ∃ ps, CRow W a len ps := by
  rcases open_slice_pairs Try.underlying40 Try.underlying85 (by kernel_rfl) rfl rfl (by kernel_rfl) (by kernel_rfl) h with ⟨hcs, _⟩ | ⟨y, l, c, m, n, V0, V1, D0, D1, P0, P1, hcs, _, hl, hm, hmm, _, hi⟩
  · simp [Value.cells] at hcs
    obtain ⟨rfl, rfl, rfl⟩ := hcs
    exact ⟨[], rfl, Nat.zero_le _, fun j hj => absurd hj (Nat.not_lt_zero j), .inl rfl⟩
  · simp [Value.cells] at hcs
    obtain ⟨rfl, rfl, rfl⟩ := hcs
    have hlm : len ≤ m := by rw [hmm]; split <;> omega
    refine CRow.of (by omega) fun i hil => ?_
    obtain ⟨e0, e1, t0, t1⟩ := hi i (by omega)
    obtain ⟨z0, h0, _, w0⟩ := DataW.trod_string Try.underlying9 t0
    obtain ⟨z1, h1, _⟩ := DataW.trod_int Try.underlying2 t1
    simp at h0 h1
    exact ⟨(z0, z1), w0, by rw [e0, h0], by rw [e1, h1]⟩

end Go.Proofs.Ytibafngidpmgdab
