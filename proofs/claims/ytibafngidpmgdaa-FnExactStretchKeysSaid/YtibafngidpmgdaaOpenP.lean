/- Lists of points and of key poses that a statement's input brings: opened. -/
import Derived.Test.YtibafngidpmgdaaProg
import Derived.Test.YtibafngidpmgdaaKeys
import Derived.Deep.SlicePairs
import Derived.ChangeArms
import Derived.KernelRfl
namespace Go.Proofs.Ytibafngidpmgdaa
open Go.ChangeShapes Go.WideShapes Go.Deep Go.RowKit
set_option linter.unusedSimpArgs false
set_option linter.unusedVariables false

/-- A list of points, opened. -/
theorem rowP {H : Type} {enc : TypeId × Value → H} {W : World} {spare : Nat → Bool} {held : Bool} {fuel : Nat} {a : Option Addr} {len cap : Nat} {x : DataW H × List MemPlace}
    (h : DataW.trod enc Try.prog W 0 spare held fuel 22 (Value.cells (.slice a len cap)).toList = some x) : ∃ ps, PRow W a len ps := by
  rcases open_slice_pairs Try.underlying22 Try.underlying83 (by kernel_rfl) rfl rfl (by kernel_rfl) (by kernel_rfl) h with ⟨hcs, _⟩ | ⟨y, l, c, m, n, V0, V1, D0, D1, P0, P1, hcs, _, hl, hm, hmm, _, hi⟩
  · simp [Value.cells] at hcs
    obtain ⟨rfl, rfl, rfl⟩ := hcs
    exact ⟨[], rfl, Nat.zero_le _, .inl rfl⟩
  · simp [Value.cells] at hcs
    obtain ⟨rfl, rfl, rfl⟩ := hcs
    have hlm : len ≤ m := by rw [hmm]; split <;> omega
    refine PRow.of (by omega) fun i hil => ?_
    obtain ⟨e0, e1, t0, t1⟩ := hi i (by omega)
    obtain ⟨z0, h0, _⟩ := DataW.trod_int Try.underlying2 t0
    obtain ⟨z1, h1, _⟩ := DataW.trod_int Try.underlying2 t1
    simp at h0 h1
    exact ⟨(z0, z1), by rw [e0, h0], by rw [e1, h1]⟩

theorem KRow.of {W : World} {a : Addr} {len : Nat} (hl : len ≤ maxLen) (h : ∀ i, i < len → ∃ k : Key, W.cell? (a.add (i * 2)) = some (.int .i64 k.1) ∧ ∃ A' c', W.cell? (a.add (i * 2 + 1)) = some (.slice A' k.2.length c') ∧ PRow W A' k.2.length k.2) : ∃ ks, KRow W (some a) len ks := by
  obtain ⟨f, hf⟩ := Go.Deep.choose_lt h
  refine ⟨(List.range len).map f, by simp, hl, ?_⟩
  by_cases h0 : len = 0
  · exact .inl h0
  obtain ⟨b, off, spot⟩ := a
  have hspot : spot = none := by simpa [Addr.add] using World.cell?_spot (hf 0 (by omega)).1
  subst hspot
  have hlt : b < W.heap.size := by simpa [Addr.add] using World.block_lt_of_cell? W _ (hf 0 (by omega)).1
  refine .inr ⟨b, off, rfl, hlt, fun j hj => ?_⟩
  have hg : ((List.range len).map f).getD j k0 = f j := by
    rw [List.getD_eq_getElem?_getD, List.getElem?_map, List.getElem?_range hj]
    rfl
  rw [hg]
  have := hf j hj
  rwa [addP, addP, ← Nat.add_assoc] at this

/-- A list of key poses, opened. -/
theorem rowK {H : Type} {enc : TypeId × Value → H} {W : World} {spare : Nat → Bool} {held : Bool} {fuel : Nat} {a : Option Addr} {len cap : Nat} {x : DataW H × List MemPlace}
    (h : DataW.trod enc Try.prog W 0 spare held fuel 31 (Value.cells (.slice a len cap)).toList = some x) : ∃ ks, KRow W a len ks := by
  rcases open_slice_pairs Try.underlying31 Try.underlying91 (by kernel_rfl) rfl rfl (by kernel_rfl) (by kernel_rfl) h with ⟨hcs, _⟩ | ⟨y, l, c, m, n, V0, V1, D0, D1, P0, P1, hcs, _, hl, hm, hmm, _, hi⟩
  · simp [Value.cells] at hcs
    obtain ⟨rfl, rfl, rfl⟩ := hcs
    exact ⟨[], rfl, Nat.zero_le _, .inl rfl⟩
  · simp [Value.cells] at hcs
    obtain ⟨rfl, rfl, rfl⟩ := hcs
    have hlm : len ≤ m := by rw [hmm]; split <;> omega
    refine KRow.of (by omega) fun i hil => ?_
    obtain ⟨e0, e1, t0, t1⟩ := hi i (by omega)
    obtain ⟨z0, h0, _⟩ := DataW.trod_int Try.underlying2 t0
    simp at h0
    have hs : ∃ A' l' c', V1 i = .slice A' l' c' := by
      rcases open_slice Try.underlying22 t1 with ⟨hv, _⟩ | ⟨b', l', c', _, _, _, _, hv, _⟩
      · simp at hv
        exact ⟨_, _, _, hv⟩
      · simp at hv
        exact ⟨_, _, _, hv⟩
    obtain ⟨A', l', c', hv⟩ := hs
    rw [hv] at t1 e1
    obtain ⟨ps, hps⟩ := rowP (a := A') (len := l') (cap := c') t1
    refine ⟨(z0, ps), by rw [e0, h0], A', c', ?_, ?_⟩
    · rw [e1, hps.1]
    · rw [hps.1]
      exact hps

end Go.Proofs.Ytibafngidpmgdaa
