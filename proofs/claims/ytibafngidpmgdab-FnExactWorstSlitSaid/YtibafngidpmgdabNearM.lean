/- The nearest place of a rising table, by neighbours. -/
import Derived.Test.YtibafngidpmgdabNearE
namespace Go.Proofs.Ytibafngidpmgdab
set_option linter.unusedSimpArgs false
set_option linter.unusedVariables false

/-- The least circular distance, as the specification adds it up. -/
def leastD (r x : Int) (ts : List Int) (a : Int) : Int := ts.foldl (fun a p => min a (circI r x p)) a

theorem leastD_le (r x : Int) : ∀ (ts : List Int) (a : Int), leastD r x ts a ≤ a
  | [], a => Int.le_refl _
  | p :: ts, a => by
    have := leastD_le r x ts (min a (circI r x p))
    simp only [leastD, List.foldl_cons] at this ⊢
    omega
theorem leastD_mem (r x : Int) : ∀ (ts : List Int) (a p : Int), p ∈ ts → leastD r x ts a ≤ circI r x p
  | q :: ts, a, p, h => by
    simp only [leastD, List.foldl_cons]
    rcases List.mem_cons.1 h with rfl | h
    · have := leastD_le r x ts (min a (circI r x p))
      simp only [leastD] at this
      omega
    · exact leastD_mem r x ts _ p h
theorem leastD_ge (r x v : Int) : ∀ (ts : List Int) (a : Int), v ≤ a → (∀ p ∈ ts, v ≤ circI r x p) → v ≤ leastD r x ts a
  | [], a, h, _ => h
  | q :: ts, a, h, hp => by
    simp only [leastD, List.foldl_cons]
    exact leastD_ge r x v ts _ (by have := hp q (by simp); omega) fun p hm => hp p (by simp [hm])

theorem getD_memI {ts : List Int} {j : Nat} (h : j < ts.length) : ts.getD j 0 ∈ ts := by
  have e : ts.getD j 0 = ts[j] := by simp [h]
  rw [e]
  exact List.getElem_mem h
theorem ringI_last (ts : List Int) (h : 1 ≤ ts.length) : ringI ts (-1) = ts.getD (ts.length - 1) 0 := by
  have e : (-1 : Int) % (ts.length : Int) = ((ts.length - 1 : Nat) : Int) := by
    have h1 : (-1 : Int) = ((ts.length - 1 : Nat) : Int) + (ts.length : Int) * (-1) := by omega
    rw [h1, Int.add_mul_emod_self_left]
    exact Int.emod_eq_of_lt (by omega) (by omega)
  unfold ringI
  rw [e, Int.toNat_natCast]
theorem ringI_full (ts : List Int) : ringI ts (ts.length : Nat) = ts.getD 0 0 := by
  rw [ringI_nat, Nat.mod_self]

/-- The nearest by neighbours is the nearest. -/
theorem near_least (r x : Int) (ts : List Int) (k : Nat) (h1 : 1 ≤ ts.length) (hx : 0 ≤ x ∧ x ≤ r) (hb : ∀ j, j < ts.length → 0 ≤ ts.getD j 0 ∧ ts.getD j 0 ≤ r) (hs : ∀ i j, i ≤ j → j < ts.length → ts.getD i 0 ≤ ts.getD j 0)
    (hk : k ≤ ts.length) (k1 : k = 0 ∨ ts.getD (k - 1) 0 < x) (k2 : k = ts.length ∨ x ≤ ts.getD k 0) :
    min (circI r x (ringI ts k)) (circI r x (ringI ts ((k : Int) - 1))) = leastD r x ts r := by
  -- the two neighbours
  obtain ⟨ib, hib, eb, hbl⟩ : ∃ ib, ib < ts.length ∧ ringI ts k = ts.getD ib 0 ∧ ((k < ts.length ∧ ib = k) ∨ (k = ts.length ∧ ib = 0)) := by
    by_cases h : k < ts.length
    · exact ⟨k, h, ringI_lt ts k h, .inl ⟨h, rfl⟩⟩
    · obtain rfl : k = ts.length := by omega
      exact ⟨0, by omega, ringI_full ts, .inr ⟨rfl, rfl⟩⟩
  obtain ⟨ia, hia, ea, hal⟩ : ∃ ia, ia < ts.length ∧ ringI ts ((k : Int) - 1) = ts.getD ia 0 ∧ ((0 < k ∧ ia = k - 1) ∨ (k = 0 ∧ ia = ts.length - 1)) := by
    by_cases h : 0 < k
    · refine ⟨k - 1, by omega, ?_, .inl ⟨h, rfl⟩⟩
      have e : (k : Int) - 1 = ((k - 1 : Nat) : Int) := by omega
      rw [e]
      exact ringI_lt ts (k - 1) (by omega)
    · obtain rfl : k = 0 := by omega
      exact ⟨ts.length - 1, by omega, ringI_last ts h1, .inr ⟨rfl, rfl⟩⟩
  rw [eb, ea]
  have b1 := hb ib hib
  have a1 := hb ia hia
  refine Int.le_antisymm (leastD_ge r x _ ts r ?_ fun p hp => ?_) ?_
  · unfold circI; omega
  · obtain ⟨j, hj, rfl⟩ := List.mem_iff_getElem.1 hp
    have ej : ts[j] = ts.getD j 0 := by simp [hj]
    rw [ej]
    have j1 := hb j hj
    unfold circI
    by_cases hjk : j < k
    · have q1 := hs j (k - 1) (by omega) (by omega)
      rcases hbl with ⟨c1, rfl⟩ | ⟨c1, rfl⟩ <;> rcases hal with ⟨c2, rfl⟩ | ⟨c2, rfl⟩
      · have := hs (ib - 1) ib (by omega) hib
        have k2' : x ≤ ts.getD ib 0 := k2.resolve_left (by omega)
        have k1' := k1.resolve_left (by omega)
        omega
      · omega
      · have := hs 0 j (by omega) hj
        have k1' := k1.resolve_left (by omega)
        omega
      · omega
    · have c0 : k < ts.length := by omega
      have q1 := hs k j (by omega) hj
      have k2' : x ≤ ts.getD k 0 := k2.resolve_left (by omega)
      rcases hbl with ⟨c1, rfl⟩ | ⟨c1, rfl⟩ <;> rcases hal with ⟨c2, rfl⟩ | ⟨c2, rfl⟩
      · have k1' := k1.resolve_left (by omega)
        omega
      · have := hs j (ts.length - 1) (by omega) (by omega)
        omega
      · omega
      · omega
  · have m1 := leastD_mem r x ts r _ (getD_memI hib)
    have m2 := leastD_mem r x ts r _ (getD_memI hia)
    omega

theorem circ_nonneg {r x p : Int} (hx : 0 ≤ x ∧ x ≤ r) (hp : 0 ≤ p ∧ p ≤ r) : 0 ≤ circI r x p := by unfold circI; omega

/-- The first distance is taken as it is. -/
theorem worstF_first (d : Int) (ds : List Int) (h : 0 ≤ d) : worstF (d :: ds) 0 0 0 = worstF ds 1 0 d := by
  by_cases h0 : (0 : Int) < d
  · simp [worstF, h0]
  · have : d = 0 := by omega
    subst this
    simp [worstF]
end Go.Proofs.Ytibafngidpmgdab
