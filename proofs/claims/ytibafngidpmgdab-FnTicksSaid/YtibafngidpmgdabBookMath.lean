/- The scenes that a reader sees: plain mathematics. -/
import Derived.Test.YtibafngidpmgdabScnMath
namespace Go.Proofs.Ytibafngidpmgdab
set_option linter.unusedSimpArgs false
set_option linter.unusedVariables false

/-- The page at a place. -/
def pageT (s : ByteArray) (k : Nat) : ByteArray := s.extract k (k + 1)
theorem pageT_data {s : ByteArray} {k : Nat} (h : k < s.size) : (pageT s k).data.toList = [letter s k] := by
  unfold pageT letter
  rw [ByteArray.data_extract, Array.toList_extract]
  simp only [List.extract_eq_take_drop]
  have hl := size_list s
  rw [show k + 1 - k = 1 by omega, List.drop_eq_getElem_cons (by omega), List.take_succ_cons, List.take_zero, List.getD_eq_getElem?_getD, List.getElem?_eq_getElem (by omega)]
  rfl
theorem pageT_txt {s : ByteArray} {k : Nat} (h : k < s.size) : pageT s k = txt [letter s k] := by
  rw [← txt_of (pageT s k), pageT_data h]
theorem pageT_size {s : ByteArray} {k : Nat} (h : k < s.size) : (pageT s k).size = 1 := by
  rw [pageT_txt h, txt_size]
  rfl
theorem pageT_letter {s : ByteArray} {k : Nat} (h : k < s.size) : letter (pageT s k) 0 = letter s k := by
  rw [pageT_txt h, letter_txt]
  rfl
theorem pageT_eq {s : ByteArray} {j k : Nat} (hj : j < s.size) (hk : k < s.size) : eqT (pageT s j) (pageT s k) = ((letter s j).toNat == (letter s k).toNat) := by
  cases e : ((letter s j).toNat == (letter s k).toNat)
  · refine eqT_false fun h => ?_
    rw [pageT_txt hj, pageT_txt hk] at h
    have h2 := txt_inj h
    simp only [List.cons.injEq, and_true] at h2
    rw [h2] at e
    simp at e
  · rw [eqT_iff, pageT_txt hj, pageT_txt hk]
    rw [beq_iff_eq] at e
    rw [UInt8.toNat_inj.1 e]

/-- One more page: a scene more, or the last one longer. -/
def pagC (L : List Scn) (p : ByteArray) (e : Int) : List Scn :=
  if L.length = 0 ∨ (L.getD (L.length - 1) s0).1 ≠ p then L ++ [(p, e)] else L.set (L.length - 1) (p, (L.getD (L.length - 1) s0).2 + e)
/-- The scenes of the first pages. -/
def runsC (s : ByteArray) (e : Int) : Nat → List Scn
  | 0 => []
  | k + 1 => pagC (runsC s e k) (pageT s k) e
theorem getD_setC (l : List Scn) (i j : Nat) (x : Scn) (hi : i < l.length) : (l.set i x).getD j s0 = if j = i then x else l.getD j s0 := by
  rw [List.getD_eq_getElem?_getD, List.getElem?_set, List.getD_eq_getElem?_getD]
  by_cases h : i = j
  · subst h
    simp [hi]
  · rw [if_neg h, if_neg (fun e => h e.symm)]
theorem getD_snocC (es : List Scn) (e : Scn) (i : Nat) : (es ++ [e]).getD i s0 = if i = es.length then e else es.getD i s0 := by
  by_cases h : i < es.length
  · rw [if_neg (by omega), List.getD_eq_getElem?_getD, List.getD_eq_getElem?_getD, List.getElem?_append_left h]
  · by_cases h2 : i = es.length
    · subst h2
      rw [if_pos rfl, List.getD_eq_getElem?_getD, List.getElem?_append_right (Nat.le_refl _)]
      simp
    · rw [if_neg h2, List.getD_eq_getElem?_getD, List.getD_eq_getElem?_getD, List.getElem?_eq_none (by simp; omega), List.getElem?_eq_none (by omega)]
/-- The scenes of k pages: how many, the last pose, the ticks' bounds, the poses. -/
theorem runsC_facts (s : ByteArray) {e : Int} (e1 : 0 ≤ e) : ∀ k, (runsC s e k).length ≤ k ∧ (0 < k → 0 < (runsC s e k).length ∧ ((runsC s e k).getD ((runsC s e k).length - 1) s0).1 = pageT s (k - 1)) ∧ (∀ j, j < (runsC s e k).length → 0 ≤ ((runsC s e k).getD j s0).2 ∧ ((runsC s e k).getD j s0).2 ≤ e * k) ∧ (∀ j, j < (runsC s e k).length → ∃ i, i < k ∧ ((runsC s e k).getD j s0).1 = pageT s i)
  | 0 => ⟨Nat.le_refl _, fun h => absurd h (by omega), fun j hj => absurd hj (Nat.not_lt_zero j), fun j hj => absurd hj (Nat.not_lt_zero j)⟩
  | k + 1 => by
    obtain ⟨h1, h2, h3, h4⟩ := runsC_facts s e1 k
    have hk : e * ((k + 1 : Nat) : Int) = e * (k : Int) + e := by rw [Int.natCast_add, Int.mul_add]; simp
    have hk0 : 0 ≤ e * (k : Int) := Int.mul_nonneg e1 (by omega)
    rw [runsC, pagC]
    by_cases hc : (runsC s e k).length = 0 ∨ ((runsC s e k).getD ((runsC s e k).length - 1) s0).1 ≠ pageT s k
    · rw [if_pos hc, List.length_append, List.length_singleton]
      refine ⟨by omega, fun _ => ⟨by omega, ?_⟩, fun j hj => ?_, fun j hj => ?_⟩
      · rw [getD_snocC, if_pos (by omega)]
        rfl
      · rw [getD_snocC]
        split
        · dsimp only; omega
        · have := h3 j (by omega); omega
      · rw [getD_snocC]
        split
        · exact ⟨k, by omega, rfl⟩
        · obtain ⟨i, hi, e2⟩ := h4 j (by omega)
          exact ⟨i, by omega, e2⟩
    · rw [if_neg hc, List.length_set]
      have hl : 0 < (runsC s e k).length := by
        rcases Nat.eq_zero_or_pos (runsC s e k).length with h0 | h0
        · exact absurd (.inl h0) hc
        · exact h0
      refine ⟨by omega, fun _ => ⟨hl, ?_⟩, fun j hj => ?_, fun j hj => ?_⟩
      · rw [getD_setC _ _ _ _ (by omega), if_pos rfl]
        rfl
      · rw [getD_setC _ _ _ _ (by omega)]
        split
        · have := h3 ((runsC s e k).length - 1) (by omega); dsimp only; omega
        · have := h3 j hj; omega
      · rw [getD_setC _ _ _ _ (by omega)]
        split
        · exact ⟨k, by omega, rfl⟩
        · obtain ⟨i, hi, e2⟩ := h4 j hj
          exact ⟨i, by omega, e2⟩
theorem runsC_new {s : ByteArray} {e : Int} {k : Nat} (h : (runsC s e k).length = 0 ∨ ((runsC s e k).getD ((runsC s e k).length - 1) s0).1 ≠ pageT s k) : runsC s e (k + 1) = runsC s e k ++ [(pageT s k, e)] := by
  rw [runsC, pagC, if_pos h]
theorem runsC_more {s : ByteArray} {e : Int} {k : Nat} (h : ¬ ((runsC s e k).length = 0 ∨ ((runsC s e k).getD ((runsC s e k).length - 1) s0).1 ≠ pageT s k)) : runsC s e (k + 1) = (runsC s e k).set ((runsC s e k).length - 1) (((runsC s e k).getD ((runsC s e k).length - 1) s0).1, ((runsC s e k).getD ((runsC s e k).length - 1) s0).2 + e) := by
  have h2 : ((runsC s e k).getD ((runsC s e k).length - 1) s0).1 = pageT s k := by
    by_cases h3 : ((runsC s e k).getD ((runsC s e k).length - 1) s0).1 = pageT s k
    · exact h3
    · exact absurd (.inr h3) h
  rw [runsC, pagC, if_neg h, h2]

/-- The scenes of a book, and the code. -/
def scenesQ (s : ByteArray) (e : Int) : List Scn := if posB s 60 = true ∧ inB e 1 100 = true ∧ scnsB (runsC s e s.size) = true then runsC s e s.size else []
def scenesK (s : ByteArray) (e : Int) : Int := if posB s 60 = true then (if inB e 1 100 = true then (if scnsB (runsC s e s.size) = true then 0 else 5) else 2) else 1

end Go.Proofs.Ytibafngidpmgdab
