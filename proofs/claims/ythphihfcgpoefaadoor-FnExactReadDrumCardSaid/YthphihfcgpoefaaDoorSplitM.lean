/- Parts of a text between bytes; Plain mathematics. -/
import Derived.Test.YthphihfcgpoefaaDoorSpecRead
import Derived.Lib.IndexMore
import Derived.Lib.CutLaws
namespace Go.Proofs.YthphihfcgpoefaaDoor
set_option linter.unusedSimpArgs false
set_option linter.unusedVariables false

/-- Behind the first bytes: the parts that a byte b closes, and where the open one begins. -/
def cutsB (b : Nat) (s : ByteArray) : Nat → List (Nat × Nat) × Nat
  | 0 => ([], 0)
  | i + 1 => if (s.get! i).toNat = b then ((cutsB b s i).1 ++ [((cutsB b s i).2, i)], i + 1) else cutsB b s i

theorem cutsB_at {b : Nat} {s : ByteArray} {i : Nat} (h : (s.get! i).toNat = b) : cutsB b s (i + 1) = ((cutsB b s i).1 ++ [((cutsB b s i).2, i)], i + 1) := by rw [cutsB, if_pos h]
theorem cutsB_not {b : Nat} {s : ByteArray} {i : Nat} (h : ¬ (s.get! i).toNat = b) : cutsB b s (i + 1) = cutsB b s i := by rw [cutsB, if_neg h]
theorem cutsB_le (b : Nat) (s : ByteArray) : ∀ i, (cutsB b s i).2 ≤ i
  | 0 => Nat.le_refl _
  | i + 1 => by
    by_cases h : (s.get! i).toNat = b
    · rw [cutsB_at h]; exact Nat.le_refl _
    · rw [cutsB_not h]; exact Nat.le_succ_of_le (cutsB_le b s i)
theorem cutsB_length (b : Nat) (s : ByteArray) : ∀ i, (cutsB b s i).1.length ≤ i
  | 0 => Nat.le_refl _
  | i + 1 => by
    have := cutsB_length b s i
    by_cases h : (s.get! i).toNat = b
    · rw [cutsB_at h]; simp; omega
    · rw [cutsB_not h]; omega
theorem cutsB_run {b : Nat} {s : ByteArray} {i : Nat} : ∀ k, (∀ j, j < k → ¬ (s.get! (i + j)).toNat = b) → cutsB b s (i + k) = cutsB b s i
  | 0, _ => rfl
  | k + 1, h => by
    rw [← Nat.add_assoc, cutsB_not (h k (by omega))]
    exact cutsB_run k (fun j hj => h j (by omega))

/-- No part closed, one part closed, or more. -/
theorem cutsB_cases (b : Nat) (s : ByteArray) : ∀ i, cutsB b s i = ([], 0) ∨ (∃ j, j < i ∧ (s.get! j).toNat = b ∧ cutsB b s i = ([(0, j)], j + 1)) ∨ 2 ≤ (cutsB b s i).1.length
  | 0 => .inl rfl
  | i + 1 => by
    by_cases h : (s.get! i).toNat = b
    · rw [cutsB_at h]
      rcases cutsB_cases b s i with e | ⟨j, hj, hb, e⟩ | e
      · rw [e]; exact .inr (.inl ⟨i, by omega, h, rfl⟩)
      · rw [e]; exact .inr (.inr (by simp))
      · exact .inr (.inr (by simp; omega))
    · rw [cutsB_not h]
      rcases cutsB_cases b s i with e | ⟨j, hj, hb, e⟩ | e
      · exact .inl e
      · exact .inr (.inl ⟨j, by omega, hb, e⟩)
      · exact .inr (.inr e)

/-- All the parts of a text between bytes. -/
def partsB (b : Nat) (s : ByteArray) : List (Nat × Nat) := (cutsB b s s.size).1 ++ [((cutsB b s s.size).2, s.size)]
def piece (s : ByteArray) (x : Nat × Nat) : ByteArray := s.extract x.1 x.2
def piecesB (b : Nat) (s : ByteArray) : List ByteArray := (partsB b s).map (piece s)

theorem get_data (s : ByteArray) (k : Nat) (h : k < s.size) : s.get! k = s.data.toList[k]'(by simpa using h) := by
  show s.data[k]! = _
  rw [getElem!_pos s.data k h]
  simp

theorem extract_all (s : ByteArray) : s.extract 0 s.size = s := by
  apply ByteArray.ext
  rw [ByteArray.data_extract]
  simp

/-- A text without the byte is one part. -/
theorem pieces_none {b : Nat} {s : ByteArray} (h : ∀ c ∈ s.data.toList, ¬ c.toNat = b) : piecesB b s = [s] := by
  have e : cutsB b s (0 + s.size) = cutsB b s 0 := cutsB_run s.size (fun j hj => by
    rw [Nat.zero_add, get_data s j hj]
    exact h _ (List.getElem_mem _))
  rw [Nat.zero_add] at e
  unfold piecesB partsB
  rw [e]
  simp [cutsB, piece, extract_all]

theorem size_list (s : ByteArray) : s.size = s.data.toList.length := by simp

/-- A text with the byte at one place is two parts. -/
theorem pieces_one {b : Nat} {s : ByteArray} {l r : List UInt8} {c : UInt8} (hs : s.data.toList = l ++ c :: r) (hc : c.toNat = b) (hl : ∀ x ∈ l, ¬ x.toNat = b) (hr : ∀ x ∈ r, ¬ x.toNat = b) : piecesB b s = [⟨l.toArray⟩, ⟨r.toArray⟩] := by
  have hz : s.size = l.length + 1 + r.length := by rw [size_list, hs]; simp; omega
  have e1 : cutsB b s (0 + l.length) = cutsB b s 0 := cutsB_run l.length (fun j hj => by
    rw [Nat.zero_add, get_data s j (by omega)]
    simp only [hs]
    rw [List.getElem_append_left hj]
    exact hl _ (List.getElem_mem _))
  rw [Nat.zero_add] at e1
  have e2 : cutsB b s (l.length + 1) = ([(0, l.length)], l.length + 1) := by
    have h2 : (s.get! l.length).toNat = b := by
      rw [get_data s l.length (by omega)]
      simp only [hs]
      simp [hc]
    rw [cutsB_at h2, e1]
    rfl
  have e3 : cutsB b s (l.length + 1 + r.length) = cutsB b s (l.length + 1) := cutsB_run r.length (fun j hj => by
    rw [get_data s (l.length + 1 + j) (by omega)]
    simp only [hs]
    rw [List.getElem_append_right (by omega)]
    simp only [show l.length + 1 + j - l.length = j + 1 by omega, List.getElem_cons_succ]
    exact hr _ (List.getElem_mem _))
  unfold piecesB partsB
  rw [hz, e3, e2]
  have p1 : piece s (0, l.length) = ⟨l.toArray⟩ := by
    apply ByteArray.ext
    unfold piece
    rw [ByteArray.data_extract]
    apply Array.toList_inj.1
    rw [Array.toList_extract, hs]
    simp
  have p2 : piece s (l.length + 1, l.length + 1 + r.length) = ⟨r.toArray⟩ := by
    apply ByteArray.ext
    unfold piece
    rw [ByteArray.data_extract]
    apply Array.toList_inj.1
    rw [Array.toList_extract, hs]
    simp
  simp [p1, p2]

/-- One part is the text; two parts and the byte between them are; or there are more. -/
theorem pieces_cases (b : Nat) (s : ByteArray) : piecesB b s = [s] ∨ (∃ x y : ByteArray, ∃ c : UInt8, c.toNat = b ∧ piecesB b s = [x, y] ∧ s.data.toList = x.data.toList ++ c :: y.data.toList) ∨ ∃ x r, piecesB b s = x :: r ∧ 2 ≤ r.length := by
  rcases cutsB_cases b s s.size with e | ⟨j, hj, hb, e⟩ | e
  · refine .inl ?_
    unfold piecesB partsB
    rw [e]
    simp [piece, extract_all]
  · refine .inr (.inl ⟨s.extract 0 j, s.extract (j + 1) s.size, s.get! j, hb, ?_, ?_⟩)
    · unfold piecesB partsB
      rw [e]
      rfl
    · rw [ByteArray.data_extract, ByteArray.data_extract, Array.toList_extract, Array.toList_extract, get_data s j hj]
      have hl := size_list s
      simp only [List.extract_eq_take_drop, List.drop_zero, Nat.sub_zero]
      rw [List.take_of_length_le (l := List.drop (j + 1) s.data.toList) (by rw [List.length_drop]; omega), ← List.drop_eq_getElem_cons (by omega), List.take_append_drop]
  · refine .inr (.inr ?_)
    have hlen : 3 ≤ (piecesB b s).length := by
      unfold piecesB partsB
      rw [List.length_map, List.length_append, List.length_singleton]
      omega
    cases hp : piecesB b s with
    | nil => rw [hp] at hlen; simp at hlen
    | cons x r => rw [hp] at hlen; exact ⟨x, r, rfl, by simp at hlen; omega⟩

/-- The library's cut at a byte. -/
theorem cut_none {b : UInt8} {l : List UInt8} (h : ∀ x ∈ l, ¬ x = b) : Lib.cut l [b] = (l, [], false) := by
  have : Lib.index l [b] = -1 := Lib.index_none (fun j hj => by
    unfold Lib.occAt
    cases hd : l.drop j with
    | nil => rfl
    | cons y t =>
      have hy : y ∈ l := List.mem_of_mem_drop (i := j) (by rw [hd]; exact List.mem_cons_self)
      have := h y hy
      simp [List.isPrefixOf]
      intro e
      exact this e.symm)
  unfold Lib.cut
  rw [this, if_neg (by omega)]
theorem cut_one {b : UInt8} {l r : List UInt8} (h : ∀ x ∈ l, ¬ x = b) : Lib.cut (l ++ b :: r) [b] = (l, r, true) := by
  have : Lib.index (l ++ b :: r) [b] = (l.length : Nat) := Lib.index_first (by simp) (by
      unfold Lib.occAt
      simp [List.isPrefixOf]) (fun j hj => by
    unfold Lib.occAt
    rw [List.drop_append_of_le_length (by omega), List.drop_eq_getElem_cons hj]
    have hy : (b == l[j]) = false := by rw [beq_eq_false_iff_ne]; exact fun e => h _ (List.getElem_mem hj) e.symm
    rw [List.cons_append]
    simp only [List.isPrefixOf, hy, Bool.false_and])
  unfold Lib.cut
  rw [this, if_pos (by omega)]
  simp
theorem cut_cases (b : UInt8) (l : List UInt8) : Lib.cut l [b] = (l, [], false) ∨ ∃ a r, Lib.cut l [b] = (a, r, true) ∧ l = a ++ b :: r := by
  by_cases h : ∃ x ∈ l, x = b
  · obtain ⟨x, hx0, e⟩ := h
    have hx : b ∈ l := e ▸ hx0
    obtain ⟨a, r, rfl, ha⟩ := List.eq_append_cons_of_mem hx
    have ha : ∀ x ∈ a, ¬ x = b := fun y hy e => ha (e ▸ hy)
    exact .inr ⟨a, r, cut_one ha, rfl⟩
  · exact .inl (cut_none (fun x hx e => h ⟨x, hx, e⟩))

end Go.Proofs.YthphihfcgpoefaaDoor
