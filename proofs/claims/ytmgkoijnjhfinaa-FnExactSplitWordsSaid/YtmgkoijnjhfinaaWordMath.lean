/- The words of a text: what is between blanks, by bytes and by runes. Plain mathematics. -/
import Derived.Lib.FieldsP
import Derived.Lib.TrimU
import Derived.Lib.DecodeN
namespace Go.Proofs.Ytmgkoijnjhfinaa
set_option linter.unusedSimpArgs false
set_option linter.unusedVariables false

/-- Behind the first bytes: the parts that are closed, and where the open one begins. -/
def cutsAt (s : ByteArray) : Nat → List (Nat × Nat) × Nat
  | 0 => ([], 0)
  | i + 1 => if (s.get! i).toNat = 32 then ((cutsAt s i).1 ++ [((cutsAt s i).2, i)], i + 1) else cutsAt s i

theorem cutsAt_blank {s : ByteArray} {i : Nat} (h : (s.get! i).toNat = 32) : cutsAt s (i + 1) = ((cutsAt s i).1 ++ [((cutsAt s i).2, i)], i + 1) := by rw [cutsAt, if_pos h]
theorem cutsAt_letter {s : ByteArray} {i : Nat} (h : ¬ (s.get! i).toNat = 32) : cutsAt s (i + 1) = cutsAt s i := by rw [cutsAt, if_neg h]
theorem cutsAt_le (s : ByteArray) : ∀ i, (cutsAt s i).2 ≤ i
  | 0 => Nat.le_refl _
  | i + 1 => by
    by_cases h : (s.get! i).toNat = 32
    · rw [cutsAt_blank h]; exact Nat.le_refl _
    · rw [cutsAt_letter h]; exact Nat.le_succ_of_le (cutsAt_le s i)
theorem cutsAt_mem (s : ByteArray) : ∀ i, ∀ x ∈ (cutsAt s i).1, x.1 ≤ x.2 ∧ x.2 ≤ i
  | 0 => by intro x hx; simp [cutsAt] at hx
  | i + 1 => by
    intro x hx
    by_cases h : (s.get! i).toNat = 32
    · rw [cutsAt_blank h] at hx
      rcases List.mem_append.1 hx with h1 | h1
      · have := cutsAt_mem s i x h1; omega
      · simp at h1
        have := cutsAt_le s i
        subst h1
        simp
        omega
    · rw [cutsAt_letter h] at hx
      have := cutsAt_mem s i x hx
      omega
theorem cutsAt_length (s : ByteArray) : ∀ i, (cutsAt s i).1.length ≤ i
  | 0 => Nat.le_refl _
  | i + 1 => by
    have := cutsAt_length s i
    by_cases h : (s.get! i).toNat = 32
    · rw [cutsAt_blank h]; simp; omega
    · rw [cutsAt_letter h]; omega
theorem cutsAt_run {s : ByteArray} {i : Nat} : ∀ k, (∀ j, j < k → ¬ (s.get! (i + j)).toNat = 32) → cutsAt s (i + k) = cutsAt s i
  | 0, _ => rfl
  | k + 1, h => by
    rw [← Nat.add_assoc, cutsAt_letter (h k (by omega))]
    exact cutsAt_run k (fun j hj => h j (by omega))

/-- All the parts of a text between blanks, empty ones too. -/
def partsOf (s : ByteArray) : List (Nat × Nat) := (cutsAt s s.size).1 ++ [((cutsAt s s.size).2, s.size)]
def part (s : ByteArray) (x : Nat × Nat) : ByteArray := s.extract x.1 x.2
/-- The words of a text. -/
def wordsOf (s : ByteArray) : List ByteArray := ((partsOf s).map (part s)).filter fun t => !decide (t.size = 0)

theorem partsOf_mem (s : ByteArray) : ∀ x ∈ partsOf s, x.1 ≤ x.2 ∧ x.2 ≤ s.size := by
  intro x hx
  rcases List.mem_append.1 hx with h | h
  · exact cutsAt_mem s s.size x h
  · simp at h
    have := cutsAt_le s s.size
    subst h
    simp
    omega

theorem rune_facts (s : ByteArray) (pos : Nat) (h : pos < s.size) :
    1 ≤ (Utf8.decode s pos).2 ∧ pos + (Utf8.decode s pos).2 ≤ s.size ∧ ((s.get! pos).toNat = 32 → Utf8.decode s pos = (32, 1)) ∧
      (¬ (s.get! pos).toNat = 32 → ¬ (Utf8.decode s pos).1 = 32 ∧ ∀ j, j < (Utf8.decode s pos).2 → ¬ (s.get! (pos + j)).toNat = 32) := by
  have hw := Lib.width_pos s pos
  have hle := Lib.decodeN_le_n' (s.size - pos) (s.get! pos).toNat (s.get! (pos + 1)).toNat (s.get! (pos + 2)).toNat (s.get! (pos + 3)).toNat (by omega)
  rw [← Lib.decode_at] at hle
  have hlt := (s.get! pos).toNat_lt
  refine ⟨hw, by omega, ?_, ?_⟩
  · intro h32
    rw [Lib.decode_at, Lib.decodeN, if_pos (by omega), h32]
  · intro h32
    have h0 : s.get! (pos + 0) = s.get! pos := rfl
    rw [Lib.decode_at]
    generalize hb0 : (s.get! pos).toNat = b0 at *
    generalize hb1 : (s.get! (pos + 1)).toNat = b1 at *
    generalize hb2 : (s.get! (pos + 2)).toNat = b2 at *
    generalize hb3 : (s.get! (pos + 3)).toNat = b3 at *
    have key : ∀ w, w ≤ 4 → (1 < w → ¬ b1 = 32) → (2 < w → ¬ b2 = 32) → (3 < w → ¬ b3 = 32) → ∀ j, j < w → ¬ (s.get! (pos + j)).toNat = 32 := by
      intro w hw4 k1 k2 k3 j hj
      match j, hj with
      | 0, _ => rw [h0, hb0]; exact h32
      | 1, hj => rw [hb1]; exact k1 hj
      | 2, hj => rw [hb2]; exact k2 hj
      | 3, hj => rw [hb3]; exact k3 hj
      | j + 4, hj => omega
    unfold Lib.decodeN
    repeat' split
    all_goals
      refine ⟨?_, key _ ?_ ?_ ?_ ?_⟩
      all_goals (simp only; omega)

def isBlankR (r : Nat) : Bool := r == 32

/-- The open span of the library's pass, as the pass by bytes has it. -/
def openAt (s : ByteArray) (pos : Nat) : Option Nat := if (cutsAt s pos).2 < pos then some (cutsAt s pos).2 else none
def closedAt (s : ByteArray) (pos : Nat) : List (Nat × Nat) := (cutsAt s pos).1.filter fun x => decide (x.1 < x.2)

theorem spans_close (s : ByteArray) : Lib.closeSpans s (closedAt s s.size, openAt s s.size) = (partsOf s).filter fun x => decide (x.1 < x.2) := by
  unfold Lib.closeSpans openAt partsOf closedAt
  rw [List.filter_append]
  by_cases h : (cutsAt s s.size).2 < s.size
  · simp [h]
  · simp [h]

theorem step_bs {s : ByteArray} {f pos a : Nat} {acc : List (Nat × Nat)} (h : pos < s.size) (hd : Utf8.decode s pos = (32, 1)) :
    Lib.spansFromP isBlankR s (f + 1) pos (some a) acc = Lib.spansFromP isBlankR s f (pos + 1) none (acc ++ [(a, pos)]) := by
  simp [Lib.spansFromP, h, hd, isBlankR]
theorem step_bn {s : ByteArray} {f pos : Nat} {acc : List (Nat × Nat)} (h : pos < s.size) (hd : Utf8.decode s pos = (32, 1)) :
    Lib.spansFromP isBlankR s (f + 1) pos none acc = Lib.spansFromP isBlankR s f (pos + 1) none acc := by
  simp [Lib.spansFromP, h, hd, isBlankR]
theorem step_ls {s : ByteArray} {f pos a : Nat} {acc : List (Nat × Nat)} (h : pos < s.size) (hd : isBlankR (Utf8.decode s pos).1 = false) :
    Lib.spansFromP isBlankR s (f + 1) pos (some a) acc = Lib.spansFromP isBlankR s f (pos + (Utf8.decode s pos).2) (some a) acc := by
  simp [Lib.spansFromP, h, hd]
theorem step_ln {s : ByteArray} {f pos : Nat} {acc : List (Nat × Nat)} (h : pos < s.size) (hd : isBlankR (Utf8.decode s pos).1 = false) :
    Lib.spansFromP isBlankR s (f + 1) pos none acc = Lib.spansFromP isBlankR s f (pos + (Utf8.decode s pos).2) (some pos) acc := by
  simp [Lib.spansFromP, h, hd]

theorem spans_cuts (s : ByteArray) : ∀ f pos, s.size ≤ pos + f → pos ≤ s.size → Lib.closeSpans s (Lib.spansFromP isBlankR s f pos (openAt s pos) (closedAt s pos)) = (partsOf s).filter fun x => decide (x.1 < x.2)
  | 0, pos, h, hp => by
    obtain rfl : pos = s.size := by omega
    exact spans_close s
  | f + 1, pos, h, hp => by
    by_cases hlt : pos < s.size
    · obtain ⟨w1, w2, hb, hn⟩ := rune_facts s pos hlt
      have hle := cutsAt_le s pos
      by_cases h32 : (s.get! pos).toNat = 32
      · have hd := hb h32
        have ho : openAt s (pos + 1) = none := by unfold openAt; rw [cutsAt_blank h32]; simp
        have ih := spans_cuts s f (pos + 1) (by omega) (by omega)
        rw [ho] at ih
        by_cases hf : (cutsAt s pos).2 < pos
        · have hc : closedAt s (pos + 1) = closedAt s pos ++ [((cutsAt s pos).2, pos)] := by unfold closedAt; rw [cutsAt_blank h32, List.filter_append]; simp [hf]
          have ho2 : openAt s pos = some (cutsAt s pos).2 := by unfold openAt; rw [if_pos hf]
          rw [ho2, step_bs hlt hd]
          rw [hc] at ih
          exact ih
        · have hc : closedAt s (pos + 1) = closedAt s pos := by unfold closedAt; rw [cutsAt_blank h32, List.filter_append]; simp [hf]
          have ho2 : openAt s pos = none := by unfold openAt; rw [if_neg hf]
          rw [ho2, step_bn hlt hd]
          rw [hc] at ih
          exact ih
      · obtain ⟨r1, r2⟩ := hn h32
        have hrun := cutsAt_run (s := s) (i := pos) _ r2
        have hp2 : isBlankR (Utf8.decode s pos).1 = false := by simpa [isBlankR] using r1
        have ih := spans_cuts s f (pos + (Utf8.decode s pos).2) (by omega) w2
        have hc : closedAt s (pos + (Utf8.decode s pos).2) = closedAt s pos := by unfold closedAt; rw [hrun]
        have ho : openAt s (pos + (Utf8.decode s pos).2) = some (cutsAt s pos).2 := by unfold openAt; rw [hrun, if_pos (by omega)]
        rw [hc, ho] at ih
        by_cases hf : (cutsAt s pos).2 < pos
        · have ho2 : openAt s pos = some (cutsAt s pos).2 := by unfold openAt; rw [if_pos hf]
          rw [ho2, step_ls hlt hp2]
          exact ih
        · have ho2 : openAt s pos = none := by unfold openAt; rw [if_neg hf]
          rw [ho2, step_ln hlt hp2]
          have e : (cutsAt s pos).2 = pos := by omega
          rw [e] at ih
          exact ih
    · obtain rfl : pos = s.size := by omega
      rw [Lib.spansFromP_end _ _ _ _ _ _ hlt]
      exact spans_close s

/-- The library's fields are the words. -/
theorem fields_words (s : ByteArray) : Lib.goFieldsP isBlankR s = wordsOf s := by
  unfold Lib.goFieldsP Lib.spansOfP wordsOf
  have h := spans_cuts s s.size 0 (by omega) (Nat.zero_le _)
  have e1 : openAt s 0 = none := rfl
  have e2 : closedAt s 0 = [] := rfl
  rw [e1, e2] at h
  rw [h, List.filter_map]
  congr 1
  apply List.filter_congr
  intro x hx
  obtain ⟨h1, h2⟩ := partsOf_mem s x hx
  have hs : (part s x).size = x.2 - x.1 := by
    unfold part
    rw [ByteArray.size_extract]
    omega
  simp only [Function.comp, hs]
  by_cases hlt : x.1 < x.2
  · simp [hlt]; omega
  · simp [hlt]; omega

end Go.Proofs.Ytmgkoijnjhfinaa
