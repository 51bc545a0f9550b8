/- Motions and discs: plain mathematics. -/
import Derived.Test.YtibafngidpmgdabDiscMath
import Derived.Laws.RangeString
import Derived.Laws.Strings
namespace Go.Proofs.Ytibafngidpmgdab
set_option linter.unusedSimpArgs false
set_option linter.unusedVariables false

/-- The letter at a place of a text, 0 behind its end. -/
def letter (s : ByteArray) (k : Nat) : UInt8 := s.data.toList.getD k 0
/-- The text of some letters. -/
def txt (l : List UInt8) : ByteArray := ⟨l.toArray⟩
theorem txt_data (l : List UInt8) : (txt l).data.toList = l := by simp [txt]
theorem txt_size (l : List UInt8) : (txt l).size = l.length := by simp [txt, ByteArray.size]
theorem txt_of (s : ByteArray) : txt s.data.toList = s := by
  apply ByteArray.ext
  simp [txt]
theorem txt_inj {a b : List UInt8} (h : txt a = txt b) : a = b := by
  rw [← txt_data a, h, txt_data]
theorem size_list (s : ByteArray) : s.data.toList.length = s.size := Array.length_toList
theorem letter_of {s : ByteArray} {k : Nat} (h : k < s.size) : s[k]'h = letter s k := by
  unfold letter
  rw [List.getD_eq_getElem?_getD, List.getElem?_eq_getElem (by rw [size_list]; exact h)]
  rfl
theorem letter_txt (l : List UInt8) (k : Nat) : letter (txt l) k = l.getD k 0 := by rw [letter, txt_data]
theorem toList_data (s : ByteArray) : s.toList = s.data.toList := ByteArray.toList_eq s
theorem toList_txt (l : List UInt8) : (txt l).toList = l := by rw [toList_data, txt_data]

/-- Two texts are equal, as the walk says it. -/
def eqT (a b : ByteArray) : Bool := a.toList == b.toList
theorem eqT_iff {a b : ByteArray} : eqT a b = true ↔ a = b := by
  unfold eqT
  rw [beq_iff_eq, toList_data, toList_data]
  constructor
  · intro h
    rw [← txt_of a, h, txt_of]
  · intro h
    rw [h]
theorem eqT_refl (a : ByteArray) : eqT a a = true := eqT_iff.2 rfl
theorem eqT_false {a b : ByteArray} (h : a ≠ b) : eqT a b = false := by
  cases h2 : eqT a b
  · rfl
  · exact absurd (eqT_iff.1 h2) h
theorem eqT_txt (l : List UInt8) (s : ByteArray) : eqT (txt l) s = (l == s.data.toList) := by
  unfold eqT
  rw [toList_txt, toList_data]

/-- A number is that of a small letter. -/
def smallB (c : UInt8) : Bool := decide (97 ≤ c.toNat) && decide (c.toNat ≤ 122)
/-- A motion. -/
def motB (s : ByteArray) : Bool := decide (1 ≤ s.size ∧ s.size ≤ 24) && decide (∀ k, k < s.size → smallB (letter s k) = true)
theorem motB_size {s : ByteArray} (h : motB s = true) : 1 ≤ s.size ∧ s.size ≤ 24 := by
  simp only [motB, Bool.and_eq_true, decide_eq_true_eq] at h
  exact h.1
theorem motB_letter {s : ByteArray} (h : motB s = true) {k : Nat} (hk : k < s.size) : 97 ≤ (letter s k).toNat ∧ (letter s k).toNat ≤ 122 := by
  simp only [motB, Bool.and_eq_true, decide_eq_true_eq] at h
  have h2 := h.2 k hk
  simp only [smallB, Bool.and_eq_true, decide_eq_true_eq] at h2
  exact h2
theorem motB_mk {s : ByteArray} (h : 1 ≤ s.size ∧ s.size ≤ 24) (h2 : ∀ k, k < s.size → smallB (letter s k) = true) : motB s = true := by
  simp only [motB, Bool.and_eq_true, decide_eq_true_eq]
  exact ⟨h, h2⟩
theorem motB_bad {s : ByteArray} {k : Nat} (h : k < s.size) (hb : smallB (letter s k) = false) : motB s = false := by
  cases e : motB s
  · rfl
  · simp only [motB, Bool.and_eq_true, decide_eq_true_eq] at e
    rw [e.2 k h] at hb
    cases hb
theorem motB_off {s : ByteArray} (h : ¬ (1 ≤ s.size ∧ s.size ≤ 24)) : motB s = false := by simp [motB, h]
theorem motB_txt {l : List UInt8} (h : 1 ≤ l.length ∧ l.length ≤ 24) (h2 : ∀ c ∈ l, smallB c = true) : motB (txt l) = true := by
  refine motB_mk (by rw [txt_size]; exact h) fun k hk => ?_
  rw [txt_size] at hk
  rw [letter_txt, List.getD_eq_getElem?_getD, List.getElem?_eq_getElem hk]
  exact h2 _ (List.getElem_mem hk)
theorem motB_mem {s : ByteArray} (h : motB s = true) : ∀ c ∈ s.data.toList, smallB c = true := by
  intro c hc
  obtain ⟨k, hk, e⟩ := List.getElem_of_mem hc
  rw [size_list] at hk
  have h2 := motB_letter h hk
  have h3 : letter s k = c := by
    rw [letter, List.getD_eq_getElem?_getD, List.getElem?_eq_getElem (by rw [size_list]; exact hk), ← e]
    rfl
  rw [h3] at h2
  simp only [smallB, Bool.and_eq_true, decide_eq_true_eq]
  exact h2

/-- A text of 1 to n poses. -/
def posB (s : ByteArray) (n : Nat) : Bool := decide (1 ≤ s.size ∧ s.size ≤ n) && decide (∀ k, k < s.size → smallB (letter s k) = true)
theorem posB_mot (s : ByteArray) : posB s 24 = motB s := rfl
theorem posB_size {s : ByteArray} {n : Nat} (h : posB s n = true) : 1 ≤ s.size ∧ s.size ≤ n := by
  simp only [posB, Bool.and_eq_true, decide_eq_true_eq] at h
  exact h.1
theorem posB_letter {s : ByteArray} {n : Nat} (h : posB s n = true) {k : Nat} (hk : k < s.size) : smallB (letter s k) = true := by
  simp only [posB, Bool.and_eq_true, decide_eq_true_eq] at h
  exact h.2 k hk
theorem posB_mk {s : ByteArray} {n : Nat} (h : 1 ≤ s.size ∧ s.size ≤ n) (h2 : ∀ k, k < s.size → smallB (letter s k) = true) : posB s n = true := by
  simp only [posB, Bool.and_eq_true, decide_eq_true_eq]
  exact ⟨h, h2⟩
theorem posB_bad {s : ByteArray} {n k : Nat} (h : k < s.size) (hb : smallB (letter s k) = false) : posB s n = false := by
  cases e : posB s n
  · rfl
  · rw [posB_letter e h] at hb
    cases hb
theorem posB_off {s : ByteArray} {n : Nat} (h : ¬ (1 ≤ s.size ∧ s.size ≤ n)) : posB s n = false := by simp [posB, h]

/-- A row of letters, one for each place. -/
def rowL (f : Nat → UInt8) (n : Nat) : List UInt8 := (List.range n).map f
theorem rowL_length (f : Nat → UInt8) (n : Nat) : (rowL f n).length = n := by simp [rowL]
theorem rowL_get (f : Nat → UInt8) {n k : Nat} (h : k < n) : (rowL f n).getD k 0 = f k := by
  unfold rowL
  rw [List.getD_eq_getElem?_getD, List.getElem?_map, List.getElem?_range h]
  rfl
theorem rowL_succ (f : Nat → UInt8) (n : Nat) : rowL f (n + 1) = rowL f n ++ [f n] := by
  unfold rowL
  rw [List.range_succ, List.map_append]
  rfl
theorem rowL_congr {f g : Nat → UInt8} {n : Nat} (h : ∀ k, k < n → f k = g k) : rowL f n = rowL g n := by
  unfold rowL
  refine List.map_congr_left fun k hk => h k (List.mem_range.1 hk)
theorem rowL_set (f : Nat → UInt8) {n i : Nat} (v : UInt8) (h : i < n) : (rowL f n).set i v = rowL (fun j => if j = i then v else f j) n := by
  apply List.ext_getElem
  · simp [rowL]
  · intro k h1 h2
    simp only [rowL, List.getElem_set, List.getElem_map, List.getElem_range]
    by_cases e : i = k
    · rw [if_pos e, if_pos e.symm]
    · rw [if_neg e, if_neg (fun x => e x.symm)]
theorem rowL_zero (n : Nat) : rowL (fun _ => 0) n = List.replicate n 0 := by
  unfold rowL
  rw [List.map_const']
  simp
theorem rowL_letters (s : ByteArray) : rowL (letter s) s.size = s.data.toList := by
  apply List.ext_getElem
  · rw [rowL_length, size_list]
  · intro k h1 h2
    simp only [rowL, List.getElem_map, List.getElem_range]
    rw [letter, List.getD_eq_getElem?_getD, List.getElem?_eq_getElem h2]
    rfl

/-- The picture that is seen at a flash. -/
def seenK (p s k : Nat) : Nat := (near ((k : Int) * p) s % p).toNat
theorem seenK_zero (p s : Nat) (hs : 1 ≤ s) : seenK p s 0 = 0 := by
  unfold seenK near
  have h : (2 * (((0 : Nat) : Int) * p) + s) / (2 * s) = 0 := by
    rw [show (((0 : Nat) : Int) * p) = 0 by simp]
    exact Int.ediv_eq_zero_of_lt (by omega) (by omega)
  rw [h]
  simp
theorem seenK_self {p k : Nat} (h : k < p) : seenK p p k = k := by
  unfold seenK near
  have h1 : (2 * ((k : Int) * p) + p) = (p : Int) * (2 * k + 1) := by
    rw [Int.mul_add, Int.mul_one, Int.mul_comm (k : Int) p, ← Int.mul_assoc, ← Int.mul_assoc, Int.mul_comm 2 (p : Int)]
  have h2 : (2 * ((k : Int) * p) + p) / (2 * p) = k := by
    rw [h1, Int.mul_comm 2 (p : Int), Int.mul_ediv_mul_of_pos _ _ (by omega)]
    omega
  rw [h2, Int.emod_eq_of_lt (by omega) (by omega)]
  omega
theorem seenK_lt {p : Nat} (s k : Nat) (h : 1 ≤ p) : seenK p s k < p := by
  unfold seenK
  have h1 := Int.emod_nonneg (near ((k : Int) * p) s) (show (p : Int) ≠ 0 by omega)
  have h2 := Int.emod_lt_of_pos (near ((k : Int) * p) s) (show (0 : Int) < p by omega)
  omega

/-- What a disc shows. -/
def showL (s : ByteArray) (n : Nat) : List UInt8 := rowL (fun k => letter s (seenK s.size n k)) n
theorem showL_length (s : ByteArray) (n : Nat) : (showL s n).length = n := rowL_length _ _

/-- The letter that a picture gets: the last one of those that it must have; 0 where there is none. -/
def lastL (o : Nat → Nat) (m : Nat → UInt8) : Nat → Nat → UInt8
  | 0, _ => 0
  | n + 1, p => if p = o n then m n else lastL o m n p
theorem lastL_some (o : Nat → Nat) (m : Nat → UInt8) {n k : Nat} (h : k < n) : ∃ j, j < n ∧ o j = o k ∧ lastL o m n (o k) = m j := by
  induction n with
  | zero => omega
  | succ n ih =>
    by_cases e : o k = o n
    · exact ⟨n, by omega, e.symm, by rw [lastL, if_pos e]⟩
    · have hk : k < n := by
        by_cases h2 : k = n
        · subst h2; exact absurd rfl e
        · omega
      obtain ⟨j, h1, h2, h3⟩ := ih hk
      exact ⟨j, by omega, h2, by rw [lastL, if_neg e]; exact h3⟩
theorem lastL_none (o : Nat → Nat) (m : Nat → UInt8) {n p : Nat} (h : ∀ k, k < n → o k ≠ p) : lastL o m n p = 0 := by
  induction n with
  | zero => rfl
  | succ n ih =>
    rw [lastL, if_neg (fun e => h n (by omega) e.symm)]
    exact ih fun k hk => h k (by omega)
/-- All flashes see what they must. -/
def fitsF (o : Nat → Nat) (m : Nat → UInt8) (n : Nat) : Bool := decide (∀ k, k < n → lastL o m n (o k) = m k)
theorem fitsF_zero (o : Nat → Nat) (m : Nat → UInt8) : fitsF o m 0 = true := by simp [fitsF]
/-- A flash that sees nothing else before may be next. -/
theorem fitsF_step {o : Nat → Nat} {m : Nat → UInt8} {n : Nat} (h : fitsF o m n = true) (hc : lastL o m n (o n) = 0 ∨ lastL o m n (o n) = m n) (hz : ∀ k, k < n → m k ≠ 0) : fitsF o m (n + 1) = true := by
  simp only [fitsF, decide_eq_true_eq] at h ⊢
  intro k hk
  rw [lastL]
  by_cases e : o k = o n
  · rw [if_pos e]
    by_cases h2 : k = n
    · rw [h2]
    · have h3 := h k (by omega)
      rw [e] at h3
      rcases hc with h4 | h4
      · rw [h4] at h3
        exact absurd h3.symm (hz k (by omega))
      · rw [← h3, h4]
  · rw [if_neg e]
    exact h k (by
      by_cases h2 : k = n
      · subst h2; exact absurd rfl e
      · omega)
/-- A flash that sees another letter: there is no such disc. -/
theorem fitsF_clash {o : Nat → Nat} {m : Nat → UInt8} {n t : Nat} (hn : n < t) (h0 : lastL o m n (o n) ≠ 0) (h1 : lastL o m n (o n) ≠ m n) : fitsF o m t = false := by
  cases e : fitsF o m t
  · rfl
  · exfalso
    simp only [fitsF, decide_eq_true_eq] at e
    by_cases hx : ∃ k, k < n ∧ o k = o n
    · obtain ⟨k, hk, hok⟩ := hx
      obtain ⟨j, hj, hoj, hl⟩ := lastL_some o m hk
      rw [hok] at hl hoj
      have h2 := e j (by omega)
      have h3 := e n hn
      rw [hoj, h3] at h2
      rw [hl, h2] at h1
      exact h1 rfl
    · exact h0 (lastL_none o m fun k hk hok => hx ⟨k, hk, hok⟩)

/-- A picture that is not seen has the letter of the picture before it. -/
def fillL (L : Nat → UInt8) : Nat → UInt8
  | 0 => L 0
  | p + 1 => if L (p + 1) = 0 then fillL L p else L (p + 1)
theorem fillL_of {L : Nat → UInt8} {p : Nat} (h : L p ≠ 0) : fillL L p = L p := by
  cases p with
  | zero => rfl
  | succ p => rw [fillL, if_neg h]
theorem fillL_small {L : Nat → UInt8} (h : ∀ p, L p = 0 ∨ smallB (L p) = true) (h0 : smallB (L 0) = true) : ∀ p, smallB (fillL L p) = true
  | 0 => h0
  | p + 1 => by
    rw [fillL]
    by_cases e : L (p + 1) = 0
    · rw [if_pos e]; exact fillL_small h h0 p
    · rw [if_neg e]; exact (h (p + 1)).resolve_left e

/-- The letters that the pictures of a disc must have for a motion. -/
def mustL (m : ByteArray) (p n : Nat) : Nat → UInt8 := lastL (seenK p m.size) (letter m) n
/-- A disc for a motion. -/
def discL (m : ByteArray) (p : Nat) : List UInt8 := rowL (fillL (mustL m p m.size)) p
/-- There is a disc with so many pictures. -/
def fitsB (m : ByteArray) (p : Nat) : Bool := fitsF (seenK p m.size) (letter m) m.size
theorem discL_length (m : ByteArray) (p : Nat) : (discL m p).length = p := rowL_length _ _

theorem letter_pos {m : ByteArray} (h : motB m = true) {k : Nat} (hk : k < m.size) : letter m k ≠ 0 := by
  intro e
  have h2 := motB_letter h hk
  rw [e] at h2
  simp at h2
theorem small_pos {c : UInt8} (h : smallB c = true) : c ≠ 0 := by
  intro e
  subst e
  simp [smallB] at h

theorem mustL_seen {m : ByteArray} (h : motB m = true) {p k : Nat} (hk : k < m.size) : mustL m p m.size (seenK p m.size k) ≠ 0 := by
  obtain ⟨j, hj, _, hl⟩ := lastL_some (seenK p m.size) (letter m) hk
  unfold mustL
  rw [hl]
  exact letter_pos h hj
theorem mustL_small {m : ByteArray} (h : motB m = true) (p n : Nat) (hn : n ≤ m.size) (q : Nat) : mustL m p n q = 0 ∨ smallB (mustL m p n q) = true := by
  unfold mustL
  by_cases hx : ∃ k, k < n ∧ seenK p m.size k = q
  · obtain ⟨k, hk, e⟩ := hx
    obtain ⟨j, hj, _, hl⟩ := lastL_some (seenK p m.size) (letter m) hk
    rw [e] at hl
    rw [hl]
    have h2 := motB_letter h (show j < m.size by omega)
    exact .inr (by simp [smallB]; omega)
  · exact .inl (lastL_none _ _ fun k hk e => hx ⟨k, hk, e⟩)

/-- What a disc for a motion shows at a flash. -/
theorem show_disc {m : ByteArray} (h : motB m = true) {p : Nat} (hp : 1 ≤ p) {k : Nat} (hk : k < m.size) : letter (txt (discL m p)) (seenK p m.size k) = mustL m p m.size (seenK p m.size k) := by
  rw [letter_txt, discL, rowL_get _ (seenK_lt _ _ hp)]
  exact fillL_of (mustL_seen h hk)
/-- A disc for a motion shows it just if there is one. -/
theorem show_fits {m : ByteArray} (h : motB m = true) {p : Nat} (hp : 1 ≤ p) : eqT (txt (showL (txt (discL m p)) m.size)) m = fitsB m p := by
  have hs : showL (txt (discL m p)) m.size = rowL (fun k => mustL m p m.size (seenK p m.size k)) m.size := by
    unfold showL
    rw [txt_size, discL_length]
    exact rowL_congr fun k hk => show_disc h hp hk
  rw [hs]
  cases e : fitsB m p
  · refine eqT_false fun h2 => ?_
    have h3 : fitsB m p = true := by
      simp only [fitsB, fitsF, decide_eq_true_eq]
      intro k hk
      have h4 := congrArg (fun s => letter s k) h2
      simp only [letter_txt] at h4
      rw [rowL_get _ hk] at h4
      exact h4
    rw [h3] at e
    cases e
  · rw [eqT_iff]
    simp only [fitsB, fitsF, decide_eq_true_eq] at e
    exact (congrArg txt ((rowL_congr fun k hk => e k hk).trans (rowL_letters m))).trans (txt_of m)
theorem fits_self {m : ByteArray} (h : motB m = true) : fitsB m m.size = true := by
  simp only [fitsB, fitsF, decide_eq_true_eq]
  intro k hk
  obtain ⟨j, hj, h1, h2⟩ := lastL_some (seenK m.size m.size) (letter m) hk
  rw [h2]
  rw [seenK_self hj, seenK_self hk] at h1
  rw [h1]
theorem disc_motB {m : ByteArray} (h : motB m = true) {p : Nat} (hp : 1 ≤ p) (hq : p ≤ 24) : motB (txt (discL m p)) = true := by
  refine motB_txt (by rw [discL_length]; exact ⟨hp, hq⟩) fun c hc => ?_
  simp only [discL, rowL, List.mem_map] at hc
  obtain ⟨q, _, rfl⟩ := hc
  refine fillL_small (mustL_small h p m.size (Nat.le_refl _)) ?_ q
  have h1 := (motB_size h).1
  have h2 := mustL_seen h (p := p) (k := 0) (by omega)
  rw [seenK_zero _ _ h1] at h2
  exact (mustL_small h p m.size (Nat.le_refl _) 0).resolve_left h2

/-- The least of some values, as the program takes it: z of none. -/
def leastOf {α : Type} (lt : α → α → Bool) (z : α) : List α → α
  | [] => z
  | x :: xs => xs.foldl (fun r v => if lt v r then v else r) x
theorem leastOf_one {α : Type} (lt : α → α → Bool) (z x : α) : leastOf lt z ([] ++ [x]) = x := rfl
theorem leastOf_snoc {α : Type} (lt : α → α → Bool) (z : α) (xs : List α) (x : α) (h : xs ≠ []) : leastOf lt z (xs ++ [x]) = if lt x (leastOf lt z xs) then x else leastOf lt z xs := by
  cases xs with
  | nil => exact absurd rfl h
  | cons y ys =>
    rw [List.cons_append]
    simp only [leastOf]
    rw [List.foldl_append]
    rfl

/-- The numbers from 1 on that have a property. -/
def numL (P : Nat → Bool) : Nat → List Int
  | 0 => []
  | m + 1 => if P (m + 1) = true then numL P m ++ [((m + 1 : Nat) : Int)] else numL P m
theorem numL_length (P : Nat → Bool) : ∀ m, (numL P m).length ≤ m
  | 0 => Nat.le_refl _
  | m + 1 => by
    have := numL_length P m
    rw [numL]
    split
    · simp; omega
    · omega
def ltI (a b : Int) : Bool := decide (a < b)
theorem numL_none {P : Nat → Bool} : ∀ {m : Nat}, (∀ j, 1 ≤ j → j ≤ m → P j = false) → numL P m = []
  | 0, _ => rfl
  | m + 1, h => by
    rw [numL, h (m + 1) (by omega) (by omega), if_neg (by simp)]
    exact numL_none fun j h1 h2 => h j h1 (by omega)
theorem numL_least {P : Nat → Bool} {n : Nat} (h1 : 1 ≤ n) (hP : P n = true) (hm : ∀ j, 1 ≤ j → j < n → P j = false) : ∀ d, numL P (n + d) ≠ [] ∧ leastOf ltI 0 (numL P (n + d)) = n
  | 0 => by
    obtain ⟨k, rfl⟩ : ∃ k, n = k + 1 := ⟨n - 1, by omega⟩
    rw [Nat.add_zero, numL, if_pos hP, numL_none fun j h2 h3 => hm j h2 (by omega)]
    exact ⟨by simp, rfl⟩
  | d + 1 => by
    obtain ⟨h2, h3⟩ := numL_least h1 hP hm d
    rw [← Nat.add_assoc, numL]
    split
    · refine ⟨by simp, ?_⟩
      rw [leastOf_snoc _ _ _ _ h2, h3, if_neg (by simp [ltI]; omega)]
    · exact ⟨h2, h3⟩

/-- The first number from 1 on that has a property; m where there is none below it. -/
def firstN (P : Nat → Bool) (m : Nat) : Nat := match (List.range m).find? (fun k => decide (1 ≤ k) && P k) with
  | some k => k
  | none => m
theorem firstN_facts (P : Nat → Bool) {m : Nat} (h : 1 ≤ m) (hm : P m = true) : 1 ≤ firstN P m ∧ firstN P m ≤ m ∧ P (firstN P m) = true ∧ ∀ j, 1 ≤ j → j < firstN P m → P j = false := by
  unfold firstN
  cases e : (List.range m).find? (fun k => decide (1 ≤ k) && P k) with
  | none =>
    simp only
    rw [List.find?_eq_none] at e
    refine ⟨h, Nat.le_refl _, hm, fun j h1 h2 => ?_⟩
    have h3 := e j (List.mem_range.2 h2)
    simp only [Bool.and_eq_true, decide_eq_true_eq, not_and] at h3
    simpa using h3 h1
  | some k =>
    simp only
    have h1 := List.find?_some e
    simp only [Bool.and_eq_true, decide_eq_true_eq] at h1
    have h2 := List.mem_range.1 (List.mem_of_find?_eq_some e)
    refine ⟨h1.1, by omega, h1.2, fun j h3 h4 => ?_⟩
    rw [List.find?_range_eq_some] at e
    have h5 := e.2.2 j h4
    simp only [Bool.not_eq_true', Bool.and_eq_false_iff, decide_eq_false_iff_not] at h5
    exact h5.resolve_left (by omega)
theorem firstN_unique {P : Nat → Bool} {m n : Nat} (h : 1 ≤ m) (hm : P m = true) (h1 : 1 ≤ n) (hn : P n = true) (hl : ∀ j, 1 ≤ j → j < n → P j = false) : n = firstN P m := by
  obtain ⟨f1, f2, f3, f4⟩ := firstN_facts P h hm
  rcases Nat.lt_trichotomy n (firstN P m) with h2 | h2 | h2
  · rw [f4 n h1 h2] at hn; cases hn
  · exact h2
  · rw [hl _ f1 h2] at f3; cases f3
theorem numL_first {P : Nat → Bool} {m : Nat} (h : 1 ≤ m) (hm : P m = true) : leastOf ltI 0 (numL P m) = firstN P m := by
  obtain ⟨f1, f2, f3, f4⟩ := firstN_facts P h hm
  have h1 := (numL_least f1 f3 f4 (m - firstN P m)).2
  rwa [show firstN P m + (m - firstN P m) = m by omega] at h1

/-- A text, begun at one of its letters. -/
def rotB (s : ByteArray) (k : Nat) : ByteArray := s.extract k s.size ++ s.extract 0 k
theorem rotB_data {s : ByteArray} {k : Nat} (h : k ≤ s.size) : (rotB s k).data.toList = s.data.toList.drop k ++ s.data.toList.take k := by
  unfold rotB
  rw [ByteArray.data_append, Array.toList_append, ByteArray.data_extract, ByteArray.data_extract, Array.toList_extract, Array.toList_extract]
  simp only [List.extract_eq_take_drop, List.drop_zero, Nat.sub_zero]
  rw [List.take_of_length_le (by rw [List.length_drop, size_list]; omega)]
theorem rotB_size {s : ByteArray} {k : Nat} (h : k ≤ s.size) : (rotB s k).size = s.size := by
  rw [← size_list, rotB_data h, List.length_append, List.length_drop, List.length_take, size_list]
  omega
theorem rotB_zero (s : ByteArray) : rotB s 0 = s := by
  rw [← txt_of (rotB s 0), rotB_data (Nat.zero_le _), List.drop_zero, List.take_zero, List.append_nil, txt_of]
theorem rotB_all (s : ByteArray) : rotB s s.size = s := by
  rw [← txt_of (rotB s s.size), rotB_data (Nat.le_refl _), List.drop_of_length_le (by rw [size_list]; exact Nat.le_refl _), List.take_of_length_le (by rw [size_list]; exact Nat.le_refl _), List.nil_append, txt_of]
/-- A number after which a motion begins again. -/
def againB (s : ByteArray) (n : Nat) : Bool := decide (s.size % n = 0) && eqT (rotB s n) s
theorem againB_size (s : ByteArray) : againB s s.size = true := by simp [againB, rotB_all, eqT_refl]
/-- A text is another one, begun at one of its letters. -/
def turnB (a b : ByteArray) : Bool := (List.range a.size).any fun k => eqT (rotB a k) b
theorem turnB_size {a b : ByteArray} (h : a.size ≠ b.size) : turnB a b = false := by
  unfold turnB
  rw [List.any_eq_false]
  intro k hk
  have h1 := List.mem_range.1 hk
  rw [eqT_false fun e => h (by rw [← e, rotB_size (by omega)])]
  simp
theorem turnB_hit {a b : ByteArray} {k : Nat} (h : k < a.size) (he : eqT (rotB a k) b = true) : turnB a b = true := by
  unfold turnB
  rw [List.any_eq_true]
  exact ⟨k, List.mem_range.2 h, he⟩
theorem turnB_no {a b : ByteArray} (h : ∀ k, k < a.size → eqT (rotB a k) b = false) : turnB a b = false := by
  unfold turnB
  rw [List.any_eq_false]
  intro k hk
  rw [h k (List.mem_range.1 hk)]
  simp
/-- All turns of a text. -/
def turnsT (s : ByteArray) (n : Nat) : List ByteArray := (List.range n).map (rotB s)
theorem turnsT_succ (s : ByteArray) (n : Nat) : turnsT s (n + 1) = turnsT s n ++ [rotB s n] := by
  unfold turnsT
  rw [List.range_succ, List.map_append]
  rfl
theorem turnsT_length (s : ByteArray) (n : Nat) : (turnsT s n).length = n := by simp [turnsT]
/-- One text is before another one, as the walk says it. -/
def ltT (a b : ByteArray) : Bool := Op.bytesLess a.toList b.toList
/-- The first turn. -/
def firstT (s : ByteArray) : ByteArray := leastOf ltT ⟨#[]⟩ (turnsT s s.size)
/-- A text backwards. -/
def backB (s : ByteArray) : ByteArray := txt s.data.toList.reverse
theorem backB_size (s : ByteArray) : (backB s).size = s.size := by rw [backB, txt_size, List.length_reverse, size_list]
/-- How often the letter changes in the first places. -/
def changesN (s : ByteArray) : Nat → Nat
  | 0 => 0
  | n + 1 => if letter s n = letter s ((n + 1) % s.size) then changesN s n else changesN s n + 1
theorem changesN_le (s : ByteArray) : ∀ n, changesN s n ≤ n
  | 0 => Nat.le_refl _
  | n + 1 => by
    have := changesN_le s n
    rw [changesN]
    split <;> omega
theorem rot_letter {s : ByteArray} {k : Nat} (h : k < s.size) : letter (rotB s 1) k = letter s ((k + 1) % s.size) := by
  have h1 := rotB_data (s := s) (k := 1) (by omega)
  have hl := size_list s
  unfold letter
  rw [h1]
  by_cases e : k + 1 < s.size
  · rw [Nat.mod_eq_of_lt e, List.getD_eq_getElem?_getD, List.getD_eq_getElem?_getD, List.getElem?_append_left (by rw [List.length_drop, hl]; omega), List.getElem?_drop, Nat.add_comm 1 k]
  · have h2 : k + 1 = s.size := by omega
    rw [h2, Nat.mod_self, List.getD_eq_getElem?_getD, List.getD_eq_getElem?_getD, List.getElem?_append_right (by rw [List.length_drop, hl]; omega), List.length_drop, hl, List.getElem?_take]
    rw [if_pos (by omega)]
    congr 2
    omega

end Go.Proofs.Ytibafngidpmgdab
