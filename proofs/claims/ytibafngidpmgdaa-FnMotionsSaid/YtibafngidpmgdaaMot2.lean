/- Motions: the mathematics of the laws: turns, the first one of them, the period; what a disc shows has a disc. -/
import Derived.Test.YtibafngidpmgdaaMot
namespace Go.Proofs.Ytibafngidpmgdaa
set_option linter.unusedSimpArgs false
set_option linter.unusedVariables false

theorem text_ext {a b : ByteArray} (hs : a.size = b.size) (h : ∀ i, i < a.size → letter a i = letter b i) : a = b := by
  rw [← txt_of a, ← txt_of b]
  congr 1
  rw [← rowL_letters a, ← rowL_letters b, ← hs]
  exact rowL_congr h

theorem rotB_letter {s : ByteArray} {k i : Nat} (hk : k ≤ s.size) (hi : i < s.size) : letter (rotB s k) i = letter s ((i + k) % s.size) := by
  have h1 := rotB_data hk
  have hl := size_list s
  unfold letter
  rw [h1]
  by_cases e : i + k < s.size
  · rw [Nat.mod_eq_of_lt e, List.getD_eq_getElem?_getD, List.getD_eq_getElem?_getD, List.getElem?_append_left (by rw [List.length_drop, hl]; omega), List.getElem?_drop, Nat.add_comm k i]
  · have h2 : (i + k) % s.size = i + k - s.size := by
      rw [Nat.mod_eq_sub_mod (by omega), Nat.mod_eq_of_lt (by omega)]
    rw [h2, List.getD_eq_getElem?_getD, List.getD_eq_getElem?_getD, List.getElem?_append_right (by rw [List.length_drop, hl]; omega), List.length_drop, hl, List.getElem?_take]
    rw [if_pos (by omega)]
    congr 2
    omega
theorem rot_rot {s : ByteArray} {a k : Nat} (h : 1 ≤ s.size) (ha : a ≤ s.size) (hk : k ≤ s.size) : rotB (rotB s a) k = rotB s ((a + k) % s.size) := by
  have hz := rotB_size ha
  have hm := Nat.mod_lt (a + k) (show 0 < s.size by omega)
  refine text_ext ?_ fun i hi => ?_
  · rw [rotB_size (by rw [hz]; exact hk), hz, rotB_size (by omega)]
  · rw [rotB_size (by rw [hz]; exact hk), hz] at hi
    rw [rotB_letter (by rw [hz]; exact hk) (by rw [hz]; exact hi), hz, rotB_letter ha (Nat.mod_lt _ (by omega)), rotB_letter (by omega) hi]
    congr 1
    rw [Nat.mod_add_mod, Nat.add_mod_mod]
    congr 1
    omega
theorem rot_motB {s : ByteArray} {k : Nat} (h : motB s = true) (hk : k ≤ s.size) : motB (rotB s k) = true := by
  obtain ⟨s1, s2⟩ := motB_size h
  refine motB_mk (by rw [rotB_size hk]; omega) fun i hi => ?_
  rw [rotB_size hk] at hi
  rw [rotB_letter hk hi]
  have := motB_letter h (k := (i + k) % s.size) (Nat.mod_lt _ (by omega))
  simp only [smallB, Bool.and_eq_true, decide_eq_true_eq]
  exact this
theorem back_motB {s : ByteArray} (h : motB s = true) : motB (backB s) = true := by
  obtain ⟨s1, s2⟩ := motB_size h
  refine motB_txt (by rw [List.length_reverse, size_list]; omega) fun c hc => ?_
  exact motB_mem h c (List.mem_reverse.1 hc)
theorem back_back (s : ByteArray) : backB (backB s) = s := by
  unfold backB
  rw [txt_data, List.reverse_reverse, txt_of]
theorem show_motB {s : ByteArray} {n : Nat} (h : motB s = true) (n1 : 1 ≤ n) (n2 : n ≤ 24) : motB (txt (showL s n)) = true := by
  obtain ⟨s1, s2⟩ := motB_size h
  refine motB_txt (by rw [showL_length]; omega) fun c hc => ?_
  simp only [showL, rowL, List.mem_map] at hc
  obtain ⟨k, _, rfl⟩ := hc
  have := motB_letter h (seenK_lt n k s1)
  simp only [smallB, Bool.and_eq_true, decide_eq_true_eq]
  exact this

/-- What a disc shows has a disc with as many pictures. -/
theorem show_has {s : ByteArray} {n : Nat} (n1 : 1 ≤ n) : fitsB (txt (showL s n)) s.size = true := by
  have hz : (txt (showL s n)).size = n := by rw [txt_size, showL_length]
  have hl : ∀ k, k < n → letter (txt (showL s n)) k = letter s (seenK s.size n k) := fun k hk => by
    rw [letter_txt, showL, rowL_get _ hk]
  simp only [fitsB, fitsF, decide_eq_true_eq, hz]
  intro k hk
  obtain ⟨j, hj, h1, h2⟩ := lastL_some (seenK s.size n) (letter (txt (showL s n))) hk
  rw [h2, hl j hj, hl k hk, h1]
/-- .. whose pictures that are seen are those of the disc. -/
theorem show_same {s : ByteArray} {n : Nat} (h : motB s = true) (n1 : 1 ≤ n) (n2 : n ≤ 24) {k : Nat} (hk : k < n) :
    letter (txt (showL s n)) k = letter s (seenK s.size n k) ∧ letter (txt (discL (txt (showL s n)) s.size)) (seenK s.size n k) = letter s (seenK s.size n k) := by
  obtain ⟨s1, s2⟩ := motB_size h
  have hz : (txt (showL s n)).size = n := by rw [txt_size, showL_length]
  have hl : letter (txt (showL s n)) k = letter s (seenK s.size n k) := by rw [letter_txt, showL, rowL_get _ hk]
  refine ⟨hl, ?_⟩
  have h1 := show_disc (show_motB h n1 n2) (p := s.size) s1 (k := k) (by rw [hz]; exact hk)
  rw [hz] at h1
  rw [h1, ← hl]
  have h2 := show_has (s := s) n1
  simp only [fitsB, fitsF, decide_eq_true_eq, hz] at h2
  unfold mustL
  rw [hz]
  exact h2 k hk
theorem show_again {s : ByteArray} {n : Nat} (h : motB s = true) (n1 : 1 ≤ n) (n2 : n ≤ 24) : txt (showL (txt (discL (txt (showL s n)) s.size)) n) = txt (showL s n) := by
  have hz : (txt (showL s n)).size = n := by rw [txt_size, showL_length]
  have h1 := show_fits (show_motB h n1 n2) (p := s.size) (motB_size h).1
  rw [show_has n1, hz] at h1
  exact eqT_iff.1 h1
theorem fewest_le {s : ByteArray} {n : Nat} (h : motB s = true) (n1 : 1 ≤ n) (n2 : n ≤ 24) :
    1 ≤ firstN (fitsB (txt (showL s n))) n ∧ firstN (fitsB (txt (showL s n))) n ≤ n ∧ firstN (fitsB (txt (showL s n))) n ≤ s.size := by
  have hz : (txt (showL s n)).size = n := by rw [txt_size, showL_length]
  have h0 := fits_self (show_motB h n1 n2)
  rw [hz] at h0
  obtain ⟨f1, f2, f3, f4⟩ := firstN_facts (fitsB (txt (showL s n))) n1 h0
  refine ⟨f1, f2, ?_⟩
  rcases Nat.lt_or_ge s.size (firstN (fitsB (txt (showL s n))) n) with h2 | h2
  · have h3 := f4 s.size (motB_size h).1 h2
    rw [show_has n1] at h3
    cases h3
  · exact h2

/-- The order of texts. -/
theorem less_irrefl : ∀ l : List UInt8, Op.bytesLess l l = false
  | [] => rfl
  | a :: l => by
    have := less_irrefl l
    simp [Op.bytesLess, this, UInt8.lt_irrefl]
theorem less_trans : ∀ x y z : List UInt8, Op.bytesLess x y = true → Op.bytesLess y z = true → Op.bytesLess x z = true
  | _, [], _, h, _ => by cases ‹List UInt8› <;> simp [Op.bytesLess] at h
  | _, _ :: _, [], _, h => by simp [Op.bytesLess] at h
  | [], _ :: _, _ :: _, _, _ => by simp [Op.bytesLess]
  | a :: x, b :: y, c :: z, h1, h2 => by
    simp only [Op.bytesLess, Bool.or_eq_true, decide_eq_true_eq, Bool.and_eq_true, beq_iff_eq] at h1 h2 ⊢
    rcases h1 with h1 | ⟨rfl, h1⟩
    · rcases h2 with h2 | ⟨rfl, h2⟩
      · exact .inl (UInt8.lt_trans h1 h2)
      · exact .inl h1
    · rcases h2 with h2 | ⟨rfl, h2⟩
      · exact .inl h2
      · exact .inr ⟨rfl, less_trans x y z h1 h2⟩
theorem less_total : ∀ x y : List UInt8, Op.bytesLess x y = false → Op.bytesLess y x = false → x = y
  | [], [], _, _ => rfl
  | [], _ :: _, h, _ => by simp [Op.bytesLess] at h
  | _ :: _, [], _, h => by simp [Op.bytesLess] at h
  | a :: x, b :: y, h1, h2 => by
    simp only [Op.bytesLess, Bool.or_eq_false_iff, decide_eq_false_iff_not, Bool.and_eq_false_iff] at h1 h2
    have e : a = b := by
      have h3 := h1.1
      have h4 := h2.1
      rw [UInt8.lt_iff_toNat_lt] at h3 h4
      exact UInt8.toNat_inj.1 (by omega)
    subst e
    have h3 : Op.bytesLess x y = false := by simpa using h1.2
    have h4 : Op.bytesLess y x = false := by simpa using h2.2
    rw [less_total x y h3 h4]
theorem ltT_trans {a b c : ByteArray} (h1 : ltT a b = true) (h2 : ltT b c = true) : ltT a c = true := less_trans _ _ _ h1 h2
theorem ltT_total {a b : ByteArray} (h1 : ltT a b = false) (h2 : ltT b a = false) : a = b := by
  have h := less_total _ _ h1 h2
  rw [toList_data, toList_data] at h
  rw [← txt_of a, h, txt_of]
theorem ltT_irrefl (a : ByteArray) : ltT a a = false := less_irrefl _

theorem fold_least (z : ByteArray) : ∀ (xs : List ByteArray) (r : ByteArray), (xs.foldl (fun r v => if ltT v r then v else r) r ∈ r :: xs) ∧ ∀ y ∈ r :: xs, ltT y (xs.foldl (fun r v => if ltT v r then v else r) r) = false
  | [], r => ⟨by simp, fun y hy => by simp at hy; subst hy; exact ltT_irrefl _⟩
  | x :: xs, r => by
    rw [List.foldl_cons]
    cases h : ltT x r
    · rw [if_neg (by simp)]
      obtain ⟨h1, h2⟩ := fold_least z xs r
      refine ⟨?_, fun y hy => ?_⟩
      · rcases List.mem_cons.1 h1 with e | e
        · rw [e]; simp
        · exact List.mem_cons_of_mem _ (List.mem_cons_of_mem _ e)
      · rcases List.mem_cons.1 hy with rfl | e
        · exact h2 y (by simp)
        · rcases List.mem_cons.1 e with rfl | e
          · cases h3 : ltT y (xs.foldl (fun r v => if ltT v r then v else r) r)
            · rfl
            · -- y before the least, which is not after r
              exfalso
              have h4 := h2 r (by simp)
              cases h5 : ltT (xs.foldl (fun r v => if ltT v r then v else r) r) r
              · have h6 := ltT_total h4 h5
                rw [← h6] at h3
                rw [h] at h3
                cases h3
              · have h6 := ltT_trans h3 h5
                rw [h] at h6
                cases h6
          · exact h2 y (List.mem_cons_of_mem _ e)
    · rw [if_pos rfl]
      obtain ⟨h1, h2⟩ := fold_least z xs x
      refine ⟨List.mem_cons_of_mem _ h1, fun y hy => ?_⟩
      rcases List.mem_cons.1 hy with rfl | e
      · cases h3 : ltT y (xs.foldl (fun r v => if ltT v r then v else r) x)
        · rfl
        · exfalso
          have h4 := h2 x (by simp)
          have h6 := ltT_trans h h3
          rw [h4] at h6
          cases h6
      · exact h2 y e
theorem first_facts {s : ByteArray} (h : 1 ≤ s.size) : (∃ k, k < s.size ∧ rotB s k = firstT s) ∧ ∀ k, k < s.size → ltT (rotB s k) (firstT s) = false := by
  obtain ⟨n, hn⟩ : ∃ n, s.size = n + 1 := ⟨s.size - 1, by omega⟩
  have hc : turnsT s s.size = rotB s 0 :: (List.range n).map (fun k => rotB s (k + 1)) := by
    rw [hn]
    unfold turnsT
    rw [List.range_succ_eq_map, List.map_cons, List.map_map]
    rfl
  obtain ⟨h1, h2⟩ := fold_least ⟨#[]⟩ ((List.range n).map (fun k => rotB s (k + 1))) (rotB s 0)
  have hm : ∀ x, x ∈ turnsT s s.size ↔ ∃ k, k < s.size ∧ rotB s k = x := fun x => by
    unfold turnsT
    rw [List.mem_map]
    exact ⟨fun ⟨k, a, b⟩ => ⟨k, List.mem_range.1 a, b⟩, fun ⟨k, a, b⟩ => ⟨k, List.mem_range.2 a, b⟩⟩
  have hf : firstT s = ((List.range n).map (fun k => rotB s (k + 1))).foldl (fun r v => if ltT v r then v else r) (rotB s 0) := by
    unfold firstT
    rw [hc]
    rfl
  rw [← hc, ← hf] at h1
  rw [← hc, ← hf] at h2
  exact ⟨(hm _).1 h1, fun k hk => h2 _ ((hm _).2 ⟨k, hk, rfl⟩)⟩
/-- The first turn is the same for all turns. -/
theorem first_turn {s : ByteArray} {a : Nat} (h : 1 ≤ s.size) (ha : a < s.size) : firstT (rotB s a) = firstT s := by
  have hz := rotB_size (s := s) (k := a) (by omega)
  obtain ⟨⟨k, hk, e1⟩, m1⟩ := first_facts (s := s) h
  obtain ⟨⟨j, hj, e2⟩, m2⟩ := first_facts (s := rotB s a) (by omega)
  rw [hz] at hj
  refine ltT_total ?_ ?_
  · rw [← e2, rot_rot h (by omega) (by omega)]
    exact m1 _ (Nat.mod_lt _ (by omega))
  · have h3 := m2 ((k + (s.size - a)) % s.size) (by rw [hz]; exact Nat.mod_lt _ (by omega))
    have hb := Nat.mod_lt (k + (s.size - a)) (show 0 < s.size by omega)
    rw [rot_rot h (by omega) (by omega), Nat.add_mod_mod, show a + (k + (s.size - a)) = k + s.size by omega, Nat.add_mod_right, Nat.mod_eq_of_lt hk, e1] at h3
    exact h3
/-- The first turn is not behind the motion. -/
theorem first_le {s : ByteArray} (h : 1 ≤ s.size) : (ltT (firstT s) s || eqT (firstT s) s) = true := by
  obtain ⟨_, m1⟩ := first_facts h
  have h2 := m1 0 (by omega)
  rw [rotB_zero] at h2
  cases h3 : ltT (firstT s) s
  · rw [ltT_total h3 h2, eqT_refl]
    rfl
  · rfl
theorem first_turnB {s : ByteArray} (h : 1 ≤ s.size) : turnB s (firstT s) = true := by
  obtain ⟨⟨k, hk, e1⟩, _⟩ := first_facts h
  exact turnB_hit hk (by rw [e1]; exact eqT_refl _)
theorem first_motB {s : ByteArray} (h : motB s = true) : motB (firstT s) = true := by
  obtain ⟨⟨k, hk, e1⟩, _⟩ := first_facts (motB_size h).1
  rw [← e1]
  exact rot_motB h (by omega)

/-- The period: it divides the length, each letter is that so many places behind it, and no less number is so. -/
theorem period_facts {s : ByteArray} (h : 1 ≤ s.size) :
    1 ≤ firstN (againB s) s.size ∧ firstN (againB s) s.size ≤ s.size ∧ s.size % firstN (againB s) s.size = 0 ∧
      (∀ i, i < s.size → letter s ((i + firstN (againB s) s.size) % s.size) = letter s i) ∧
      ∀ p, 1 ≤ p → p < firstN (againB s) s.size → s.size % p = 0 → eqT (rotB s p) s = false := by
  obtain ⟨f1, f2, f3, f4⟩ := firstN_facts (againB s) h (againB_size s)
  generalize firstN (againB s) s.size = p at *
  simp only [againB, Bool.and_eq_true, decide_eq_true_eq] at f3
  refine ⟨f1, f2, f3.1, fun i hi => ?_, fun q q1 q2 q3 => ?_⟩
  · have h1 := eqT_iff.1 f3.2
    rw [← rotB_letter f2 hi, h1]
  · have h1 := f4 q q1 q2
    simp only [againB, q3, decide_true, Bool.true_and] at h1
    exact h1

end Go.Proofs.Ytibafngidpmgdaa
