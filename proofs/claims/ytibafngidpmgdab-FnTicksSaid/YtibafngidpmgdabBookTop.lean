/- What the law of books asks, in numbers. -/
import Derived.Test.YtibafngidpmgdabBookFacts
import Derived.Test.YtibafngidpmgdabPages
import Derived.Test.YtibafngidpmgdabScenesOf
namespace Go.Proofs.Ytibafngidpmgdab
set_option linter.unusedSimpArgs false
set_option linter.unusedVariables false

/-- Where the pages of a scene begin, in ticks. -/
theorem atB_ticks {ps : List Scn} {e : Int} (h : scnsB ps = true) (e1 : 1 ≤ e) (e2 : e ≤ 100) (hd : ∀ j, j < ps.length → (ps.getD j s0).2 % e = 0) (k : Nat) (hk : k ≤ ps.length) : (atB ps e k : Int) * e = sumC (fun x => x.2) (ps.take k) := by
  have h1 := bookB_length (e := e) h e1 e2 k hk
  unfold atB
  rw [h1, pages_exact h e1 hd k hk]
theorem ticks_sum {ps : List Scn} (h : scnsB ps = true) : 1 ≤ ticksN ps ∧ ticksN ps ≤ 12000 := by
  have hl := scnsB_len h
  have ht := ticksIn h
  have h1 := ticks_bd ht hl.2 ps.length
  rw [List.take_length] at h1
  refine ⟨?_, h1.2⟩
  have h2 := sumC_take (fun x => x.2) ps 0 (by omega)
  have h3 := (ht 0 (by omega)).1
  have h4 := ticks_bd ht hl.2 1
  have h5 : sumC (fun x => x.2) (ps.take 0) = 0 := by simp [sumC]
  rw [h5] at h2
  have key : ∀ i, 1 ≤ i → i ≤ ps.length → 1 ≤ sumC (fun x => x.2) (ps.take i) := by
    intro i
    induction i with
    | zero => intro hi; omega
    | succ i ih =>
      intro _ hi
      rw [sumC_take (fun x => x.2) ps i (by omega)]
      have := (ht i (by omega)).1
      have h6 := (ticks_bd ht hl.2 i).1
      omega
  have := key ps.length hl.1 (Nat.le_refl _)
  rwa [List.take_length] at this

/-- The book of the exact tick: its code, and all else of a book that is not too long. -/
theorem exact_book {ps : List Scn} (h : scnsB ps = true) :
    (code8 ps (exactN ps) = 5 ∧ 60 * (exactN ps : Int) < ticksN ps) ∨
    (code8 ps (exactN ps) = 0 ∧ ticksN ps ≤ 60 * (exactN ps : Int) ∧ err8 ps (exactN ps) = 0 ∧
      (bookT ps (exactN ps)).size * (exactN ps : Int) = ticksN ps ∧ (bookT ps (exactN ps)).size ≤ 60 ∧
      scenesK (bookT ps (exactN ps)) (exactN ps) = 0 ∧ scenesQ (bookT ps (exactN ps)) (exactN ps) = ps ∧
      pageC (bookT ps (exactN ps)) (exactN ps) (ticksN ps) = 3 ∧
      ∀ t k, k < ps.length → sumC (fun x => x.2) (ps.take k) ≤ t → t < sumC (fun x => x.2) (ps.take k) + (ps.getD k s0).2 → 0 ≤ t → t < ticksN ps → pageZ (bookT ps (exactN ps)) (exactN ps) t = (ps.getD k s0).1 ∧ pageC (bookT ps (exactN ps)) (exactN ps) t = 0) := by
  obtain ⟨e1, e2, hd⟩ := exact_facts h
  have hl := scnsB_len h
  have hS := ticks_sum h
  obtain ⟨e, he⟩ : ∃ e : Int, (exactN ps : Int) = e := ⟨_, rfl⟩
  rw [he] at hd ⊢
  have e1' : 1 ≤ e := by omega
  have e2' : e ≤ 100 := by omega
  have hE : inB e 1 100 = true := inB_iff.2 ⟨e1', e2'⟩
  have hpt := atB_ticks h e1' e2' hd ps.length (Nat.le_refl _)
  have hlen := bookB_length (e := e) h e1' e2' ps.length (Nat.le_refl _)
  rw [List.take_length] at hpt hlen
  have hPN : (atB ps e ps.length : Int) = pagesN e ps := hlen
  have hTN : sumC (fun x => x.2) ps = ticksN ps := rfl
  rw [hTN] at hpt
  rcases code8_cases ps e with ⟨h1, _⟩ | ⟨_, h2, _⟩ | ⟨_, _, h3, h5⟩ | ⟨_, _, h3, h5⟩
  · rw [h] at h1; cases h1
  · rw [hE] at h2; cases h2
  · refine .inl ⟨h5, ?_⟩
    have := Int.mul_le_mul_of_nonneg_right (show 61 ≤ (atB ps e ps.length : Int) by omega) (show 0 ≤ e by omega)
    omega
  · refine .inr ⟨h5, ?_, ?_, ?_⟩
    · have := Int.mul_le_mul_of_nonneg_right (show (atB ps e ps.length : Int) ≤ 60 by omega) (show 0 ≤ e by omega)
      omega
    · rw [err8, if_pos h5]
      exact wrong_exact h e1' hd
    have hT : bookT ps e = txt (bookB ps e ps.length) := by rw [bookT, if_pos h5]
    have hsz : (bookT ps e).size = atB ps e ps.length := by rw [hT, txt_size]
    have hb60 : atB ps e ps.length ≤ 60 := by omega
    have hb1 : 1 ≤ atB ps e ps.length := by
      rcases Nat.eq_zero_or_pos (atB ps e ps.length) with h0 | h0
      · rw [h0] at hpt
        simp at hpt
        omega
      · exact h0
    have hpos : posB (bookT ps e) 60 = true := by rw [hT]; exact book_pos h hb1 hb60
    have hrun : runsC (bookT ps e) e (bookT ps e).size = ps := by rw [hT]; exact runs_whole h e1' e2' hd
    refine ⟨by rw [hsz]; exact hpt, by rw [hsz]; exact hb60, ?_, ?_, ?_, ?_⟩
    · simp [scenesK, hpos, hE, hrun, h]
    · simp [scenesQ, hpos, hE, hrun, h]
    · have hin : inB (ticksN ps) 0 6000 = true := inB_iff.2 ⟨by omega, by
        have := Int.mul_le_mul_of_nonneg_right (show (atB ps e ps.length : Int) ≤ 60 by omega) (show 0 ≤ e by omega)
        omega⟩
      have hq : ticksN ps / e = (atB ps e ps.length : Int) := by
        rw [← hpt, Int.mul_ediv_cancel _ (by omega)]
      have hlt : ¬ ticksN ps / e < ((bookT ps e).size : Int) := by rw [hq, hsz]; omega
      simp only [pageC, hpos, hE, hin, and_self, if_true, if_neg hlt]
    · intro t k hk h6 h7 t0 t1
      have a0 := atB_ticks h e1' e2' hd k (by omega)
      have a1 := atB_ticks h e1' e2' hd (k + 1) (by omega)
      rw [sumC_take (fun x => x.2) ps k hk] at a1
      rw [← a0] at h6 h7 a1
      rw [← a1] at h7
      have q0 : (atB ps e k : Int) ≤ t / e := (Int.le_ediv_iff_mul_le (by omega)).2 h6
      have q1 : t / e < (atB ps e (k + 1) : Int) := (Int.ediv_lt_iff_lt_mul (by omega)).2 h7
      obtain ⟨i, hi⟩ := Int.eq_ofNat_of_zero_le (show 0 ≤ t / e by omega)
      obtain ⟨p1, p2⟩ := page_in (e := e) h hk (i := i) (by omega) (by omega)
      rw [← hT] at p1 p2
      have hin : inB t 0 6000 = true := inB_iff.2 ⟨t0, by
        have := Int.mul_le_mul_of_nonneg_right (show (atB ps e ps.length : Int) ≤ 60 by omega) (show 0 ≤ e by omega)
        omega⟩
      have hlt : t / e < ((bookT ps e).size : Int) := by omega
      refine ⟨?_, ?_⟩
      · rw [pageZ, if_pos ⟨hpos, hE, hin, hlt⟩, hi, Int.toNat_natCast, p2]
      · simp only [pageC, hpos, hE, hin, and_self, if_true, if_pos hlt]

end Go.Proofs.Ytibafngidpmgdab
