/- What holds of books: plain mathematics for the two laws of chapter 8. -/
import Derived.Test.YtibafngidpmgdabScnTop
import Derived.Test.YtibafngidpmgdabTick
import Derived.Test.YtibafngidpmgdabBestTk
import Derived.Test.YtibafngidpmgdabBookText
namespace Go.Proofs.Ytibafngidpmgdab
set_option linter.unusedSimpArgs false
set_option linter.unusedVariables false

theorem gcdL_dvd {ps : List Scn} (h : TicksIn ps ps.length) : ∀ i, i ≤ ps.length → ∀ j, j < i → gcdL (ps.take i) ∣ (ps.getD j s0).2.toNat
  | 0, _, j, hj => absurd hj (Nat.not_lt_zero j)
  | i + 1, hi, j, hj => by
    rw [gcdL_take ps i (by omega)]
    by_cases e : j = i
    · rw [e]
      exact Nat.gcd_dvd_right _ _
    · exact Nat.dvd_trans (Nat.gcd_dvd_left _ _) (gcdL_dvd h i (by omega) j (by omega))
/-- The exact tick divides all ticks. -/
theorem exact_facts {ps : List Scn} (h : scnsB ps = true) : 1 ≤ exactN ps ∧ exactN ps ≤ 100 ∧ ∀ j, j < ps.length → ((ps.getD j s0).2 % (exactN ps : Int) = 0) := by
  have ht := ticksIn h
  have hl := scnsB_len h
  obtain ⟨g1, g2⟩ := gcdL_bd ht ps.length (Nat.le_refl _)
  rw [List.take_length] at g1 g2
  have g3 := g2 (by omega)
  have d1 := downT_one (gcdL ps) (min (gcdL ps) 100) (by omega)
  have d2 := downT_le (gcdL ps) (min (gcdL ps) 100)
  have d3 := downT_dvd (gcdL ps) (min (gcdL ps) 100) (by omega)
  refine ⟨d1, by unfold exactN; omega, fun j hj => ?_⟩
  have h1 := gcdL_dvd ht ps.length (Nat.le_refl _) j hj
  rw [List.take_length] at h1
  have h2 : exactN ps ∣ (ps.getD j s0).2.toNat := Nat.dvd_trans (Nat.dvd_of_mod_eq_zero d3) h1
  have h3 := (ht j hj).1
  obtain ⟨z, hz⟩ := Int.eq_ofNat_of_zero_le (show 0 ≤ (ps.getD j s0).2 by omega)
  rw [hz, Int.toNat_natCast] at h2
  rw [hz, ← Int.natCast_emod, Nat.mod_eq_zero_of_dvd h2]
  rfl

/-- The ticks that are divided: as many pages as they have parts. -/
theorem cnt_exact {t e : Int} (t1 : 1 ≤ t) (e1 : 1 ≤ e) (h : t % e = 0) : cnt t e * e = t ∧ off t e = 0 := by
  have h1 := Int.mul_ediv_add_emod t e
  rw [h, Int.add_zero] at h1
  obtain ⟨q, hq⟩ : ∃ q, t / e = q := ⟨_, rfl⟩
  rw [hq] at h1
  have hq1 : 1 ≤ q := by
    rcases Int.lt_or_le q 1 with h2 | h2
    · exfalso
      have : e * q ≤ 0 := by
        have h3 : q ≤ 0 := by omega
        have := Int.mul_le_mul_of_nonneg_left h3 (show 0 ≤ e by omega)
        omega
      omega
    · exact h2
  have hn : near t e = q := by
    unfold near
    rw [← h1, show 2 * (e * q) + e = e + (2 * e) * q by rw [Int.mul_assoc]; omega, Int.add_mul_ediv_left _ _ (by omega), Int.ediv_eq_zero_of_lt (by omega) (by omega)]
    omega
  have hc : cnt t e = q := by unfold cnt; rw [hn]; omega
  refine ⟨by rw [hc, Int.mul_comm]; exact h1, ?_⟩
  unfold off
  rw [hc, Int.mul_comm, h1]
  simp

theorem sumC_mul (f : Scn → Int) (e : Int) : ∀ ps : List Scn, sumC (fun x => f x * e) ps = sumC f ps * e
  | [] => by simp [sumC]
  | x :: xs => by simp [sumC, sumC_mul f e xs, Int.add_mul]
theorem sumC_congr {f g : Scn → Int} : ∀ (ps : List Scn), (∀ j, j < ps.length → f (ps.getD j s0) = g (ps.getD j s0)) → sumC f ps = sumC g ps
  | [], _ => rfl
  | x :: xs, h => by
    have h0 := h 0 (by simp)
    have h1 := sumC_congr (f := f) (g := g) xs (fun j hj => by have := h (j + 1) (by simp; omega); simpa using this)
    simp only [List.getD_cons_zero] at h0
    rw [sumC, sumC, h0, h1]
theorem sumC_zero {f : Scn → Int} : ∀ (ps : List Scn), (∀ j, j < ps.length → f (ps.getD j s0) = 0) → sumC f ps = 0
  | [], _ => rfl
  | x :: xs, h => by
    have h0 := h 0 (by simp)
    have h1 := sumC_zero (f := f) xs (fun j hj => by have := h (j + 1) (by simp; omega); simpa using this)
    simp only [List.getD_cons_zero] at h0
    rw [sumC, h0, h1]
    rfl
theorem getD_takeC (ps : List Scn) (i j : Nat) (h : j < i) : (ps.take i).getD j s0 = ps.getD j s0 := by
  rw [List.getD_eq_getElem?_getD, List.getElem?_take, if_pos h, ← List.getD_eq_getElem?_getD]
/-- Pages with the exact tick. -/
theorem pages_exact {ps : List Scn} {e : Int} (h : scnsB ps = true) (e1 : 1 ≤ e) (hd : ∀ j, j < ps.length → (ps.getD j s0).2 % e = 0) (i : Nat) (hi : i ≤ ps.length) : sumC (fun x => cnt x.2 e) (ps.take i) * e = sumC (fun x => x.2) (ps.take i) := by
  rw [← sumC_mul]
  refine sumC_congr _ fun j hj => ?_
  have hj2 : j < i := by
    have := List.length_take_le i ps
    omega
  rw [getD_takeC ps i j hj2]
  exact (cnt_exact (ticksIn h j (by omega)).1 e1 (hd j (by omega))).1
theorem wrong_exact {ps : List Scn} {e : Int} (h : scnsB ps = true) (e1 : 1 ≤ e) (hd : ∀ j, j < ps.length → (ps.getD j s0).2 % e = 0) : wrongN e ps = 0 :=
  sumC_zero _ fun j hj => (cnt_exact (ticksIn h j hj).1 e1 (hd j hj)).2

/-- Where the pages of a scene begin. -/
abbrev atB (ps : List Scn) (e : Int) (k : Nat) : Nat := (bookB ps e k).length
theorem bookB_more (ps : List Scn) (e : Int) (k d : Nat) : ∃ R, bookB ps e (k + d) = bookB ps e k ++ R := by
  induction d with
  | zero => exact ⟨[], by simp⟩
  | succ d ih =>
    obtain ⟨R, hR⟩ := ih
    exact ⟨R ++ Lib.repeatL (ps.getD (k + d) s0).1.data.toList (cnt (ps.getD (k + d) s0).2 e).toNat, by rw [← Nat.add_assoc, bookB, hR, List.append_assoc]⟩
theorem pose_txt {p : ByteArray} (h : p.size = 1) : p = txt [letter p 0] ∧ p.data.toList = [letter p 0] := by
  have hl := size_list p
  have h1 : p.data.toList = [letter p 0] := by
    unfold letter
    match hq : p.data.toList, hl with
    | [], h2 => simp at h2; omega
    | [c], _ => simp
    | c :: d :: r, h2 => simp at h2; omega
  exact ⟨by rw [← h1, txt_of], h1⟩
theorem atB_succ {ps : List Scn} {e : Int} (h : scnsB ps = true) (k : Nat) (hk : k < ps.length) : atB ps e (k + 1) = atB ps e k + (cnt (ps.getD k s0).2 e).toNat := by
  have h1 := (scns_scene h hk).1.1
  unfold atB
  rw [bookB, List.length_append, Lib.repeatL_length, size_list, h1]
  omega
/-- The page at a place within those of a scene. -/
theorem page_in {ps : List Scn} {e : Int} (h : scnsB ps = true) {k i : Nat} (hk : k < ps.length) (h1 : atB ps e k ≤ i) (h2 : i < atB ps e (k + 1)) : i < (txt (bookB ps e ps.length)).size ∧ pageT (txt (bookB ps e ps.length)) i = (ps.getD k s0).1 := by
  obtain ⟨R, hR⟩ := bookB_more ps e (k + 1) (ps.length - (k + 1))
  rw [show k + 1 + (ps.length - (k + 1)) = ps.length by omega] at hR
  have hi : i < (txt (bookB ps e ps.length)).size := by
    rw [txt_size, hR, List.length_append]
    unfold atB at h2
    omega
  refine ⟨hi, ?_⟩
  rw [pageT_txt hi, letter_txt, hR, List.getD_eq_getElem?_getD, List.getElem?_append_left h2, bookB, List.getElem?_append_right h1]
  have hs := (scns_scene h hk).1.1
  obtain ⟨p1, p2⟩ := pose_txt hs
  have h3 := atB_succ (e := e) h k hk
  rw [p2, show ([letter (ps.getD k s0).1 0] : List UInt8) = List.replicate 1 (letter (ps.getD k s0).1 0) from rfl, Lib.repeatL_replicate, List.getElem?_replicate, if_pos (by unfold atB at h3 h1 h2; omega)]
  exact p1.symm

/-- The scenes of the pages so far: all up to a scene, and that one with the pages that it has by then. -/
theorem runs_part {ps : List Scn} {e : Int} (h : scnsB ps = true) (e1 : 1 ≤ e) (e2 : e ≤ 100) (hd : ∀ j, j < ps.length → (ps.getD j s0).2 % e = 0) (k : Nat) (hk : k < ps.length) (hb : runsC (txt (bookB ps e ps.length)) e (atB ps e k) = ps.take k) : ∀ j, 1 ≤ j → j ≤ (cnt (ps.getD k s0).2 e).toNat → runsC (txt (bookB ps e ps.length)) e (atB ps e k + j) = ps.take k ++ [((ps.getD k s0).1, e * (j : Int))]
  | 0, hj, _ => absurd hj (by omega)
  | j + 1, _, hj => by
    have ha := atB_succ (e := e) h k hk
    have hp := (page_in (e := e) h hk (i := atB ps e k + j) (by omega) (by omega)).2
    have hlk : (ps.take k).length = k := by rw [List.length_take]; omega
    rw [← Nat.add_assoc, runsC, hp]
    by_cases j0 : j = 0
    · subst j0
      rw [Nat.add_zero, hb, pagC, hlk]
      have hc : k = 0 ∨ ((ps.take k).getD (k - 1) s0).1 ≠ (ps.getD k s0).1 := by
        by_cases k0 : k = 0
        · exact .inl k0
        · refine .inr ?_
          rw [getD_takeC ps k (k - 1) (by omega)]
          intro he
          have h2 := scnsB_step h hk
          simp only [stepC, Bool.and_eq_true, Bool.not_eq_true', Bool.and_eq_false_iff, decide_eq_false_iff_not] at h2
          rcases h2.2 with h3 | h3
          · exact h3 (by omega)
          · rw [he, eqT_refl] at h3
            cases h3
      rw [if_pos hc]
      simp
    · rw [runs_part h e1 e2 hd k hk hb j (by omega) (by omega), pagC]
      have hl : (ps.take k ++ [((ps.getD k s0).1, e * (j : Int))]).length = k + 1 := by rw [List.length_append, hlk]; rfl
      have hg : (ps.take k ++ [((ps.getD k s0).1, e * (j : Int))]).getD (k + 1 - 1) s0 = ((ps.getD k s0).1, e * (j : Int)) := by
        rw [getD_snocC, hlk, if_pos (by omega)]
      rw [hl, hg, if_neg (by simp)]
      rw [List.set_append_right _ _ (by omega), hlk, show k + 1 - 1 - k = 0 by omega, List.set_cons_zero]
      congr 3
      rw [Int.natCast_add, Int.mul_add]
      simp
/-- A book that shows scenes exactly is seen as these. -/
theorem runs_exact {ps : List Scn} {e : Int} (h : scnsB ps = true) (e1 : 1 ≤ e) (e2 : e ≤ 100) (hd : ∀ j, j < ps.length → (ps.getD j s0).2 % e = 0) : ∀ k, k ≤ ps.length → runsC (txt (bookB ps e ps.length)) e (atB ps e k) = ps.take k
  | 0, _ => by simp [atB, bookB, runsC]
  | k + 1, hk => by
    have hb := runs_exact h e1 e2 hd k (by omega)
    have ht := ticksIn h k (by omega)
    have hc := cnt_bd ht.1 ht.2 e1 e2
    have hx := (cnt_exact ht.1 e1 (hd k (by omega))).1
    rw [atB_succ (e := e) h k (by omega), runs_part h e1 e2 hd k (by omega) hb _ (by omega) (Nat.le_refl _), take_snocC ps k (by omega)]
    congr 2
    rw [show (((cnt (ps.getD k s0).2 e).toNat : Nat) : Int) = cnt (ps.getD k s0).2 e by omega, Int.mul_comm, hx]
theorem runs_whole {ps : List Scn} {e : Int} (h : scnsB ps = true) (e1 : 1 ≤ e) (e2 : e ≤ 100) (hd : ∀ j, j < ps.length → (ps.getD j s0).2 % e = 0) : runsC (txt (bookB ps e ps.length)) e (txt (bookB ps e ps.length)).size = ps := by
  have h1 := runs_exact h e1 e2 hd ps.length (Nat.le_refl _)
  rw [List.take_length] at h1
  rw [txt_size]
  exact h1

theorem repeatL_mem {l : List UInt8} {c : UInt8} : ∀ {k : Nat}, c ∈ Lib.repeatL l k → c ∈ l
  | 0, h => by simp [Lib.repeatL] at h
  | k + 1, h => by
    rw [Lib.repeatL, List.mem_append] at h
    rcases h with h | h
    · exact h
    · exact repeatL_mem h
theorem bookB_small {ps : List Scn} {e : Int} (h : scnsB ps = true) : ∀ k, k ≤ ps.length → ∀ c ∈ bookB ps e k, smallB c = true
  | 0, _, c, hc => by simp [bookB] at hc
  | k + 1, hk, c, hc => by
    rw [bookB, List.mem_append] at hc
    rcases hc with hc | hc
    · exact bookB_small h k (by omega) c hc
    · obtain ⟨h1, h2⟩ := (scns_scene h (k := k) (by omega)).1
      have h3 := repeatL_mem hc
      rw [(pose_txt h1).2, List.mem_singleton] at h3
      rw [h3]
      exact h2
/-- The text of a book is one of pages. -/
theorem book_pos {ps : List Scn} {e : Int} (h : scnsB ps = true) (h1 : 1 ≤ (bookB ps e ps.length).length) (h2 : (bookB ps e ps.length).length ≤ 60) : posB (txt (bookB ps e ps.length)) 60 = true := by
  refine posB_mk (by rw [txt_size]; exact ⟨h1, h2⟩) fun k hk => ?_
  rw [txt_size] at hk
  rw [letter_txt, List.getD_eq_getElem?_getD, List.getElem?_eq_getElem hk]
  exact bookB_small h ps.length (Nat.le_refl _) _ (List.getElem_mem hk)

end Go.Proofs.Ytibafngidpmgdab
