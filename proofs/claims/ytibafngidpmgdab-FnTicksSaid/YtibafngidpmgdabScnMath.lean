/- Scenes and books: plain mathematics. -/
import Derived.Test.YtibafngidpmgdabScn
import Derived.Test.YtibafngidpmgdabDiscMath
namespace Go.Proofs.Ytibafngidpmgdab
set_option linter.unusedSimpArgs false
set_option linter.unusedVariables false

/-- A scene is valid. -/
def sceneB (x : Scn) : Bool := posB x.1 1 && inB x.2 1 1000
/-- The scene at a place may stand behind the one ahead of it. -/
def stepC (ps : List Scn) (k : Nat) : Bool := sceneB (ps.getD k s0) && !(decide (0 < k) && eqT (ps.getD k s0).1 (ps.getD (k - 1) s0).1)
/-- A list of scenes is valid. -/
def scnsB (ps : List Scn) : Bool := decide (1 ≤ ps.length ∧ ps.length ≤ 12) && decide (∀ k, k < ps.length → stepC ps k = true)
theorem scnsB_len {ps : List Scn} (h : scnsB ps = true) : 1 ≤ ps.length ∧ ps.length ≤ 12 := by
  simp only [scnsB, Bool.and_eq_true, decide_eq_true_eq] at h
  exact h.1
theorem scnsB_step {ps : List Scn} (h : scnsB ps = true) {k : Nat} (hk : k < ps.length) : stepC ps k = true := by
  simp only [scnsB, Bool.and_eq_true, decide_eq_true_eq] at h
  exact h.2 k hk
theorem scnsB_mk {ps : List Scn} (h : 1 ≤ ps.length ∧ ps.length ≤ 12) (h2 : ∀ k, k < ps.length → stepC ps k = true) : scnsB ps = true := by
  simp only [scnsB, Bool.and_eq_true, decide_eq_true_eq]
  exact ⟨h, h2⟩
theorem scnsB_bad {ps : List Scn} {k : Nat} (h : k < ps.length) (hb : stepC ps k = false) : scnsB ps = false := by
  cases e : scnsB ps
  · rfl
  · rw [scnsB_step e h] at hb
    cases hb
theorem scnsB_off {ps : List Scn} (h : ¬ (1 ≤ ps.length ∧ ps.length ≤ 12)) : scnsB ps = false := by simp [scnsB, h]
theorem stepC_scene {ps : List Scn} {k : Nat} (h : stepC ps k = true) : sceneB (ps.getD k s0) = true := by
  simp only [stepC, Bool.and_eq_true] at h
  exact h.1
theorem scene_parts {x : Scn} (h : sceneB x = true) : (x.1.size = 1 ∧ smallB (letter x.1 0) = true) ∧ 1 ≤ x.2 ∧ x.2 ≤ 1000 := by
  simp only [sceneB, Bool.and_eq_true, inB_iff] at h
  have h1 := posB_size h.1
  exact ⟨⟨by omega, posB_letter h.1 (by omega)⟩, h.2⟩
theorem scns_scene {ps : List Scn} (h : scnsB ps = true) {k : Nat} (hk : k < ps.length) : ((ps.getD k s0).1.size = 1 ∧ smallB (letter (ps.getD k s0).1 0) = true) ∧ 1 ≤ (ps.getD k s0).2 ∧ (ps.getD k s0).2 ≤ 1000 := scene_parts (stepC_scene (scnsB_step h hk))

/-- The pages of a scene. -/
def cnt (t e : Int) : Int := max (near t e) 1
theorem cnt_bd {t e : Int} (t1 : 1 ≤ t) (t2 : t ≤ 1000) (e1 : 1 ≤ e) (e2 : e ≤ 100) : 1 ≤ cnt t e ∧ cnt t e ≤ 1000 ∧ 0 ≤ near t e ∧ near t e ≤ 1000 := by
  have h1 : 0 ≤ near t e := Int.ediv_nonneg (by omega) (by omega)
  have h2 : near t e ≤ 1000 := by
    unfold near
    have h3 := Int.ediv_lt_of_lt_mul (a := 2 * t + e) (b := 1001) (c := 2 * e) (by omega) (by omega)
    omega
  unfold cnt
  omega
/-- How wrong the pages of a scene are. -/
def off (t e : Int) : Int := ((cnt t e * e - t).natAbs : Nat)
theorem cntMul_bd {t e : Int} (t1 : 1 ≤ t) (t2 : t ≤ 1000) (e1 : 1 ≤ e) (e2 : e ≤ 100) : 1 ≤ cnt t e * e ∧ cnt t e * e ≤ 100000 := by
  obtain ⟨c1, c2, _, _⟩ := cnt_bd t1 t2 e1 e2
  have h1 := Int.mul_le_mul_of_nonneg_right c2 (show 0 ≤ e by omega)
  have h2 := Int.mul_le_mul_of_nonneg_right c1 (show 0 ≤ e by omega)
  omega
theorem off_bd {t e : Int} (t1 : 1 ≤ t) (t2 : t ≤ 1000) (e1 : 1 ≤ e) (e2 : e ≤ 100) : 0 ≤ off t e ∧ off t e ≤ 100000 := by
  have := cntMul_bd t1 t2 e1 e2
  unfold off
  omega

/-- A sum over scenes. -/
def sumC (f : Scn → Int) : List Scn → Int
  | [] => 0
  | x :: xs => f x + sumC f xs
theorem sumC_append (f : Scn → Int) : ∀ ks ls : List Scn, sumC f (ks ++ ls) = sumC f ks + sumC f ls
  | [], _ => by simp [sumC]
  | k :: ks, ls => by simp [sumC, sumC_append f ks ls]; omega
theorem sumC_take (f : Scn → Int) (ks : List Scn) (j : Nat) (h : j < ks.length) : sumC f (ks.take (j + 1)) = sumC f (ks.take j) + f (ks.getD j s0) := by
  rw [take_snocC ks j h, sumC_append]
  simp [sumC]
theorem sumC_bd {f : Scn → Int} {M : Int} : ∀ (ks : List Scn), (∀ j, j < ks.length → 0 ≤ f (ks.getD j s0) ∧ f (ks.getD j s0) ≤ M) → ∀ i, 0 ≤ sumC f (ks.take i) ∧ sumC f (ks.take i) ≤ M * (min i ks.length : Nat)
  | ks, h, 0 => by simp [sumC]
  | ks, h, i + 1 => by
    obtain ⟨h1, h2⟩ := sumC_bd ks h i
    by_cases hi : i < ks.length
    · rw [sumC_take f ks i hi]
      have h3 := h i hi
      have e : ((min (i + 1) ks.length : Nat) : Int) = ((min i ks.length : Nat) : Int) + 1 := by omega
      rw [e, Int.mul_add]
      omega
    · rw [List.take_of_length_le (by omega)]
      rw [List.take_of_length_le (by omega)] at h1 h2
      have e : ((min (i + 1) ks.length : Nat) : Int) = ((min i ks.length : Nat) : Int) := by omega
      rw [e]
      exact ⟨h1, h2⟩
/-- The sums of at most twelve things. -/
theorem sumC_small {f : Scn → Int} {M : Int} (hM : 0 ≤ M) {ks : List Scn} (hl : ks.length ≤ 12) (h : ∀ j, j < ks.length → 0 ≤ f (ks.getD j s0) ∧ f (ks.getD j s0) ≤ M) (i : Nat) : 0 ≤ sumC f (ks.take i) ∧ sumC f (ks.take i) ≤ M * 12 := by
  obtain ⟨h1, h2⟩ := sumC_bd ks h i
  refine ⟨h1, Int.le_trans h2 (Int.mul_le_mul_of_nonneg_left (by omega) hM)⟩

/-- All pages, all wrong ticks, all ticks. -/
def pagesN (e : Int) (ps : List Scn) : Int := sumC (fun x => cnt x.2 e) ps
def wrongN (e : Int) (ps : List Scn) : Int := sumC (fun x => off x.2 e) ps
def ticksN (ps : List Scn) : Int := sumC (fun x => x.2) ps

end Go.Proofs.Ytibafngidpmgdab
