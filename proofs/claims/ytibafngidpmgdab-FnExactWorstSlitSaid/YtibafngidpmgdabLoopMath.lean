/- Loops: plain mathematics. -/
import Derived.Test.YtibafngidpmgdabMath
import Derived.Test.YtibafngidpmgdabDiscMath
namespace Go.Proofs.Ytibafngidpmgdab
set_option linter.unusedSimpArgs false
set_option linter.unusedVariables false

/-- The list of the numbers f 0, f 1 and so on. -/
def genL (f : Nat → Int) (k : Nat) : List Int := (List.range k).map f
theorem genL_length (f : Nat → Int) (k : Nat) : (genL f k).length = k := by simp [genL]
theorem genL_succ (f : Nat → Int) (k : Nat) : genL f (k + 1) = genL f k ++ [f k] := by
  unfold genL
  rw [List.range_succ, List.map_append]
  rfl
theorem genL_get (f : Nat → Int) (k i : Nat) (h : i < k) : (genL f k).getD i 0 = f i := by
  unfold genL
  rw [List.getD_eq_getElem?_getD, List.getElem?_map, List.getElem?_range h]
  rfl
theorem genL_congr {f g : Nat → Int} {k : Nat} (h : ∀ i, i < k → f i = g i) : genL f k = genL g k := by
  unfold genL
  exact List.map_congr_left fun i hi => h i (List.mem_range.1 hi)
theorem genL_self (zs : List Int) : genL (fun i => zs.getD i 0) zs.length = zs := by
  apply List.ext_getElem?
  intro i
  unfold genL
  rw [List.getElem?_map]
  by_cases h : i < zs.length
  · rw [List.getElem?_range h, List.getElem?_eq_getElem h]
    simp [List.getD_eq_getElem?_getD, List.getElem?_eq_getElem h]
  · rw [List.getElem?_eq_none (by simpa using h), List.getElem?_eq_none (by omega)]
    rfl

/-- Places that are a loop. -/
def placeB (z : Int) : Bool := decide (0 ≤ z) && decide (z ≤ 1000)
theorem placeB_iff {z : Int} : placeB z = true ↔ 0 ≤ z ∧ z ≤ 1000 := by simp [placeB]
def loopB (zs : List Int) : Bool := (decide (1 ≤ zs.length) && decide (zs.length ≤ 60)) && zs.all placeB
theorem loopB_len {zs : List Int} (h : loopB zs = true) : 1 ≤ zs.length ∧ zs.length ≤ 60 := by
  simp only [loopB, Bool.and_eq_true, decide_eq_true_eq] at h
  exact h.1
theorem getD_mem {zs : List Int} {j : Nat} (h : j < zs.length) : zs.getD j 0 ∈ zs := by
  rw [List.getD_eq_getElem?_getD, List.getElem?_eq_getElem h]
  exact List.getElem_mem h
theorem loopB_get {zs : List Int} (h : loopB zs = true) (j : Nat) : 0 ≤ zs.getD j 0 ∧ zs.getD j 0 ≤ 1000 := by
  by_cases hj : j < zs.length
  · simp only [loopB, Bool.and_eq_true] at h
    exact placeB_iff.1 (List.all_eq_true.1 h.2 _ (getD_mem hj))
  · rw [List.getD_eq_getElem?_getD, List.getElem?_eq_none (by omega)]
    decide
theorem all_take_succ (zs : List Int) (k : Nat) (h : k < zs.length) : (zs.take (k + 1)).all placeB = ((zs.take k).all placeB && placeB (zs.getD k 0)) := by
  rw [List.take_add_one, List.getElem?_eq_getElem h, List.all_append, List.getD_eq_getElem?_getD, List.getElem?_eq_getElem h]
  simp
theorem all_of_bad {zs : List Int} {k : Nat} (h : k < zs.length) (hb : placeB (zs.getD k 0) = false) : zs.all placeB = false := by
  cases ha : zs.all placeB
  · rfl
  · rw [List.all_eq_true.1 ha _ (getD_mem h)] at hb
    cases hb

/-- An element of a ring: counted around it. -/
def ringI (zs : List Int) (k : Int) : Int := zs.getD (k % (zs.length : Int)).toNat 0
theorem ringI_nat (zs : List Int) (k : Nat) : ringI zs (k : Int) = zs.getD (k % zs.length) 0 := by
  unfold ringI
  rw [← Int.natCast_emod]
  rfl
theorem ringI_lt (zs : List Int) (k : Nat) (h : k < zs.length) : ringI zs (k : Int) = zs.getD k 0 := by rw [ringI_nat, Nat.mod_eq_of_lt h]
theorem ring_mod (k n : Int) (h : 0 < n) : Int.tmod (Int.tmod k n + n) n = k % n := by
  have h1 : -n < Int.tmod k n := by
    have := Int.lt_tmod_of_pos k h
    omega
  have h2 : Int.tmod k n < n := Int.tmod_lt_of_pos k h
  rw [Int.tmod_eq_emod_of_nonneg (by omega), Int.add_emod_right]
  have h3 : (Int.tmod k n) % n = k % n := by
    have e := Int.tmod_add_mul_tdiv k n
    conv => rhs; rw [← e]
    rw [Int.add_mul_emod_self_left]
  exact h3
theorem ringI_idx (k n : Int) (h : 0 < n) : 0 ≤ k % n ∧ k % n < n := ⟨Int.emod_nonneg _ (by omega), Int.emod_lt_of_pos _ h⟩
theorem ringI_bd {zs : List Int} (h : loopB zs = true) (k : Int) : 0 ≤ ringI zs k ∧ ringI zs k ≤ 1000 := loopB_get h _

/-- The steps of a loop. -/
def stepI (zs : List Int) (k : Int) : Int := ringI zs (k + 1) - ringI zs k
def stepsL (zs : List Int) : List Int := genL (fun k => stepI zs k) zs.length
theorem stepI_bd {zs : List Int} (h : loopB zs = true) (k : Int) : -1000 ≤ stepI zs k ∧ stepI zs k ≤ 1000 := by
  have h1 := ringI_bd h (k + 1)
  have h2 := ringI_bd h k
  unfold stepI
  omega
theorem stepsL_length (zs : List Int) : (stepsL zs).length = zs.length := genL_length _ _

/-- How much the steps change at a place. -/
def chgI (zs : List Int) (k : Nat) : Int := ((ringI (stepsL zs) k - ringI (stepsL zs) ((k : Int) - 1)).natAbs : Nat)

/-- The first greatest one of some numbers, as the program looks for it. -/
def topI (f : Nat → Int) : Nat → Int × Int
  | 0 => (0, 0)
  | k + 1 => if f k > (topI f k).2 then ((k : Int), f k) else topI f k
/-- As the model looks for it. -/
def topS (f : Nat → Int) : Nat → Int × Int
  | 0 => (0, -1)
  | k + 1 => if f k > (topS f k).2 then ((k : Int), f k) else topS f k
theorem top_same (f : Nat → Int) (h : ∀ k, 0 ≤ f k) : ∀ k, topS f (k + 1) = topI f (k + 1)
  | 0 => by
    have := h 0
    have e1 : topS f (0 + 1) = (((0 : Nat) : Int), f 0) := if_pos (show f 0 > (topS f 0).2 from by show f 0 > -1; omega)
    have e2 : topI f (0 + 1) = (((0 : Nat) : Int), f 0) := by
      by_cases h0 : f 0 > 0
      · exact if_pos h0
      · refine (if_neg h0).trans ?_
        show ((0 : Int), (0 : Int)) = _
        rw [show f 0 = 0 by omega]
        rfl
    rw [e1, e2]
  | k + 1 => by
    rw [topS, topI, top_same f h k]
theorem topI_bd (f : Nat → Int) (m : Int) (h : ∀ k, f k ≤ m) (hm : 0 ≤ m) : ∀ k, 0 ≤ (topI f k).2 ∧ (topI f k).2 ≤ m ∧ 0 ≤ (topI f k).1 ∧ (topI f k).1 ≤ k
  | 0 => by simp [topI, hm]
  | k + 1 => by
    have ih := topI_bd f m h hm k
    have := h k
    rw [topI]
    split
    · simp only
      omega
    · omega
theorem topS_bd (f : Nat → Int) (m : Int) (h : ∀ k, f k ≤ m) (hm : 0 ≤ m) : ∀ k, -1 ≤ (topS f k).2 ∧ (topS f k).2 ≤ m ∧ 0 ≤ (topS f k).1 ∧ (topS f k).1 ≤ k
  | 0 => by simp [topS]; omega
  | k + 1 => by
    have ih := topS_bd f m h hm k
    have := h k
    rw [topS]
    split
    · simp only
      omega
    · omega

/-- The first least one of some numbers that are not negative. -/
def lowI (f : Nat → Int) : Nat → Int × Int
  | 0 => (0, 0)
  | k + 1 => if k = 0 ∨ f k < (lowI f k).2 then ((k : Int), f k) else lowI f k
def lowS (f : Nat → Int) : Nat → Int × Int
  | 0 => (0, -1)
  | k + 1 => if (lowS f k).2 < 0 ∨ f k < (lowS f k).2 then ((k : Int), f k) else lowS f k
theorem lowI_facts (f : Nat → Int) (h : ∀ k, 0 ≤ f k) : ∀ k, ∃ j : Nat, j ≤ k ∧ (lowI f (k + 1)) = ((j : Int), f j) ∧ ∀ i, i ≤ k → f j ≤ f i
  | 0 => ⟨0, Nat.le_refl _, by simp [lowI], fun i hi => by have : i = 0 := by omega
                                                           subst this; exact Int.le_refl _⟩
  | k + 1 => by
    obtain ⟨j, hj, e, hle⟩ := lowI_facts f h k
    by_cases hc : f (k + 1) < f j
    · refine ⟨k + 1, Nat.le_refl _, ?_, fun i hi => ?_⟩
      · rw [lowI, e, if_pos (.inr hc)]
      · by_cases h1 : i = k + 1
        · subst h1; exact Int.le_refl _
        · have := hle i (by omega)
          omega
    · refine ⟨j, by omega, ?_, fun i hi => ?_⟩
      · rw [lowI, e, if_neg (by simp only; omega)]
      · by_cases h1 : i = k + 1
        · subst h1; omega
        · exact hle i (by omega)
theorem low_same (f : Nat → Int) (h : ∀ k, 0 ≤ f k) : ∀ k, lowS f (k + 1) = lowI f (k + 1)
  | 0 => by simp [lowS, lowI]
  | k + 1 => by
    obtain ⟨j, hj, e, hle⟩ := lowI_facts f h k
    rw [lowS, lowI, low_same f h k, e]
    have := h j
    by_cases hc : f (k + 1) < f j
    · rw [if_pos (.inr hc), if_pos (.inr hc)]
    · rw [if_neg (by simp only; omega), if_neg (by simp only; omega)]

/-- A sum of the first ones. -/
def sumI (f : Nat → Int) : Nat → Int
  | 0 => 0
  | k + 1 => sumI f k + f k
theorem sumI_bd (f : Nat → Int) (m : Int) (h : ∀ k, 0 ≤ f k ∧ f k ≤ m) : ∀ k, 0 ≤ sumI f k ∧ sumI f k ≤ k * m
  | 0 => by simp [sumI]
  | k + 1 => by
    have ih := sumI_bd f m h k
    have := h k
    have e : ((k + 1 : Nat) : Int) * m = k * m + m := by rw [Int.natCast_add, Int.add_mul]; simp
    rw [sumI, e]
    omega
theorem sumI_congr {f g : Nat → Int} : ∀ {k : Nat}, (∀ i, i < k → f i = g i) → sumI f k = sumI g k
  | 0, _ => rfl
  | k + 1, h => by rw [sumI, sumI, sumI_congr (fun i hi => h i (by omega)), h k (by omega)]

/-- How far a loop that is turned is from another one. -/
def farI (xs ys : List Int) (d : Nat) (k : Nat) : Int := ((ringI xs ((d : Int) + k) - ringI ys k).natAbs : Nat)
def distI (xs ys : List Int) (d : Nat) : Int := sumI (farI xs ys d) xs.length
theorem farI_bd {xs ys : List Int} (hx : loopB xs = true) (hy : loopB ys = true) (d k : Nat) : 0 ≤ farI xs ys d k ∧ farI xs ys d k ≤ 1000 := by
  have h1 := ringI_bd hx ((d : Int) + k)
  have h2 := ringI_bd hy k
  unfold farI
  omega
theorem distI_bd {xs ys : List Int} (hx : loopB xs = true) (hy : loopB ys = true) (d : Nat) : 0 ≤ distI xs ys d ∧ distI xs ys d ≤ 60000 := by
  have h1 := sumI_bd (farI xs ys d) 1000 (farI_bd hx hy d) xs.length
  have h2 := loopB_len hx
  unfold distI
  omega

/-- A loop that begins at another place. -/
def turnL (zs : List Int) (d : Nat) : List Int := genL (fun k => ringI zs ((d : Int) + k)) zs.length
/-- Every so many places. -/
def thinL (zs : List Int) (e : Nat) : List Int := genL (fun k => zs.getD (k * e) 0) (zs.length / e)
/-- A place of a loop that is closed. -/
def closeI (zs : List Int) (o : Int) (i : Nat) : Int :=
  min 1000 (max 0 (zs.getD i 0 + near ((zs.getD 0 0 - zs.getD (zs.length - 1) 0) * max 0 ((i : Int) - ((zs.length : Int) - o) + 1)) (o + 1)))
def closeL (zs : List Int) (o : Int) : List Int := genL (closeI zs o) zs.length

end Go.Proofs.Ytibafngidpmgdab
