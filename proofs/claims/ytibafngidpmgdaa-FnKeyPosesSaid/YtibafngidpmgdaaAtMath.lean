/- The pose at a tick: plain mathematics. -/
import Derived.Test.YtibafngidpmgdaaProg
import Derived.Test.YtibafngidpmgdaaMix
import Derived.Test.YtibafngidpmgdaaKeyOk
namespace Go.Proofs.Ytibafngidpmgdaa
set_option linter.unusedSimpArgs false
set_option linter.unusedVariables false

/-- The tick and the joints of a key pose. -/
abbrev tk (ks : List Key) (i : Nat) : Int := (ks.getD i k0).1
abbrev jt (ks : List Key) (i : Nat) : List Pt := (ks.getD i k0).2

/-- The pose at a tick between key pose i - 1 and key pose i. -/
def segN (ks : List Key) (t : Int) (i : Nat) : List Pt := mixL (jt ks (i - 1)) (jt ks i) (t - tk ks (i - 1)) (tk ks i - tk ks (i - 1)) (jt ks 0).length
def atFrom (ks : List Key) (t : Int) : Nat → Nat → List Pt
  | 0, _ => jt ks 0
  | f + 1, i => if t ≤ tk ks i then segN ks t i else atFrom ks t f (i + 1)
/-- The pose at a tick. -/
def poseAtN (ks : List Key) (t : Int) : List Pt := atFrom ks t (ks.length - 1) 1

theorem atFrom_hit (ks : List Key) (t : Int) : ∀ (f i0 i : Nat), i0 ≤ i → i < i0 + f → t ≤ tk ks i → (∀ j, i0 ≤ j → j < i → tk ks j < t) → atFrom ks t f i0 = segN ks t i
  | 0, i0, i, h1, h2, _, _ => by omega
  | f + 1, i0, i, h1, h2, h3, h4 => by
    unfold atFrom
    by_cases he : i0 = i
    · subst he
      rw [if_pos h3]
    · have := h4 i0 (Nat.le_refl _) (by omega)
      rw [if_neg (by omega)]
      exact atFrom_hit ks t f (i0 + 1) i (by omega) (by omega) h3 (fun j a b => h4 j (by omega) b)

theorem tk_rises {ks : List Key} (h : ∀ i, i < ks.length → KeyOk ks i) : ∀ (d i : Nat), i + d + 1 < ks.length → tk ks i < tk ks (i + d + 1)
  | 0, i, hi => by
    have := (h (i + 1) hi).2.2.2.2
    rcases this with h | h
    · omega
    · exact h
  | d + 1, i, hi => by
    have h1 := tk_rises h d i (by omega)
    have h2 := (h (i + (d + 1) + 1) hi).2.2.2.2
    rcases h2 with h2 | h2
    · omega
    · have : i + (d + 1) + 1 - 1 = i + d + 1 := by omega
      rw [this] at h2
      exact Int.lt_trans h1 h2
theorem tk_lt {ks : List Key} (h : ∀ i, i < ks.length → KeyOk ks i) {i j : Nat} (hij : i < j) (hj : j < ks.length) : tk ks i < tk ks j := by
  have := tk_rises h (j - i - 1) i (by omega)
  rwa [show i + (j - i - 1) + 1 = j by omega] at this

theorem mixL_ext {ps qs rs : List Pt} {m n : Int} {k : Nat} (hl : rs.length = k) (h : ∀ i, i < k → mixP (ps.getD i (0, 0)) (qs.getD i (0, 0)) m n = rs.getD i (0, 0)) : mixL ps qs m n k = rs := by
  apply List.ext_getElem
  · rw [mixL_length, hl]
  · intro i h1 h2
    have h3 := mixL_get ps qs m n k i (by rw [mixL_length] at h1; exact h1)
    rw [List.getD_eq_getElem?_getD, List.getElem?_eq_getElem h1] at h3
    have h4 := h i (by rw [mixL_length] at h1; exact h1)
    rw [h4, List.getD_eq_getElem?_getD, List.getElem?_eq_getElem h2] at h3
    exact h3
theorem mixL_start {ps qs : List Pt} {n : Int} {k : Nat} (h : 1 ≤ n) (hl : ps.length = k) : mixL ps qs 0 n k = ps := mixL_ext hl fun i _ => mixP_start h
theorem mixL_end {ps qs : List Pt} {n : Int} {k : Nat} (h : 1 ≤ n) (hl : qs.length = k) : mixL ps qs n n k = qs := mixL_ext hl fun i _ => mixP_end h

/-- At the tick of a key pose, the first one left aside, the pose is its own, from the key pose before. -/
theorem seg_end {ks : List Key} (h : ∀ i, i < ks.length → KeyOk ks i) {i : Nat} (h1 : 1 ≤ i) (h2 : i < ks.length) : segN ks (tk ks i) i = jt ks i := by
  have hr := tk_lt h (i := i - 1) (j := i) (by omega) h2
  exact mixL_end (by omega) (h i h2).2.2.2.1
theorem seg_start {ks : List Key} (h : ∀ i, i < ks.length → KeyOk ks i) {i : Nat} (h1 : 1 ≤ i) (h2 : i < ks.length) : segN ks (tk ks (i - 1)) i = jt ks (i - 1) := by
  have hr := tk_lt h (i := i - 1) (j := i) (by omega) h2
  unfold segN
  rw [Int.sub_self]
  exact mixL_start (by omega) (h (i - 1) (by omega)).2.2.2.1

/-- The pose at the tick of a key pose is that of the key pose. -/
theorem poseAt_key {ks : List Key} (h : ∀ i, i < ks.length → KeyOk ks i) {i : Nat} (h2 : i < ks.length) : poseAtN ks (tk ks i) = jt ks i := by
  unfold poseAtN
  by_cases h0 : i = 0
  · subst h0
    by_cases hn : ks.length = 1
    · rw [hn]
      rfl
    · rw [atFrom_hit ks _ (ks.length - 1) 1 1 (Nat.le_refl _) (by omega) (by have := tk_lt h (i := 0) (j := 1) (by omega) (by omega); omega) (fun j a b => by omega)]
      exact seg_start h (i := 1) (Nat.le_refl _) (by omega)
  · rw [atFrom_hit ks _ (ks.length - 1) 1 i (by omega) (by omega) (Int.le_refl _) (fun j a b => tk_lt h b h2)]
    exact seg_end h (by omega) h2

/-- The pose at a tick from that of a key pose on, and before that of the next one. -/
theorem poseAt_seg {ks : List Key} (h : ∀ i, i < ks.length → KeyOk ks i) {t : Int} {j : Nat} (h1 : 1 ≤ j) (h2 : j < ks.length) (h3 : tk ks (j - 1) ≤ t) (h4 : t < tk ks j) : poseAtN ks t = segN ks t j := by
  by_cases he : t = tk ks (j - 1)
  · rw [he, poseAt_key h (by omega), seg_start h h1 h2]
  · unfold poseAtN
    exact atFrom_hit ks t (ks.length - 1) 1 j h1 (by omega) (by omega) (fun i a b => by
      by_cases hij : i = j - 1
      · rw [hij]; omega
      · have := tk_lt h (i := i) (j := j - 1) (by omega) (by omega)
        omega)

theorem poseAt_len {ks : List Key} (h : ∀ i, i < ks.length → KeyOk ks i) (t : Int) : (poseAtN ks t).length = (jt ks 0).length := by
  unfold poseAtN
  generalize ks.length - 1 = f
  generalize 1 = i
  induction f generalizing i with
  | zero => rfl
  | succ f ih =>
    unfold atFrom
    split
    · exact mixL_length _ _ _ _ _
    · exact ih _

end Go.Proofs.Ytibafngidpmgdaa
