/- The number of bits that are set, reckoned as the library does; sets of numbers as bits. -/
import Derived.Laws.BitsAllLaws
namespace Go.Proofs.Ytflgjohknjgdcaa
set_option linter.unusedSimpArgs false
set_option linter.unusedVariables false

/-- How many numbers below n have a property. -/
def cnt (P : Nat → Bool) : Nat → Nat
  | 0 => 0
  | n + 1 => cnt P n + (if P n then 1 else 0)

/-- The numbers below n that have a property, as bits. -/
def bitsN (P : Nat → Bool) : Nat → Nat
  | 0 => 0
  | n + 1 => bitsN P n + (if P n then 2 ^ n else 0)

theorem cnt_le (P : Nat → Bool) : ∀ n, cnt P n ≤ n
  | 0 => Nat.le_refl _
  | n + 1 => by have := cnt_le P n; rw [cnt]; split <;> omega
theorem cnt_congr {P Q : Nat → Bool} : ∀ (n : Nat), (∀ j, j < n → P j = Q j) → cnt P n = cnt Q n
  | 0, _ => rfl
  | n + 1, h => by rw [cnt, cnt, cnt_congr n (fun j hj => h j (by omega)), h n (by omega)]
theorem bitsN_congr {P Q : Nat → Bool} : ∀ (n : Nat), (∀ j, j < n → P j = Q j) → bitsN P n = bitsN Q n
  | 0, _ => rfl
  | n + 1, h => by rw [bitsN, bitsN, bitsN_congr n (fun j hj => h j (by omega)), h n (by omega)]
theorem bitsN_lt (P : Nat → Bool) : ∀ n, bitsN P n < 2 ^ n
  | 0 => by simp [bitsN]
  | n + 1 => by have := bitsN_lt P n; rw [bitsN, Nat.pow_succ]; split <;> omega
theorem bitsN_or {P : Nat → Bool} {n : Nat} (h : P n = true) : bitsN P n ||| 2 ^ n = bitsN P (n + 1) := by
  rw [bitsN, if_pos h]
  have := Nat.two_pow_add_eq_or_of_lt (bitsN_lt P n) 1
  rw [Nat.mul_one] at this
  rw [Nat.or_comm, ← this, Nat.add_comm]
theorem bitsN_skip {P : Nat → Bool} {n : Nat} (h : P n = false) : bitsN P (n + 1) = bitsN P n := by
  rw [bitsN, if_neg (by rw [h]; simp), Nat.add_zero]
theorem bitsN_test (P : Nat → Bool) : ∀ n j, (bitsN P n).testBit j = (decide (j < n) && P j)
  | 0, j => by simp [bitsN]
  | n + 1, j => by
    cases h : P n
    · rw [bitsN_skip h, bitsN_test P n j]
      by_cases e : j = n
      · subst e; simp [h]
      · have : (j < n + 1) ↔ (j < n) := by omega
        simp [this]
    · rw [← bitsN_or h, Nat.testBit_or, bitsN_test P n j, Nat.testBit_two_pow]
      by_cases e : j = n
      · subst e; simp [h]
      · have : (j < n + 1) ↔ (j < n) := by omega
        have e2 : ¬ n = j := fun h => e h.symm
        simp [this, e2]
theorem bitsN_and (P Q : Nat → Bool) (n : Nat) : bitsN P n &&& bitsN Q n = bitsN (fun j => P j && Q j) n := by
  refine Nat.eq_of_testBit_eq fun j => ?_
  rw [Nat.testBit_and, bitsN_test, bitsN_test, bitsN_test]
  cases decide (j < n) <;> cases P j <;> cases Q j <;> rfl
theorem bitsN_cut (P : Nat → Bool) (m : Nat) : ∀ n, bitsN P (m + n) = bitsN P m + 2 ^ m * bitsN (fun j => P (m + j)) n
  | 0 => by simp [bitsN]
  | n + 1 => by
    rw [← Nat.add_assoc, bitsN, bitsN_cut P m n, bitsN, Nat.mul_add]
    split <;> simp [Nat.pow_add]; omega
theorem cnt_cut (P : Nat → Bool) (m : Nat) : ∀ n, cnt P (m + n) = cnt P m + cnt (fun j => P (m + j)) n
  | 0 => by simp [cnt]
  | n + 1 => by rw [← Nat.add_assoc, cnt, cnt_cut P m n, cnt]; omega

/-- A number as its bytes. -/
def byV : List Nat → Nat
  | [] => 0
  | r :: l => 256 * byV l + r
/-- One byte again and again. -/
def rep (m : Nat) : Nat → Nat
  | 0 => 0
  | k + 1 => 256 * rep m k + m

theorem and_split (x M m : Nat) (hm : m < 256) : x &&& (256 * M + m) = 256 * ((x / 256) &&& M) + ((x % 256) &&& m) := by
  have e8 : (256 : Nat) = 2 ^ 8 := rfl
  have hlt : (x % 256) &&& m < 2 ^ 8 := Nat.and_lt_two_pow _ hm
  refine Nat.eq_of_testBit_eq fun j => ?_
  rw [Nat.testBit_and]
  rw [e8] at hm ⊢
  rw [Nat.testBit_two_pow_mul_add _ hm, Nat.testBit_two_pow_mul_add _ (by rw [← e8]; exact hlt)]
  by_cases h : j < 8
  · rw [if_pos h, if_pos h, Nat.testBit_and, Nat.testBit_mod_two_pow]
    simp [h]
  · rw [if_neg h, if_neg h, Nat.testBit_and, Nat.testBit_div_two_pow]
    rw [show j - 8 + 8 = j by omega]

def s1 (r : Nat) : Nat := ((r / 2) &&& 85) + (r &&& 85)
def s2 (r : Nat) : Nat := ((r / 4) &&& 51) + (r &&& 51)
def s3 (r : Nat) : Nat := r / 16 + r % 16
def f1 (k x : Nat) : Nat := ((x / 2) &&& rep 85 k) + (x &&& rep 85 k)
def f2 (k x : Nat) : Nat := ((x / 4) &&& rep 51 k) + (x &&& rep 51 k)
def f3 (k x : Nat) : Nat := (x / 16 + x) &&& rep 15 k

theorem low1 : ∀ (c : Fin 2) (r : Fin 256), (128 * c.val + r.val / 2) &&& 85 = (r.val / 2) &&& 85 := by decide +kernel
theorem low2 : ∀ (c : Fin 4) (r : Fin 256), (64 * c.val + r.val / 4) &&& 51 = (r.val / 4) &&& 51 := by decide +kernel
theorem byte3 : ∀ r : Fin 256, s1 r.val < 256 ∧ s2 (s1 r.val) < 256 ∧ s2 (s1 r.val) % 16 ≤ 4 ∧ s2 (s1 r.val) / 16 ≤ 4 ∧ s3 (s2 (s1 r.val)) = r.val % 2 + r.val / 2 % 2 + r.val / 4 % 2 + r.val / 8 % 2 + r.val / 16 % 2 + r.val / 32 % 2 + r.val / 64 % 2 + r.val / 128 % 2 := by decide +kernel

theorem f1_step (k q r : Nat) (hr : r < 256) : f1 (k + 1) (256 * q + r) = 256 * f1 k q + s1 r := by
  have a1 : (256 * q + r) / 2 / 256 = q / 2 := by omega
  have a2 : (256 * q + r) / 2 % 256 = 128 * (q % 2) + r / 2 := by omega
  have a3 : (256 * q + r) / 256 = q := by omega
  have a4 : (256 * q + r) % 256 = r := by omega
  have l := low1 ⟨q % 2, by omega⟩ ⟨r, hr⟩
  simp only at l
  rw [f1, rep, and_split _ _ _ (by omega), and_split _ _ _ (by omega), a1, a2, a3, a4, l, f1, s1]
  omega
theorem f2_step (k q r : Nat) (hr : r < 256) : f2 (k + 1) (256 * q + r) = 256 * f2 k q + s2 r := by
  have a1 : (256 * q + r) / 4 / 256 = q / 4 := by omega
  have a2 : (256 * q + r) / 4 % 256 = 64 * (q % 4) + r / 4 := by omega
  have a3 : (256 * q + r) / 256 = q := by omega
  have a4 : (256 * q + r) % 256 = r := by omega
  have l := low2 ⟨q % 4, by omega⟩ ⟨r, hr⟩
  simp only at l
  rw [f2, rep, and_split _ _ _ (by omega), and_split _ _ _ (by omega), a1, a2, a3, a4, l, f2, s2]
  omega
theorem and15 (a : Nat) : a &&& 15 = a % 16 := Nat.and_two_pow_sub_one_eq_mod a 4
theorem f3_step (k q r : Nat) (hr : r < 256) (h1 : r % 16 ≤ 4) (h2 : r / 16 ≤ 4) (h3 : q % 16 ≤ 4) : f3 (k + 1) (256 * q + r) = 256 * f3 k q + s3 r := by
  have a1 : ((256 * q + r) / 16 + (256 * q + r)) / 256 = q / 16 + q := by omega
  have a2 : ((256 * q + r) / 16 + (256 * q + r)) % 256 = 16 * (q % 16 + r / 16) + (r / 16 + r % 16) := by omega
  rw [f3, rep, and_split _ _ _ (by omega), a1, a2, and15, f3, s3]
  omega

theorem f1_all : ∀ l : List Nat, (∀ r ∈ l, r < 256) → f1 l.length (byV l) = byV (l.map s1)
  | [], _ => rfl
  | r :: l, h => by
    rw [List.length_cons, byV, f1_step _ _ _ (h r (by simp)), f1_all l (fun x hx => h x (by simp [hx])), List.map_cons, byV]
theorem f2_all : ∀ l : List Nat, (∀ r ∈ l, r < 256) → f2 l.length (byV l) = byV (l.map s2)
  | [], _ => rfl
  | r :: l, h => by
    rw [List.length_cons, byV, f2_step _ _ _ (h r (by simp)), f2_all l (fun x hx => h x (by simp [hx])), List.map_cons, byV]
theorem byV_low (l : List Nat) (h : ∀ r ∈ l, r < 256 ∧ r % 16 ≤ 4 ∧ r / 16 ≤ 4) : byV l % 16 ≤ 4 := by
  cases l with
  | nil => simp [byV]
  | cons r l => have := h r (by simp); rw [byV]; omega
theorem f3_all : ∀ l : List Nat, (∀ r ∈ l, r < 256 ∧ r % 16 ≤ 4 ∧ r / 16 ≤ 4) → f3 l.length (byV l) = byV (l.map s3)
  | [], _ => rfl
  | r :: l, h => by
    obtain ⟨h1, h2, h3⟩ := h r (by simp)
    have hl : ∀ x ∈ l, x < 256 ∧ x % 16 ≤ 4 ∧ x / 16 ≤ 4 := fun x hx => h x (by simp [hx])
    rw [List.length_cons, byV, f3_step _ _ _ h1 h2 h3 (byV_low l hl), f3_all l hl, List.map_cons, byV]

/-- The library's count of bits, on natural numbers. -/
def pop64 (x : Nat) : Nat :=
  let a := ((x / 2) &&& 6148914691236517205) + (x &&& 6148914691236517205)
  let b := ((a / 4) &&& 3689348814741910323) + (a &&& 3689348814741910323)
  let c := (b / 16 + b) &&& 1085102592571150095
  let d := c + c / 256
  let e := d + d / 65536
  (e + e / 4294967296) % 128

theorem rep85 : rep 85 8 = 6148914691236517205 := rfl
theorem rep51 : rep 51 8 = 3689348814741910323 := rfl
theorem rep15 : rep 15 8 = 1085102592571150095 := rfl

def popB (r : Nat) : Nat := s3 (s2 (s1 r))

theorem fold_1 (c0 c1 c2 c3 c4 c5 c6 c7 c : Nat) (h0 : c0 ≤ 8) (h1 : c1 ≤ 8) (h2 : c2 ≤ 8) (h3 : c3 ≤ 8) (h4 : c4 ≤ 8) (h5 : c5 ≤ 8) (h6 : c6 ≤ 8) (h7 : c7 ≤ 8)
    (hc : c = byV [c0, c1, c2, c3, c4, c5, c6, c7]) : c + c / 256 = byV [c0 + c1, c1 + c2, c2 + c3, c3 + c4, c4 + c5, c5 + c6, c6 + c7, c7] ∧ c < 18446744073709551616 := by
  simp only [byV] at hc ⊢
  constructor <;> omega
theorem fold_2 (c0 c1 c2 c3 c4 c5 c6 c7 c : Nat) (h0 : c0 ≤ 16) (h1 : c1 ≤ 16) (h2 : c2 ≤ 16) (h3 : c3 ≤ 16) (h4 : c4 ≤ 16) (h5 : c5 ≤ 16) (h6 : c6 ≤ 16) (h7 : c7 ≤ 16)
    (hc : c = byV [c0, c1, c2, c3, c4, c5, c6, c7]) : c + c / 65536 = byV [c0 + c2, c1 + c3, c2 + c4, c3 + c5, c4 + c6, c5 + c7, c6, c7] ∧ c < 18446744073709551616 := by
  simp only [byV] at hc ⊢
  constructor <;> omega
theorem fold_3 (c0 c1 c2 c3 c4 c5 c6 c7 c : Nat) (h0 : c0 ≤ 32) (h1 : c1 ≤ 32) (h2 : c2 ≤ 32) (h3 : c3 ≤ 32) (h4 : c4 ≤ 32) (h5 : c5 ≤ 32) (h6 : c6 ≤ 32) (h7 : c7 ≤ 32)
    (hc : c = byV [c0, c1, c2, c3, c4, c5, c6, c7]) : c + c / 4294967296 = byV [c0 + c4, c1 + c5, c2 + c6, c3 + c7, c4, c5, c6, c7] ∧ c < 18446744073709551616 := by
  simp only [byV] at hc ⊢
  constructor <;> omega
theorem fold_4 (c0 c1 c2 c3 c4 c5 c6 c7 c : Nat) (h0 : c0 ≤ 64) (h1 : c1 ≤ 64) (h2 : c2 ≤ 64) (h3 : c3 ≤ 64) (h4 : c4 ≤ 64) (h5 : c5 ≤ 64) (h6 : c6 ≤ 64) (h7 : c7 ≤ 64)
    (hc : c = byV [c0, c1, c2, c3, c4, c5, c6, c7]) : c % 128 = c0 ∧ c < 18446744073709551616 := by
  simp only [byV] at hc
  constructor <;> omega

theorem fold8 (c0 c1 c2 c3 c4 c5 c6 c7 : Nat) (h0 : c0 ≤ 8) (h1 : c1 ≤ 8) (h2 : c2 ≤ 8) (h3 : c3 ≤ 8) (h4 : c4 ≤ 8) (h5 : c5 ≤ 8) (h6 : c6 ≤ 8) (h7 : c7 ≤ 8)
    (c d e : Nat) (hc : c = byV [c0, c1, c2, c3, c4, c5, c6, c7]) (hd : d = c + c / 256) (he : e = d + d / 65536) :
    (e + e / 4294967296) % 128 = c0 + c1 + c2 + c3 + c4 + c5 + c6 + c7 ∧ c < 18446744073709551616 ∧ d < 18446744073709551616 ∧ e < 18446744073709551616 ∧ e + e / 4294967296 < 18446744073709551616 := by
  obtain ⟨k1, l1⟩ := fold_1 _ _ _ _ _ _ _ _ c h0 h1 h2 h3 h4 h5 h6 h7 hc
  rw [← hd] at k1
  obtain ⟨k2, l2⟩ := fold_2 _ _ _ _ _ _ _ _ d (by omega) (by omega) (by omega) (by omega) (by omega) (by omega) (by omega) (by omega) k1
  rw [← he] at k2
  obtain ⟨k3, l3⟩ := fold_3 _ _ _ _ _ _ _ _ e (by omega) (by omega) (by omega) (by omega) (by omega) (by omega) (by omega) (by omega) k2
  obtain ⟨k4, l4⟩ := fold_4 _ _ _ _ _ _ _ _ _ (by omega) (by omega) (by omega) (by omega) (by omega) (by omega) (by omega) (by omega) k3
  exact ⟨by rw [k4]; omega, l1, l2, l3, l4⟩

theorem pop_bytes (r0 r1 r2 r3 r4 r5 r6 r7 : Nat) (h : ∀ r ∈ [r0, r1, r2, r3, r4, r5, r6, r7], r < 256) :
    pop64 (byV [r0, r1, r2, r3, r4, r5, r6, r7]) = popB r0 + popB r1 + popB r2 + popB r3 + popB r4 + popB r5 + popB r6 + popB r7 := by
  have B : ∀ r, r < 256 → s1 r < 256 ∧ s2 (s1 r) < 256 ∧ s2 (s1 r) % 16 ≤ 4 ∧ s2 (s1 r) / 16 ≤ 4 := fun r hr => by
    have := byte3 ⟨r, hr⟩
    exact ⟨this.1, this.2.1, this.2.2.1, this.2.2.2.1⟩
  have L : ∀ r, r < 256 → popB r ≤ 8 := fun r hr => by have := B r hr; rw [popB, s3]; omega
  have e1 := f1_all [r0, r1, r2, r3, r4, r5, r6, r7] h
  have e2 := f2_all ([r0, r1, r2, r3, r4, r5, r6, r7].map s1) (by intro x hx; obtain ⟨r, hr, rfl⟩ := List.mem_map.1 hx; exact (B r (h r hr)).1)
  have e3 := f3_all (([r0, r1, r2, r3, r4, r5, r6, r7].map s1).map s2) (by intro x hx; obtain ⟨y, hy, rfl⟩ := List.mem_map.1 hx; obtain ⟨r, hr, rfl⟩ := List.mem_map.1 hy; exact (B r (h r hr)).2)
  rw [← e2, ← e1] at e3
  simp only [List.length_map, List.length_cons, List.length_nil] at e3
  simp only [f1, f2, f3, rep85, rep51, rep15] at e3
  have F := fold8 (popB r0) (popB r1) (popB r2) (popB r3) (popB r4) (popB r5) (popB r6) (popB r7) (L _ (h _ (by simp))) (L _ (h _ (by simp))) (L _ (h _ (by simp))) (L _ (h _ (by simp))) (L _ (h _ (by simp))) (L _ (h _ (by simp))) (L _ (h _ (by simp))) (L _ (h _ (by simp))) _ _ _ rfl rfl rfl
  have e4 : byV [popB r0, popB r1, popB r2, popB r3, popB r4, popB r5, popB r6, popB r7] = byV (List.map s3 (List.map s2 (List.map s1 [r0, r1, r2, r3, r4, r5, r6, r7]))) := rfl
  rw [e4, ← e3] at F
  exact F.1

theorem peel (b0 b1 b2 b3 b4 b5 b6 b7 r : Nat) (m0 : b0 ≤ 1) (m1 : b1 ≤ 1) (m2 : b2 ≤ 1) (m3 : b3 ≤ 1) (m4 : b4 ≤ 1) (m5 : b5 ≤ 1) (m6 : b6 ≤ 1) (m7 : b7 ≤ 1)
    (h : r = b0 + 2 * (b1 + 2 * (b2 + 2 * (b3 + 2 * (b4 + 2 * (b5 + 2 * (b6 + 2 * b7))))))) :
    r % 2 + r / 2 % 2 + r / 4 % 2 + r / 8 % 2 + r / 16 % 2 + r / 32 % 2 + r / 64 % 2 + r / 128 % 2 = b0 + b1 + b2 + b3 + b4 + b5 + b6 + b7 := by
  obtain ⟨y6, e6⟩ : ∃ y, y = b6 + 2 * b7 := ⟨_, rfl⟩
  rw [← e6] at h
  obtain ⟨y5, e5⟩ : ∃ y, y = b5 + 2 * y6 := ⟨_, rfl⟩
  rw [← e5] at h
  obtain ⟨y4, e4⟩ : ∃ y, y = b4 + 2 * y5 := ⟨_, rfl⟩
  rw [← e4] at h
  obtain ⟨y3, e3⟩ : ∃ y, y = b3 + 2 * y4 := ⟨_, rfl⟩
  rw [← e3] at h
  obtain ⟨y2, e2⟩ : ∃ y, y = b2 + 2 * y3 := ⟨_, rfl⟩
  rw [← e2] at h
  obtain ⟨y1, e1⟩ : ∃ y, y = b1 + 2 * y2 := ⟨_, rfl⟩
  rw [← e1] at h
  have d1 : r / 2 = y1 := by omega
  have d2 : r / 4 = y2 := by rw [show (4 : Nat) = 2 * 2 from rfl, ← Nat.div_div_eq_div_mul, d1]; omega
  have d3 : r / 8 = y3 := by rw [show (8 : Nat) = 4 * 2 from rfl, ← Nat.div_div_eq_div_mul, d2]; omega
  have d4 : r / 16 = y4 := by rw [show (16 : Nat) = 8 * 2 from rfl, ← Nat.div_div_eq_div_mul, d3]; omega
  have d5 : r / 32 = y5 := by rw [show (32 : Nat) = 16 * 2 from rfl, ← Nat.div_div_eq_div_mul, d4]; omega
  have d6 : r / 64 = y6 := by rw [show (64 : Nat) = 32 * 2 from rfl, ← Nat.div_div_eq_div_mul, d5]; omega
  have d7 : r / 128 = b7 := by rw [show (128 : Nat) = 64 * 2 from rfl, ← Nat.div_div_eq_div_mul, d6]; omega
  rw [d1, d2, d3, d4, d5, d6, d7]
  have a0 : r % 2 = b0 := by omega
  have a1 : y1 % 2 = b1 := by omega
  have a2 : y2 % 2 = b2 := by omega
  have a3 : y3 % 2 = b3 := by omega
  have a4 : y4 % 2 = b4 := by omega
  have a5 : y5 % 2 = b5 := by omega
  have a6 : y6 % 2 = b6 := by omega
  have a7 : b7 % 2 = b7 := by omega
  rw [a0, a1, a2, a3, a4, a5, a6, a7]

theorem popB_bits (P : Nat → Bool) : popB (bitsN P 8) = cnt P 8 := by
  have hlt := bitsN_lt P 8
  have e := (byte3 ⟨bitsN P 8, hlt⟩).2.2.2.2
  simp only at e
  have hb : ∀ j, ∃ b : Nat, b ≤ 1 ∧ (if P j then 1 else 0) = b ∧ ∀ k : Nat, (if P j then k else 0) = k * b := fun j => by
    cases P j
    · exact ⟨0, by omega, rfl, by simp⟩
    · exact ⟨1, by omega, rfl, by simp⟩
  obtain ⟨b0, m0, x0, y0⟩ := hb 0
  obtain ⟨b1, m1, x1, y1⟩ := hb 1
  obtain ⟨b2, m2, x2, y2⟩ := hb 2
  obtain ⟨b3, m3, x3, y3⟩ := hb 3
  obtain ⟨b4, m4, x4, y4⟩ := hb 4
  obtain ⟨b5, m5, x5, y5⟩ := hb 5
  obtain ⟨b6, m6, x6, y6⟩ := hb 6
  obtain ⟨b7, m7, x7, y7⟩ := hb 7
  have V0 : bitsN P 8 = 0 + (if P 0 then 1 else 0) + (if P 1 then 2 else 0) + (if P 2 then 4 else 0) + (if P 3 then 8 else 0) + (if P 4 then 16 else 0) + (if P 5 then 32 else 0) + (if P 6 then 64 else 0) + (if P 7 then 128 else 0) := rfl
  have C0 : cnt P 8 = 0 + (if P 0 then 1 else 0) + (if P 1 then 1 else 0) + (if P 2 then 1 else 0) + (if P 3 then 1 else 0) + (if P 4 then 1 else 0) + (if P 5 then 1 else 0) + (if P 6 then 1 else 0) + (if P 7 then 1 else 0) := rfl
  rw [y0, y1, y2, y3, y4, y5, y6, y7] at V0
  rw [x0, x1, x2, x3, x4, x5, x6, x7] at C0
  have V : bitsN P 8 = b0 + 2 * (b1 + 2 * (b2 + 2 * (b3 + 2 * (b4 + 2 * (b5 + 2 * (b6 + 2 * b7)))))) := by
    rw [V0]
    clear V0 C0 e hlt
    omega
  have C : cnt P 8 = b0 + b1 + b2 + b3 + b4 + b5 + b6 + b7 := by
    rw [C0]
    clear V0 C0 e hlt V
    omega
  rw [popB, e, C]
  exact peel _ _ _ _ _ _ _ _ _ m0 m1 m2 m3 m4 m5 m6 m7 V

theorem pop_bits (P : Nat → Bool) : pop64 (bitsN P 64) = cnt P 64 := by
  have c7 : bitsN P 64 = byV [bitsN P 8, bitsN (fun j => P (8 + j)) 8, bitsN (fun j => P (8 + (8 + j))) 8, bitsN (fun j => P (8 + (8 + (8 + j)))) 8, bitsN (fun j => P (8 + (8 + (8 + (8 + j))))) 8, bitsN (fun j => P (8 + (8 + (8 + (8 + (8 + j)))))) 8, bitsN (fun j => P (8 + (8 + (8 + (8 + (8 + (8 + j))))))) 8, bitsN (fun j => P (8 + (8 + (8 + (8 + (8 + (8 + (8 + j)))))))) 8] := by
    rw [show (64 : Nat) = 8 + (8 + (8 + (8 + (8 + (8 + (8 + 8)))))) from rfl]
    simp only [bitsN_cut]
    simp only [byV]
    omega
  have k7 : cnt P 64 = cnt P 8 + cnt (fun j => P (8 + j)) 8 + cnt (fun j => P (8 + (8 + j))) 8 + cnt (fun j => P (8 + (8 + (8 + j)))) 8 + cnt (fun j => P (8 + (8 + (8 + (8 + j))))) 8 + cnt (fun j => P (8 + (8 + (8 + (8 + (8 + j)))))) 8 + cnt (fun j => P (8 + (8 + (8 + (8 + (8 + (8 + j))))))) 8 + cnt (fun j => P (8 + (8 + (8 + (8 + (8 + (8 + (8 + j)))))))) 8 := by
    rw [show (64 : Nat) = 8 + (8 + (8 + (8 + (8 + (8 + (8 + 8)))))) from rfl]
    simp only [cnt_cut]
    omega
  rw [c7, k7, pop_bytes]
  · simp only [popB_bits]
  · intro r hr
    simp only [List.mem_cons, List.not_mem_nil, or_false] at hr
    rcases hr with rfl | rfl | rfl | rfl | rfl | rfl | rfl | rfl <;> exact bitsN_lt _ 8

end Go.Proofs.Ytflgjohknjgdcaa
