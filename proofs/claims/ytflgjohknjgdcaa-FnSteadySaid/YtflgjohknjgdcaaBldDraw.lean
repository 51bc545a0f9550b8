/- What the laws on flicker draw: wheels, rates, numbers. -/
import Derived.Test.YtflgjohknjgdcaaProg
import Derived.Test.YtflgjohknjgdcaaPickS
import Derived.Test.YtflgjohknjgdcaaWithin
import Derived.Laws.Cover1
import Derived.Deep.RegionWith
import Derived.Deep.DrawnRows
import Derived.Deep.RegionHeld3
import Derived.Deep.DeepCutAuto
import Derived.Tactics
import Derived.Tactics2
import Derived.WalkKit
import Derived.LoopTactic
import Derived.BigQuiet
import Derived.RegionTactic
import Derived.Deep.QuietTactic
import Derived.Outline
import Derived.Lib.Hide
import Derived.Below
import Derived.KernelRfl
namespace Go.Proofs.Ytflgjohknjgdcaa
set_option linter.unusedSimpArgs false
set_option linter.unusedVariables false
open Go.RowKit

/-- What drawing a pair of numbers leaves. -/
def PairR (w : World) (b K : Nat) (e : Ending) (w' : World) : Prop := ∃ x y : Int, e = .returned (fr x y) ∧ I64 x ∧ I64 y ∧ Sc w' b K ∧ Only b w w'
/-- What drawing a number leaves. -/
def NumR (w : World) (b K : Nat) (e : Ending) (w' : World) : Prop := ∃ x : Int, e = .returned (.int .i64 x) ∧ I64 x ∧ Sc w' b K ∧ Only b w w'

theorem oneLit9 (u : World) (xs : List Int) (vs : Array Value) (hv : vs.toList = xs.map (Value.int .i64)) (hx : 1 ≤ xs.length) (hl : xs.length ≤ 100) :
    Ints (u.alloc (.cells vs 2)) u.heap.size (.slice (some ⟨u.heap.size, 0, none⟩) xs.length xs.length) xs := by
  have h : (u.alloc (.cells vs 2)).ownsRow u.heap.size 2 1 (.slice (some ⟨u.heap.size, 0, none⟩) xs.length xs.length) xs.length vs.toList := World.ownsRow_lit u vs xs.length (Nat.le_refl _) (by unfold maxLen; omega) (by rw [← Array.length_toList, hv, List.length_map, Nat.mul_one])
  rw [hv] at h
  exact h
theorem i64_getD {xs : List Int} (h : ∀ x ∈ xs, I64 x) (j : Nat) (hj : j < xs.length) : I64 (xs.getD j 0) := by
  have e : xs.getD j 0 = xs[j] := by simp [List.getD, hj]
  rw [e]
  exact h _ (List.getElem_mem hj)
theorem i64_of {x : Int} (h : -9000000000000000000 ≤ x) (k : x ≤ 9000000000000000000) : I64 x := ⟨by omega, by omega⟩

/-- A number among some, as a literal list. -/
theorem among9 (b K : Nat) (xs : List Int) (vs : Array Value) (hv : vs.toList = xs.map (Value.int .i64)) (hx : 1 ≤ xs.length) (hl : xs.length ≤ 100) (h64 : ∀ x ∈ xs, I64 x) (u : World) (h : Sc u b K) (hK : K ≤ 900000) :
    Calls Try.prog 88 #[.pointer (some ⟨b, 0, none⟩), .slice (some ⟨u.heap.size, 0, none⟩) xs.length xs.length] (u.alloc (.cells vs 2)) (NumR (u.alloc (.cells vs 2)) b (K + 2)) :=
  (amongS b K u.heap.size _ xs _ (oneLit9 u xs vs hv hx hl) hx hl h.lt (h.below (bAlloc (Below.refl _ _) _)) hK).mono fun _ _ ⟨j, hj, h1, h2, h3⟩ => ⟨_, h1, i64_getD h64 j hj, h2, h3⟩

/-- A source that is at hand, as the draw of fractions wants it. -/
theorem l02DrawS (b K : Nat) (w : World) (h : Sc w b K) (hK : K ≤ 900000) :
    Calls Try.prog 101 #[.pointer (some ⟨b, 0, none⟩)] w (PairR w b (K + 2)) := by
  obtain ⟨a, len, cap, k, seed, zs, hk, hs, hr, ha⟩ := h
  refine (l02Draw_any b a len cap k seed zs w hs hr (fun h0 x hx => Nat.ne_of_lt (ha h0 x hx)) (by omega)).mono ?_
  rintro e u ⟨n, d, s2, rfl, hok, n0, n1, d0, d1, hs2, ho⟩
  exact ⟨n, d, rfl, i64_of (by omega) (by omega), i64_of (by omega) (by omega), ⟨a, len, cap, k + 2, s2, zs, by omega, hs2, hr.only ho (fun h0 x hx => Nat.ne_of_lt (ha h0 x hx)), ha⟩, ho⟩

theorem bkSetO {w : World} {b c : Nat} {x y : Int} (h : Bk w b x y) (hne : ¬ c = b) (i : Nat) (v : Value) : Bk (w.setCell ⟨c, i, none⟩ v) b x y := by
  obtain ⟨h1, h2, h3, h4, h5⟩ := h
  exact ⟨(World.cell?_setCell_other _ _ _ _ (by simp [hne])).trans h1, (World.cell?_setCell_other _ _ _ _ (by simp [hne])).trans h2, by simpa using h3, by simpa using h4, by simpa using h5⟩
theorem bkSet1 {w : World} {c : Nat} {x y : Int} (h : Bk w c x y) (p : Int) : Bk (w.setCell ⟨c, 1, none⟩ (.int .i64 p)) c x p := by
  obtain ⟨h1, h2, h3, h4, h5⟩ := h
  exact ⟨(World.cell?_setCell_other _ _ _ _ (by simp)).trans h1, World.cell?_setCell_same _ _ _ h2, by simpa using h3, by simpa using h4, by simpa using h5⟩

theorem bkNew0 (w : World) (m o : Int) (t : TypeId) : Bk (w.alloc (.cells #[.int .i64 m, .int .i64 o] t)) w.heap.size m o := by
  refine ⟨?_, ?_, ?_, ?_, ?_⟩ <;> go_simp


set_option maxHeartbeats 4000000 in
/-- spec.l02Bent. -/
theorem l02Bent_any (b K : Nat) (w : World) (h : Sc w b K) (hK : K ≤ 700000) :
    Calls Try.prog 89 #[.pointer (some ⟨b, 0, none⟩)] w (PairR w b (K + 10)) := by
  have hb := h.lt
  have H := Lib.hid h
  clear h
  go_enter Try.func89, Try.ntmps89
  go_wp2_with fail
  refine (l02DrawS b K _ (H.out.below (bAlloc (Below.refl _ _) _)) (by omega)).mono ?_
  rintro e u1 ⟨n, d, rfl, hn, hd, hs1, ho1⟩
  have B1 : Bk u1 w.heap.size 0 0 := bkOnly ho1 (by omega) (bkNew0 _ _ _ _)
  have HS1 := Lib.hid hs1
  have HO1 := Lib.hid (((Only.refl b w).alloc (.cells #[.int .i64 0, .int .i64 0] 27)).trans ho1)
  clear hs1 ho1 H
  go_wp2_with fail
  refine (pickS 20 b _ _ (by omega) (by omega) (HS1.out.below (bAlloc (Below.refl _ _) _)) (by omega)).mono ?_
  rintro e u2 ⟨q, q0, q1, rfl, hs2, ho2⟩
  have hlt1 := B1.2.2.2.2
  have B2 := bkOnly ho2 (by omega) (bkOf (bAlloc (Below.refl _ _) (.cells #[.int .i64 n, .int .i64 d] 27)) B1)
  have C2 : Bk u2 u1.heap.size n d := bkOnly ho2 (by omega) (bkNew0 _ _ _ _)
  have HS2 := Lib.hid hs2
  have HO2 := Lib.hid ((HO1.out.alloc (.cells #[.int .i64 n, .int .i64 d] 27)).trans ho2)
  clear hs2 ho2 HS1 HO1 B1
  generalize u1.heap.size = c at *
  have ne1 : ¬ w.heap.size = c := by omega
  have ne2 : ¬ c = w.heap.size := by omega
  have ne3 : ¬ w.heap.size = b := by omega
  have ne4 : ¬ b = w.heap.size := by omega
  have ne5 : ¬ c = b := by omega
  have ne6 : ¬ b = c := by omega
  have e0 : q = 0 ∨ q = 1 ∨ q = 2 ∨ q = 3 ∨ 4 ≤ q := by omega
  rcases e0 with rfl | rfl | rfl | rfl | e0
  · clear q0 q1
    go_wp2_with fail
    refine (among9 b _ [-1, 0, 1, 1000000, 1000001] #[.int .i64 (-1), .int .i64 (0), .int .i64 (1), .int .i64 (1000000), .int .i64 (1000001)] rfl (by simp) (by simp) (by simp [I64]) u2 HS2.out (by omega)).mono ?_
    rintro e u3 ⟨z, rfl, hz, hs3, ho3⟩
    have B3 := bkOnly ho3 (by omega) (bkOf (bAlloc (Below.refl _ _) (.cells #[.int .i64 (-1), .int .i64 (0), .int .i64 (1), .int .i64 (1000000), .int .i64 (1000001)] 2)) B2)
    have C3 := bkOnly ho3 (by omega) (bkOf (bAlloc (Below.refl _ _) (.cells #[.int .i64 (-1), .int .i64 (0), .int .i64 (1), .int .i64 (1000000), .int .i64 (1000001)] 2)) C2)
    have HS3 := Lib.hid hs3
    have HO3 := Lib.hid ((HO2.out.alloc (.cells #[.int .i64 (-1), .int .i64 (0), .int .i64 (1), .int .i64 (1000000), .int .i64 (1000001)] 2)).trans ho3)
    clear hs3 ho3 HS2 HO2 B2 C2
    obtain ⟨p0, p1, p2, p3, p4⟩ := B3
    obtain ⟨q0, q1, q2, q3, q4⟩ := C3
    go_wp2_with fail
    refine bodyPost_ret (v := fr n z) (by simp [results, Try.results89, go_sem, p0, p1, p4, q0, q1, q4, Nat.ne_of_lt p4, Nat.ne_of_lt q4, ne1, ne2]) rfl ⟨_, _, rfl, hn, hz, ?_, ?_⟩
    · have c0 : ∀ W : World, Chg (fun k => k = w.heap.size ∨ k = c) W W := fun W => Chg.refl _ _
      refine (HS3.out.chg (S := fun k => k = w.heap.size ∨ k = c) ?_ (fun k hk => by omega)).mono (by omega)
      repeat (first | exact c0 _ | refine Chg.set ?_ (by first | exact .inl (.inl rfl) | exact .inl (.inr rfl)) _)
    · repeat (first | exact HO3.out | refine Only.setNew ?_ (by first | (simp; done) | (simp; omega)) _)
  · clear q0 q1
    go_wp2_with fail
    refine (among9 b _ [-1000001, -1000000, 1000000, 1000001, -9223372036854775808] #[.int .i64 (-1000001), .int .i64 (-1000000), .int .i64 (1000000), .int .i64 (1000001), .int .i64 (-9223372036854775808)] rfl (by simp) (by simp) (by simp [I64]) u2 HS2.out (by omega)).mono ?_
    rintro e u3 ⟨z, rfl, hz, hs3, ho3⟩
    have B3 := bkOnly ho3 (by omega) (bkOf (bAlloc (Below.refl _ _) (.cells #[.int .i64 (-1000001), .int .i64 (-1000000), .int .i64 (1000000), .int .i64 (1000001), .int .i64 (-9223372036854775808)] 2)) B2)
    have C3 := bkOnly ho3 (by omega) (bkOf (bAlloc (Below.refl _ _) (.cells #[.int .i64 (-1000001), .int .i64 (-1000000), .int .i64 (1000000), .int .i64 (1000001), .int .i64 (-9223372036854775808)] 2)) C2)
    have HS3 := Lib.hid hs3
    have HO3 := Lib.hid ((HO2.out.alloc (.cells #[.int .i64 (-1000001), .int .i64 (-1000000), .int .i64 (1000000), .int .i64 (1000001), .int .i64 (-9223372036854775808)] 2)).trans ho3)
    clear hs3 ho3 HS2 HO2 B2 C2
    obtain ⟨p0, p1, p2, p3, p4⟩ := B3
    obtain ⟨q0, q1, q2, q3, q4⟩ := C3
    go_wp2_with fail
    refine bodyPost_ret (v := fr z d) (by simp [results, Try.results89, go_sem, p0, p1, p4, q0, q1, q4, Nat.ne_of_lt p4, Nat.ne_of_lt q4, ne1, ne2]) rfl ⟨_, _, rfl, hz, hd, ?_, ?_⟩
    · have c0 : ∀ W : World, Chg (fun k => k = w.heap.size ∨ k = c) W W := fun W => Chg.refl _ _
      refine (HS3.out.chg (S := fun k => k = w.heap.size ∨ k = c) ?_ (fun k hk => by omega)).mono (by omega)
      repeat (first | exact c0 _ | refine Chg.set ?_ (by first | exact .inl (.inl rfl) | exact .inl (.inr rfl)) _)
    · repeat (first | exact HO3.out | refine Only.setNew ?_ (by first | (simp; done) | (simp; omega)) _)
  · clear q0 q1
    go_wp2_with fail
    refine (pickS 5 b _ _ (by omega) (by omega) HS2.out (by omega)).mono ?_
    rintro e u3 ⟨z, z0, z1, rfl, hs3, ho3⟩
    have B3 := bkOnly ho3 (by omega) B2
    have C3 := bkOnly ho3 (by omega) C2
    have HS3 := Lib.hid hs3
    have HO3 := Lib.hid (HO2.out.trans ho3)
    clear hs3 ho3 HS2 HO2 B2 C2
    have w1 : IntKind.i64.wrap (2 * z) = 2 * z := IntWalk.i64_in _ (by omega)
    obtain ⟨p0, p1, p2, p3, p4⟩ := B3
    obtain ⟨q0, q1, q2, q3, q4⟩ := C3
    go_wp2_with fail
    refine bodyPost_ret (v := fr (2 * z) 4) (by simp [results, Try.results89, go_sem, p0, p1, p4, q0, q1, q4, Nat.ne_of_lt p4, Nat.ne_of_lt q4, ne1, ne2]) rfl ⟨_, _, rfl, i64_of (by omega) (by omega), i64_of (by omega) (by omega), ?_, ?_⟩
    · have c0 : ∀ W : World, Chg (fun k => k = w.heap.size ∨ k = c) W W := fun W => Chg.refl _ _
      refine (HS3.out.chg (S := fun k => k = w.heap.size ∨ k = c) ?_ (fun k hk => by omega)).mono (by omega)
      repeat (first | exact c0 _ | refine Chg.set ?_ (by first | exact .inl (.inl rfl) | exact .inl (.inr rfl)) _)
    · repeat (first | exact HO3.out | refine Only.setNew ?_ (by first | (simp; done) | (simp; omega)) _)
  · clear q0 q1
    go_wp2_with fail
    refine (pickS 3 b _ _ (by omega) (by omega) HS2.out (by omega)).mono ?_
    rintro e u3 ⟨z, z0, z1, rfl, hs3, ho3⟩
    have B3 := bkOnly ho3 (by omega) B2
    have C3 := bkOnly ho3 (by omega) C2
    have HS3 := Lib.hid hs3
    have HO3 := Lib.hid (HO2.out.trans ho3)
    clear hs3 ho3 HS2 HO2 B2 C2
    have w1 : IntKind.i64.wrap (999983 - z) = 999983 - z := IntWalk.i64_in _ (by omega)
    obtain ⟨p0, p1, p2, p3, p4⟩ := B3
    obtain ⟨q0, q1, q2, q3, q4⟩ := C3
    go_wp2_with fail
    refine bodyPost_ret (v := fr (999983 - z) 1000000) (by simp [results, Try.results89, go_sem, p0, p1, p4, q0, q1, q4, Nat.ne_of_lt p4, Nat.ne_of_lt q4, ne1, ne2]) rfl ⟨_, _, rfl, i64_of (by omega) (by omega), i64_of (by omega) (by omega), ?_, ?_⟩
    · have c0 : ∀ W : World, Chg (fun k => k = w.heap.size ∨ k = c) W W := fun W => Chg.refl _ _
      refine (HS3.out.chg (S := fun k => k = w.heap.size ∨ k = c) ?_ (fun k hk => by omega)).mono (by omega)
      repeat (first | exact c0 _ | refine Chg.set ?_ (by first | exact .inl (.inl rfl) | exact .inl (.inr rfl)) _)
    · repeat (first | exact HO3.out | refine Only.setNew ?_ (by first | (simp; done) | (simp; omega)) _)
  · have k0 : ¬ q = 0 := by omega
    have k1 : ¬ q = 1 := by omega
    have k2 : ¬ q = 2 := by omega
    have k3 : ¬ q = 3 := by omega
    have B3 := B2
    have C3 := C2
    clear B2 C2
    obtain ⟨p0, p1, p2, p3, p4⟩ := B3
    obtain ⟨q0, q1, q2, q3, q4⟩ := C3
    go_wp2_with fail
    refine bodyPost_ret (v := fr n d) (by simp [results, Try.results89, go_sem, p0, p1, p4, q0, q1, q4, Nat.ne_of_lt p4, Nat.ne_of_lt q4, ne1, ne2]) rfl ⟨_, _, rfl, hn, hd, ?_, ?_⟩
    · have c0 : ∀ W : World, Chg (fun k => k = w.heap.size ∨ k = c) W W := fun W => Chg.refl _ _
      refine (HS2.out.chg (S := fun k => k = w.heap.size ∨ k = c) ?_ (fun k hk => by omega)).mono (by omega)
      repeat (first | exact c0 _ | refine Chg.set ?_ (by first | exact .inl (.inl rfl) | exact .inl (.inr rfl)) _)
    · repeat (first | exact HO2.out | refine Only.setNew ?_ (by first | (simp; done) | (simp; omega)) _)


theorem mulBd9 {x y : Int} (a b : Int) (x0 : 0 ≤ x) (x1 : x ≤ a) (y0 : 0 ≤ y) (y1 : y ≤ b) : 0 ≤ x * y ∧ x * y ≤ a * b :=
  ⟨Int.mul_nonneg x0 y0, Int.mul_le_mul x1 y1 y0 (by omega)⟩
theorem many_bd (j : Nat) (hj : j < 7) : 1 ≤ ([1, 2, 2, 4, 5, 8, 10] : List Int).getD j 0 ∧ ([1, 2, 2, 4, 5, 8, 10] : List Int).getD j 0 ≤ 10 := by
  have h : j = 0 ∨ j = 1 ∨ j = 2 ∨ j = 3 ∨ j = 4 ∨ j = 5 ∨ j = 6 := by omega
  rcases h with rfl | rfl | rfl | rfl | rfl | rfl | rfl <;> decide
theorem div_bd {m : Int} (h1 : 1 ≤ m) (h2 : m ≤ 10) : ∃ q : Int, (1000 : Int) / m = q ∧ 100 ≤ q ∧ q ≤ 1000 := by
  have h : m = 1 ∨ m = 2 ∨ m = 3 ∨ m = 4 ∨ m = 5 ∨ m = 6 ∨ m = 7 ∨ m = 8 ∨ m = 9 ∨ m = 10 := by omega
  rcases h with rfl | rfl | rfl | rfl | rfl | rfl | rfl | rfl | rfl | rfl <;> exact ⟨_, rfl, by decide, by decide⟩

set_option maxHeartbeats 4000000 in
set_option maxRecDepth 100000 in
/-- spec.l09Draw. -/
theorem l09Draw_any (b K : Nat) (w : World) (h : Sc w b K) (hK : K ≤ 700000) :
    Calls Try.prog 53 #[.pointer (some ⟨b, 0, none⟩)] w (PairR w b (K + 10)) := by
  have hb := h.lt
  have H := Lib.hid h
  clear h
  go_enter Try.func53, Try.ntmps53
  go_wp2_with fail
  have B0 : Bk (w.alloc (.cells #[.int .i64 0, .int .i64 0] 25)) w.heap.size 0 0 := bkNew0 _ _ _ _
  have HS0 := Lib.hid (H.out.below (bAlloc (Below.refl _ _) (.cells #[.int .i64 0, .int .i64 0] 25)))
  have HO0 := Lib.hid ((Only.refl b w).alloc (.cells #[.int .i64 0, .int .i64 0] 25))
  clear H
  have hAM := amongS b K (w.alloc (.cells #[.int .i64 0, .int .i64 0] 25)).heap.size _ [1, 2, 2, 4, 5, 8, 10] _ (oneLit9 (w.alloc (.cells #[.int .i64 0, .int .i64 0] 25)) [1, 2, 2, 4, 5, 8, 10] #[.int .i64 (1), .int .i64 (2), .int .i64 (2), .int .i64 (4), .int .i64 (5), .int .i64 (8), .int .i64 (10)] rfl (by simp) (by simp)) (by simp) (by simp) HS0.out.lt (HS0.out.below (bAlloc (Below.refl _ _) _)) (by omega)
  rw [World.size_alloc] at hAM
  refine hAM.mono ?_
  clear hAM
  rintro e u1 ⟨j, hj, rfl, hs1, ho1⟩
  obtain ⟨m1, m2⟩ := many_bd j (by simpa using hj)
  generalize ([1, 2, 2, 4, 5, 8, 10] : List Int).getD j 0 = m at *
  have B1 := bkOnly ho1 (by omega) (bkOf (bAlloc (Below.refl _ _) (.cells #[.int .i64 (1), .int .i64 (2), .int .i64 (2), .int .i64 (4), .int .i64 (5), .int .i64 (8), .int .i64 (10)] 2)) B0)
  have HS1 := Lib.hid hs1
  have HO1 := Lib.hid ((HO0.out.alloc (.cells #[.int .i64 (1), .int .i64 (2), .int .i64 (2), .int .i64 (4), .int .i64 (5), .int .i64 (8), .int .i64 (10)] 2)).trans ho1)
  clear hs1 ho1 HS0 HO0 B0 hj
  obtain ⟨q, hq, hq1, hq2⟩ := div_bd m1 m2
  have m0 : ¬ m = 0 := by omega
  have w1 : IntKind.i64.wrap (q - 1) = q - 1 := IntWalk.i64_in _ (by omega)
  have hq3 : Int.tdiv 1000 m = q := by rw [Int.tdiv_eq_ediv_of_nonneg (by decide)]; exact hq
  have wq : IntKind.i64.wrap q = q := IntWalk.i64_in _ (by omega)
  go_upto_region 2 with fail
  have hlt1 := B1.2.2.2.2
  have B2 := bkOf (bAlloc (Below.refl _ _) (.cells #[.int .i64 m, .int .i64 0] 25)) B1
  have C2 : Bk (u1.alloc (.cells #[.int .i64 m, .int .i64 0] 25)) u1.heap.size m 0 := bkNew0 _ _ _ _
  have HS2 := Lib.hid (HS1.out.below (bAlloc (Below.refl _ _) (.cells #[.int .i64 m, .int .i64 0] 25)))
  have HO2 := Lib.hid (HO1.out.alloc (.cells #[.int .i64 m, .int .i64 0] 25))
  have hcb : b < u1.heap.size := HS1.out.lt
  have hwc : w.heap.size < u1.heap.size := hlt1
  clear HS1 HO1 B1 hlt1
  generalize u1.alloc (.cells #[.int .i64 m, .int .i64 0] 25) = u2 at *
  generalize u1.heap.size = c at *
  have ne1 : ¬ w.heap.size = c := by omega
  have ne2 : ¬ c = w.heap.size := by omega
  have ne3 : ¬ w.heap.size = b := by omega
  have ne4 : ¬ b = w.heap.size := by omega
  have ne5 : ¬ c = b := by omega
  have ne6 : ¬ b = c := by omega
  have D2 := C2
  obtain ⟨k0, k1, k2, k3, k4⟩ := D2
  go_cut [] from 4 (fun wx => ∃ p : Int, 0 ≤ p ∧ p ≤ 10000 ∧ Bk wx w.heap.size 0 0 ∧ Bk wx c m p ∧ Hid (Sc wx b (K + 4)) ∧ Hid (Only b w wx))
  case first =>
    go_region_held3 (fun v => v.cell? ⟨c, 0, none⟩ = some (.int .i64 m) ∧ v.cell? ⟨c, 0, none⟩ = some (.int .i64 m)) (first | exact ⟨(World.cell?_setCell_other _ _ _ _ (by simp)).trans e0, (World.cell?_setCell_other _ _ _ _ (by simp)).trans e0⟩ | go_keep) ((go_at_call 73; (with_reducible refine (pickS (q - 1) b _ _ (by omega) (by omega) (HS2.out.below (Below.drew (Below.refl _ _))) (by omega)).mono ?_); rintro e u3 ⟨v, v0, v1, rfl, hs3, ho3⟩; have w2 : IntKind.i64.wrap (1 + v) = 1 + v := IntWalk.i64_in _ (by omega); have mp := mulBd9 (x := m) (y := 1 + v) 10 1000 (by omega) (by omega) (by omega) (by omega); have w3 : IntKind.i64.wrap (m * (1 + v)) = m * (1 + v) := IntWalk.i64_in _ (by omega); have C3 := bkOnly ho3 (by omega) C2; have B3 := bkOnly ho3 (by omega) B2; have HS3 := Lib.hid hs3; have HO3 := Lib.hid (HO2.out.trans ⟨ho3.os, ho3.tape, ho3.output, ho3.size, ho3.block⟩); have D3 := C3; obtain ⟨e0, e1, e2, e3, e4⟩ := D3))
    all_goals go_wp2_with fail
    all_goals go_meet
    all_goals exact ⟨m * (1 + v), by omega, by omega, bkSetO B3 (by omega) _ _, bkSet1 C3 _, Lib.hid (HS3.out.chg (S := fun k => k = c) (Chg.set (p := ⟨c, 1, none⟩) (Chg.refl (fun k => k = c) u3) (.inl rfl) _) (fun k hk => by omega)), Lib.hid (HO3.out.setNew (by simp; omega) _)⟩
  case rest =>
    obtain ⟨p, p0, p1, B3, C3, HS3, HO3⟩ := hcut
    clear HS2 HO2 B2 C2 k0 k1 k2 k3 k4
    go_wp2_with fail
    refine (pickS 16 b _ _ (by omega) (by omega) HS3.out (by omega)).mono ?_
    rintro e u2 ⟨r, r0, r1, rfl, hs2, ho2⟩
    have B2 := bkOnly ho2 (by omega) B3
    have C2 := bkOnly ho2 (by omega) C3
    have HS2 := Lib.hid hs2
    have HO2 := Lib.hid (HO3.out.trans ho2)
    clear hs2 ho2 HS3 HO3 B3 C3
    have e0 : r = 0 ∨ r = 1 ∨ 2 ≤ r := by omega
    rcases e0 with rfl | rfl | e0
    · clear r0 r1
      go_wp2_with fail
      refine (among9 b _ [-1, 0, 3, 12, 13, -9223372036854775808] #[.int .i64 (-1), .int .i64 (0), .int .i64 (3), .int .i64 (12), .int .i64 (13), .int .i64 (-9223372036854775808)] rfl (by simp) (by simp) (by simp [I64]) u2 HS2.out (by omega)).mono ?_
      rintro e u3 ⟨z, rfl, hz, hs3, ho3⟩
      have B3 := bkOnly ho3 (by omega) (bkOf (bAlloc (Below.refl _ _) (.cells #[.int .i64 (-1), .int .i64 (0), .int .i64 (3), .int .i64 (12), .int .i64 (13), .int .i64 (-9223372036854775808)] 2)) B2)
      have C3 := bkOnly ho3 (by omega) (bkOf (bAlloc (Below.refl _ _) (.cells #[.int .i64 (-1), .int .i64 (0), .int .i64 (3), .int .i64 (12), .int .i64 (13), .int .i64 (-9223372036854775808)] 2)) C2)
      have HS3 := Lib.hid hs3
      have HO3 := Lib.hid ((HO2.out.alloc (.cells #[.int .i64 (-1), .int .i64 (0), .int .i64 (3), .int .i64 (12), .int .i64 (13), .int .i64 (-9223372036854775808)] 2)).trans ho3)
      clear hs3 ho3 HS2 HO2 B2 C2
      obtain ⟨p0, p1, p2, p3, p4⟩ := B3
      obtain ⟨q0, q1, q2, q3, q4⟩ := C3
      go_wp2_with fail
      refine bodyPost_ret (v := fr z p) (by simp [results, Try.results53, go_sem, p0, p1, p4, q0, q1, q4, Nat.ne_of_lt p4, Nat.ne_of_lt q4, ne1, ne2]) rfl ⟨_, _, rfl, hz, i64_of (by omega) (by omega), ?_, ?_⟩
      · have c0 : ∀ W : World, Chg (fun k => k = w.heap.size ∨ k = c) W W := fun W => Chg.refl _ _
        refine (HS3.out.chg (S := fun k => k = w.heap.size ∨ k = c) ?_ (fun k hk => by omega)).mono (by omega)
        repeat (first | exact c0 _ | refine Chg.set ?_ (by first | exact .inl (.inl rfl) | exact .inl (.inr rfl)) _)
      · repeat (first | exact HO3.out | refine Only.setNew ?_ (by first | (simp; done) | (simp; omega)) _)
    · clear r0 r1
      go_wp2_with fail
      refine (among9 b _ [-1, 0, 1, 7, 999, 1000] #[.int .i64 (-1), .int .i64 (0), .int .i64 (1), .int .i64 (7), .int .i64 (999), .int .i64 (1000)] rfl (by simp) (by simp) (by simp [I64]) u2 HS2.out (by omega)).mono ?_
      rintro e u3 ⟨z, rfl, hz, hs3, ho3⟩
      have B3 := bkOnly ho3 (by omega) (bkOf (bAlloc (Below.refl _ _) (.cells #[.int .i64 (-1), .int .i64 (0), .int .i64 (1), .int .i64 (7), .int .i64 (999), .int .i64 (1000)] 2)) B2)
      have C3 := bkOnly ho3 (by omega) (bkOf (bAlloc (Below.refl _ _) (.cells #[.int .i64 (-1), .int .i64 (0), .int .i64 (1), .int .i64 (7), .int .i64 (999), .int .i64 (1000)] 2)) C2)
      have HS3 := Lib.hid hs3
      have HO3 := Lib.hid ((HO2.out.alloc (.cells #[.int .i64 (-1), .int .i64 (0), .int .i64 (1), .int .i64 (7), .int .i64 (999), .int .i64 (1000)] 2)).trans ho3)
      clear hs3 ho3 HS2 HO2 B2 C2
      obtain ⟨p0, p1, p2, p3, p4⟩ := B3
      obtain ⟨q0, q1, q2, q3, q4⟩ := C3
      go_wp2_with fail
      refine bodyPost_ret (v := fr m z) (by simp [results, Try.results53, go_sem, p0, p1, p4, q0, q1, q4, Nat.ne_of_lt p4, Nat.ne_of_lt q4, ne1, ne2]) rfl ⟨_, _, rfl, i64_of (by omega) (by omega), hz, ?_, ?_⟩
      · have c0 : ∀ W : World, Chg (fun k => k = w.heap.size ∨ k = c) W W := fun W => Chg.refl _ _
        refine (HS3.out.chg (S := fun k => k = w.heap.size ∨ k = c) ?_ (fun k hk => by omega)).mono (by omega)
        repeat (first | exact c0 _ | refine Chg.set ?_ (by first | exact .inl (.inl rfl) | exact .inl (.inr rfl)) _)
      · repeat (first | exact HO3.out | refine Only.setNew ?_ (by first | (simp; done) | (simp; omega)) _)
    · have k0 : ¬ r = 0 := by omega
      have k1 : ¬ r = 1 := by omega
      have B3 := B2
      have C3 := C2
      clear B2 C2
      obtain ⟨p0, p1, p2, p3, p4⟩ := B3
      obtain ⟨q0, q1, q2, q3, q4⟩ := C3
      go_wp2_with fail
      refine bodyPost_ret (v := fr m p) (by simp [results, Try.results53, go_sem, p0, p1, p4, q0, q1, q4, Nat.ne_of_lt p4, Nat.ne_of_lt q4, ne1, ne2]) rfl ⟨_, _, rfl, i64_of (by omega) (by omega), i64_of (by omega) (by omega), ?_, ?_⟩
      · have c0 : ∀ W : World, Chg (fun k => k = w.heap.size ∨ k = c) W W := fun W => Chg.refl _ _
        refine (HS2.out.chg (S := fun k => k = w.heap.size ∨ k = c) ?_ (fun k hk => by omega)).mono (by omega)
        repeat (first | exact c0 _ | refine Chg.set ?_ (by first | exact .inl (.inl rfl) | exact .inl (.inr rfl)) _)
      · repeat (first | exact HO2.out | refine Only.setNew ?_ (by first | (simp; done) | (simp; omega)) _)


end Go.Proofs.Ytflgjohknjgdcaa
