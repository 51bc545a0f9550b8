/- Drums, overlaps and papers that are drawn. -/
import Derived.Test.YthphihfcgpoefaaProg
import Derived.Test.YthphihfcgpoefaaDrum
import Derived.Test.YthphihfcgpoefaaLists
import Derived.Test.YthphihfcgpoefaaHold
import Derived.Test.YthphihfcgpoefaaSrc
import Derived.Test.YthphihfcgpoefaaPick
import Derived.IntWalk
import Derived.WalkSpells
import Derived.OwnWalk
import Derived.Laws.AppendOwn
import Derived.Laws.OwnMore
import Derived.Laws.Cover1
import Derived.Deep.RegionWith
import Derived.Deep.DrawnRows
import Derived.Deep.RegionHeld3
import Derived.Tactics
import Derived.Tactics2
import Derived.WalkKit
import Derived.LoopTactic
import Derived.BigQuiet
import Derived.RegionTactic
import Derived.Deep.QuietTactic
import Derived.Outline
import Derived.Lib.Hide
import Derived.Below
import Derived.KernelRfl
namespace Go.Proofs.Ythphihfcgpoefaa
set_option linter.unusedSimpArgs false
set_option linter.unusedVariables false
open Go.RowKit

/-- A block of three numbers that may be stored into. -/
structure Bs (w : World) (k : Nat) (r h s : Int) : Prop where
  c0 : w.cell? ⟨k, 0, none⟩ = some (.int .i64 r)
  c1 : w.cell? ⟨k, 1, none⟩ = some (.int .i64 h)
  c2 : w.cell? ⟨k, 2, none⟩ = some (.int .i64 s)
  f0 : w.frozen? ⟨k, 0, none⟩ = false
  f1 : w.frozen? ⟨k, 1, none⟩ = false
  f2 : w.frozen? ⟨k, 2, none⟩ = false
  lt : k < w.heap.size
theorem Bs.bd {w : World} {k : Nat} {r h s : Int} (x : Bs w k r h s) : Bd w k r h s := ⟨x.c0, x.c1, x.c2, x.lt⟩
theorem Bs.below {W u : World} {b : Nat} {r h s : Int} (x : Bs W b r h s) (hb : Below W.heap.size W u) : Bs u b r h s :=
  ⟨(hb.cell x.lt).trans x.c0, (hb.cell x.lt).trans x.c1, (hb.cell x.lt).trans x.c2, (hb.frozen x.lt).trans x.f0, (hb.frozen x.lt).trans x.f1, (hb.frozen x.lt).trans x.f2, Nat.lt_of_lt_of_le x.lt hb.size⟩
theorem Bs.only {b k : Nat} {W u : World} {r h s : Int} (x : Bs W k r h s) (ho : Only b W u) (hne : k ≠ b) : Bs u k r h s := by
  have hk := ho.block k x.lt (fun e => hne (by first | exact (Option.some.inj e).symm | exact Option.some.inj e))
  exact ⟨by rw [World.cell?_of_block hk]; exact x.c0, by rw [World.cell?_of_block hk]; exact x.c1, by rw [World.cell?_of_block hk]; exact x.c2, by rw [World.frozen?_of_block hk]; exact x.f0, by rw [World.frozen?_of_block hk]; exact x.f1, by rw [World.frozen?_of_block hk]; exact x.f2, Nat.lt_of_lt_of_le x.lt ho.size⟩

/-- What drawing a drum leaves. -/
def DrumR (w : World) (b K : Nat) (e : Ending) (w' : World) : Prop := ∃ r h s : Int, e = .returned (dr r h s) ∧ Sc w' b K ∧ Only b w w'
/-- What drawing a common drum leaves. -/
def DrumN (w : World) (b K : Nat) (e : Ending) (w' : World) : Prop := ∃ r h s : Int, e = .returned (dr r h s) ∧ (300 ≤ r ∧ r ≤ 1190) ∧ (60 ≤ h ∧ h ≤ 250) ∧ (1 ≤ s ∧ s ≤ 16) ∧ Sc w' b K ∧ Only b w w'

set_option maxHeartbeats 1000000 in
/-- spec.l07New. -/
theorem l07New_any (b K : Nat) (w : World) (h : Sc w b K) (hK : K ≤ 800000) :
    Calls Try.prog 75 #[.pointer (some ⟨b, 0, none⟩)] w (DrumN w b (K + 6)) := by
  have hb := h.lt
  have H := Lib.hid h
  clear h
  go_enter Try.func75, Try.ntmps75
  go_wp2_with fail
  refine (pickS 90 b K _ (by omega) (by omega) (H.out.below (bAlloc (Below.refl _ _) _)) (by omega)).mono ?_
  rintro e u1 ⟨x, x0, x1, rfl, hs1, ho1⟩
  have B1 : Bs u1 w.heap.size 0 0 0 := Bs.only (by refine ⟨?_, ?_, ?_, ?_, ?_, ?_, ?_⟩ <;> go_simp) ho1 (by omega)
  have HS1 := Lib.hid hs1
  have HO1 := Lib.hid (((Only.refl b w).alloc (.cells #[.int .i64 0, .int .i64 0, .int .i64 0] 25)).trans ho1)
  clear hs1 ho1 H
  have w1 : IntKind.i64.wrap (10 * x) = 10 * x := IntWalk.i64_in _ (by omega)
  have w2 : IntKind.i64.wrap (300 + 10 * x) = 300 + 10 * x := IntWalk.i64_in _ (by omega)
  go_wp2_with fail
  refine (pickS 20 b _ _ (by omega) (by omega) HS1.out (by omega)).mono ?_
  rintro e u2 ⟨y, y0, y1, rfl, hs2, ho2⟩
  have B2 := B1.only ho2 (by omega)
  have HS2 := Lib.hid hs2
  have HO2 := Lib.hid (HO1.out.trans ho2)
  clear hs2 ho2 HS1 HO1 B1
  have w3 : IntKind.i64.wrap (10 * y) = 10 * y := IntWalk.i64_in _ (by omega)
  have w4 : IntKind.i64.wrap (60 + 10 * y) = 60 + 10 * y := IntWalk.i64_in _ (by omega)
  go_wp2_with fail
  refine (pickS 16 b _ _ (by omega) (by omega) (HS2.out.below (bAlloc (Below.refl _ _) _)) (by omega)).mono ?_
  rintro e u3 ⟨z, z0, z1, rfl, hs3, ho3⟩
  have B3 := (B2.below (bAlloc (Below.refl _ _) (.cells #[.int .i64 (300 + 10 * x), .int .i64 (60 + 10 * y), .int .i64 0] 25))).only ho3 (by omega)
  have hlt := B2.lt
  have C3 : Bs u3 u2.heap.size (300 + 10 * x) (60 + 10 * y) 0 := Bs.only (by refine ⟨?_, ?_, ?_, ?_, ?_, ?_, ?_⟩ <;> go_simp) ho3 (by omega)
  have HS3 := Lib.hid hs3
  have HO3 := Lib.hid ((HO2.out.alloc (.cells #[.int .i64 (300 + 10 * x), .int .i64 (60 + 10 * y), .int .i64 0] 25)).trans ho3)
  clear hs3 ho3 HS2 HO2 B2
  have w5 : IntKind.i64.wrap (1 + z) = 1 + z := IntWalk.i64_in _ (by omega)
  obtain ⟨p0, p1, p2, p3, p4, p5, p6⟩ := B3
  obtain ⟨q0, q1, q2, q3, q4, q5, q6⟩ := C3
  have ne1 : ¬ w.heap.size = u2.heap.size := by omega
  have ne2 : ¬ u2.heap.size = w.heap.size := by omega
  have ne3 : ¬ w.heap.size = b := by omega
  have ne4 : ¬ b = w.heap.size := by omega
  have ne5 : ¬ u2.heap.size = b := by omega
  have ne6 : ¬ b = u2.heap.size := by omega
  go_wp2_with fail
  refine bodyPost_ret (v := dr (300 + 10 * x) (60 + 10 * y) (1 + z)) (by simp [results, Try.results75, go_sem, p0, p1, p2, p6, q0, q1, q6, Nat.ne_of_lt p6, Nat.ne_of_lt q6, ne1, ne2]) rfl ⟨_, _, _, rfl, by omega, by omega, by omega, ?_, ?_⟩
  · have c : Chg (fun k => k = w.heap.size ∨ k = u2.heap.size) u3 u3 := Chg.refl _ _
    refine HS3.out.chg (S := fun k => k = w.heap.size ∨ k = u2.heap.size) ?_ (fun k hk => by omega)
    repeat (first | exact c | refine Chg.set ?_ (by first | exact .inl (.inl rfl) | exact .inl (.inr rfl)) _)
  · repeat (first | exact HO3.out | refine Only.setNew ?_ (by first | (simp; done) | (simp; omega)) _)

theorem oneLit (u : World) (xs : List Int) (vs : Array Value) (hv : vs.toList = xs.map (Value.int .i64)) (hx : 1 ≤ xs.length) (hl : xs.length ≤ 100) :
    Ints (u.alloc (.cells vs 2)) u.heap.size (.slice (some ⟨u.heap.size, 0, none⟩) xs.length xs.length) xs := by
  have h : (u.alloc (.cells vs 2)).ownsRow u.heap.size 2 1 (.slice (some ⟨u.heap.size, 0, none⟩) xs.length xs.length) xs.length vs.toList := World.ownsRow_lit u vs xs.length (Nat.le_refl _) (by unfold maxLen; omega) (by rw [← Array.length_toList, hv, List.length_map, Nat.mul_one])
  rw [hv] at h
  exact h

set_option maxHeartbeats 2000000 in
/-- spec.l07Bent. -/
theorem l07Bent_any (b K : Nat) (w : World) (h : Sc w b K) (hK : K ≤ 700000) :
    Calls Try.prog 59 #[.pointer (some ⟨b, 0, none⟩)] w (DrumR w b (K + 10)) := by
  have hb := h.lt
  have H := Lib.hid h
  clear h
  go_enter Try.func59, Try.ntmps59
  go_wp2_with fail
  refine (l07New_any b K _ (H.out.below (bAlloc (Below.refl _ _) _)) (by omega)).mono ?_
  rintro e u1 ⟨r, h, s, rfl, -, -, -, hs1, ho1⟩
  have B1 : Bs u1 w.heap.size 0 0 0 := Bs.only (by refine ⟨?_, ?_, ?_, ?_, ?_, ?_, ?_⟩ <;> go_simp) ho1 (by omega)
  have HS1 := Lib.hid hs1
  have HO1 := Lib.hid (((Only.refl b w).alloc (.cells #[.int .i64 0, .int .i64 0, .int .i64 0] 25)).trans ho1)
  clear hs1 ho1 H
  go_wp2_with fail
  refine (pickS 24 b _ _ (by omega) (by omega) (HS1.out.below (bAlloc (Below.refl _ _) _)) (by omega)).mono ?_
  rintro e u2 ⟨q, q0, q1, rfl, hs2, ho2⟩
  have hlt1 := B1.lt
  have B2 := (B1.below (bAlloc (Below.refl _ _) (.cells #[.int .i64 r, .int .i64 h, .int .i64 s] 25))).only ho2 (by omega)
  have C2 : Bs u2 u1.heap.size r h s := Bs.only (by refine ⟨?_, ?_, ?_, ?_, ?_, ?_, ?_⟩ <;> go_simp) ho2 (by omega)
  have HS2 := Lib.hid hs2
  have HO2 := Lib.hid ((HO1.out.alloc (.cells #[.int .i64 r, .int .i64 h, .int .i64 s] 25)).trans ho2)
  clear hs2 ho2 HS1 HO1 B1
  generalize u1.heap.size = c at *
  have ne1 : ¬ w.heap.size = c := by omega
  have ne2 : ¬ c = w.heap.size := by omega
  have ne3 : ¬ w.heap.size = b := by omega
  have ne4 : ¬ b = w.heap.size := by omega
  have ne5 : ¬ c = b := by omega
  have ne6 : ¬ b = c := by omega
  have e0 : q = 0 ∨ q = 1 ∨ q = 2 ∨ 3 ≤ q := by omega
  rcases e0 with rfl | rfl | rfl | e0
  · clear q0 q1
    go_wp2_with fail
    refine (amongS b _ u2.heap.size _ [-1, 99, 100, 10000, 10001, -9223372036854775808] _ (oneLit u2 [-1, 99, 100, 10000, 10001, -9223372036854775808] _ rfl (by simp) (by simp)) (by simp) (by simp) (by have := B2.lt; omega) (HS2.out.below (bAlloc (Below.refl _ _) _)) (by omega)).mono ?_
    rintro e u3 ⟨j, hj, rfl, hs3, ho3⟩
    generalize ([-1, 99, 100, 10000, 10001, -9223372036854775808] : List Int).getD j 0 = z at *
    have B3 := (B2.below (bAlloc (Below.refl _ _) (.cells #[.int .i64 (-1), .int .i64 (99), .int .i64 (100), .int .i64 (10000), .int .i64 (10001), .int .i64 (-9223372036854775808)] 2))).only ho3 (by omega)
    have C3 := (C2.below (bAlloc (Below.refl _ _) (.cells #[.int .i64 (-1), .int .i64 (99), .int .i64 (100), .int .i64 (10000), .int .i64 (10001), .int .i64 (-9223372036854775808)] 2))).only ho3 (by omega)
    have HS3 := Lib.hid hs3
    have HO3 := Lib.hid ((HO2.out.alloc (.cells #[.int .i64 (-1), .int .i64 (99), .int .i64 (100), .int .i64 (10000), .int .i64 (10001), .int .i64 (-9223372036854775808)] 2)).trans ho3)
    clear hs3 ho3 HS2 HO2 B2 C2 hj
    obtain ⟨p0, p1, p2, p3, p4, p5, p6⟩ := B3
    obtain ⟨q0, q1, q2, q3, q4, q5, q6⟩ := C3
    go_wp2_with fail
    refine bodyPost_ret (v := dr z h s) (by simp [results, Try.results59, go_sem, p0, p1, p2, p6, q0, q1, q2, q6, Nat.ne_of_lt p6, Nat.ne_of_lt q6, ne1, ne2]) rfl ⟨_, _, _, rfl, ?_, ?_⟩
    · have c0 : Chg (fun k => k = w.heap.size ∨ k = c) u3 u3 := Chg.refl _ _
      refine (HS3.out.chg (S := fun k => k = w.heap.size ∨ k = c) ?_ (fun k hk => by omega)).mono (by omega)
      repeat (first | exact c0 | refine Chg.set ?_ (by first | exact .inl (.inl rfl) | exact .inl (.inr rfl)) _)
    · repeat (first | exact HO3.out | refine Only.setNew ?_ (by first | (simp; done) | (simp; omega)) _)
  · clear q0 q1
    go_wp2_with fail
    refine (amongS b _ u2.heap.size _ [-1, 19, 20, 1000, 1001] _ (oneLit u2 [-1, 19, 20, 1000, 1001] _ rfl (by simp) (by simp)) (by simp) (by simp) (by have := B2.lt; omega) (HS2.out.below (bAlloc (Below.refl _ _) _)) (by omega)).mono ?_
    rintro e u3 ⟨j, hj, rfl, hs3, ho3⟩
    generalize ([-1, 19, 20, 1000, 1001] : List Int).getD j 0 = z at *
    have B3 := (B2.below (bAlloc (Below.refl _ _) (.cells #[.int .i64 (-1), .int .i64 (19), .int .i64 (20), .int .i64 (1000), .int .i64 (1001)] 2))).only ho3 (by omega)
    have C3 := (C2.below (bAlloc (Below.refl _ _) (.cells #[.int .i64 (-1), .int .i64 (19), .int .i64 (20), .int .i64 (1000), .int .i64 (1001)] 2))).only ho3 (by omega)
    have HS3 := Lib.hid hs3
    have HO3 := Lib.hid ((HO2.out.alloc (.cells #[.int .i64 (-1), .int .i64 (19), .int .i64 (20), .int .i64 (1000), .int .i64 (1001)] 2)).trans ho3)
    clear hs3 ho3 HS2 HO2 B2 C2 hj
    obtain ⟨p0, p1, p2, p3, p4, p5, p6⟩ := B3
    obtain ⟨q0, q1, q2, q3, q4, q5, q6⟩ := C3
    go_wp2_with fail
    refine bodyPost_ret (v := dr r z s) (by simp [results, Try.results59, go_sem, p0, p1, p2, p6, q0, q1, q2, q6, Nat.ne_of_lt p6, Nat.ne_of_lt q6, ne1, ne2]) rfl ⟨_, _, _, rfl, ?_, ?_⟩
    · have c0 : Chg (fun k => k = w.heap.size ∨ k = c) u3 u3 := Chg.refl _ _
      refine (HS3.out.chg (S := fun k => k = w.heap.size ∨ k = c) ?_ (fun k hk => by omega)).mono (by omega)
      repeat (first | exact c0 | refine Chg.set ?_ (by first | exact .inl (.inl rfl) | exact .inl (.inr rfl)) _)
    · repeat (first | exact HO3.out | refine Only.setNew ?_ (by first | (simp; done) | (simp; omega)) _)
  · clear q0 q1
    go_wp2_with fail
    refine (amongS b _ u2.heap.size _ [-1, 0, 1, 48, 49] _ (oneLit u2 [-1, 0, 1, 48, 49] _ rfl (by simp) (by simp)) (by simp) (by simp) (by have := B2.lt; omega) (HS2.out.below (bAlloc (Below.refl _ _) _)) (by omega)).mono ?_
    rintro e u3 ⟨j, hj, rfl, hs3, ho3⟩
    generalize ([-1, 0, 1, 48, 49] : List Int).getD j 0 = z at *
    have B3 := (B2.below (bAlloc (Below.refl _ _) (.cells #[.int .i64 (-1), .int .i64 (0), .int .i64 (1), .int .i64 (48), .int .i64 (49)] 2))).only ho3 (by omega)
    have C3 := (C2.below (bAlloc (Below.refl _ _) (.cells #[.int .i64 (-1), .int .i64 (0), .int .i64 (1), .int .i64 (48), .int .i64 (49)] 2))).only ho3 (by omega)
    have HS3 := Lib.hid hs3
    have HO3 := Lib.hid ((HO2.out.alloc (.cells #[.int .i64 (-1), .int .i64 (0), .int .i64 (1), .int .i64 (48), .int .i64 (49)] 2)).trans ho3)
    clear hs3 ho3 HS2 HO2 B2 C2 hj
    obtain ⟨p0, p1, p2, p3, p4, p5, p6⟩ := B3
    obtain ⟨q0, q1, q2, q3, q4, q5, q6⟩ := C3
    go_wp2_with fail
    refine bodyPost_ret (v := dr r h z) (by simp [results, Try.results59, go_sem, p0, p1, p2, p6, q0, q1, q2, q6, Nat.ne_of_lt p6, Nat.ne_of_lt q6, ne1, ne2]) rfl ⟨_, _, _, rfl, ?_, ?_⟩
    · have c0 : Chg (fun k => k = w.heap.size ∨ k = c) u3 u3 := Chg.refl _ _
      refine (HS3.out.chg (S := fun k => k = w.heap.size ∨ k = c) ?_ (fun k hk => by omega)).mono (by omega)
      repeat (first | exact c0 | refine Chg.set ?_ (by first | exact .inl (.inl rfl) | exact .inl (.inr rfl)) _)
    · repeat (first | exact HO3.out | refine Only.setNew ?_ (by first | (simp; done) | (simp; omega)) _)
  · have e1 : ¬ q = 0 := by omega
    have e2 : ¬ q = 1 := by omega
    have e3 : ¬ q = 2 := by omega
    clear e0
    obtain ⟨p0, p1, p2, p3, p4, p5, p6⟩ := B2
    obtain ⟨s0, s1, s2, s3, s4, s5, s6⟩ := C2
    go_wp2_with fail
    refine bodyPost_ret (v := dr r h s) (by simp [results, Try.results59, go_sem, p0, p1, p2, p6, s0, s1, s2, s6, Nat.ne_of_lt p6, Nat.ne_of_lt s6, ne1, ne2]) rfl ⟨_, _, _, rfl, ?_, ?_⟩
    · have c0 : Chg (fun k => k = w.heap.size ∨ k = c) u2 u2 := Chg.refl _ _
      refine (HS2.out.chg (S := fun k => k = w.heap.size ∨ k = c) ?_ (fun k hk => by omega)).mono (by omega)
      repeat (first | exact c0 | refine Chg.set ?_ (by first | exact .inl (.inl rfl) | exact .inl (.inr rfl)) _)
    · repeat (first | exact HO2.out | refine Only.setNew ?_ (by first | (simp; done) | (simp; omega)) _)

/-- spec.l07DrawGlue. -/
theorem l07DrawGlue_any (b K : Nat) (w : World) (h : Sc w b K) (hK : K ≤ 700000) :
    Calls Try.prog 60 #[.pointer (some ⟨b, 0, none⟩)] w fun e w' => ∃ z : Int, e = .returned (.int .i64 z) ∧ -1 ≤ z ∧ z ≤ 101 ∧ Sc w' b (K + 4) ∧ Only b w w' := by
  have hb := h.lt
  have H := Lib.hid h
  clear h
  go_enter Try.func60, Try.ntmps60
  go_wp2_with fail
  refine (oneS 10 _ _ _ (by omega) (by omega) H.out (by omega)).mono ?_
  rintro e u3 ⟨t1, rfl, hs3, ho3⟩
  have HS3 := Lib.hid hs3
  have HO3 := Lib.hid ho3
  have hz := ho3.size
  clear hs3 ho3 H
  cases t1
  · go_wp2_with fail
    refine (pickS 30 _ _ _ (by omega) (by omega) HS3.out (by omega)).mono ?_
    rintro e u5 ⟨y, y0, y1, rfl, hs5, ho5⟩
    have HS5 := Lib.hid hs5
    have HO5 := Lib.hid (HO3.out.trans ho5)
    clear hs5 ho5 HS3 HO3
    go_wp2
    go_ret
    exact ⟨y, rfl, by omega, by omega, HS5.out, HO5.out⟩
  · go_wp2_with fail
    refine (amongS b _ u3.heap.size _ [-1, 0, 100, 101] _ (oneLit u3 [-1, 0, 100, 101] _ rfl (by simp) (by simp)) (by simp) (by simp) (by omega) (HS3.out.below (bAlloc (Below.refl _ _) _)) (by omega)).mono ?_
    rintro e u5 ⟨j, hj, rfl, hs5, ho5⟩
    have hzb : -1 ≤ ([-1, 0, 100, 101] : List Int).getD j 0 ∧ ([-1, 0, 100, 101] : List Int).getD j 0 ≤ 101 := by
      match j, hj with
      | 0, _ => decide
      | 1, _ => decide
      | 2, _ => decide
      | 3, _ => decide
    generalize ([-1, 0, 100, 101] : List Int).getD j 0 = z at *
    have HS5 := Lib.hid hs5
    have HO5 := Lib.hid ((HO3.out.alloc (.cells #[.int .i64 (-1), .int .i64 0, .int .i64 100, .int .i64 101] 2)).trans ho5)
    clear hs5 ho5 HS3 HO3 hj
    go_wp2
    go_ret
    exact ⟨z, rfl, hzb.1, hzb.2, HS5.out, HO5.out⟩

set_option maxHeartbeats 2000000 in
/-- spec.DrawStripFor. -/
theorem drawStripFor_any (a : Option Addr) (len cap : Nat) (zs : List Int) (w : World) (hr : Row w a len cap zs) :
    Calls Try.prog 36 #[.slice a len cap] w fun e w' => ∃ r h s g : Int, e = .returned (.tuple #[dr r h s, .int .i64 g]) ∧ Below w.heap.size w w' := by
  have HR := Lib.hid (hr.below (bAlloc (Below.refl _ _) (.cells #[.int .i64 0, .int .i64 0, .int .i64 0] 25)))
  clear hr
  go_enter Try.func36, Try.ntmps36
  go_wp2_with fail
  refine (fromS a len cap zs _ HR.out).mono ?_
  rintro e u1 ⟨rfl, hs1, hb1, hz1⟩
  have hz0 : (w.alloc (.cells #[.int .i64 0, .int .i64 0, .int .i64 0] 25)).heap.size = w.heap.size + 1 := by simp
  rw [hz0] at hs1 hz1
  rw [hz0]
  have B1 : Bs u1 w.heap.size 0 0 0 := Bs.below (by refine ⟨?_, ?_, ?_, ?_, ?_, ?_, ?_⟩ <;> go_simp) hb1
  have HS1 := Lib.hid hs1
  have HB1 := Lib.hid (bTrans (bAlloc (Below.refl _ w) (.cells #[.int .i64 0, .int .i64 0, .int .i64 0] 25)) hb1)
  clear hs1 hb1 hz0 HR
  go_wp2_with fail
  refine (l07Bent_any _ 0 _ HS1.out (by omega)).mono ?_
  rintro e u2 ⟨r, h, s, rfl, hs2, ho2⟩
  have B2 := B1.only ho2 (by omega)
  have HS2 := Lib.hid (hs2.below (bAlloc (Below.refl _ _) (.cells #[.int .i64 r, .int .i64 h, .int .i64 s] 25)))
  have HB2 := Lib.hid (bAlloc (HB1.out.trans (ho2.below (by omega) HB1.out.size)) (.cells #[.int .i64 r, .int .i64 h, .int .i64 s] 25))
  have hlt2 := B2.lt
  have hz2 := ho2.size
  have C2 : Bs (u2.alloc (.cells #[.int .i64 r, .int .i64 h, .int .i64 s] 25)) u2.heap.size r h s := by refine ⟨?_, ?_, ?_, ?_, ?_, ?_, ?_⟩ <;> go_simp
  have B2 := B2.below (bAlloc (Below.refl _ _) (.cells #[.int .i64 r, .int .i64 h, .int .i64 s] 25))
  clear hs2 ho2 HS1 HB1 B1
  have ne1 : ¬ w.heap.size = u2.heap.size := by omega
  have ne2 : ¬ u2.heap.size = w.heap.size := by omega
  go_wp2_with fail
  generalize u2.alloc (.cells #[.int .i64 r, .int .i64 h, .int .i64 s] 25) = v at *
  generalize u2.heap.size = c at *
  obtain ⟨q0, q1, q2, q3, q4, q5, q6⟩ := C2
  obtain ⟨p0, p1, p2, p3, p4, p5, p6⟩ := B2
  have BB : Bs v w.heap.size 0 0 0 := ⟨p0, p1, p2, p3, p4, p5, p6⟩
  have CC : Bs v c r h s := ⟨q0, q1, q2, q3, q4, q5, q6⟩
  go_wp2_with fail
  go_region_held3 (fun w' => w'.cell? ⟨c, 0, none⟩ = some (.int .i64 r) ∧ w'.cell? ⟨c, 1, none⟩ = some (.int .i64 h) ∧ w'.cell? ⟨c, 2, none⟩ = some (.int .i64 s)) (go_keep)
    ((go_at_call 60; refine (l07DrawGlue_any _ _ _ (HS2.out.below (bDrewN (Below.refl _ _) _)) (by omega)).mono ?_; rintro e u9 ⟨z, rfl, z0, z1, hs9, ho9⟩; obtain ⟨q0, q1, q2, q3, q4, q5, q6⟩ := (CC.below (bDrewN (Below.refl _ _) _)).only ho9 (by omega); obtain ⟨p0, p1, p2, p3, p4, p5, p6⟩ := (BB.below (bDrewN (Below.refl _ _) _)).only ho9 (by omega)))
  have HB9 := Lib.hid ((bDrewN HB2.out _).trans (ho9.below (by omega) HB2.out.size))
  go_wp2
  refine bodyPost_ret (v := .tuple #[dr r h s, .int .i64 z]) (by simp [results, Try.results36, go_sem, p0, p1, p2, p3, p4, p5, p6, Nat.ne_of_lt p6]) rfl ⟨_, _, _, _, rfl, ?_⟩
  repeat (first | exact HB9.out | refine bSet ?_ (by first | (simp; done) | (simp; omega)) _)

set_option maxHeartbeats 4000000 in
/-- spec.DrawStripsFrom. -/
theorem drawStripsFrom_any (a : Option Addr) (len cap : Nat) (zs : List Int) (w : World) (hr : Row w a len cap zs) :
    Calls Try.prog 37 #[.slice a len cap] w fun e w' => ∃ r h s g x y : Int, e = .returned (.tuple #[dr r h s, .int .i64 g, .int .i64 x, .int .i64 y]) ∧ Below w.heap.size w w' := by
  have HR := Lib.hid (hr.below (bAlloc (Below.refl _ _) (.cells #[.int .i64 0, .int .i64 0, .int .i64 0] 25)))
  clear hr
  go_enter Try.func37, Try.ntmps37
  go_wp2_with fail
  refine (fromS a len cap zs _ HR.out).mono ?_
  rintro e u1 ⟨rfl, hs1, hb1, hz1⟩
  have hz0 : (w.alloc (.cells #[.int .i64 0, .int .i64 0, .int .i64 0] 25)).heap.size = w.heap.size + 1 := by simp
  rw [hz0] at hs1 hz1
  rw [hz0]
  have B1 : Bs u1 w.heap.size 0 0 0 := Bs.below (by refine ⟨?_, ?_, ?_, ?_, ?_, ?_, ?_⟩ <;> go_simp) hb1
  have HS1 := Lib.hid hs1
  have HB1 := Lib.hid (bTrans (bAlloc (Below.refl _ w) (.cells #[.int .i64 0, .int .i64 0, .int .i64 0] 25)) hb1)
  clear hs1 hb1 hz0 HR
  go_wp2_with fail
  refine (l07Bent_any _ 0 _ HS1.out (by omega)).mono ?_
  rintro e u2 ⟨r, h, s, rfl, hs2, ho2⟩
  have B2 := B1.only ho2 (by omega)
  have HS2 := Lib.hid (hs2.below (bAlloc (Below.refl _ _) (.cells #[.int .i64 r, .int .i64 h, .int .i64 s] 25)))
  have HB2 := Lib.hid (bAlloc (HB1.out.trans (ho2.below (by omega) HB1.out.size)) (.cells #[.int .i64 r, .int .i64 h, .int .i64 s] 25))
  have hlt2 := B2.lt
  have hz2 := ho2.size
  have C2 : Bs (u2.alloc (.cells #[.int .i64 r, .int .i64 h, .int .i64 s] 25)) u2.heap.size r h s := by refine ⟨?_, ?_, ?_, ?_, ?_, ?_, ?_⟩ <;> go_simp
  have B2 := B2.below (bAlloc (Below.refl _ _) (.cells #[.int .i64 r, .int .i64 h, .int .i64 s] 25))
  clear hs2 ho2 HS1 HB1 B1
  have ne1 : ¬ w.heap.size = u2.heap.size := by omega
  have ne2 : ¬ u2.heap.size = w.heap.size := by omega
  go_wp2_with fail
  generalize u2.alloc (.cells #[.int .i64 r, .int .i64 h, .int .i64 s] 25) = v at *
  generalize u2.heap.size = c at *
  refine (l07DrawGlue_any _ _ _ HS2.out (by omega)).mono ?_
  rintro e u3 ⟨z, rfl, z0, z1, hs3, ho3⟩
  have C3 := C2.only ho3 (by omega)
  have B3 := B2.only ho3 (by omega)
  have HS3 := Lib.hid hs3
  have HB3 := Lib.hid (HB2.out.trans (ho3.below (by omega) HB2.out.size))
  have hzz3 := ho3.size
  clear hs3 ho3
  clear z0 z1
  go_wp2_with fail
  refine (pickS 300 _ _ _ (by omega) (by omega) HS3.out (by omega)).mono ?_
  rintro e u4 ⟨x, x0, x1, rfl, hs4, ho4⟩
  have C4 := C3.only ho4 (by omega)
  have B4 := B3.only ho4 (by omega)
  have HS4 := Lib.hid hs4
  have HB4 := Lib.hid (HB3.out.trans (ho4.below (by omega) HB3.out.size))
  have hzz4 := ho4.size
  clear hs4 ho4
  have w1 : IntKind.i64.wrap (10 * x) = 10 * x := IntWalk.i64_in _ (by omega)
  have w2 : IntKind.i64.wrap (200 + 10 * x) = 200 + 10 * x := IntWalk.i64_in _ (by omega)
  go_wp2_with fail
  refine (oneS 10 _ _ _ (by omega) (by omega) HS4.out (by omega)).mono ?_
  rintro e u5 ⟨t, rfl, hs5, ho5⟩
  have C5 := C4.only ho5 (by omega)
  have B5 := B4.only ho5 (by omega)
  have HS5 := Lib.hid hs5
  have HB5 := Lib.hid (HB4.out.trans (ho5.below (by omega) HB4.out.size))
  have hzz5 := ho5.size
  clear hs5 ho5
  cases t
  · clear w1
    go_wp2_with fail
    refine (oneS 10 _ _ _ (by omega) (by omega) HS5.out (by omega)).mono ?_
    rintro e u6 ⟨t2, rfl, hs6, ho6⟩
    have C6 := C5.only ho6 (by omega)
    have B6 := B5.only ho6 (by omega)
    have HS6 := Lib.hid hs6
    have HB6 := Lib.hid (HB5.out.trans (ho6.below (by omega) HB5.out.size))
    have hzz6 := ho6.size
    clear hs6 ho6
    cases t2
    · obtain ⟨q0, q1, q2, q3, q4, q5, q6⟩ := C6
      obtain ⟨p0, p1, p2, p3, p4, p5, p6⟩ := B6
      have BB : Bs u6 w.heap.size 0 0 0 := ⟨p0, p1, p2, p3, p4, p5, p6⟩
      have CC : Bs u6 c r h s := ⟨q0, q1, q2, q3, q4, q5, q6⟩
      go_wp2_with fail
      go_region_held3 (fun w' => w'.cell? ⟨c, 0, none⟩ = some (.int .i64 r) ∧ w'.cell? ⟨c, 1, none⟩ = some (.int .i64 h) ∧ w'.cell? ⟨c, 2, none⟩ = some (.int .i64 s)) (go_keep)
        ((go_at_call 61; refine (pickS 100 _ _ _ (by omega) (by omega) (HS6.out.below (bDrewN (Below.refl _ _) _)) (by omega)).mono ?_; rintro e u9 ⟨y0, y1, y2, rfl, hs9, ho9⟩; obtain ⟨q0, q1, q2, q3, q4, q5, q6⟩ := (CC.below (bDrewN (Below.refl _ _) _)).only ho9 (by omega); obtain ⟨p0, p1, p2, p3, p4, p5, p6⟩ := (BB.below (bDrewN (Below.refl _ _) _)).only ho9 (by omega)))
      have w3 : IntKind.i64.wrap (10 * y0) = 10 * y0 := IntWalk.i64_in _ (by omega)
      have w4 : IntKind.i64.wrap (100 + 10 * y0) = 100 + 10 * y0 := IntWalk.i64_in _ (by omega)
      have HB9 := Lib.hid ((bDrewN HB6.out _).trans (ho9.below (by omega) HB6.out.size))
      go_wp2
      refine bodyPost_ret (v := .tuple #[dr r h s, .int .i64 z, .int .i64 (200 + 10 * x), .int .i64 (100 + 10 * y0)]) (by simp [results, Try.results37, go_sem, p0, p1, p2, p3, p4, p5, p6, Nat.ne_of_lt p6, w3, w4]) rfl ⟨_, _, _, _, _, _, rfl, ?_⟩
      repeat (first | exact HB9.out | refine bSet ?_ (by first | (simp; done) | (simp; omega)) _)
    · obtain ⟨q0, q1, q2, q3, q4, q5, q6⟩ := C6
      obtain ⟨p0, p1, p2, p3, p4, p5, p6⟩ := B6
      have BB : Bs u6 w.heap.size 0 0 0 := ⟨p0, p1, p2, p3, p4, p5, p6⟩
      have CC : Bs u6 c r h s := ⟨q0, q1, q2, q3, q4, q5, q6⟩
      go_wp2_with fail
      go_region_held3 (fun w' => w'.cell? ⟨c, 0, none⟩ = some (.int .i64 r) ∧ w'.cell? ⟨c, 1, none⟩ = some (.int .i64 h) ∧ w'.cell? ⟨c, 2, none⟩ = some (.int .i64 s)) (go_keep)
        ((go_at_call 63; refine (amongS _ _ u6.heap.size _ [-1, 0, 1, 5000, 5001] _ (oneLit (u6.drewN _) [-1, 0, 1, 5000, 5001] _ rfl (by simp) (by simp)) (by simp) (by simp) (by omega) (HS6.out.below (bAlloc (bDrewN (Below.refl _ _) _) _)) (by omega)).mono ?_; rintro e u9 ⟨j, hj, rfl, hs9, ho9⟩; obtain ⟨q0, q1, q2, q3, q4, q5, q6⟩ := (CC.below (bAlloc (bDrewN (Below.refl _ _) _) (.cells #[.int .i64 (-1), .int .i64 0, .int .i64 1, .int .i64 5000, .int .i64 5001] 2))).only ho9 (by omega); obtain ⟨p0, p1, p2, p3, p4, p5, p6⟩ := (BB.below (bAlloc (bDrewN (Below.refl _ _) _) (.cells #[.int .i64 (-1), .int .i64 0, .int .i64 1, .int .i64 5000, .int .i64 5001] 2))).only ho9 (by omega)))
      have HB9 := Lib.hid ((bAlloc (bDrewN HB6.out _) (.cells #[.int .i64 (-1), .int .i64 0, .int .i64 1, .int .i64 5000, .int .i64 5001] 2)).trans (ho9.below (by omega) (by have := HB6.out.size; simp; omega)))
      go_wp2
      refine bodyPost_ret (v := .tuple #[dr r h s, .int .i64 z, .int .i64 (200 + 10 * x), .int .i64 (([-1, 0, 1, 5000, 5001] : List Int).getD j 0)]) (by simp [results, Try.results37, go_sem, p0, p1, p2, p3, p4, p5, p6, Nat.ne_of_lt p6]) rfl ⟨_, _, _, _, _, _, rfl, ?_⟩
      repeat (first | exact HB9.out | refine bSet ?_ (by first | (simp; done) | (simp; omega)) _)
  · go_wp2_with fail
    refine (amongS _ _ u5.heap.size _ [-1, 0, 1, 5000, 5001] _ (oneLit u5 [-1, 0, 1, 5000, 5001] _ rfl (by simp) (by simp)) (by simp) (by simp) (by have := C5.lt; omega) (HS5.out.below (bAlloc (Below.refl _ _) _)) (by omega)).mono ?_
    rintro e u6 ⟨j, hj, rfl, hs6, ho6⟩
    have C6 := (C5.below (bAlloc (Below.refl _ _) (.cells #[.int .i64 (-1), .int .i64 0, .int .i64 1, .int .i64 5000, .int .i64 5001] 2))).only ho6 (by omega)
    have B6 := (B5.below (bAlloc (Below.refl _ _) (.cells #[.int .i64 (-1), .int .i64 0, .int .i64 1, .int .i64 5000, .int .i64 5001] 2))).only ho6 (by omega)
    have HS6 := Lib.hid hs6
    have HB6 := Lib.hid ((bAlloc HB5.out (.cells #[.int .i64 (-1), .int .i64 0, .int .i64 1, .int .i64 5000, .int .i64 5001] 2)).trans (ho6.below (by omega) (by have := HB5.out.size; simp; omega)))
    have hzz6 := ho6.size
    clear hs6 ho6
    generalize ([-1, 0, 1, 5000, 5001] : List Int).getD j 0 = x9 at *
    go_wp2_with fail
    refine (oneS 10 _ _ _ (by omega) (by omega) HS6.out (by omega)).mono ?_
    rintro e u7 ⟨t2, rfl, hs7, ho7⟩
    have C7 := C6.only ho7 (by omega)
    have B7 := B6.only ho7 (by omega)
    have HS7 := Lib.hid hs7
    have HB7 := Lib.hid (HB6.out.trans (ho7.below (by omega) HB6.out.size))
    have hzz7 := ho7.size
    clear hs7 ho7
    cases t2
    · obtain ⟨q0, q1, q2, q3, q4, q5, q6⟩ := C7
      obtain ⟨p0, p1, p2, p3, p4, p5, p6⟩ := B7
      have BB : Bs u7 w.heap.size 0 0 0 := ⟨p0, p1, p2, p3, p4, p5, p6⟩
      have CC : Bs u7 c r h s := ⟨q0, q1, q2, q3, q4, q5, q6⟩
      go_wp2_with fail
      go_region_held3 (fun w' => w'.cell? ⟨c, 0, none⟩ = some (.int .i64 r) ∧ w'.cell? ⟨c, 1, none⟩ = some (.int .i64 h) ∧ w'.cell? ⟨c, 2, none⟩ = some (.int .i64 s)) (go_keep)
        ((go_at_call 61; refine (pickS 100 _ _ _ (by omega) (by omega) (HS7.out.below (bDrewN (Below.refl _ _) _)) (by omega)).mono ?_; rintro e u9 ⟨y0, y1, y2, rfl, hs9, ho9⟩; obtain ⟨q0, q1, q2, q3, q4, q5, q6⟩ := (CC.below (bDrewN (Below.refl _ _) _)).only ho9 (by omega); obtain ⟨p0, p1, p2, p3, p4, p5, p6⟩ := (BB.below (bDrewN (Below.refl _ _) _)).only ho9 (by omega)))
      have w3 : IntKind.i64.wrap (10 * y0) = 10 * y0 := IntWalk.i64_in _ (by omega)
      have w4 : IntKind.i64.wrap (100 + 10 * y0) = 100 + 10 * y0 := IntWalk.i64_in _ (by omega)
      have HB9 := Lib.hid ((bDrewN HB7.out _).trans (ho9.below (by omega) HB7.out.size))
      go_wp2
      refine bodyPost_ret (v := .tuple #[dr r h s, .int .i64 z, .int .i64 x9, .int .i64 (100 + 10 * y0)]) (by simp [results, Try.results37, go_sem, p0, p1, p2, p3, p4, p5, p6, Nat.ne_of_lt p6, w3, w4]) rfl ⟨_, _, _, _, _, _, rfl, ?_⟩
      repeat (first | exact HB9.out | refine bSet ?_ (by first | (simp; done) | (simp; omega)) _)
    · obtain ⟨q0, q1, q2, q3, q4, q5, q6⟩ := C7
      obtain ⟨p0, p1, p2, p3, p4, p5, p6⟩ := B7
      have BB : Bs u7 w.heap.size 0 0 0 := ⟨p0, p1, p2, p3, p4, p5, p6⟩
      have CC : Bs u7 c r h s := ⟨q0, q1, q2, q3, q4, q5, q6⟩
      go_wp2_with fail
      go_region_held3 (fun w' => w'.cell? ⟨c, 0, none⟩ = some (.int .i64 r) ∧ w'.cell? ⟨c, 1, none⟩ = some (.int .i64 h) ∧ w'.cell? ⟨c, 2, none⟩ = some (.int .i64 s)) (go_keep)
        ((go_at_call 63; refine (amongS _ _ u7.heap.size _ [-1, 0, 1, 5000, 5001] _ (oneLit (u7.drewN _) [-1, 0, 1, 5000, 5001] _ rfl (by simp) (by simp)) (by simp) (by simp) (by omega) (HS7.out.below (bAlloc (bDrewN (Below.refl _ _) _) _)) (by omega)).mono ?_; rintro e u9 ⟨j, hj, rfl, hs9, ho9⟩; obtain ⟨q0, q1, q2, q3, q4, q5, q6⟩ := (CC.below (bAlloc (bDrewN (Below.refl _ _) _) (.cells #[.int .i64 (-1), .int .i64 0, .int .i64 1, .int .i64 5000, .int .i64 5001] 2))).only ho9 (by omega); obtain ⟨p0, p1, p2, p3, p4, p5, p6⟩ := (BB.below (bAlloc (bDrewN (Below.refl _ _) _) (.cells #[.int .i64 (-1), .int .i64 0, .int .i64 1, .int .i64 5000, .int .i64 5001] 2))).only ho9 (by omega)))
      have HB9 := Lib.hid ((bAlloc (bDrewN HB7.out _) (.cells #[.int .i64 (-1), .int .i64 0, .int .i64 1, .int .i64 5000, .int .i64 5001] 2)).trans (ho9.below (by omega) (by have := HB7.out.size; simp; omega)))
      go_wp2
      refine bodyPost_ret (v := .tuple #[dr r h s, .int .i64 z, .int .i64 x9, .int .i64 (([-1, 0, 1, 5000, 5001] : List Int).getD j 0)]) (by simp [results, Try.results37, go_sem, p0, p1, p2, p3, p4, p5, p6, Nat.ne_of_lt p6]) rfl ⟨_, _, _, _, _, _, rfl, ?_⟩
      repeat (first | exact HB9.out | refine bSet ?_ (by first | (simp; done) | (simp; omega)) _)

end Go.Proofs.Ythphihfcgpoefaa
