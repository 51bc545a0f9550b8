/- What the laws on flicker draw: rates, numbers, and the laws' own draws. -/
import Derived.Test.YtflgjohknjgdcaaProg
import Derived.Test.YtflgjohknjgdcaaBldDraw
import Derived.Test.YtflgjohknjgdcaaFull
import Derived.Test.YtflgjohknjgdcaaWithin
import Derived.Laws.Cover1
import Derived.Deep.RegionWith
import Derived.Deep.DrawnRows
import Derived.Deep.RegionHeld3
import Derived.Deep.DeepCutAuto
import Derived.Tactics
import Derived.Tactics2
import Derived.WalkKit
import Derived.LoopTactic
import Derived.BigQuiet
import Derived.RegionTactic
import Derived.Deep.QuietTactic
import Derived.Outline
import Derived.Lib.Hide
import Derived.Below
import Derived.KernelRfl
namespace Go.Proofs.Ytflgjohknjgdcaa
set_option linter.unusedSimpArgs false
set_option linter.unusedVariables false
open Go.RowKit

/-- What drawing a part leaves. -/
def PartR (w : World) (b K : Nat) (e : Ending) (w' : World) : Prop := ∃ x : Int, e = .returned (.int .i64 x) ∧ (-1 ≤ x ∧ x ≤ 1001) ∧ Sc w' b K ∧ Only b w w'

/-- spec.l09DrawLeast. -/
theorem l09DrawLeast_any (b K : Nat) (w : World) (h : Sc w b K) (hK : K ≤ 700000) :
    Calls Try.prog 55 #[.pointer (some ⟨b, 0, none⟩)] w (NumR w b (K + 4)) := by
  have hb := h.lt
  have H := Lib.hid h
  clear h
  go_enter Try.func55, Try.ntmps55
  go_wp2_with fail
  refine (oneS 10 b K _ (by omega) (by omega) H.out (by omega)).mono ?_
  rintro e u1 ⟨t, rfl, hs1, ho1⟩
  have HS1 := Lib.hid hs1
  have HO1 := Lib.hid ho1
  clear hs1 ho1 H
  cases t
  · go_wp2_with fail
    refine (pickS 60 b _ _ (by omega) (by omega) HS1.out (by omega)).mono ?_
    rintro e u2 ⟨z, z0, z1, rfl, hs2, ho2⟩
    have w1 : IntKind.i64.wrap (5 + z) = 5 + z := IntWalk.i64_in _ (by omega)
    have HS2 := Lib.hid hs2
    have HO2 := Lib.hid (HO1.out.trans ho2)
    clear hs2 ho2
    go_wp2_with fail
    go_ret
    exact ⟨_, rfl, i64_of (by omega) (by omega), HS2.out.mono (by omega), HO2.out⟩
  · go_wp2_with fail
    refine (among9 b _ [-1, 0, 1, 200, 201, -9223372036854775808] #[.int .i64 (-1), .int .i64 (0), .int .i64 (1), .int .i64 (200), .int .i64 (201), .int .i64 (-9223372036854775808)] rfl (by simp) (by simp) (by simp [I64]) u1 HS1.out (by omega)).mono ?_
    rintro e u2 ⟨z, rfl, hz, hs2, ho2⟩
    have HS2 := Lib.hid hs2
    have HO2 := Lib.hid ((HO1.out.alloc (.cells #[.int .i64 (-1), .int .i64 (0), .int .i64 (1), .int .i64 (200), .int .i64 (201), .int .i64 (-9223372036854775808)] 2)).trans ho2)
    clear hs2 ho2
    go_wp2_with fail
    go_ret
    exact ⟨_, rfl, hz, HS2.out.mono (by omega), HO2.out⟩

/-- spec.l09Part. -/
theorem l09Part_any (b K : Nat) (w : World) (h : Sc w b K) (hK : K ≤ 700000) :
    Calls Try.prog 70 #[.pointer (some ⟨b, 0, none⟩)] w (PartR w b (K + 4)) := by
  have hb := h.lt
  have H := Lib.hid h
  clear h
  go_enter Try.func70, Try.ntmps70
  go_wp2_with fail
  refine (oneS 10 b K _ (by omega) (by omega) H.out (by omega)).mono ?_
  rintro e u1 ⟨t, rfl, hs1, ho1⟩
  have HS1 := Lib.hid hs1
  have HO1 := Lib.hid ho1
  clear hs1 ho1 H
  cases t
  · go_wp2_with fail
    refine (pickS 1000 b _ _ (by omega) (by omega) HS1.out (by omega)).mono ?_
    rintro e u2 ⟨z, z0, z1, rfl, hs2, ho2⟩
    have HS2 := Lib.hid hs2
    have HO2 := Lib.hid (HO1.out.trans ho2)
    clear hs2 ho2
    go_wp2_with fail
    go_ret
    exact ⟨_, rfl, by omega, HS2.out.mono (by omega), HO2.out⟩
  · go_wp2_with fail
    refine (amongS b _ u1.heap.size _ [-1, 0, 999, 1000, 1001] _ (oneLit9 u1 [-1, 0, 999, 1000, 1001] #[.int .i64 (-1), .int .i64 (0), .int .i64 (999), .int .i64 (1000), .int .i64 (1001)] rfl (by simp) (by simp)) (by simp) (by simp) HS1.out.lt (HS1.out.below (bAlloc (Below.refl _ _) _)) (by omega)).mono ?_
    rintro e u2 ⟨j, hj, rfl, hs2, ho2⟩
    have hz : -1 ≤ ([-1, 0, 999, 1000, 1001] : List Int).getD j 0 ∧ ([-1, 0, 999, 1000, 1001] : List Int).getD j 0 ≤ 1001 := by
      have h : j = 0 ∨ j = 1 ∨ j = 2 ∨ j = 3 ∨ j = 4 := by simp at hj; omega
      rcases h with rfl | rfl | rfl | rfl | rfl <;> decide
    generalize ([-1, 0, 999, 1000, 1001] : List Int).getD j 0 = z at *
    have HS2 := Lib.hid hs2
    have HO2 := Lib.hid ((HO1.out.alloc (.cells #[.int .i64 (-1), .int .i64 (0), .int .i64 (999), .int .i64 (1000), .int .i64 (1001)] 2)).trans ho2)
    clear hs2 ho2
    go_wp2_with fail
    go_ret
    exact ⟨_, rfl, hz, HS2.out.mono (by omega), HO2.out⟩

set_option maxHeartbeats 4000000 in
/-- spec.l09DrawRate. -/
theorem l09DrawRate_any (b K : Nat) (w : World) (h : Sc w b K) (hK : K ≤ 600000) :
    Calls Try.prog 54 #[.pointer (some ⟨b, 0, none⟩)] w (PairR w b (K + 20)) := by
  have hb := h.lt
  have H := Lib.hid h
  clear h
  go_enter Try.func54, Try.ntmps54
  go_wp2_with fail
  refine (pickS 12 b K _ (by omega) (by omega) (H.out.below (bAlloc (Below.refl _ _) _)) (by omega)).mono ?_
  rintro e u2 ⟨r, r0, r1, rfl, hs2, ho2⟩
  have B2 : Bk u2 w.heap.size 0 0 := bkOnly ho2 (by omega) (bkNew0 _ _ _ _)
  have HS2 := Lib.hid hs2
  have HO2 := Lib.hid (((Only.refl b w).alloc (.cells #[.int .i64 0, .int .i64 0] 27)).trans ho2)
  clear hs2 ho2 H
  have ne3 : ¬ w.heap.size = b := by omega
  have ne4 : ¬ b = w.heap.size := by omega
  have e0 : r = 0 ∨ r = 1 ∨ r = 2 ∨ 3 ≤ r := by omega
  rcases e0 with rfl | rfl | rfl | e0
  · clear r0 r1
    go_wp2_with fail
    refine (l02Bent_any b _ _ HS2.out (by omega)).mono ?_
    rintro e u3 ⟨n, d, rfl, hn, hd, hs3, ho3⟩
    have B3 := bkOnly ho3 (by omega) B2
    have HS3 := Lib.hid hs3
    have HO3 := Lib.hid (HO2.out.trans ho3)
    clear hs3 ho3 HS2 HO2 B2
    obtain ⟨p0, p1, p2, p3, p4⟩ := B3
    go_wp2_with fail
    refine bodyPost_ret (v := fr n d) (by simp [results, Try.results54, go_sem, p0, p1, p4, Nat.ne_of_lt p4]) rfl ⟨_, _, rfl, hn, hd, ?_, ?_⟩
    · have c0 : ∀ W : World, Chg (fun k => k = w.heap.size) W W := fun W => Chg.refl _ _
      refine (HS3.out.chg (S := fun k => k = w.heap.size) ?_ (fun k hk => by omega)).mono (by omega)
      repeat (first | exact c0 _ | refine Chg.set ?_ (by exact .inl rfl) _)
    · repeat (first | exact HO3.out | refine Only.setNew ?_ (by first | (simp; done) | (simp; omega)) _)
  · clear r0 r1
    go_wp2_with fail
    refine (among9 b _ [-1, 1, 999, 1000, 1001] #[.int .i64 (-1), .int .i64 (1), .int .i64 (999), .int .i64 (1000), .int .i64 (1001)] rfl (by simp) (by simp) (by simp [I64]) u2 HS2.out (by omega)).mono ?_
    rintro e u3 ⟨z, rfl, hz, hs3, ho3⟩
    have B3 := bkOnly ho3 (by omega) (bkOf (bAlloc (Below.refl _ _) (.cells #[.int .i64 (-1), .int .i64 (1), .int .i64 (999), .int .i64 (1000), .int .i64 (1001)] 2)) B2)
    have HS3 := Lib.hid hs3
    have HO3 := Lib.hid ((HO2.out.alloc (.cells #[.int .i64 (-1), .int .i64 (1), .int .i64 (999), .int .i64 (1000), .int .i64 (1001)] 2)).trans ho3)
    clear hs3 ho3 HS2 HO2 B2
    obtain ⟨p0, p1, p2, p3, p4⟩ := B3
    go_wp2_with fail
    refine bodyPost_ret (v := fr z 1) (by simp [results, Try.results54, go_sem, p0, p1, p4, Nat.ne_of_lt p4]) rfl ⟨_, _, rfl, hz, i64_of (by omega) (by omega), ?_, ?_⟩
    · have c0 : ∀ W : World, Chg (fun k => k = w.heap.size) W W := fun W => Chg.refl _ _
      refine (HS3.out.chg (S := fun k => k = w.heap.size) ?_ (fun k hk => by omega)).mono (by omega)
      repeat (first | exact c0 _ | refine Chg.set ?_ (by exact .inl rfl) _)
    · repeat (first | exact HO3.out | refine Only.setNew ?_ (by first | (simp; done) | (simp; omega)) _)
  · clear r0 r1
    go_wp2_with fail
    refine (among9 b _ [1, 1000, 1001] #[.int .i64 (1), .int .i64 (1000), .int .i64 (1001)] rfl (by simp) (by simp) (by simp [I64]) u2 HS2.out (by omega)).mono ?_
    rintro e u3 ⟨z, rfl, hz, hs3, ho3⟩
    have B3 := bkOnly ho3 (by omega) (bkOf (bAlloc (Below.refl _ _) (.cells #[.int .i64 (1), .int .i64 (1000), .int .i64 (1001)] 2)) B2)
    have HS3 := Lib.hid hs3
    have HO3 := Lib.hid ((HO2.out.alloc (.cells #[.int .i64 (1), .int .i64 (1000), .int .i64 (1001)] 2)).trans ho3)
    clear hs3 ho3 HS2 HO2 B2
    obtain ⟨p0, p1, p2, p3, p4⟩ := B3
    go_wp2_with fail
    refine bodyPost_ret (v := fr 1 z) (by simp [results, Try.results54, go_sem, p0, p1, p4, Nat.ne_of_lt p4]) rfl ⟨_, _, rfl, i64_of (by omega) (by omega), hz, ?_, ?_⟩
    · have c0 : ∀ W : World, Chg (fun k => k = w.heap.size) W W := fun W => Chg.refl _ _
      refine (HS3.out.chg (S := fun k => k = w.heap.size) ?_ (fun k hk => by omega)).mono (by omega)
      repeat (first | exact c0 _ | refine Chg.set ?_ (by exact .inl rfl) _)
    · repeat (first | exact HO3.out | refine Only.setNew ?_ (by first | (simp; done) | (simp; omega)) _)
  · have k0 : ¬ r = 0 := by omega
    have k1 : ¬ r = 1 := by omega
    have k2 : ¬ r = 2 := by omega
    go_wp2_with fail
    refine (pickS 90 b _ _ (by omega) (by omega) HS2.out (by omega)).mono ?_
    rintro e u3 ⟨x, x0, x1, rfl, hs3, ho3⟩
    have w1 : IntKind.i64.wrap (1 + x) = 1 + x := IntWalk.i64_in _ (by omega)
    have C3 := bkOnly ho3 (by omega) B2
    have HS3 := Lib.hid hs3
    have HO3 := Lib.hid (HO2.out.trans ho3)
    clear hs3 ho3 HS2 HO2 B2
    go_wp2_with fail
    refine (pickS 9 b _ _ (by omega) (by omega) HS3.out (by omega)).mono ?_
    rintro e u4 ⟨y, y0, y1, rfl, hs4, ho4⟩
    have w2 : IntKind.i64.wrap (1 + y) = 1 + y := IntWalk.i64_in _ (by omega)
    have C4 := bkOnly ho4 (by omega) C3
    have HS4 := Lib.hid hs4
    have HO4 := Lib.hid (HO3.out.trans ho4)
    clear hs4 ho4 HS3 HO3 C3
    obtain ⟨t1, t2⟩ := tdivI_le (1 + x) (1 + y)
    go_wp2_with fail
    refine (l02Make_any (1 + x) (1 + y) _ (by omega) (by omega) (by omega) (by omega)).mono ?_
    rintro e u5 ⟨rfl, hb5⟩
    have B3 := bkOf hb5 C4
    have HS5 := Lib.hid (HS4.out.below hb5)
    have HO5 := Lib.hid (HO4.out.trans (belowOnly hb5 HS4.out.lt))
    clear hb5 HS4 HO4 C4
    generalize (1 + x).tdiv (divI (1 + x) (1 + y)) = n at *
    generalize (1 + y).tdiv (divI (1 + x) (1 + y)) = d at *
    obtain ⟨p0, p1, p2, p3, p4⟩ := B3
    go_wp2_with fail
    refine bodyPost_ret (v := fr n d) (by simp [results, Try.results54, go_sem, p0, p1, p4, Nat.ne_of_lt p4]) rfl ⟨_, _, rfl, i64_of (by omega) (by omega), i64_of (by omega) (by omega), ?_, ?_⟩
    · have c0 : ∀ W : World, Chg (fun k => k = w.heap.size) W W := fun W => Chg.refl _ _
      refine (HS5.out.chg (S := fun k => k = w.heap.size) ?_ (fun k hk => by omega)).mono (by omega)
      repeat (first | exact c0 _ | refine Chg.set ?_ (by exact .inl rfl) _)
    · repeat (first | exact HO5.out | refine Only.setNew ?_ (by first | (simp; done) | (simp; omega)) _)

end Go.Proofs.Ytflgjohknjgdcaa
