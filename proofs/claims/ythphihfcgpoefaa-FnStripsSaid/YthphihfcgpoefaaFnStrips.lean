/- The statement on strips: its own walk. -/
import Derived.Test.YthphihfcgpoefaaProg
import Derived.Test.YthphihfcgpoefaaDrum
import Derived.Test.YthphihfcgpoefaaDrumDraw
import Derived.Test.YthphihfcgpoefaaDrumDraw2
import Derived.Test.YthphihfcgpoefaaStrip
import Derived.Test.YthphihfcgpoefaaWide
import Derived.Test.YthphihfcgpoefaaPaper
import Derived.Test.YthphihfcgpoefaaLists
import Derived.Test.YthphihfcgpoefaaHold
import Derived.Test.YthphihfcgpoefaaSrc
import Derived.Test.YthphihfcgpoefaaPick
import Derived.IntWalk
import Derived.WalkSpells
import Derived.OwnWalk
import Derived.Laws.AppendOwn
import Derived.Laws.OwnMore
import Derived.Laws.Cover1
import Derived.Deep.RegionWith
import Derived.Deep.DrawnRows
import Derived.Deep.RegionHeld3
import Derived.Tactics
import Derived.Tactics2
import Derived.WalkKit
import Derived.LoopTactic
import Derived.BigQuiet
import Derived.RegionTactic
import Derived.Deep.QuietTactic
import Derived.Outline
import Derived.Lib.Hide
import Derived.Below
import Derived.KernelRfl
namespace Go.Proofs.Ythphihfcgpoefaa
set_option linter.unusedSimpArgs false
set_option linter.unusedVariables false
open Go.RowKit

/-- What is said of pictures with gaps. -/
theorem wide_facts (r h s p g : Int) : (¬ wideC r h s p g = 0) ∨ (wideC r h s p g = 0 ∧ (1 ≤ p ∧ p ≤ 48) ∧ (0 ≤ g ∧ g ≤ 10000) ∧ (1 ≤ wideN r h s p g ∧ wideN r h s p g ≤ 10000) ∧ (0 ≤ p * (wideN r h s p g + g) ∧ p * (wideN r h s p g + g) ≤ r) ∧ (r < p * (wideN r h s p g + g + 1) ∧ p * (wideN r h s p g + g + 1) ≤ 1000000)) := by
  cases h1 : drumB r h s
  · exact .inl (by simp [wideC, h1])
  · obtain ⟨⟨r1, r2⟩, -, -⟩ := drumB_yes h1
    cases h2 : inB p 1 48
    · exact .inl (by simp [wideC, h1, h2])
    · obtain ⟨p1, p2⟩ := inB_iff.1 h2
      cases h3 : inB g 0 10000
      · exact .inl (by simp [wideC, h1, h2, h3])
      · obtain ⟨g1, g2⟩ := inB_iff.1 h3
        by_cases h4 : 1 ≤ r / p - g
        · have hN : wideN r h s p g = r / p - g := by simp [wideN, h1, h2, h3, h4]
          refine .inr ⟨by simp [wideC, h1, h2, h3, h4], ⟨p1, p2⟩, ⟨g1, g2⟩, ?_, ?_, ?_⟩
          · have := quo_bd (x := r) (p := p) (by omega) p1
            rw [hN]; omega
          · rw [hN, show r / p - g + g = r / p by omega]
            exact ⟨Int.mul_nonneg (by omega) (quo_bd (x := r) (p := p) (by omega) p1).1, Int.mul_ediv_self_le (by omega)⟩
          · rw [hN, show r / p - g + g + 1 = r / p + 1 by omega]
            have a1 := Int.lt_mul_ediv_self_add (x := r) (k := p) (by omega)
            rw [Int.mul_add, Int.mul_one]
            have a2 := Int.mul_ediv_self_le (x := r) (k := p) (by omega)
            omega
        · exact .inl (by simp [wideC, h1, h2, h3]; omega)

theorem cut_area {x L y H : Int} (x0 : 0 ≤ x) (y0 : 0 ≤ y) (L1 : 1 ≤ L) (H1 : 1 ≤ H) : x / L * (y / H) * L * H ≤ x * y := by
  have e : x / L * (y / H) * L * H = (L * (x / L)) * (H * (y / H)) := by
    rw [Int.mul_comm L, Int.mul_comm H, Int.mul_assoc (x / L), Int.mul_comm (y / H) L, ← Int.mul_assoc (x / L), Int.mul_assoc (x / L * L)]
  rw [e]
  have a := Int.mul_ediv_self_le (x := x) (k := L) (by omega)
  have b := Int.mul_ediv_self_le (x := y) (k := H) (by omega)
  have q := (quo_bd (x := y) (p := H) y0 H1).1
  calc L * (x / L) * (H * (y / H)) ≤ x * (H * (y / H)) := Int.mul_le_mul_of_nonneg_right a (Int.mul_nonneg (by omega) q)
    _ ≤ x * y := Int.mul_le_mul_of_nonneg_left b x0

/-- What is said of strips out of a paper. -/
theorem paper_facts (r h s g x y : Int) : (¬ paperC r h s g x y = 0) ∨ (paperC r h s g x y = 0 ∧ code2 r h s (inB g 0 100) = 0 ∧ (1 ≤ stripL r h s g ∧ stripL r h s g ≤ 20000) ∧ (1 ≤ stripH r h s g ∧ stripH r h s g ≤ 1000) ∧
    (0 ≤ paperN r h s g x y * stripL r h s g ∧ paperN r h s g x y * stripL r h s g ≤ 500000000000) ∧ (0 ≤ paperN r h s g x y * stripL r h s g * stripH r h s g ∧ paperN r h s g x y * stripL r h s g * stripH r h s g ≤ x * y) ∧ x * y ≤ 25000000) := by
  cases h1 : drumB r h s
  · exact .inl (by simp [paperC, h1])
  · obtain ⟨⟨r1, r2⟩, ⟨k1, k2⟩, -⟩ := drumB_yes h1
    cases h2 : inB g 0 100
    · exact .inl (by simp [paperC, h1, h2])
    · obtain ⟨g1, g2⟩ := inB_iff.1 h2
      cases h3 : inB x 1 5000
      · exact .inl (by simp [paperC, h1, h2, h3])
      · obtain ⟨x1, x2⟩ := inB_iff.1 h3
        cases h4 : inB y 1 5000
        · exact .inl (by simp [paperC, h1, h2, h3, h4])
        · obtain ⟨y1, y2⟩ := inB_iff.1 h4
          have hl : stripL r h s g = r + g := by simp [stripL, h1, h2]
          have hh : stripH r h s g = h / 2 := by simp [stripH, h1, h2]
          rw [paperN_yes h1 h2 h3 h4, hl, hh]
          have L1 : 1 ≤ r + g ∧ r + g ≤ 20000 := by omega
          have H1 : 1 ≤ h / 2 ∧ h / 2 ≤ 1000 := by omega
          have A := cut_area (x := x) (y := y) (L := r + g) (H := h / 2) (by omega) (by omega) L1.1 H1.1
          have B := cut_area (x := y) (y := x) (L := r + g) (H := h / 2) (by omega) (by omega) L1.1 H1.1
          rw [Int.mul_comm y x] at B
          obtain ⟨a1, a2⟩ := quo_bd (x := x) (p := r + g) (by omega) L1.1
          obtain ⟨b1, b2⟩ := quo_bd (x := y) (p := r + g) (by omega) L1.1
          obtain ⟨c1, c2⟩ := quo_bd (x := x) (p := h / 2) (by omega) H1.1
          obtain ⟨d1, d2⟩ := quo_bd (x := y) (p := h / 2) (by omega) H1.1
          obtain ⟨m1, m2⟩ := prod_bd a1 (by omega) d1 (by omega)
          obtain ⟨n1, n2⟩ := prod_bd b1 (by omega) c1 (by omega)
          have xy := (prod_bd (a := x) (b := y) (by omega) x2 (by omega) y2).2
          refine .inr ⟨by simp [paperC, h1, h2, h3, h4], by simp [code2, h1], L1, H1, ?_⟩
          generalize x / (r + g) * (y / (h / 2)) = u at *
          generalize y / (r + g) * (x / (h / 2)) = v at *
          have hm : max u v = u ∨ max u v = v := by omega
          generalize x * y = q at *
          have big : ∀ z : Int, 0 ≤ z → z ≤ 25000000 → z * (r + g) * (h / 2) ≤ q → (0 ≤ z * (r + g) ∧ z * (r + g) ≤ 500000000000) ∧ (0 ≤ z * (r + g) * (h / 2) ∧ z * (r + g) * (h / 2) ≤ q) ∧ q ≤ 25000000 := by
            intro z z0 z1 hz
            have t0 : 0 ≤ z * (r + g) := Int.mul_nonneg z0 (by omega)
            refine ⟨⟨t0, ?_⟩, ⟨Int.mul_nonneg t0 (by omega), hz⟩, xy⟩
            calc z * (r + g) ≤ 25000000 * (r + g) := Int.mul_le_mul_of_nonneg_right z1 (by omega)
              _ ≤ 500000000000 := by omega
          rcases hm with e | e <;> rw [e]
          · exact big u m1 m2 A
          · exact big v n1 n2 B

/-- What is said of a strip. -/
theorem strip_facts (r h s g : Int) : (¬ code2 r h s (inB g 0 100) = 0) ∨ (code2 r h s (inB g 0 100) = 0 ∧ stripL r h s g = r + g ∧ 2 * stripH r h s g ≤ h ∧ (0 ≤ stripH r h s g ∧ stripH r h s g ≤ 1000) ∧ (100 ≤ r ∧ r ≤ 10000) ∧ (0 ≤ g ∧ g ≤ 100)) := by
  cases h1 : drumB r h s
  · exact .inl (by simp [code2, h1])
  · obtain ⟨⟨r1, r2⟩, ⟨k1, k2⟩, -⟩ := drumB_yes h1
    cases h2 : inB g 0 100
    · exact .inl (by simp [code2, h1])
    · obtain ⟨g1, g2⟩ := inB_iff.1 h2
      refine .inr ⟨by simp [code2, h1], by simp [stripL, h1, h2], ?_, ?_, ⟨r1, r2⟩, ⟨g1, g2⟩⟩
      · simp [stripH, h1, h2]; omega
      · simp [stripH, h1, h2]; omega

/-- laws.f6big. -/
theorem f6bigD_any (a : Option Addr) (len cap : Nat) (w : World) :
    Calls Try.prog 35 #[.slice a len cap] w fun e w' => e = .returned (.bool (decide (4096 < (len : Int)))) ∧ w = w' := by
  by_cases h : 4096 < (len : Int)
  · rw [decide_eq_true h]
    go_enter Try.func35, Try.ntmps35
    go_wp2
    go_ret
    exact ⟨rfl, rfl⟩
  · rw [decide_eq_false h]
    go_enter Try.func35, Try.ntmps35
    go_wp2
    go_ret
    exact ⟨rfl, rfl⟩

set_option maxHeartbeats 8000000 in
set_option maxRecDepth 100000 in
theorem lawFnStrips_ok (a : Option Addr) (len cap : Nat) (cs : List Int) (w : World) (hr : Row w a len cap cs) (hlen : ¬ 4096 < (len : Int)) :
    Calls Try.prog 12 #[.slice a len cap] w fun e w' => e = .returned (.bool true) ∧ Below w.heap.size w w' := by
  have HR := Lib.hid hr
  have hz := decide_eq_false hlen
  clear hr
  go_enter Try.func12, Try.ntmps12
  go_wp2_with fail
  refine (f6bigD_any _ _ _ _).mono ?_
  rintro e u0 ⟨rfl, rfl⟩
  rw [hz]
  clear hz
  go_wp2_with fail
  refine (drawStripFor_any a len cap cs _ HR.out).mono ?_
  rintro e u1 ⟨r, h, s, g, rfl, hb1⟩
  have HB1 := Lib.hid (bAlloc hb1 (.cells #[.int .i64 r, .int .i64 h, .int .i64 s] 25))
  have D1 := bdNew u1 r h s
  have HR1 := Lib.hid ((HR.out.below hb1).below (bAlloc (Below.refl _ _) (.cells #[.int .i64 r, .int .i64 h, .int .i64 s] 25)))
  clear hb1 HR
  go_wp2_with fail
  generalize u1.alloc (.cells #[.int .i64 r, .int .i64 h, .int .i64 s] 25) = v1 at *
  generalize u1.heap.size = k1 at *
  refine (implStripFor_any r h s g _).mono ?_
  rintro e u2 ⟨rfl, hb2⟩
  have D2 := D1.below hb2
  have HB2 := Lib.hid (bTrans HB1.out hb2)
  have HR2 := Lib.hid (HR1.out.below hb2)
  clear hb2 HB1 HR1
  obtain ⟨d0, d1, d2, d3⟩ := D2
  go_wp2_with fail
  refine (specStripFor_any r h s g _).mono ?_
  rintro e u3 ⟨rfl, hb3⟩
  have D3 : Bd u3 k1 r h s := Bd.below ⟨d0, d1, d2, d3⟩ hb3
  have HB3 := Lib.hid (bTrans HB2.out hb3)
  have HR3 := Lib.hid (HR2.out.below hb3)
  clear hb3 HB2 HR2 d0 d1 d2 d3 D1
  go_wp2_with fail
  refine (drawStripsFrom_any a len cap cs _ HR3.out).mono ?_
  rintro e u4 ⟨ra, ha, sa, ga, x, y, rfl, hb4⟩
  have D4 := (D3.below hb4).below (bAlloc (Below.refl _ _) (.cells #[.int .i64 ra, .int .i64 ha, .int .i64 sa] 25))
  have E4 := bdNew u4 ra ha sa
  have HB4 := Lib.hid (bAlloc (bTrans HB3.out hb4) (.cells #[.int .i64 ra, .int .i64 ha, .int .i64 sa] 25))
  have HR4 := Lib.hid ((HR3.out.below hb4).below (bAlloc (Below.refl _ _) (.cells #[.int .i64 ra, .int .i64 ha, .int .i64 sa] 25)))
  clear hb4 HB3 HR3 D3
  go_wp2_with fail
  generalize u4.alloc (.cells #[.int .i64 ra, .int .i64 ha, .int .i64 sa] 25) = v4 at *
  generalize u4.heap.size = k4 at *
  refine (implPaper_any ra ha sa ga x y _).mono ?_
  rintro e u5 ⟨rfl, hb5⟩
  have D5 := D4.below hb5
  have E5 := E4.below hb5
  have HB5 := Lib.hid (bTrans HB4.out hb5)
  have HR5 := Lib.hid (HR4.out.below hb5)
  clear hb5 HB4 HR4 D4 E4
  obtain ⟨e0, e1, e2, e3⟩ := E5
  go_wp2_with fail
  refine (specPaper_any ra ha sa ga x y _).mono ?_
  rintro e u6 ⟨rfl, hb6⟩
  have D6 := D5.below hb6
  have E6 : Bd u6 k4 ra ha sa := Bd.below ⟨e0, e1, e2, e3⟩ hb6
  have HB6 := Lib.hid (bTrans HB5.out hb6)
  have HR6 := Lib.hid (HR5.out.below hb6)
  clear hb6 HB5 HR5 e0 e1 e2 e3 D5
  go_wp2_with fail
  refine (drawWidest_any a len cap cs _ HR6.out).mono ?_
  rintro e u7 ⟨rb, hb, sb, p, gap, rfl, hb7⟩
  have D7 := (D6.below hb7).below (bAlloc (Below.refl _ _) (.cells #[.int .i64 rb, .int .i64 hb, .int .i64 sb] 25))
  have E7 := (E6.below hb7).below (bAlloc (Below.refl _ _) (.cells #[.int .i64 rb, .int .i64 hb, .int .i64 sb] 25))
  have F7 := bdNew u7 rb hb sb
  have HB7 := Lib.hid (bAlloc (bTrans HB6.out hb7) (.cells #[.int .i64 rb, .int .i64 hb, .int .i64 sb] 25))
  clear hb7 HB6 HR6 D6 E6
  go_wp2_with fail
  generalize u7.alloc (.cells #[.int .i64 rb, .int .i64 hb, .int .i64 sb] 25) = v7 at *
  generalize u7.heap.size = k7 at *
  refine (implWide_any rb hb sb p gap _).mono ?_
  rintro e u8 ⟨rfl, hb8⟩
  have D8 := D7.below hb8
  have E8 := E7.below hb8
  have F8 := F7.below hb8
  have HB8 := Lib.hid (bTrans HB7.out hb8)
  clear hb8 HB7 D7 E7 F7
  obtain ⟨f0, f1, f2, f3⟩ := F8
  go_wp2_with fail
  refine (specWide_any rb hb sb p gap _).mono ?_
  rintro e u9 ⟨rfl, hb9⟩
  have D9 := D8.below hb9
  have E9 := E8.below hb9
  have F9 : Bd u9 k7 rb hb sb := Bd.below ⟨f0, f1, f2, f3⟩ hb9
  have HB9 := Lib.hid (bTrans HB8.out hb9)
  clear hb9 HB8 f0 f1 f2 f3 D8 E8
  obtain ⟨f0, f1, f2, f3⟩ := F9
  obtain ⟨e0, e1, e2, e3⟩ := E9
  have hS := Lib.hid (fun w : World => implStripFor_any ra ha sa ga w)
  have A := wide_facts rb hb sb p gap
  have B := paper_facts ra ha sa ga x y
  have C := strip_facts r h s g
  generalize stripL r h s g = l1 at *
  generalize stripH r h s g = h1 at *
  generalize code2 r h s (inB g 0 100) = c1 at *
  generalize stripL ra ha sa ga = l2 at *
  generalize stripH ra ha sa ga = h2 at *
  generalize code2 ra ha sa (inB ga 0 100) = c2 at *
  generalize paperN ra ha sa ga x y = n2 at *
  generalize paperC ra ha sa ga x y = c3 at *
  generalize wideN rb hb sb p gap = n4 at *
  generalize wideC rb hb sb p gap = c4 at *
  have HD := Lib.hid D9
  clear D9
  rcases A with A | ⟨rfl, ⟨A1, A2⟩, ⟨A3, A4⟩, ⟨A5, A6⟩, ⟨A7, A8⟩, A9, A10⟩ <;> rcases B with B | ⟨rfl, rfl, ⟨B1, B2⟩, ⟨B3, B4⟩, ⟨B5, B6⟩, ⟨B7, B8⟩, B9⟩ <;> rcases C with C | ⟨rfl, rfl, C2, ⟨C3, C4⟩, ⟨C5, C6⟩, C7, C8⟩
  · obtain ⟨d0, d1, d2, d3⟩ := HD.out
    go_wp2_with fail
    go_ret
    exact ⟨rfl, HB9.out⟩
  · have q1 : IntKind.i64.wrap (r + g) = r + g := IntWalk.i64_in _ (by omega)
    have q2 : IntKind.i64.wrap (2 * h1) = 2 * h1 := IntWalk.i64_in _ (by omega)
    obtain ⟨d0, d1, d2, d3⟩ := HD.out
    go_wp2_with fail
    go_ret
    exact ⟨rfl, HB9.out⟩
  · have o1 : ¬ l2 < 1 := by omega
    have o2 : ¬ h2 < 1 := by omega
    have o3 : ¬ 20000 < l2 := by omega
    have o4 : ¬ 1000 < h2 := by omega
    have o5 : ¬ x * y < n2 * l2 * h2 := by omega
    have m5 : IntKind.i64.wrap (n2 * l2) = n2 * l2 := IntWalk.i64_in _ (by omega)
    have m6 : IntKind.i64.wrap (n2 * l2 * h2) = n2 * l2 * h2 := IntWalk.i64_in _ (by omega)
    have m7 : IntKind.i64.wrap (x * y) = x * y := IntWalk.i64_in _ (by omega)
    go_wp2_with fail
    refine (hS.out _).mono ?_
    rintro e u10 ⟨rfl, hb10⟩
    obtain ⟨d0, d1, d2, d3⟩ := HD.out.below hb10
    go_wp2_with fail
    go_ret
    exact ⟨rfl, bTrans HB9.out hb10⟩
  · have q1 : IntKind.i64.wrap (r + g) = r + g := IntWalk.i64_in _ (by omega)
    have q2 : IntKind.i64.wrap (2 * h1) = 2 * h1 := IntWalk.i64_in _ (by omega)
    have o1 : ¬ l2 < 1 := by omega
    have o2 : ¬ h2 < 1 := by omega
    have o3 : ¬ 20000 < l2 := by omega
    have o4 : ¬ 1000 < h2 := by omega
    have o5 : ¬ x * y < n2 * l2 * h2 := by omega
    have m5 : IntKind.i64.wrap (n2 * l2) = n2 * l2 := IntWalk.i64_in _ (by omega)
    have m6 : IntKind.i64.wrap (n2 * l2 * h2) = n2 * l2 * h2 := IntWalk.i64_in _ (by omega)
    have m7 : IntKind.i64.wrap (x * y) = x * y := IntWalk.i64_in _ (by omega)
    go_wp2_with fail
    refine (hS.out _).mono ?_
    rintro e u10 ⟨rfl, hb10⟩
    obtain ⟨d0, d1, d2, d3⟩ := HD.out.below hb10
    go_wp2_with fail
    go_ret
    exact ⟨rfl, bTrans HB9.out hb10⟩
  · obtain ⟨d0, d1, d2, d3⟩ := HD.out
    have n1 : ¬ rb < p * (n4 + gap) := by omega
    have n2' : ¬ p * (n4 + gap + 1) ≤ rb := by omega
    have m1 : IntKind.i64.wrap (n4 + gap) = n4 + gap := IntWalk.i64_in _ (by omega)
    have m2 : IntKind.i64.wrap (p * (n4 + gap)) = p * (n4 + gap) := IntWalk.i64_in _ (by omega)
    have m3 : IntKind.i64.wrap (p * (n4 + gap + 1)) = p * (n4 + gap + 1) := IntWalk.i64_in _ (by omega)
    have m4 : IntKind.i64.wrap (n4 + gap + 1) = n4 + gap + 1 := IntWalk.i64_in _ (by omega)
    go_wp2_with fail
    go_ret
    exact ⟨rfl, HB9.out⟩
  · have q1 : IntKind.i64.wrap (r + g) = r + g := IntWalk.i64_in _ (by omega)
    have q2 : IntKind.i64.wrap (2 * h1) = 2 * h1 := IntWalk.i64_in _ (by omega)
    obtain ⟨d0, d1, d2, d3⟩ := HD.out
    have n1 : ¬ rb < p * (n4 + gap) := by omega
    have n2' : ¬ p * (n4 + gap + 1) ≤ rb := by omega
    have m1 : IntKind.i64.wrap (n4 + gap) = n4 + gap := IntWalk.i64_in _ (by omega)
    have m2 : IntKind.i64.wrap (p * (n4 + gap)) = p * (n4 + gap) := IntWalk.i64_in _ (by omega)
    have m3 : IntKind.i64.wrap (p * (n4 + gap + 1)) = p * (n4 + gap + 1) := IntWalk.i64_in _ (by omega)
    have m4 : IntKind.i64.wrap (n4 + gap + 1) = n4 + gap + 1 := IntWalk.i64_in _ (by omega)
    go_wp2_with fail
    go_ret
    exact ⟨rfl, HB9.out⟩
  · have n1 : ¬ rb < p * (n4 + gap) := by omega
    have n2' : ¬ p * (n4 + gap + 1) ≤ rb := by omega
    have m1 : IntKind.i64.wrap (n4 + gap) = n4 + gap := IntWalk.i64_in _ (by omega)
    have m2 : IntKind.i64.wrap (p * (n4 + gap)) = p * (n4 + gap) := IntWalk.i64_in _ (by omega)
    have m3 : IntKind.i64.wrap (p * (n4 + gap + 1)) = p * (n4 + gap + 1) := IntWalk.i64_in _ (by omega)
    have m4 : IntKind.i64.wrap (n4 + gap + 1) = n4 + gap + 1 := IntWalk.i64_in _ (by omega)
    have o1 : ¬ l2 < 1 := by omega
    have o2 : ¬ h2 < 1 := by omega
    have o3 : ¬ 20000 < l2 := by omega
    have o4 : ¬ 1000 < h2 := by omega
    have o5 : ¬ x * y < n2 * l2 * h2 := by omega
    have m5 : IntKind.i64.wrap (n2 * l2) = n2 * l2 := IntWalk.i64_in _ (by omega)
    have m6 : IntKind.i64.wrap (n2 * l2 * h2) = n2 * l2 * h2 := IntWalk.i64_in _ (by omega)
    have m7 : IntKind.i64.wrap (x * y) = x * y := IntWalk.i64_in _ (by omega)
    go_wp2_with fail
    refine (hS.out _).mono ?_
    rintro e u10 ⟨rfl, hb10⟩
    obtain ⟨d0, d1, d2, d3⟩ := HD.out.below hb10
    go_wp2_with fail
    go_ret
    exact ⟨rfl, bTrans HB9.out hb10⟩
  · have q1 : IntKind.i64.wrap (r + g) = r + g := IntWalk.i64_in _ (by omega)
    have q2 : IntKind.i64.wrap (2 * h1) = 2 * h1 := IntWalk.i64_in _ (by omega)
    have n1 : ¬ rb < p * (n4 + gap) := by omega
    have n2' : ¬ p * (n4 + gap + 1) ≤ rb := by omega
    have m1 : IntKind.i64.wrap (n4 + gap) = n4 + gap := IntWalk.i64_in _ (by omega)
    have m2 : IntKind.i64.wrap (p * (n4 + gap)) = p * (n4 + gap) := IntWalk.i64_in _ (by omega)
    have m3 : IntKind.i64.wrap (p * (n4 + gap + 1)) = p * (n4 + gap + 1) := IntWalk.i64_in _ (by omega)
    have m4 : IntKind.i64.wrap (n4 + gap + 1) = n4 + gap + 1 := IntWalk.i64_in _ (by omega)
    have o1 : ¬ l2 < 1 := by omega
    have o2 : ¬ h2 < 1 := by omega
    have o3 : ¬ 20000 < l2 := by omega
    have o4 : ¬ 1000 < h2 := by omega
    have o5 : ¬ x * y < n2 * l2 * h2 := by omega
    have m5 : IntKind.i64.wrap (n2 * l2) = n2 * l2 := IntWalk.i64_in _ (by omega)
    have m6 : IntKind.i64.wrap (n2 * l2 * h2) = n2 * l2 * h2 := IntWalk.i64_in _ (by omega)
    have m7 : IntKind.i64.wrap (x * y) = x * y := IntWalk.i64_in _ (by omega)
    go_wp2_with fail
    refine (hS.out _).mono ?_
    rintro e u10 ⟨rfl, hb10⟩
    obtain ⟨d0, d1, d2, d3⟩ := HD.out.below hb10
    go_wp2_with fail
    go_ret
    exact ⟨rfl, bTrans HB9.out hb10⟩

set_option maxRecDepth 100000 in
/-- laws.FnStrips. -/
theorem law_FnStrips (a : Option Addr) (len cap : Nat) (cs : List Int) (w : World) (hr : Row w a len cap cs) :
    Calls Try.prog 12 #[.slice a len cap] w fun e w' => e = .returned (.bool true) ∧ Below w.heap.size w w' := by
  by_cases h : 4096 < (len : Int)
  · have hz := decide_eq_true h
    go_enter Try.func12, Try.ntmps12
    go_wp2_with fail
    refine (f6bigD_any _ _ _ _).mono ?_
    rintro e u0 ⟨rfl, rfl⟩
    rw [hz]
    go_wp2_with fail
    go_ret
    exact ⟨rfl, Below.refl _ _⟩
  · exact lawFnStrips_ok a len cap cs w hr h

end Go.Proofs.Ythphihfcgpoefaa
