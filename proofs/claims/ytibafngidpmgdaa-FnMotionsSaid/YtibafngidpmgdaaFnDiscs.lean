/- FnDiscs: what a disc shows has a disc with as many pictures; the statement's walk. -/
import Derived.Test.YtibafngidpmgdaaMotDraw
import Derived.Test.YtibafngidpmgdaaMotTop
import Derived.Test.YtibafngidpmgdaaDiscTop
import Derived.Test.YtibafngidpmgdaaFewest
import Derived.Test.YtibafngidpmgdaaOrderLaw
import Derived.Test.YtibafngidpmgdaaSmall
import Derived.Deep.RegionHeld3
import Derived.BigQuiet
import Derived.Deep.QuietTactic
import Derived.Outline
import Derived.Lib.Hide
import Derived.Below
import Derived.KernelRfl
namespace Go.Proofs.Ytibafngidpmgdaa
set_option linter.unusedSimpArgs false
set_option linter.unusedVariables false
open Go.RowKit

theorem motSize {s : ByteArray} (h : motB s = true) : s.size ≤ maxLen := by
  have := (motB_size h).2
  unfold maxLen
  omega
theorem motionOf_ok (s : ByteArray) (n : Nat) (w : World) (h : motB s = true) (n1 : 1 ≤ n) (n2 : n ≤ 24) :
    Calls Try.prog 62 #[.string s, .int .i64 n] w fun e w' => e = .returned (.tuple #[.string (txt (showL s n)), .int .i64 0]) ∧ Below w.heap.size w w' := by
  have h1 := implMotionOf_any s n w (motSize h)
  rw [withV_yes h (inB_iff.2 (by omega)), Int.toNat_natCast] at h1
  exact h1
theorem discFor_ok (s : ByteArray) (n : Nat) (w : World) (h : motB s = true) (n1 : 1 ≤ n) (n2 : n ≤ 24) (hf : fitsB s n = true) :
    Calls Try.prog 63 #[.string s, .int .i64 n] w fun e w' => e = .returned (.tuple #[.string (txt (discL s n)), .int .i64 0]) ∧ Below w.heap.size w w' := by
  have h1 := implDiscFor_any s n w (motSize h)
  unfold forV at h1
  rw [withV_yes h (inB_iff.2 (by omega)), Int.toNat_natCast, if_pos hf, if_pos hf] at h1
  exact h1
theorem fewest_ok (s : ByteArray) (w : World) (h : motB s = true) :
    Calls Try.prog 64 #[.string s] w fun e w' => e = .returned (.tuple #[.int .i64 (firstN (fitsB s) s.size : Nat), .int .i64 0]) ∧ Below w.heap.size w w' := by
  have h1 := implFewest_any s w (motSize h)
  rw [numV_yes h] at h1
  exact h1

set_option maxHeartbeats 8000000 in
set_option maxRecDepth 100000 in
/-- laws.FnDiscs. -/
theorem law_FnDiscs (a : Option Addr) (l c : Nat) (zs : List Int) (b : Option Addr) (m k : Nat) (ys : List Int) (w : World) (r1 : Row w a l c zs) (r2 : Row w b m k ys) :
    Calls Try.prog 7 #[.slice a l c, .slice b m k] w fun e w' => e = .returned (.bool true) ∧ Below w.heap.size w w' := by
  by_cases hL : 3000 < (l : Int) ∨ 3000 < (m : Int)
  · have hL2 : (decide (3000 < (l : Int)) || decide (3000 < (m : Int))) = true := by simpa using hL
    have C1 := a2Long_any a b l c m k
    rw [hL2] at C1
    clear hL hL2 r1 r2
    go_enter Try.func7, Try.ntmps7
    go_wp2_with fail
    refine (C1 _).mono ?_
    rintro e u ⟨rfl, rfl⟩
    go_wp2_with fail
    go_ret
    exact ⟨rfl, Below.refl _ _⟩
  · have hL2 : (decide (3000 < (l : Int)) || decide (3000 < (m : Int))) = false := by simpa using hL
    have C1 := a2Long_any a b l c m k
    rw [hL2] at C1
    have hl : m ≤ 3000 := by omega
    clear hL hL2
    go_enter Try.func7, Try.ntmps7
    go_wp2_with fail
    refine (C1 _).mono ?_
    rintro e u ⟨rfl, rfl⟩
    go_wp2_with fail
    refine (A2Motion_any a l c zs _ r1).mono ?_
    rintro e u1 ⟨D, rfl, D1, D2, h1⟩
    have H1 := Lib.hid h1
    have R2 := Lib.hid (r2.below h1)
    clear C1 r1 r2 h1
    obtain ⟨d1, d2⟩ := motB_size D1
    go_wp2_with fail
    refine (a2At_any b m k ys 0 12 _ R2.out (by omega) (by omega) (by omega) (by omega) hl).mono ?_
    rintro e u2 ⟨v, v0, v1, rfl, hb2⟩
    have H2 := Lib.hid (bTrans H1.out hb2)
    clear hb2 H1 R2
    obtain ⟨n, hn⟩ : ∃ n : Nat, 1 + v = n := ⟨(1 + v).toNat, by omega⟩
    have n1 : 1 ≤ n := by omega
    have n2 : n ≤ 12 := by omega
    have K1 := Lib.hid (fun w => motionOf_ok D n w D1 n1 (by omega))
    have M1 := show_motB D1 n1 (show n ≤ 24 by omega)
    have hz : (txt (showL D n)).size = n := by rw [txt_size, showL_length]
    have K2 := Lib.hid (fun w => discFor_ok (txt (showL D n)) D.size w M1 d1 (by omega) (show_has n1))
    have O1 := disc_motB M1 (p := D.size) d1 (by omega)
    have hz2 : (txt (discL (txt (showL D n)) D.size)).size = D.size := by rw [txt_size, discL_length]
    have K3 := Lib.hid (fun w => motionOf_ok (txt (discL (txt (showL D n)) D.size)) n w O1 n1 (by omega))
    rw [show_again D1 n1 (by omega)] at K3
    have K4 := Lib.hid (fun w => fewest_ok (txt (showL D n)) w M1)
    rw [hz] at K4
    obtain ⟨f1, f2, f3⟩ := fewest_le D1 n1 (show n ≤ 24 by omega)
    have SS := Lib.hid (fun j (hj : j < n) => show_same D1 n1 (show n ≤ 24 by omega) hj)
    have dB := disc_of (p := D.size) (s := n) d1 (by omega) n1 (by omega)
    have K5 := Lib.hid (fun w => specSeenOrder_yes (D.size : Int) n w dB)
    have OG := Lib.hid (fun j (hj : j < n) => order_get (p := D.size) (s := n) d1 hj)
    have OL := Lib.hid (orderTo_length D.size n n)
    have QL := Lib.hid (fun j => seenK_lt (p := D.size) n j d1)
    clear M1 O1 dB D1
    generalize firstN (fitsB (txt (showL D n))) n = F at *
    generalize txt (discL (txt (showL D n)) D.size) = O at *
    generalize txt (showL D n) = X at *
    generalize orderTo (D.size : Int) n n = L at *
    go_wp2_with fail
    refine (K1.out _).mono ?_
    rintro e u3 ⟨rfl, hb3⟩
    have H3 := Lib.hid (bTrans H2.out hb3)
    clear hb3 H2 K1
    go_wp2_with fail
    refine (K2.out _).mono ?_
    rintro e u4 ⟨rfl, hb4⟩
    have H4 := Lib.hid (bTrans H3.out hb4)
    clear hb4 H3 K2
    go_wp2_with fail
    refine (K3.out _).mono ?_
    rintro e u5 ⟨rfl, hb5⟩
    have H5 := Lib.hid (bTrans H4.out hb5)
    clear hb5 H4 K3
    go_wp2_with fail
    refine (K4.out _).mono ?_
    rintro e u6 ⟨rfl, hb6⟩
    have H6 := Lib.hid (bTrans H5.out hb6)
    clear hb6 H5 K4
    have g1 : ((X.size : Int) != (n : Int)) = false := by simp [hz]
    have g2 : ((O.size : Int) != (D.size : Int)) = false := by simp [hz2]
    have g3 : ¬ (F : Int) < 1 := by omega
    have g4 : ¬ (D.size : Int) < (F : Int) := by omega
    have g5 : ¬ (n : Int) < (F : Int) := by omega
    have Z1 := Lib.hid hz
    have Z2 := Lib.hid hz2
    clear hz hz2
    go_wp2_with fail
    refine (K5.out _).mono ?_
    rintro e u7 ⟨v7, rfl, iv, hb7⟩
    have H7 := Lib.hid (bTrans H6.out hb7)
    obtain ⟨g, cap, rfl, hc⟩ : ∃ g cap, v7 = .slice (some ⟨g, 0, none⟩) n cap ∧ ∀ j, j < n → u7.cell? ⟨g, j, none⟩ = some (.int .i64 ((seenK D.size n j : Nat) : Int)) := by
      rcases iv.view with ⟨_, h0⟩ | ⟨g, cap, rfl, h1, h2, _, h3, _⟩
      · have h4 := OL.out
        rw [h0] at h4
        simp at h4
        omega
      · refine ⟨g, cap, by rw [OL.out], fun j hj => ?_⟩
        rw [← OG.out j hj]
        exact h3 j (by rw [OL.out]; exact hj)
    have HC := Lib.hid hc
    clear iv hb7 hc H6 K5 OG OL g1 g2 g3 g4 g5 f1 f2 f3
    go_wp2_with fail
    go_loopw [17] (fun i wr => ∃ j q : Nat, j ≤ n ∧ i = .int .i64 j ∧ wr = u7.drewN q) (fun i _ => n - (intOf i).toNat)
    case atStart => exact ⟨0, 0, Nat.zero_le _, rfl, rfl⟩
    case round =>
      obtain ⟨j, q, hj, rfl, rfl⟩ := hrel
      by_cases hlt : j < n
      · have cc : u7.cell? ⟨g, j, none⟩ = some (.int .i64 ((seenK D.size n j : Nat) : Int)) := HC.out j hlt
        obtain ⟨e1, e2⟩ := SS.out j hlt
        have hq := QL.out j
        generalize seenK D.size n j = t at *
        have hx : j < X.size := by have := Z1.out; omega
        have ho : t < O.size := by have := Z2.out; omega
        have y1 : (((X[j]'hx).toNat : Int) != ((D[t]'hq).toNat : Int)) = false := by rw [letter_of hx, letter_of hq, e1]; simp
        have y2 : (((O[t]'ho).toNat : Int) != ((D[t]'hq).toNat : Int)) = false := by rw [letter_of ho, letter_of hq, e2]; simp
        clear e1 e2
        go_wp2_with fail
        go_quiet (fail)
        go_wp2
        go_roundw
        case rel => exact ⟨j + 1, _, by omega, by go_num, rfl⟩
        case measure => simp [intOf]; omega
      · have hjn : j = n := by omega
        subst hjn
        go_wp2
        go_ret
        exact ⟨rfl, bDrewN H7.out q⟩

end Go.Proofs.Ytibafngidpmgdaa
