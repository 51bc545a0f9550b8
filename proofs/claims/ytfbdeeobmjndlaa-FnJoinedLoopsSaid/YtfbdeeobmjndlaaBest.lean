/- The best turn of a loop: the program. -/
import Derived.Test.YtfbdeeobmjndlaaProg
import Derived.Test.YtfbdeeobmjndlaaLoopMath
import Derived.Test.YtfbdeeobmjndlaaInts
import Derived.Test.YtfbdeeobmjndlaaLoop
import Derived.Test.YtfbdeeobmjndlaaLoop2
import Derived.Test.YtfbdeeobmjndlaaLoop3
import Derived.Test.YtfbdeeobmjndlaaTurnL
import Derived.Test.YtfbdeeobmjndlaaComLen
import Derived.Deep.AppendLies
import Derived.Deep.DrawnRows
import Derived.Test.YtfbdeeobmjndlaaHold
import Derived.IntWalk
import Derived.WalkSpells
import Derived.OwnWalk
import Derived.Laws.AppendOwn
import Derived.Laws.OwnMore
import Derived.Deep.RegionWith
import Derived.Deep.DrawnRows
import Derived.Deep.RegionHeld3
import Derived.Tactics
import Derived.Tactics2
import Derived.WalkKit
import Derived.LoopTactic
import Derived.BigQuiet
import Derived.RegionTactic
import Derived.Deep.QuietTactic
import Derived.Outline
import Derived.Lib.Hide
import Derived.Below
import Derived.KernelRfl
namespace Go.Proofs.Ytfbdeeobmjndlaa
set_option linter.unusedSimpArgs false
set_option linter.unusedVariables false
open Go.RowKit

set_option maxHeartbeats 1000000 in
/-- impl.areLoops, of two. -/
theorem areLoops_any (g c9 : Nat) (A A' : Option Addr) (n c n' c' : Nat) (xs ys : List Int) (w : World) (hg : g < w.heap.size) (c0 : w.cell? ⟨g, 0, none⟩ = some (.slice A n c)) (c1 : w.cell? ⟨g, 1, none⟩ = some (.slice A' n' c')) (hx : RdI w A n xs) (hy : RdI w A' n' ys) :
    Calls Try.prog 126 #[.slice (some ⟨g, 0, none⟩) 2 c9] w fun e w' => e = .returned (.bool (loopB xs && loopB ys)) ∧ w = w' := by
  have HX := Lib.hid hx
  have HY := Lib.hid hy
  clear hx hy
  go_enter Try.func126, Try.ntmps126
  go_wp2
  go_loop [7] (fun i => ∃ k : Nat, k ≤ 2 ∧ i = .int .i64 k ∧ Hid (1 ≤ k → loopB xs = true) ∧ Hid (2 ≤ k → loopB ys = true)) (fun i => 2 - (intOf i).toNat)
  case atStart => exact ⟨0, Nat.zero_le _, rfl, Lib.hid (fun h => by omega), Lib.hid (fun h => by omega)⟩
  case round =>
    obtain ⟨k, hk, rfl, H1, H2⟩ := hrel
    by_cases h0 : k = 0
    · subst h0
      cases hx : loopB xs
      · go_wp2_with fail
        refine (validLoop_any A n c xs _ HX.out).mono ?_
        rintro e u ⟨rfl, rfl⟩
        rw [hx]
        go_wp2
        go_ret
        exact ⟨ret_bool (by rw [hx]; rfl), rfl⟩
      · go_wp2_with fail
        refine (validLoop_any A n c xs _ HX.out).mono ?_
        rintro e u ⟨rfl, rfl⟩
        rw [hx]
        go_wp2
        go_round
        case rel => exact ⟨1, by omega, by go_num, Lib.hid (fun _ => by first | trivial | exact hx), Lib.hid (fun h => by omega)⟩
        case measure => simp [intOf]
    · by_cases h1 : k = 1
      · subst h1
        have hx := Lib.hid (H1.out (by omega))
        cases hy : loopB ys
        · go_wp2_with fail
          refine (validLoop_any A' n' c' ys _ HY.out).mono ?_
          rintro e u ⟨rfl, rfl⟩
          rw [hy]
          go_wp2
          go_ret
          exact ⟨ret_bool (by rw [hy, Bool.and_false]), rfl⟩
        · go_wp2_with fail
          refine (validLoop_any A' n' c' ys _ HY.out).mono ?_
          rintro e u ⟨rfl, rfl⟩
          rw [hy]
          go_wp2
          go_round
          case rel => exact ⟨2, by omega, by go_num, Lib.hid (fun _ => by first | trivial | exact hx.out), Lib.hid (fun _ => by first | trivial | exact hy)⟩
          case measure => simp [intOf]
      · have h2 : k = 2 := by omega
        subst h2
        have hx := Lib.hid (H1.out (by omega))
        have hy := Lib.hid (H2.out (by omega))
        go_wp2
        go_ret
        exact ⟨ret_bool (by rw [hx.out, hy.out]; rfl), rfl⟩

set_option maxHeartbeats 1000000 in
set_option maxRecDepth 100000 in
/-- impl.turned.distanceTo. -/
theorem distTo_any (A A' : Option Addr) (n c c' : Nat) (xs ys : List Int) (d : Nat) (w : World) (hx : RdI w A n xs) (hy : RdI w A' n ys) (hzx : loopB xs = true) (hzy : loopB ys = true) (hd : d ≤ 1000) :
    Calls Try.prog 130 #[.agg #[.slice A n c, .int .i64 d], .slice A' n c'] w fun e w' => e = .returned (.int .i64 (distI xs ys d)) ∧ Below w.heap.size w w' := by
  have hl := loopB_len hzx
  have hln := hx.1
  rw [hx.1] at hl
  have HX := Lib.hid hx
  have HY := Lib.hid hy
  have hn := hx.2.1
  have HD := Lib.hid (show distI xs ys d = sumI (farI xs ys d) n by unfold distI; rw [hln])
  have HF := Lib.hid (fun k => farI_bd hzx hzy d k)
  have HS := Lib.hid (fun k => sumI_bd (farI xs ys d) 1000 (farI_bd hzx hzy d) k)
  have HE := Lib.hid (fun k : Nat => show farI xs ys d k = ((ringI xs ((d : Int) + k) - ringI ys k).natAbs : Nat) from rfl)
  have HN := Lib.hid (fun k : Nat => show sumI (farI xs ys d) (k + 1) = sumI (farI xs ys d) k + farI xs ys d k from rfl)
  have HB1 := Lib.hid (fun k : Int => ringI_bd hzx k)
  have HB2 := Lib.hid (fun k : Int => ringI_bd hzy k)
  clear hx hy hln
  rw [HD.out]
  generalize farI xs ys d = f at *
  go_enter Try.func130, Try.ntmps130
  go_wp2_with fail
  refine (ringLen_any _ _ _ _ hn).mono ?_
  rintro e u ⟨rfl, rfl⟩
  have HBW := Lib.hid (show Below w.heap.size w (w.alloc (.cells #[.slice A n c, .int .i64 d] 115)) from bAlloc (Below.refl _ _) _)
  have k0 : (w.alloc (.cells #[.slice A n c, .int .i64 d] 115)).cell? ⟨w.heap.size, 0, none⟩ = some (.slice A n c) := by go_simp
  have k1 : (w.alloc (.cells #[.slice A n c, .int .i64 d] 115)).cell? ⟨w.heap.size, 1, none⟩ = some (.int .i64 d) := by go_simp
  have kz : w.heap.size < (w.alloc (.cells #[.slice A n c, .int .i64 d] 115)).heap.size := by simp
  generalize w.alloc (.cells #[.slice A n c, .int .i64 d] 115) = W at *
  go_wp2
  go_loopw [10, 5] (fun i s wr => ∃ k : Nat, k ≤ n ∧ i = .int .i64 k ∧ s = .int .i64 (sumI f k) ∧ Hid (Below W.heap.size W wr)) (fun i _ _ => n - (intOf i).toNat)
  case atStart => exact ⟨0, Nat.zero_le _, rfl, rfl, Lib.hid (Below.refl _ _)⟩
  case round =>
    obtain ⟨k, hk, rfl, rfl, HB⟩ := hrel
    by_cases hlt : k < n
    · have c0 := (HB.out.cell (p := ⟨w.heap.size, 0, none⟩) kz).trans k0
      have c1 := (HB.out.cell (p := ⟨w.heap.size, 1, none⟩) kz).trans k1
      have X1 := Lib.hid ((HX.out.below HBW.out).below HB.out)
      have Y1 := Lib.hid ((HY.out.below HBW.out).below HB.out)
      have T := Lib.hid (turnedAt_any A n c xs d k wr X1.out (by omega) (by omega) (by omega) (by omega) (by omega))
      have R := Lib.hid (fun u (hu : RdI u A' n ys) => ringAt_any A' n c' ys (k : Int) u hu (by omega) (by omega) (by omega))
      have q1 := HB1.out ((d : Int) + k)
      have q2 := HB2.out (k : Int)
      have q3 := HS.out k
      have q4 := HF.out k
      have e1 := HE.out k
      have HN1 := Lib.hid (HN.out k)
      have hkk : (k : Int) * 1000 ≤ 60000 := by omega
      have AB := Lib.hid (fun u : World => absolute_any (ringI xs ((d : Int) + k) - ringI ys k) u (by omega) (by omega))
      rw [← e1] at AB
      have wd : IntKind.i64.wrap (ringI xs ((d : Int) + k) - ringI ys k) = ringI xs ((d : Int) + k) - ringI ys k := IntWalk.i64_in _ (by omega)
      have ws : IntKind.i64.wrap (sumI f k + f k) = sumI f k + f k := IntWalk.i64_in _ (by omega)
      clear e1
      generalize ringI xs ((d : Int) + k) = x at *
      generalize ringI ys (k : Int) = y at *
      generalize sumI f k = s at *
      generalize f k = z at *
      go_wp2_with fail
      refine T.out.mono ?_
      rintro e u ⟨rfl, hb⟩
      have B2 := Lib.hid (bTrans HB.out hb)
      have Y2 := Lib.hid (Y1.out.below hb)
      clear hb
      go_wp2_with fail
      refine (R.out _ Y2.out).mono ?_
      rintro e u ⟨rfl, m, rfl⟩
      go_wp2_with fail
      refine (AB.out _).mono ?_
      rintro e u ⟨rfl, rfl⟩
      go_wp2
      go_roundw
      case rel => exact ⟨k + 1, by omega, by go_num, by rw [HN1.out], Lib.hid (bDrewN B2.out m)⟩
      case measure => simp [intOf]; omega
    · have : k = n := by omega
      subst this
      go_wp2
      go_ret
      exact ⟨rfl, bTrans HBW.out HB.out⟩

/-- What BestTurn tells. -/
def bestV (xs ys : List Int) : Value := .tuple #[.int .i64 (lowI (distI xs ys) xs.length).1, .int .i64 (lowI (distI xs ys) xs.length).2, .int .i64 0]
theorem lowI_bd (f : Nat → Int) (h : ∀ k, 0 ≤ f k ∧ f k ≤ 60000) : ∀ k, 0 ≤ (lowI f k).2 ∧ (lowI f k).2 ≤ 60000 ∧ 0 ≤ (lowI f k).1 ∧ (lowI f k).1 ≤ k
  | 0 => by simp [lowI]
  | k + 1 => by
    have ih := lowI_bd f h k
    have := h k
    rw [lowI]
    split
    · simp only
      omega
    · omega

/-- impl.BestTurn. -/
theorem implBest_bad (A A' : Option Addr) (n c n' c' : Nat) (xs ys : List Int) (w : World) (hx : RdI w A n xs) (hy : RdI w A' n' ys) (hz : (loopB xs && loopB ys) = false) :
    Calls Try.prog 45 #[.slice A n c, .slice A' n' c'] w fun e w' => e = .returned (.tuple #[.int .i64 0, .int .i64 0, .int .i64 1]) ∧ Below w.heap.size w w' := by
  have HX := Lib.hid hx
  have HY := Lib.hid hy
  clear hx hy
  have HB := Lib.hid (show Below w.heap.size w (w.alloc (.cells #[.slice A n c, .slice A' n' c'] 22)) from bAlloc (Below.refl _ _) _)
  go_enter Try.func45, Try.ntmps45
  go_wp2_with fail
  refine (areLoops_any w.heap.size _ A A' n c n' c' xs ys _ (by simp) (by go_simp) (by go_simp) (HX.out.below HB.out) (HY.out.below HB.out)).mono ?_
  rintro e u ⟨rfl, rfl⟩
  rw [hz]
  go_wp2
  go_ret3
  exact ⟨rfl, HB.out⟩
theorem implBest_format (A A' : Option Addr) (n c n' c' : Nat) (xs ys : List Int) (w : World) (hx : RdI w A n xs) (hy : RdI w A' n' ys) (hz : (loopB xs && loopB ys) = true) (hn : n ≠ n') :
    Calls Try.prog 45 #[.slice A n c, .slice A' n' c'] w fun e w' => e = .returned (.tuple #[.int .i64 0, .int .i64 0, .int .i64 8]) ∧ Below w.heap.size w w' := by
  have HX := Lib.hid hx
  have HY := Lib.hid hy
  clear hx hy
  have HB := Lib.hid (show Below w.heap.size w (w.alloc (.cells #[.slice A n c, .slice A' n' c'] 22)) from bAlloc (Below.refl _ _) _)
  have hnb : ((n : Int) != (n' : Int)) = true := by rw [bne_iff_ne]; omega
  go_enter Try.func45, Try.ntmps45
  go_wp2_with fail
  refine (areLoops_any w.heap.size _ A A' n c n' c' xs ys _ (by simp) (by go_simp) (by go_simp) (HX.out.below HB.out) (HY.out.below HB.out)).mono ?_
  rintro e u ⟨rfl, rfl⟩
  rw [hz]
  go_wp2
  go_ret3
  exact ⟨rfl, HB.out⟩
set_option maxHeartbeats 1000000 in
set_option maxRecDepth 100000 in
theorem implBest_ok (A A' : Option Addr) (n c c' : Nat) (xs ys : List Int) (w : World) (hx : RdI w A n xs) (hy : RdI w A' n ys) (hzx : loopB xs = true) (hzy : loopB ys = true) :
    Calls Try.prog 45 #[.slice A n c, .slice A' n c'] w fun e w' => e = .returned (bestV xs ys) ∧ Below w.heap.size w w' := by
  have hl := loopB_len hzx
  have hln := hx.1
  rw [hx.1] at hl
  have HX := Lib.hid hx
  have HY := Lib.hid hy
  have HB := Lib.hid (show Below w.heap.size w (w.alloc (.cells #[.slice A n c, .slice A' n c'] 22)) from bAlloc (Below.refl _ _) _)
  have hR := Lib.hid (show bestV xs ys = .tuple #[.int .i64 (lowI (distI xs ys) n).1, .int .i64 (lowI (distI xs ys) n).2, .int .i64 0] by unfold bestV; rw [hln])
  have DT := Lib.hid (fun (d : Nat) (hd : d ≤ 1000) u (hb : Below w.heap.size w u) => distTo_any A A' n c c' xs ys d u (hx.below hb) (hy.below hb) hzx hzy hd)
  have HT := Lib.hid (fun k => lowI_bd (distI xs ys) (fun d => distI_bd hzx hzy d) k)
  have HS := Lib.hid (fun k => show lowI (distI xs ys) (k + 1) = if k = 0 ∨ distI xs ys k < (lowI (distI xs ys) k).2 then ((k : Int), distI xs ys k) else lowI (distI xs ys) k from rfl)
  have HQ := Lib.hid (fun k => distI_bd hzx hzy k)
  rw [hR.out]
  clear hR hx hy
  generalize distI xs ys = f at *
  have hz : (loopB xs && loopB ys) = true := by rw [hzx, hzy]; rfl
  go_enter Try.func45, Try.ntmps45
  go_wp2_with fail
  refine (areLoops_any w.heap.size _ A A' n c n c' xs ys _ (by simp) (by go_simp) (by go_simp) (HX.out.below HB.out) (HY.out.below HB.out)).mono ?_
  rintro e u ⟨rfl, rfl⟩
  rw [hz]
  generalize w.alloc (.cells #[.slice A n c, .slice A' n c'] 22) = W at *
  go_wp2
  go_loopw [23, 7, 8] (fun i a b wr => ∃ k : Nat, k ≤ n ∧ i = .int .i64 k ∧ a = .int .i64 (lowI f k).1 ∧ b = .int .i64 (lowI f k).2 ∧ Hid (Below w.heap.size w wr)) (fun i _ _ _ => n - (intOf i).toNat)
  case atStart => exact ⟨0, Nat.zero_le _, rfl, rfl, rfl, HB⟩
  case round =>
    obtain ⟨k, hk, rfl, rfl, rfl, HW⟩ := hrel
    by_cases hlt : k < n
    · have D := Lib.hid (DT.out k (by omega) wr HW.out)
      have hts := HT.out k
      have hq := HQ.out k
      have HSS := Lib.hid (HS.out k)
      generalize f k = z at *
      generalize (lowI f k) = t at *
      obtain ⟨t1, t2⟩ := t
      simp only at hts HSS ⊢
      by_cases hgt : k = 0 ∨ z < t2
      · have HF := HSS.out
        rw [if_pos hgt] at HF
        have HF := Lib.hid HF
        have hgb : (((k : Int) == 0) || decide (z < t2)) = true := by
          rcases hgt with h | h
          · subst h; rfl
          · simp [h]
        clear HSS
        by_cases hk0 : k = 0
        · subst hk0
          clear hgt hgb
          go_wp2_with fail
          refine D.out.mono ?_
          rintro e u ⟨rfl, hb⟩
          have B2 := Lib.hid (bTrans HW.out hb)
          clear hb D
          go_wp2
          go_roundw
          case rel => exact ⟨0 + 1, by omega, by go_num, by rw [HF.out]; rfl, by rw [HF.out], Lib.hid B2.out⟩
          case measure => simp [intOf]; omega
        · have hz2 : z < t2 := by omega
          clear hgt hgb
          go_wp2_with fail
          refine D.out.mono ?_
          rintro e u ⟨rfl, hb⟩
          have B2 := Lib.hid (bTrans HW.out hb)
          clear hb D
          go_wp2
          go_roundw
          case rel => exact ⟨k + 1, by omega, by go_num, by rw [HF.out], by rw [HF.out], Lib.hid B2.out⟩
          case measure => simp [intOf]; omega
      · have HF := HSS.out
        rw [if_neg hgt] at HF
        have HF := Lib.hid HF
        have hk0 : ¬ k = 0 := fun h => hgt (.inl h)
        have hz2 : ¬ z < t2 := fun h => hgt (.inr h)
        have hkb : ((k : Int) == 0) = false := beq_eq_false_iff_ne.2 (by omega)
        clear hgt HSS
        go_wp2_with fail
        refine D.out.mono ?_
        rintro e u ⟨rfl, hb⟩
        have B2 := Lib.hid (bTrans HW.out hb)
        clear hb D
        go_wp2
        go_roundw
        case rel => exact ⟨k + 1, by omega, by go_num, by rw [HF.out], by rw [HF.out], Lib.hid B2.out⟩
        case measure => simp [intOf]; omega
    · have : k = n := by omega
      subst this
      go_wp2
      go_ret3
      exact ⟨rfl, HW.out⟩

end Go.Proofs.Ytfbdeeobmjndlaa
