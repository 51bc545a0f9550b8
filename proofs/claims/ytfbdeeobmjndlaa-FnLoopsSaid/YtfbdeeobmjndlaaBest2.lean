/- The best turn of a loop: the model. -/
import Derived.Test.YtfbdeeobmjndlaaProg
import Derived.Test.YtfbdeeobmjndlaaLoopMath
import Derived.Test.YtfbdeeobmjndlaaInts
import Derived.Test.YtfbdeeobmjndlaaLoop
import Derived.Test.YtfbdeeobmjndlaaLoop2
import Derived.Test.YtfbdeeobmjndlaaLoop3
import Derived.Test.YtfbdeeobmjndlaaTurnL2
import Derived.Test.YtfbdeeobmjndlaaBest
import Derived.Deep.AppendLies
import Derived.Deep.DrawnRows
import Derived.Test.YtfbdeeobmjndlaaHold
import Derived.IntWalk
import Derived.WalkSpells
import Derived.OwnWalk
import Derived.Laws.AppendOwn
import Derived.Laws.OwnMore
import Derived.Deep.RegionWith
import Derived.Deep.DrawnRows
import Derived.Deep.RegionHeld3
import Derived.Tactics
import Derived.Tactics2
import Derived.WalkKit
import Derived.LoopTactic
import Derived.BigQuiet
import Derived.RegionTactic
import Derived.Deep.QuietTactic
import Derived.Outline
import Derived.Lib.Hide
import Derived.Below
import Derived.KernelRfl
namespace Go.Proofs.Ytfbdeeobmjndlaa
set_option linter.unusedSimpArgs false
set_option linter.unusedVariables false
open Go.RowKit

/-- spec.BestTurn. -/
theorem specBest_bad (A A' : Option Addr) (n c n' c' : Nat) (xs ys : List Int) (w : World) (hx : RdI w A n xs) (hy : RdI w A' n' ys) (hz : (loopB xs && loopB ys) = false) :
    Calls Try.prog 44 #[.slice A n c, .slice A' n' c'] w fun e w' => e = .returned (.tuple #[.int .i64 0, .int .i64 0, .int .i64 1]) ∧ Below w.heap.size w w' := by
  have HX := Lib.hid hx
  have HY := Lib.hid hy
  clear hx hy
  cases h1 : loopB xs
  · go_enter Try.func44, Try.ntmps44
    go_wp2_with fail
    refine (l05Ok_any A n c xs _ HX.out).mono ?_
    rintro e u ⟨rfl, rfl⟩
    rw [h1]
    go_wp2
    go_ret3
    exact ⟨rfl, Below.refl _ _⟩
  · have h2 : loopB ys = false := by rw [h1] at hz; simpa using hz
    go_enter Try.func44, Try.ntmps44
    go_wp2_with fail
    refine (l05Ok_any A n c xs _ HX.out).mono ?_
    rintro e u ⟨rfl, rfl⟩
    rw [h1]
    go_wp2_with fail
    refine (l05Ok_any A' n' c' ys _ HY.out).mono ?_
    rintro e u ⟨rfl, rfl⟩
    rw [h2]
    go_wp2
    go_ret3
    exact ⟨rfl, Below.refl _ _⟩
theorem specBest_format (A A' : Option Addr) (n c n' c' : Nat) (xs ys : List Int) (w : World) (hx : RdI w A n xs) (hy : RdI w A' n' ys) (hzx : loopB xs = true) (hzy : loopB ys = true) (hn : n ≠ n') :
    Calls Try.prog 44 #[.slice A n c, .slice A' n' c'] w fun e w' => e = .returned (.tuple #[.int .i64 0, .int .i64 0, .int .i64 8]) ∧ Below w.heap.size w w' := by
  have HX := Lib.hid hx
  have HY := Lib.hid hy
  clear hx hy
  have hnb : ((n : Int) != (n' : Int)) = true := by rw [bne_iff_ne]; omega
  go_enter Try.func44, Try.ntmps44
  go_wp2_with fail
  refine (l05Ok_any A n c xs _ HX.out).mono ?_
  rintro e u ⟨rfl, rfl⟩
  rw [hzx]
  go_wp2_with fail
  refine (l05Ok_any A' n' c' ys _ HY.out).mono ?_
  rintro e u ⟨rfl, rfl⟩
  rw [hzy]
  go_wp2
  go_ret3
  exact ⟨rfl, Below.refl _ _⟩

theorem lowS_bd (f : Nat → Int) (h : ∀ k, 0 ≤ f k ∧ f k ≤ 60000) : ∀ k, -1 ≤ (lowS f k).2 ∧ (lowS f k).2 ≤ 60000 ∧ 0 ≤ (lowS f k).1 ∧ (lowS f k).1 ≤ k
  | 0 => by simp [lowS]
  | k + 1 => by
    have ih := lowS_bd f h k
    have := h k
    rw [lowS]
    split
    · simp only
      omega
    · omega

set_option maxHeartbeats 2000000 in
set_option maxRecDepth 100000 in
theorem specBest_ok (A A' : Option Addr) (n c c' : Nat) (xs ys : List Int) (w : World) (hx : RdI w A n xs) (hy : RdI w A' n ys) (hzx : loopB xs = true) (hzy : loopB ys = true) :
    Calls Try.prog 44 #[.slice A n c, .slice A' n c'] w fun e w' => e = .returned (bestV xs ys) ∧ Below w.heap.size w w' := by
  have hl := loopB_len hzx
  have hln := hx.1
  have hlm := hy.1
  rw [hx.1] at hl
  have HX := Lib.hid hx
  have HY := Lib.hid hy
  obtain ⟨n', hn'⟩ : ∃ n', n = n' + 1 := ⟨n - 1, by omega⟩
  have hR := Lib.hid (show bestV xs ys = .tuple #[.int .i64 (lowS (distI xs ys) n).1, .int .i64 (lowS (distI xs ys) n).2, .int .i64 0] by unfold bestV; rw [hln, hn', low_same _ (fun d => (distI_bd hzx hzy d).1)])
  have HT := Lib.hid (fun k => lowS_bd (distI xs ys) (fun d => distI_bd hzx hzy d) k)
  have HS := Lib.hid (fun k => show lowS (distI xs ys) (k + 1) = if (lowS (distI xs ys) k).2 < 0 ∨ distI xs ys k < (lowS (distI xs ys) k).2 then ((k : Int), distI xs ys k) else lowS (distI xs ys) k from rfl)
  have HQ := Lib.hid (fun k => distI_bd hzx hzy k)
  have TU := Lib.hid (fun (d : Nat) (hd : d ≤ 1000) u (hb : Below w.heap.size w u) => l05Turned_any A n c xs d u (hx.below hb) (by omega) (by omega) hd)
  have HLT := Lib.hid (fun d => show (turnL xs d).length = n by unfold turnL; rw [genL_length, hln])
  have HG := Lib.hid (fun (d k : Nat) (hk : k < n) => show (turnL xs d).getD k 0 = ringI xs ((d : Int) + k) from genL_get _ _ _ (by rw [hln]; exact hk))
  have HD := Lib.hid (fun d => show distI xs ys d = sumI (farI xs ys d) n by unfold distI; rw [hln])
  have HF := Lib.hid (fun d k => farI_bd hzx hzy d k)
  have HSU := Lib.hid (fun d k => sumI_bd (farI xs ys d) 1000 (farI_bd hzx hzy d) k)
  have HE := Lib.hid (fun (d k : Nat) (hk : k < n) => show farI xs ys d k = ((ringI xs ((d : Int) + k) - ys.getD k 0).natAbs : Nat) by unfold farI; rw [ringI_lt ys k (by omega)])
  have HN := Lib.hid (fun (d k : Nat) => show sumI (farI xs ys d) (k + 1) = sumI (farI xs ys d) k + farI xs ys d k from rfl)
  have HB1 := Lib.hid (fun k : Int => ringI_bd hzx k)
  have HB2 := Lib.hid (fun k : Nat => loopB_get hzy k)
  have hnn := hx.2.1
  rw [hR.out]
  clear hR hx hy hn'
  generalize distI xs ys = f at *
  generalize farI xs ys = fr' at *
  go_enter Try.func44, Try.ntmps44
  go_wp2_with fail
  refine (l05Ok_any A n c xs _ HX.out).mono ?_
  rintro e u ⟨rfl, rfl⟩
  rw [hzx]
  go_wp2_with fail
  refine (l05Ok_any A' n c' ys _ HY.out).mono ?_
  rintro e u ⟨rfl, rfl⟩
  rw [hzy]
  go_wp2
  go_loopw [9, 7, 8] (fun i a b wr => ∃ k : Nat, k ≤ n ∧ i = .int .i64 k ∧ a = .int .i64 (lowS f k).1 ∧ b = .int .i64 (lowS f k).2 ∧ Hid (Below w.heap.size w wr)) (fun i _ _ _ => n - (intOf i).toNat)
  case atStart => exact ⟨0, Nat.zero_le _, rfl, rfl, rfl, Lib.hid (Below.refl _ _)⟩
  case round =>
    obtain ⟨k, hk, rfl, rfl, rfl, HW⟩ := hrel
    by_cases hlt : k < n
    · have T := Lib.hid (TU.out k (by omega) wr HW.out)
      have hts := HT.out k
      have hq := HQ.out k
      have HSS := Lib.hid (HS.out k)
      have hlt2 := Lib.hid (HLT.out k)
      have HG1 := Lib.hid (HG.out k)
      have HD1 := Lib.hid (HD.out k)
      have HF1 := Lib.hid (HF.out k)
      have HSU1 := Lib.hid (HSU.out k)
      have HE1 := Lib.hid (HE.out k)
      have HN1 := Lib.hid (HN.out k)
      have HB3 := Lib.hid (fun j : Nat => HB1.out ((k : Int) + j))
      generalize turnL xs k = ts at *
      generalize (lowS f k) = t at *
      obtain ⟨t1, t2⟩ := t
      simp only at hts HSS ⊢
      go_wp2_with fail
      refine T.out.mono ?_
      rintro e u ⟨v, rfl, io, hb⟩
      have B2 := Lib.hid (bTrans HW.out hb)
      have hsl := hlt2.out
      obtain ⟨E, c1, rfl, rd⟩ := io.rd (by omega)
      rw [hsl] at rd ⊢
      have RD := Lib.hid rd.2.2
      have Y2 := Lib.hid ((HY.out.below B2.out).2.2)
      clear io rd hb T hsl
      go_wp2
      go_loopw [12, 11] (fun i s wr => ∃ q : Nat, q ≤ n ∧ i = .int .i64 q ∧ s = .int .i64 (sumI (fr' k) q) ∧ ∃ m, Hid (wr = u.drewN m)) (fun i _ _ => n - (intOf i).toNat)
      case atStart => exact ⟨0, Nat.zero_le _, rfl, rfl, 0, Lib.hid rfl⟩
      case round =>
        obtain ⟨q, hq2, rfl, rfl, m, HM⟩ := hrel
        by_cases hqt : q < n
        · rcases RD.out with h0 | ⟨g, rfl, hg, h3⟩
          · omega
          rcases Y2.out with h0 | ⟨g2, rfl, hg2, h4⟩
          · omega
          have c0 : wr.cell? ⟨g, q, none⟩ = some (.int .i64 (ts.getD q 0)) := by rw [HM.out]; exact h3 q hqt
          have c2 : wr.cell? ⟨g2, q, none⟩ = some (.int .i64 (ys.getD q 0)) := by rw [HM.out]; exact h4 q hqt
          rw [HG1.out q hqt] at c0
          have q1 := HB3.out q
          have q2 := HB2.out q
          have q3 := HSU1.out q
          have q4 := HF1.out q
          have e1 := HE1.out q hqt
          have HN2 := Lib.hid (HN1.out q)
          have AB := Lib.hid (fun u : World => l00Size_any (ringI xs ((k : Int) + q) - ys.getD q 0) u (by omega) (by omega))
          rw [← e1] at AB
          have hkk : (q : Int) * 1000 ≤ 60000 := by omega
          have wd : IntKind.i64.wrap (ringI xs ((k : Int) + q) - ys.getD q 0) = ringI xs ((k : Int) + q) - ys.getD q 0 := IntWalk.i64_in _ (by omega)
          have ws : IntKind.i64.wrap (sumI (fr' k) q + fr' k q) = sumI (fr' k) q + fr' k q := IntWalk.i64_in _ (by omega)
          clear e1 h3 h4
          generalize ringI xs ((k : Int) + q) = x at *
          generalize ys.getD q 0 = y at *
          generalize sumI (fr' k) q = s at *
          generalize fr' k q = z at *
          go_wp2
          go_quiet ((go_at_call 113; exact quietEq (AB.out _)))
          go_wp2
          go_roundw
          case rel => exact ⟨q + 1, by omega, by go_num, by rw [HN2.out], _, Lib.hid (by rw [HM.out, World.drewN_drewN])⟩
          case measure => simp [intOf]; omega
        · have : q = n := by omega
          subst this
          have HD2 := HD1.out
          rw [← HD2]
          have B3 := Lib.hid (show Below w.heap.size w wr by rw [HM.out]; exact bDrewN B2.out m)
          clear HD2 HD1 HD HN HE HSU HF HE1 HN1 HSU1 HF1 HG1 HB3 HM
          generalize f k = z at *
          by_cases hgt : t2 < 0 ∨ z < t2
          · have HF := HSS.out
            rw [if_pos hgt] at HF
            have HF := Lib.hid HF
            clear HSS
            by_cases h0 : t2 < 0
            · clear hgt
              go_wp2
              go_roundw
              case rel => exact ⟨k + 1, by omega, by go_num, by rw [HF.out], by rw [HF.out], B3⟩
              case measure => simp [intOf]; omega
            · have hz2 : z < t2 := by omega
              clear hgt
              go_wp2
              go_roundw
              case rel => exact ⟨k + 1, by omega, by go_num, by rw [HF.out], by rw [HF.out], B3⟩
              case measure => simp [intOf]; omega
          · have HF := HSS.out
            rw [if_neg hgt] at HF
            have HF := Lib.hid HF
            have h0 : ¬ t2 < 0 := fun h => hgt (.inl h)
            have hz2 : ¬ z < t2 := fun h => hgt (.inr h)
            clear hgt HSS
            go_wp2
            go_roundw
            case rel => exact ⟨k + 1, by omega, by go_num, by rw [HF.out], by rw [HF.out], B3⟩
            case measure => simp [intOf]; omega
    · have : k = n := by omega
      subst this
      go_wp2
      go_ret3
      exact ⟨rfl, HW.out⟩

end Go.Proofs.Ytfbdeeobmjndlaa
