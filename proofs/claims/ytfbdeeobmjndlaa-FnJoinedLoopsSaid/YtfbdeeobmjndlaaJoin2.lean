/- Pairs of places of two loops: the model, and the statement. -/
import Derived.Test.YtfbdeeobmjndlaaProg
import Derived.Test.YtfbdeeobmjndlaaLoopMath
import Derived.Test.YtfbdeeobmjndlaaInts
import Derived.Test.YtfbdeeobmjndlaaLoop
import Derived.Test.YtfbdeeobmjndlaaLoop2
import Derived.Test.YtfbdeeobmjndlaaLoop3
import Derived.Test.YtfbdeeobmjndlaaIGrids
import Derived.Test.YtfbdeeobmjndlaaComLen
import Derived.Test.YtfbdeeobmjndlaaJoin
import Derived.Deep.AppendLies
import Derived.Deep.DrawnRows
import Derived.Test.YtfbdeeobmjndlaaHold
import Derived.IntWalk
import Derived.WalkSpells
import Derived.OwnWalk
import Derived.Laws.AppendOwn
import Derived.Laws.OwnMore
import Derived.Deep.RegionWith
import Derived.Deep.DrawnRows
import Derived.Deep.RegionHeld3
import Derived.Tactics
import Derived.Tactics2
import Derived.WalkKit
import Derived.LoopTactic
import Derived.BigQuiet
import Derived.RegionTactic
import Derived.Deep.QuietTactic
import Derived.Outline
import Derived.Lib.Hide
import Derived.Below
import Derived.KernelRfl
namespace Go.Proofs.Ytfbdeeobmjndlaa
set_option linter.unusedSimpArgs false
set_option linter.unusedVariables false
open Go.RowKit

/-- spec.JoinLoops. -/
theorem specJoin_bad (A A' : Option Addr) (n c n' c' : Nat) (xs ys : List Int) (w : World) (hx : RdI w A n xs) (hy : RdI w A' n' ys) (hz : (loopB xs && loopB ys) = false) :
    Calls Try.prog 37 #[.slice A n c, .slice A' n' c'] w (JoinR w 1 []) := by
  have HX := Lib.hid hx
  have HY := Lib.hid hy
  clear hx hy
  cases h1 : loopB xs
  · go_enter Try.func37, Try.ntmps37
    go_wp2_with fail
    refine (l05Ok_any A n c xs _ HX.out).mono ?_
    rintro e u ⟨rfl, rfl⟩
    rw [h1]
    go_wp2
    go_ret2
    exact ⟨_, _, rfl, gridI_nil _ _, Below.refl _ _⟩
  · have h2 : loopB ys = false := by rw [h1] at hz; simpa using hz
    go_enter Try.func37, Try.ntmps37
    go_wp2_with fail
    refine (l05Ok_any A n c xs _ HX.out).mono ?_
    rintro e u ⟨rfl, rfl⟩
    rw [h1]
    go_wp2_with fail
    refine (l05Ok_any A' n' c' ys _ HY.out).mono ?_
    rintro e u ⟨rfl, rfl⟩
    rw [h2]
    go_wp2
    go_ret2
    exact ⟨_, _, rfl, gridI_nil _ _, Below.refl _ _⟩
theorem specJoin_full (A A' : Option Addr) (n c n' c' : Nat) (xs ys : List Int) (w : World) (hx : RdI w A n xs) (hy : RdI w A' n' ys) (hzx : loopB xs = true) (hzy : loopB ys = true) (hm : ¬ n / Nat.gcd n n' * n' ≤ 360) :
    Calls Try.prog 37 #[.slice A n c, .slice A' n' c'] w (JoinR w 5 []) := by
  have l1 := loopB_len hzx
  have l2 := loopB_len hzy
  rw [hx.1] at l1
  rw [hy.1] at l2
  have HX := Lib.hid hx
  have HY := Lib.hid hy
  clear hx hy
  have L := Lib.hid (fun u => l05Common_any n n' u (by omega) (by omega) (by omega) (by omega))
  generalize n / Nat.gcd n n' * n' = N at *
  have hN : (360 : Int) < N := by omega
  go_enter Try.func37, Try.ntmps37
  go_wp2_with fail
  refine (l05Ok_any A n c xs _ HX.out).mono ?_
  rintro e u ⟨rfl, rfl⟩
  rw [hzx]
  go_wp2_with fail
  refine (l05Ok_any A' n' c' ys _ HY.out).mono ?_
  rintro e u ⟨rfl, rfl⟩
  rw [hzy]
  go_wp2_with fail
  refine (L.out _).mono ?_
  rintro e u ⟨rfl, rfl⟩
  go_wp2
  go_ret2
  exact ⟨_, _, rfl, gridI_nil _ _, Below.refl _ _⟩

set_option maxHeartbeats 2000000 in
set_option maxRecDepth 100000 in
theorem specJoin_ok (A A' : Option Addr) (n c n' c' : Nat) (xs ys : List Int) (qs : List (List Int)) (w : World) (hx : RdI w A n xs) (hy : RdI w A' n' ys) (hzx : loopB xs = true) (hzy : loopB ys = true) (hm : n / Nat.gcd n n' * n' ≤ 360) (hqs : qs = pairsL xs ys (n / Nat.gcd n n' * n')) :
    Calls Try.prog 37 #[.slice A n c, .slice A' n' c'] w (JoinR w 0 qs) := by
  have l1 := loopB_len hzx
  have l2 := loopB_len hzy
  rw [hx.1] at l1
  rw [hy.1] at l2
  have HX := Lib.hid hx
  have HY := Lib.hid hy
  clear hx hy
  have L := Lib.hid (fun u => l05Common_any n n' u (by omega) (by omega) (by omega) (by omega))
  obtain ⟨i0, hi, hz0, hz1, hz2⟩ := info_parts infoG
  generalize n / Nat.gcd n n' * n' = N at *
  have HQ := Lib.hid hqs
  clear hqs
  have hN : ¬ (360 : Int) < N := by omega
  go_enter Try.func37, Try.ntmps37
  go_wp2_with fail
  refine (l05Ok_any A n c xs _ HX.out).mono ?_
  rintro e u ⟨rfl, rfl⟩
  rw [hzx]
  go_wp2_with fail
  refine (l05Ok_any A' n' c' ys _ HY.out).mono ?_
  rintro e u ⟨rfl, rfl⟩
  rw [hzy]
  go_wp2_with fail
  refine (L.out _).mono ?_
  rintro e u ⟨rfl, rfl⟩
  go_wp2
  go_loopw [8, 7] (fun i v wr => ∃ (k : Nat) (us : List Value), k ≤ N ∧ i = .int .i64 k ∧ Hid (GridI wr w.heap.size v us (pairsL xs ys k)) ∧ Hid (Below w.heap.size w wr)) (fun i _ _ => N - (intOf i).toNat)
  case atStart => exact ⟨0, [], Nat.zero_le _, rfl, Lib.hid ⟨rfl, World.ownsRow_lit w #[] 0 (Nat.le_refl _) (Nat.zero_le _) rfl, fun _ h => by simp [pairsL] at h, fun _ _ _ h => by simp [pairsL] at h⟩, Lib.hid (bAlloc (Below.refl _ _) _)⟩
  case round =>
    obtain ⟨k, us, hk, rfl, HG, HB2⟩ := hrel
    by_cases hlt : k < N
    · obtain ⟨hl1, -, h3⟩ := HX.out.below HB2.out
      obtain ⟨hl2, -, h4⟩ := HY.out.below HB2.out
      rcases h3 with h0 | ⟨g, rfl, hg, h3⟩
      · omega
      rcases h4 with h0 | ⟨d, rfl, hd, h4⟩
      · omega
      have hj : k % n < n := Nat.mod_lt _ (by omega)
      have hq : k % n' < n' := Nat.mod_lt _ (by omega)
      have c0 := h3 _ hj
      have c1 := h4 _ hq
      have HS := Lib.hid (show pairsL xs ys (k + 1) = pairsL xs ys k ++ [[xs.getD (k % n) 0, ys.getD (k % n') 0]] by rw [pairsL_succ, ringI_nat, ringI_nat, hl1, hl2])
      have HLn := Lib.hid (pairsL_length xs ys k)
      have hr : Int.tmod (k : Int) n = ((k % n : Nat) : Int) := by rw [Int.tmod_eq_emod_of_nonneg (by omega), Int.natCast_emod]
      have hr2 : (k : Int) % n = ((k % n : Nat) : Int) := (Int.natCast_emod _ _).symm
      have hs : Int.tmod (k : Int) n' = ((k % n' : Nat) : Int) := by rw [Int.tmod_eq_emod_of_nonneg (by omega), Int.natCast_emod]
      have hs2 : (k : Int) % n' = ((k % n' : Nat) : Int) := (Int.natCast_emod _ _).symm
      have hn0 : ¬ (n : Int) = 0 := by omega
      have hn00 : ¬ n = 0 := by omega
      have hn1 : ¬ (n' : Int) = 0 := by omega
      have hn11 : ¬ n' = 0 := by omega
      have HO := Lib.hid HG.out.2.1
      rw [HLn.out] at HO
      clear h3 h4 hl1 hl2
      generalize k % n = j at *
      generalize k % n' = q at *
      generalize xs.getD j 0 = x at *
      generalize ys.getD q 0 = y at *
      have hj0 : (0 : Int) ≤ (j : Int) := by omega
      have hj1 : (j : Int) < n := by omega
      have hq0 : (0 : Int) ≤ (q : Int) := by omega
      have hq1 : (q : Int) < n' := by omega
      have ag : u7.ownBlock ≠ some g := fun e => by
        have := (World.ownsRow.lt HO.out g e).1
        have := HX.out.2.2
        rcases this with h0 | ⟨g', e', hg', -⟩
        · omega
        · injection e' with e'; injection e'; omega
      have ad : u7.ownBlock ≠ some d := fun e => by
        have := (World.ownsRow.lt HO.out d e).1
        have := HY.out.2.2
        rcases this with h0 | ⟨g', e', hg', -⟩
        · omega
        · injection e' with e'; injection e'; omega
      have hbz := HB2.out.size
      have hnb : ((wr.alloc (.cells #[.int .i64 x, .int .i64 y] 2)).alloc (.cells #[.slice (some ⟨wr.heap.size, 0, none⟩) 2 2] 22)).heap[wr.heap.size + 1]? = some (.cells #[.slice (some ⟨wr.heap.size, 0, none⟩) 2 2] 22) := by
        have := heap_alloc_new (wr.alloc (.cells #[.int .i64 x, .int .i64 y] 2)) (.cells #[.slice (some ⟨wr.heap.size, 0, none⟩) 2 2] 22)
        rwa [World.size_alloc] at this
      go_wp2_with fail
      go_region_held3 (fun w' => w'.cell? ⟨g, j, none⟩ = some (.int .i64 x) ∧ w'.cell? ⟨d, q, none⟩ = some (.int .i64 y))
        (first
          | go_keep
          | (go_split_ands
             refine ⟨?_, ?_⟩
             · (rw [hgrow.cell_far _ (by simp; omega) (Ne.symm ag)]; assumption)
             · (rw [hgrow.cell_far _ (by simp; omega) (Ne.symm ad)]; assumption)))
        ((refine step_append_lies _ (by rfl) _ _ _ (by rfl) w.heap.size 22 i0 _ 1 24 Try.underlying36 hi hz0 hz1 hz2 rfl (by omega) u7 k us (by rfl) (((HO.out.alloc _).alloc _).drew)
            ⟨wr.heap.size + 1, 0, none⟩ 1 1 [.slice (some ⟨wr.heap.size, 0, none⟩) 2 2] (by rfl) (by rfl) (World.news_of_block (cs := #[.slice (some ⟨wr.heap.size, 0, none⟩) 2 2]) (t := 22) (fr := (0, 0)) hnb) (by simp [Value.oneCell'])
            (by omega) (by unfold maxLen; omega) (by omega) (by simp; omega) (wr.heap.size + 1 + 1) (by simp) ?_; intro gg cap w1 hown1 hgrow hat hlt2))
      have hp : GridI ((wr.alloc (.cells #[.int .i64 x, .int .i64 y] 2)).alloc (.cells #[.slice (some ⟨wr.heap.size, 0, none⟩) 2 2] 22)).drew w.heap.size u7 us (pairsL xs ys k) := HG.out.below (bDrewN (bAlloc (bAlloc (Below.refl _ _) _) _) 1)
      have hq : Ints ((wr.alloc (.cells #[.int .i64 x, .int .i64 y] 2)).alloc (.cells #[.slice (some ⟨wr.heap.size, 0, none⟩) 2 2] 22)).drew w.heap.size (.slice (some ⟨wr.heap.size, 0, none⟩) 2 2) [x, y] := Ints.below (World.ownsRow_lit wr #[.int .i64 x, .int .i64 y] 2 hbz (by decide) rfl) (bDrewN (bAlloc (Below.refl _ _) _) 1)
      have HG2 := Lib.hid (gridSnocI hp hq (fun i hi => sepOf wr.heap.size (fun q hqq => (GridI.lt HG.out q (.inr ⟨i, hi, hqq⟩)).2) (fun q hqq => by simp [own1, Value.ownBlock] at hqq; omega)) (Chg.ofGrown hgrow) (by rw [HLn.out]; exact hown1))
      have HB' := Lib.hid (Below.grown (Below.drew (bAlloc (bAlloc HB2.out _) _)) hgrow (by simp; omega) (fun j hj => (World.ownsRow.lt HO.out j hj).1))
      clear hp hq hown1 hgrow hat hlt2 hnb
      go_wp2
      go_roundw
      case rel => exact ⟨k + 1, _, by omega, by go_num, Lib.hid (by rw [HS.out]; exact HG2.out), HB'⟩
      case measure => simp [intOf]; omega
    · have : k = N := by omega
      subst this
      go_wp2
      go_ret2
      exact ⟨_, us, rfl, by rw [HQ.out]; exact HG.out, HB2.out⟩

set_option maxHeartbeats 2000000 in
set_option maxRecDepth 100000 in
/-- laws.FnExactJoinLoops, out of contracts. -/
theorem lawJoinLoops_of (A0 : Option Addr) (n0 c0 : Nat) (d0 : List Int) (A1 : Option Addr) (n1 c1 : Nat) (d1 : List Int) (z : Int) (qs : List (List Int)) (w : World) (hp0 : IRow w A0 n0 d0) (hp1 : IRow w A1 n1 d1) (hq : qs.length ≤ 1000) (hqt : totG qs ≤ 100000) (ht0 : n0 ≤ 1048576) (ht1 : n1 ≤ 1048576)
    (hs : ∀ (E0 : Option Addr) (f0 : Nat) (E1 : Option Addr) (f1 : Nat) (u : World), RdI u E0 n0 d0 → RdI u E1 n1 d1 → Calls Try.prog 37 #[.slice E0 n0 f0, .slice E1 n1 f1] u fun e u' => ∃ v us, e = .returned (.tuple #[v, .int .i64 z]) ∧ GridI u' u.heap.size v us qs ∧ Below u.heap.size u u')
    (hi : ∀ (E0 : Option Addr) (f0 : Nat) (E1 : Option Addr) (f1 : Nat) (u : World), RdI u E0 n0 d0 → RdI u E1 n1 d1 → Calls Try.prog 38 #[.slice E0 n0 f0, .slice E1 n1 f1] u fun e u' => ∃ v us, e = .returned (.tuple #[v, .int .i64 z]) ∧ GridI u' u.heap.size v us qs ∧ Below u.heap.size u u')
    : Calls Try.prog 8 #[.slice A0 n0 c0, .slice A1 n1 c1] w fun e w' => e = .returned (.bool true) ∧ Below w.heap.size w w' := by
  have HL0 := Lib.hid hp0.1
  have hm0 := ht0
  have hl0 := Nat.le_of_eq hp0.1
  have HP0 := Lib.hid hp0
  clear hp0
  have HL1 := Lib.hid hp1.1
  have hm1 := ht1
  have hl1 := Nat.le_of_eq hp1.1
  have HP1 := Lib.hid hp1
  clear hp1
  have S := Lib.hid hs
  have I := Lib.hid hi
  clear hs hi
  have B := Lib.hid (Below.refl w.heap.size w)
  go_enter Try.func8, Try.ntmps8
  go_wp2_with fail
  refine (toI A0 n0 c0 d0 _ (HP0.out.below B.out) (by omega)).mono ?_
  rintro e u1 ⟨ET0, fT0, rfl, p1, hb1⟩
  have T0 := Lib.hid (ownsBase p1 (B' := w.heap.size) B.out.size)
  replace B := Lib.hid (bTrans B.out hb1)
  clear p1 hb1
  go_wp2_with fail
  refine (toI A1 n1 c1 d1 _ (HP1.out.below B.out) (by omega)).mono ?_
  rintro e u2 ⟨ET1, fT1, rfl, p2, hb2⟩
  have T1 := Lib.hid (ownsBase p2 (B' := w.heap.size) B.out.size)
  replace T0 := Lib.hid (Ints.below T0.out hb2)
  replace B := Lib.hid (bTrans B.out hb2)
  clear p2 hb2
  go_wp2_with fail
  refine (S.out _ _ _ _ _ (Ints.rdOf T0.out HL0.out (by omega)) (Ints.rdOf T1.out HL1.out (by omega))).mono ?_
  rintro e u3 ⟨vW, usW, rfl, p3, hb3⟩
  obtain ⟨EW, fW, rfl, -⟩ := GridI.rd p3 (by omega) (by omega)
  have W := Lib.hid (GridI.base p3 (B' := w.heap.size) B.out.size)
  replace T0 := Lib.hid (Ints.below T0.out hb3)
  replace T1 := Lib.hid (Ints.below T1.out hb3)
  replace B := Lib.hid (bTrans B.out hb3)
  clear p3 hb3
  clear T0 T1
  go_wp2_with fail
  refine (toI A0 n0 c0 d0 _ (HP0.out.below B.out) (by omega)).mono ?_
  rintro e u4 ⟨EX0, fX0, rfl, p4, hb4⟩
  have SWX0 := Lib.hid (sepOf _ (fun q hq => (GridI.lt W.out q hq).2) (fun q hq => (ownsLt p4 q hq).1))
  have X0 := Lib.hid (ownsBase p4 (B' := w.heap.size) B.out.size)
  replace W := Lib.hid (GridI.below W.out hb4)
  replace B := Lib.hid (bTrans B.out hb4)
  clear p4 hb4
  go_wp2_with fail
  refine (toI A1 n1 c1 d1 _ (HP1.out.below B.out) (by omega)).mono ?_
  rintro e u5 ⟨EX1, fX1, rfl, p5, hb5⟩
  have SWX1 := Lib.hid (sepOf _ (fun q hq => (GridI.lt W.out q hq).2) (fun q hq => (ownsLt p5 q hq).1))
  have SX0X1 := Lib.hid (sepOf _ (fun q hq => (ownsLt X0.out q hq).2) (fun q hq => (ownsLt p5 q hq).1))
  have X1 := Lib.hid (ownsBase p5 (B' := w.heap.size) B.out.size)
  replace W := Lib.hid (GridI.below W.out hb5)
  replace X0 := Lib.hid (Ints.below X0.out hb5)
  replace B := Lib.hid (bTrans B.out hb5)
  clear p5 hb5
  go_wp2_with fail
  refine (I.out _ _ _ _ _ (Ints.rdOf X0.out HL0.out (by omega)) (Ints.rdOf X1.out HL1.out (by omega))).mono ?_
  rintro e u6 ⟨vG, usG, rfl, p6, hb6⟩
  obtain ⟨EG, fG, rfl, -⟩ := GridI.rd p6 (by omega) (by omega)
  have SWG := Lib.hid (sepOf _ (fun q hq => (GridI.lt W.out q hq).2) (fun q hq => (GridI.lt p6 q hq).1))
  have SX0G := Lib.hid (sepOf _ (fun q hq => (ownsLt X0.out q hq).2) (fun q hq => (GridI.lt p6 q hq).1))
  have SX1G := Lib.hid (sepOf _ (fun q hq => (ownsLt X1.out q hq).2) (fun q hq => (GridI.lt p6 q hq).1))
  have G := Lib.hid (GridI.base p6 (B' := w.heap.size) B.out.size)
  replace W := Lib.hid (GridI.below W.out hb6)
  replace X0 := Lib.hid (Ints.below X0.out hb6)
  replace X1 := Lib.hid (Ints.below X1.out hb6)
  replace B := Lib.hid (bTrans B.out hb6)
  clear p6 hb6
  go_wp2_with fail
  refine (eqInt64SS_same EG EW qs.length fG fW qs _ (GridI.rdOf G.out rfl (by omega) (by omega)) (GridI.rdOf W.out rfl (by omega) (by omega))).mono ?_
  rintro e u7 ⟨rfl, hb7⟩
  replace W := Lib.hid (GridI.below W.out hb7)
  replace X0 := Lib.hid (Ints.below X0.out hb7)
  replace X1 := Lib.hid (Ints.below X1.out hb7)
  replace G := Lib.hid (GridI.below G.out hb7)
  replace B := Lib.hid (bTrans B.out hb7)
  clear hb7
  go_wp2_with fail
  refine (toI A0 n0 c0 d0 _ (HP0.out.below B.out) (by omega)).mono ?_
  rintro e u8 ⟨EY0, fY0, rfl, p8, hb8⟩
  have Y0 := Lib.hid (ownsBase p8 (B' := w.heap.size) B.out.size)
  replace W := Lib.hid (GridI.below W.out hb8)
  replace X0 := Lib.hid (Ints.below X0.out hb8)
  replace X1 := Lib.hid (Ints.below X1.out hb8)
  replace G := Lib.hid (GridI.below G.out hb8)
  replace B := Lib.hid (bTrans B.out hb8)
  clear p8 hb8
  go_wp2_with fail
  refine (eqInt64S_rdB EX0 EY0 n0 fX0 fY0 d0 _ (Ints.rdOf X0.out HL0.out (by omega)) (Ints.rdOf Y0.out HL0.out (by omega))).mono ?_
  rintro e u9 ⟨rfl, hb9⟩
  replace W := Lib.hid (GridI.below W.out hb9)
  replace X0 := Lib.hid (Ints.below X0.out hb9)
  replace X1 := Lib.hid (Ints.below X1.out hb9)
  replace G := Lib.hid (GridI.below G.out hb9)
  replace Y0 := Lib.hid (Ints.below Y0.out hb9)
  replace B := Lib.hid (bTrans B.out hb9)
  clear hb9
  clear Y0
  go_wp2_with fail
  refine (toI A1 n1 c1 d1 _ (HP1.out.below B.out) (by omega)).mono ?_
  rintro e u10 ⟨EY1, fY1, rfl, p10, hb10⟩
  have Y1 := Lib.hid (ownsBase p10 (B' := w.heap.size) B.out.size)
  replace W := Lib.hid (GridI.below W.out hb10)
  replace X0 := Lib.hid (Ints.below X0.out hb10)
  replace X1 := Lib.hid (Ints.below X1.out hb10)
  replace G := Lib.hid (GridI.below G.out hb10)
  replace B := Lib.hid (bTrans B.out hb10)
  clear p10 hb10
  go_wp2_with fail
  refine (eqInt64S_rdB EX1 EY1 n1 fX1 fY1 d1 _ (Ints.rdOf X1.out HL1.out (by omega)) (Ints.rdOf Y1.out HL1.out (by omega))).mono ?_
  rintro e u11 ⟨rfl, hb11⟩
  replace W := Lib.hid (GridI.below W.out hb11)
  replace X0 := Lib.hid (Ints.below X0.out hb11)
  replace X1 := Lib.hid (Ints.below X1.out hb11)
  replace G := Lib.hid (GridI.below G.out hb11)
  replace Y1 := Lib.hid (Ints.below Y1.out hb11)
  replace B := Lib.hid (bTrans B.out hb11)
  clear hb11
  clear Y1
  go_wp2_with fail
  refine (markZ_any _ _ _ _ _ X0.out (by omega) (by omega) (by omega)).mono ?_
  rintro e u12 ⟨rfl, p12, g12⟩
  replace W := Lib.hid (GridI.chg W.out (Chg.ofGrown g12) SWX0.out)
  replace X1 := Lib.hid (ownsChg X1.out (Chg.ofGrown g12) SX0X1.out.symm)
  replace G := Lib.hid (GridI.chg G.out (Chg.ofGrown g12) SX0G.out.symm)
  replace B := Lib.hid (belowChg B.out (Chg.ofGrown g12) (fun q hq => (ownsLt X0.out q hq).1))
  clear p12 g12
  clear X0
  go_wp2_with fail
  refine (markZ_any _ _ _ _ _ X1.out (by omega) (by omega) (by omega)).mono ?_
  rintro e u13 ⟨rfl, p13, g13⟩
  replace W := Lib.hid (GridI.chg W.out (Chg.ofGrown g13) SWX1.out)
  replace G := Lib.hid (GridI.chg G.out (Chg.ofGrown g13) SX1G.out.symm)
  replace B := Lib.hid (belowChg B.out (Chg.ofGrown g13) (fun q hq => (ownsLt X1.out q hq).1))
  clear p13 g13
  clear X1
  go_wp2_with fail
  refine (eqInt64SS_same EG EW qs.length fG fW qs _ (GridI.rdOf G.out rfl (by omega) (by omega)) (GridI.rdOf W.out rfl (by omega) (by omega))).mono ?_
  rintro e u14 ⟨rfl, hb14⟩
  replace W := Lib.hid (GridI.below W.out hb14)
  replace G := Lib.hid (GridI.below G.out hb14)
  replace B := Lib.hid (bTrans B.out hb14)
  clear hb14
  go_wp2_with fail
  refine (markZZ_any _ _ _ _ _ _ G.out (by omega) (by omega) (by omega) (by omega)).mono ?_
  rintro e u15 ⟨rfl, p15, g15⟩
  replace W := Lib.hid (GridI.chg W.out g15 SWG.out)
  replace B := Lib.hid (belowChg B.out g15 (fun q hq => (GridI.lt G.out q hq).1))
  replace G := Lib.hid p15
  clear p15 g15
  go_wp2_with fail
  refine (heldZZ_any _ EG qs.length fG qs _ (GridI.rdOf G.out (marksG_length _ _) (by omega) (by rw [marksG_tot]; omega)) (by omega) (by omega) (by omega)).mono ?_
  rintro e u ⟨rfl, rfl⟩
  go_wp2_with fail
  refine (toI A0 n0 c0 d0 _ (HP0.out.below B.out) (by omega)).mono ?_
  rintro e u16 ⟨EZ0, fZ0, rfl, p16, hb16⟩
  have Z0 := Lib.hid (ownsBase p16 (B' := w.heap.size) B.out.size)
  replace W := Lib.hid (GridI.below W.out hb16)
  replace G := Lib.hid (GridI.below G.out hb16)
  replace B := Lib.hid (bTrans B.out hb16)
  clear p16 hb16
  go_wp2_with fail
  refine (toI A1 n1 c1 d1 _ (HP1.out.below B.out) (by omega)).mono ?_
  rintro e u17 ⟨EZ1, fZ1, rfl, p17, hb17⟩
  have Z1 := Lib.hid (ownsBase p17 (B' := w.heap.size) B.out.size)
  replace W := Lib.hid (GridI.below W.out hb17)
  replace G := Lib.hid (GridI.below G.out hb17)
  replace Z0 := Lib.hid (Ints.below Z0.out hb17)
  replace B := Lib.hid (bTrans B.out hb17)
  clear p17 hb17
  go_wp2_with fail
  refine (I.out _ _ _ _ _ (Ints.rdOf Z0.out HL0.out (by omega)) (Ints.rdOf Z1.out HL1.out (by omega))).mono ?_
  rintro e u18 ⟨vH, usH, rfl, p18, hb18⟩
  obtain ⟨EH, fH, rfl, -⟩ := GridI.rd p18 (by omega) (by omega)
  have H := Lib.hid (GridI.base p18 (B' := w.heap.size) B.out.size)
  replace W := Lib.hid (GridI.below W.out hb18)
  replace G := Lib.hid (GridI.below G.out hb18)
  replace Z0 := Lib.hid (Ints.below Z0.out hb18)
  replace Z1 := Lib.hid (Ints.below Z1.out hb18)
  replace B := Lib.hid (bTrans B.out hb18)
  clear p18 hb18
  clear Z0 Z1
  go_wp2_with fail
  refine (eqInt64SS_same EH EW qs.length fH fW qs _ (GridI.rdOf H.out rfl (by omega) (by omega)) (GridI.rdOf W.out rfl (by omega) (by omega))).mono ?_
  rintro e u19 ⟨rfl, hb19⟩
  replace W := Lib.hid (GridI.below W.out hb19)
  replace G := Lib.hid (GridI.below G.out hb19)
  replace H := Lib.hid (GridI.below H.out hb19)
  replace B := Lib.hid (bTrans B.out hb19)
  clear hb19
  go_wp2_with fail
  refine (heldZZ_any _ EG qs.length fG qs _ (GridI.rdOf G.out (marksG_length _ _) (by omega) (by rw [marksG_tot]; omega)) (by omega) (by omega) (by omega)).mono ?_
  rintro e u ⟨rfl, rfl⟩
  go_wp2_with fail
  go_ret
  exact ⟨rfl, B.out⟩

set_option maxRecDepth 100000 in
/-- laws.FnExactJoinLoops, of what is too large to be looked at. -/
theorem lawJoinLoops_big (A0 : Option Addr) (n0 c0 : Nat) (d0 : List Int) (A1 : Option Addr) (n1 c1 : Nat) (d1 : List Int) (w : World) (hp0 : IRow w A0 n0 d0) (hp1 : IRow w A1 n1 d1) (ht : ¬ (n0 ≤ 1048576 ∧ n1 ≤ 1048576)) :
    Calls Try.prog 8 #[.slice A0 n0 c0, .slice A1 n1 c1] w fun e w' => e = .returned (.bool true) ∧ Below w.heap.size w w' := by
  have hm0 := hp0.2.1
  have hm1 := hp1.2.1
  unfold maxLen at hm0 hm1
  clear hp0
  clear hp1
  by_cases h1 : n0 ≤ 1048576
  · have h2 : ¬ n1 ≤ 1048576 := fun h => ht ⟨h1, h⟩
    clear ht
    go_enter Try.func8, Try.ntmps8
    go_wp2
    go_ret
    exact ⟨rfl, Below.refl _ _⟩
  · clear ht
    go_enter Try.func8, Try.ntmps8
    go_wp2
    go_ret
    exact ⟨rfl, Below.refl _ _⟩


/-- laws.FnExactJoinLoops. -/
theorem law_JoinLoops (A0 : Option Addr) (n0 c0 : Nat) (d0 : List Int) (A1 : Option Addr) (n1 c1 : Nat) (d1 : List Int) (w : World) (hp0 : IRow w A0 n0 d0) (hp1 : IRow w A1 n1 d1) :
    Calls Try.prog 8 #[.slice A0 n0 c0, .slice A1 n1 c1] w fun e w' => e = .returned (.bool true) ∧ Below w.heap.size w w' := by
  by_cases ht : n0 ≤ 1048576 ∧ n1 ≤ 1048576
  · cases hz : loopB d0 && loopB d1
    · exact lawJoinLoops_of A0 n0 c0 d0 A1 n1 c1 d1 1 [] w hp0 hp1 (by simp) (by simp [totG]) ht.1 ht.2 (fun E f E' f' u h h' => specJoin_bad E E' n0 f n1 f' d0 d1 u h h' hz) (fun E f E' f' u h h' => implJoin_bad E E' n0 f n1 f' d0 d1 u h h' hz)
    · have hz2 := hz
      simp only [Bool.and_eq_true] at hz2
      obtain ⟨hx, hy⟩ := hz2
      by_cases hm : n0 / Nat.gcd n0 n1 * n1 ≤ 360
      · exact lawJoinLoops_of A0 n0 c0 d0 A1 n1 c1 d1 0 (pairsL d0 d1 (n0 / Nat.gcd n0 n1 * n1)) w hp0 hp1 (by rw [pairsL_length]; omega) (by rw [totG_pairs]; omega) ht.1 ht.2 (fun E f E' f' u h h' => specJoin_ok E E' n0 f n1 f' d0 d1 _ u h h' hx hy hm rfl) (fun E f E' f' u h h' => implJoin_ok E E' n0 f n1 f' d0 d1 _ u h h' hz hm rfl)
      · exact lawJoinLoops_of A0 n0 c0 d0 A1 n1 c1 d1 5 [] w hp0 hp1 (by simp) (by simp [totG]) ht.1 ht.2 (fun E f E' f' u h h' => specJoin_full E E' n0 f n1 f' d0 d1 u h h' hx hy hm) (fun E f E' f' u h h' => implJoin_full E E' n0 f n1 f' d0 d1 u h h' hz hm)
  · exact lawJoinLoops_big A0 n0 c0 d0 A1 n1 c1 d1 w hp0 hp1 ht

end Go.Proofs.Ytfbdeeobmjndlaa
