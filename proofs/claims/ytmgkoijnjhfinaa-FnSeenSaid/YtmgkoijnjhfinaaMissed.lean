/- The pictures that are missed: in the program and in the model; and the statement's own walk. -/
import Derived.Test.YtmgkoijnjhfinaaProg
import Derived.Test.YtmgkoijnjhfinaaOrderLaw
import Derived.Deep.LoopGhost
import Derived.WalkMore
import Derived.Laws.AppendOwn
import Derived.Laws.OwnMore
import Derived.OwnWalk
import Derived.Tactics
import Derived.Tactics2
import Derived.WalkKit
import Derived.LoopTactic
import Derived.BigQuiet
import Derived.RegionTactic
import Derived.Deep.QuietTactic
import Derived.Outline
import Derived.Lib.Hide
import Derived.Below
import Derived.KernelRfl
namespace Go.Proofs.Ytmgkoijnjhfinaa
set_option linter.unusedSimpArgs false
set_option linter.unusedVariables false
open Go.RowKit

/-- A number is in a list. -/
def hasI (zs : List Int) (x : Int) : Bool := zs.any fun z => decide (z = x)
theorem hasI_take_succ (zs : List Int) (x : Int) (k : Nat) (h : k < zs.length) : hasI (zs.take (k + 1)) x = (hasI (zs.take k) x || decide (zs.getD k 0 = x)) := by
  unfold hasI
  rw [List.take_add_one, List.getElem?_eq_getElem h, List.any_append, List.getD_eq_getElem?_getD, List.getElem?_eq_getElem h]
  simp
theorem hasI_of_get (zs : List Int) (x : Int) (k : Nat) (h : k < zs.length) (e : zs.getD k 0 = x) : hasI zs x = true := by
  unfold hasI
  rw [List.any_eq_true]
  refine ⟨zs[k], List.getElem_mem h, ?_⟩
  rw [List.getD_eq_getElem?_getD, List.getElem?_eq_getElem h] at e
  simpa using e

/-- spec.l00Has. -/
theorem l00Has_any (B : Nat) (v : Value) (zs : List Int) (x : Int) (w : World) (hv : Ints w B v zs) :
    Calls Try.prog 74 #[v, .int .i64 x] w fun e w' => e = .returned (.bool (hasI zs x)) ∧ w = w' := by
  rcases hv.view with ⟨rfl, rfl⟩ | ⟨g, cap, rfl, hB, hg, hm, hc, hf⟩
  · clear hv
    go_enter Try.func74, Try.ntmps74
    go_wp2
    refine wp_loop_rounds 1 ?_
    rw [rounds_succ]
    go_wp2
    go_ret
    exact ⟨rfl, rfl⟩
  · have HC := Lib.hid hc
    clear hv hf hc
    unfold maxLen at hm
    go_enter Try.func74, Try.ntmps74
    go_wp2
    go_loop [5] (fun i => ∃ k : Nat, k ≤ zs.length ∧ i = .int .i64 k ∧ Hid (hasI (zs.take k) x = false)) (fun i => zs.length - (intOf i).toNat)
    case atStart => exact ⟨0, Nat.zero_le _, rfl, Lib.hid (by simp [hasI])⟩
    case round =>
      obtain ⟨k, hk, rfl, HK⟩ := hrel
      by_cases hlt : k < zs.length
      · have c1 := HC.out k hlt
        have hs := Lib.hid (hasI_take_succ zs x k hlt)
        have ht := Lib.hid (hasI_of_get zs x k hlt)
        generalize zs.getD k 0 = z at *
        by_cases hz : z = x
        · have HT := Lib.hid (ht.out hz)
          have hzb : (z == x) = true := by simpa using hz
          go_wp2
          go_ret
          exact ⟨ret_bool HT.out.symm, rfl⟩
        · have hzb : (z == x) = false := by simpa using hz
          have HS : Hid (hasI (zs.take (k + 1)) x = false) := Lib.hid (by rw [hs.out, HK.out, decide_eq_false hz]; rfl)
          go_wp2
          go_round
          case rel => exact ⟨k + 1, by omega, by go_num, HS⟩
          case measure => simp [intOf]; omega
      · have : k = zs.length := by omega
        subst this
        have HT : Hid (hasI zs x = false) := Lib.hid (by have := HK.out; rwa [List.take_length] at this)
        go_wp2
        go_ret
        exact ⟨ret_bool HT.out.symm, rfl⟩

/-- The numbers from 0 on that a list lacks. -/
def missTo (zs : List Int) (k : Nat) : List Int := ((List.range k).map fun j : Nat => (j : Int)).filter fun x => !hasI zs x
theorem missTo_has (zs : List Int) (k : Nat) (h : hasI zs k = true) : missTo zs (k + 1) = missTo zs k := by
  unfold missTo
  rw [List.range_succ, List.map_append, List.filter_append]
  simp [h]
theorem missTo_lacks (zs : List Int) (k : Nat) (h : hasI zs k = false) : missTo zs (k + 1) = missTo zs k ++ [(k : Int)] := by
  unfold missTo
  rw [List.range_succ, List.map_append, List.filter_append]
  simp [h]
theorem missTo_length (zs : List Int) (k : Nat) : (missTo zs k).length ≤ k := by
  unfold missTo
  refine Nat.le_trans (List.length_filter_le _ _) ?_
  simp

theorem specMissed_no (p s : Int) (w : World) (h : discB p s = false) :
    Calls Try.prog 44 #[.int .i64 p, .int .i64 s] w fun e w' => ∃ v, e = .returned (.tuple #[v, .int .i64 2]) ∧ Ints w' w.heap.size v [] ∧ Below w.heap.size w w' := by
  go_enter Try.func44, Try.ntmps44
  go_wp2_with fail
  refine (l03Code_no _ _ _ h).mono ?_
  rintro e u ⟨rfl, rfl⟩
  go_wp2_with fail
  go_ret2
  exact ⟨_, rfl, ints_nil _ _, Below.refl _ _⟩

theorem implMissed_no (p s : Int) (w : World) (h : discB p s = false) :
    Calls Try.prog 18 #[.int .i64 p, .int .i64 s] w fun e w' => ∃ v, e = .returned (.tuple #[v, .int .i64 2]) ∧ Ints w' w.heap.size v [] ∧ Below w.heap.size w w' := by
  go_enter Try.func18, Try.ntmps18
  go_wp2_with fail
  go_step3
  go_wp2_with fail
  refine (isDisc_any _ _ _).mono ?_
  rintro e u ⟨rfl, rfl⟩
  go_wp2_with fail
  first | rw [Exit.noGoto_ret] | skip
  go_ret2
  exact ⟨_, rfl, ints_nil _ _, Below.refl _ _⟩

set_option maxHeartbeats 1000000 in
theorem specMissed_yes (p n : Nat) (w : World) (h : discB p n = true) :
    Calls Try.prog 44 #[.int .i64 p, .int .i64 n] w fun e w' => ∃ v, e = .returned (.tuple #[v, .int .i64 0]) ∧ Ints w' w.heap.size v (missTo (orderTo p n n) p) ∧ Below w.heap.size w w' := by
  obtain ⟨p1, p2, s1, s2⟩ := discB_bd h
  obtain ⟨i0, hi, hz0, hz1, hz2⟩ := info_parts infoInt
  have O := Lib.hid (fun w => l03Order_any p n w h)
  generalize orderTo p n n = os at *
  go_enter Try.func44, Try.ntmps44
  go_wp2_with fail
  refine (l03Code_yes _ _ _ h).mono ?_
  rintro e u ⟨rfl, rfl⟩
  go_wp2_with fail
  refine (O.out _).mono ?_
  rintro e u1 ⟨vo, rfl, io, hb1⟩
  have IO := Lib.hid io
  have HB1 := Lib.hid hb1
  have hz1' := hb1.size
  clear io hb1
  go_wp2
  go_loopw [9, 8] (fun i v wr => ∃ k : Nat, k ≤ p ∧ i = .int .i64 k ∧ Hid (wr.ownsRow u1.heap.size 2 1 v (missTo os k).length ((missTo os k).map (Value.int .i64))) ∧ Hid (Below u1.heap.size u1 wr)) (fun i _ _ => p - (intOf i).toNat)
  case atStart => exact ⟨0, Nat.zero_le _, rfl, Lib.hid (World.ownsRow_lit u1 #[] 0 (Nat.le_refl _) (Nat.zero_le _) rfl), Lib.hid (bAlloc (Below.refl _ _) _)⟩
  case round =>
    obtain ⟨k, hk, rfl, HO, HB⟩ := hrel
    have hml := missTo_length os k
    by_cases hlt : k < p
    · have hbz := HB.out.size
      have J : Hid (Ints wr w.heap.size vo os) := Lib.hid (IO.out.below HB.out)
      cases hh : hasI os k
      · have HM := Lib.hid (missTo_lacks os k hh)
        go_wp2_with (first | (go_at_call 74; refine (l00Has_any _ vo os k _ J.out).mono ?_; rintro e u ⟨rfl, rfl⟩) | (at_builtin; refine wpList_append_own _ rfl _ _ 26 rfl u1.heap.size 2 i0 (.int .i64 0) 1 8 Try.underlying26 hi hz0 hz1 hz2 rfl (by decide) _ _ _ rfl (HO.out.alloc _) ⟨wr.heap.size, 0, none⟩ 1 1 [.int .i64 (k : Int)] rfl rfl (one_new _ _ _) (ints_oneCell .i64 [(k : Int)]) (by unfold maxLen; omega) (by omega) (by simp; omega) ?_; intro v' w1 hown' hgrow hnil))
        have HO' := Lib.hid hown'
        have HB' := Lib.hid (Below.grown (bAlloc HB.out _) hgrow (by simp; omega) (fun j hj => (World.ownsRow.lt HO.out j hj).1))
        clear hown' hgrow hnil
        go_wp2
        go_roundw
        case rel => exact ⟨k + 1, by omega, by go_num, Lib.hid (by rw [HM.out, List.map_append, List.length_append]; exact HO'.out), HB'⟩
        case measure => simp [intOf]; omega
      · have HM := Lib.hid (missTo_has os k hh)
        go_wp2_with (go_at_call 74; refine (l00Has_any _ vo os k _ J.out).mono ?_; rintro e u ⟨rfl, rfl⟩)
        go_roundw
        case rel => exact ⟨k + 1, by omega, by go_num, Lib.hid (by rw [HM.out]; exact HO.out), HB⟩
        case measure => simp [intOf]; omega
    · have : k = p := by omega
      subst this
      go_wp2
      go_ret2
      refine ⟨_, rfl, ⟨HO.out.1, HO.out.2.imp id (fun ⟨a, b, c, d, e, f⟩ => ⟨a, b, c, d, Nat.le_trans hz1' e, f⟩)⟩, HB1.out.trans (HB.out.mono hz1')⟩

set_option maxHeartbeats 2000000 in
theorem implMissed_yes (p n : Nat) (w : World) (h : discB p n = true) :
    Calls Try.prog 18 #[.int .i64 p, .int .i64 n] w fun e w' => ∃ v, e = .returned (.tuple #[v, .int .i64 0]) ∧ Ints w' w.heap.size v (missTo (orderTo p n n) p) ∧ Below w.heap.size w w' := by
  obtain ⟨p1, p2, s1, s2⟩ := discB_bd h
  obtain ⟨i0, hi, hz0, hz1, hz2⟩ := info_parts infoInt
  have O := Lib.hid (fun w => seenOrder_any p n w h)
  have hol := orderTo_length p n n
  generalize orderTo p n n = os at *
  go_enter Try.func18, Try.ntmps18
  go_wp2_with fail
  go_step3
  go_wp2_with fail
  refine (isDisc_any _ _ _).mono ?_
  rintro e u ⟨rfl, rfl⟩
  go_wp2_with fail
  refine (O.out _).mono ?_
  rintro e u1 ⟨vo, rfl, io, hb1⟩
  have HB1 := Lib.hid hb1
  have hz1' := hb1.size
  have hV := io.view
  clear io hb1
  rcases hV with ⟨_, h0⟩ | ⟨d, cap, rfl, _, hd, _, hc, _⟩
  · subst h0
    simp at hol
    omega
  have HC := Lib.hid hc
  clear hc
  rw [hol] at HC ⊢
  go_wp2
  go_step3
  go_wp2
  go_loopg [19, 6] p (fun gg i v wr => ∃ k : Nat, k + gg = p ∧ i = .int .i64 k ∧ Hid (wr.ownsRow u1.heap.size 2 1 v (missTo os k).length ((missTo os k).map (Value.int .i64))) ∧ Hid (Below u1.heap.size u1 wr))
  case atStart => exact ⟨0, by omega, rfl, Lib.hid (World.ownsRow_nil _ _ _ _), Lib.hid (Below.refl _ _)⟩
  case round =>
    obtain ⟨k, hkg, rfl, HO, HB⟩ := hrel
    have hml := missTo_length os k
    have hbz := HB.out.size
    cases gk with
    | zero =>
      have hkz : ¬ ((k : Int) < (p : Int)) := by omega
      have : k = p := by omega
      subst this
      go_wp2
      first | rw [Exit.noGoto_ret] | skip
      go_ret2
      exact ⟨_, rfl, ⟨HO.out.1, HO.out.2.imp id (fun ⟨a, b, c, d, e, f⟩ => ⟨a, b, c, d, Nat.le_trans hz1' e, f⟩)⟩, HB1.out.trans (HB.out.mono hz1')⟩
    | succ g =>
      have hkz : (k : Int) < (p : Int) := by omega
      go_wp2
      go_loopg [24] n (fun g2 j wy => ∃ q : Nat, q + g2 = n ∧ j = .int .i64 q ∧ Hid (hasI (os.take q) k = false) ∧ wr = wy)
      case atStart => exact ⟨0, by omega, rfl, Lib.hid (by simp [hasI]), rfl⟩
      case round =>
        obtain ⟨q, hqg, rfl, HQ, rfl⟩ := hrel
        cases gk with
        | zero =>
          have hqz : ¬ ((q : Int) < (n : Int)) := by omega
          have HM := Lib.hid (missTo_lacks os k (by have := HQ.out; rwa [List.take_of_length_le (by omega)] at this))
          go_wp2_with (first | (at_builtin; refine wpList_append_own _ rfl _ _ 26 rfl u1.heap.size 2 i0 (.int .i64 0) 1 8 Try.underlying26 hi hz0 hz1 hz2 rfl (by decide) _ _ _ rfl (HO.out.alloc _) ⟨wr.heap.size, 0, none⟩ 1 1 [.int .i64 (k : Int)] rfl rfl (one_new _ _ _) (ints_oneCell .i64 [(k : Int)]) (by unfold maxLen; omega) (by omega) (by simp; omega) ?_; intro v' w1 hown' hgrow hnil))
          go_roundg g
          case measure => omega
          case rel => exact ⟨k + 1, by omega, by go_num, Lib.hid (by rw [HM.out, List.map_append, List.length_append]; exact hown'), Lib.hid (Below.grown (bAlloc HB.out _) hgrow (by simp; omega) (fun j hj => (World.ownsRow.lt HO.out j hj).1))⟩
        | succ g2 =>
          have hqz : (q : Int) < (n : Int) := by omega
          have hlt : q < os.length := by omega
          have c1 : wr.cell? ⟨d, q, none⟩ = some (.int .i64 (os.getD q 0)) := (HB.out.cell (by exact hd)).trans (HC.out q (by omega))
          have hs := Lib.hid (hasI_take_succ os k q hlt)
          have ht := Lib.hid (hasI_of_get os k q hlt)
          generalize os.getD q 0 = z at *
          by_cases hz : z = (k : Int)
          · have HT := Lib.hid (missTo_has os k (ht.out hz))
            have hzb : (z == (k : Int)) = true := by simpa using hz
            go_wp2
            go_roundg g
            case measure => omega
            case rel => exact ⟨k + 1, by omega, by go_num, Lib.hid (by rw [HT.out]; exact HO.out), HB⟩
          · have hzb : (z == (k : Int)) = false := by simpa using hz
            have HS : Hid (hasI (os.take (q + 1)) k = false) := Lib.hid (by rw [hs.out, HQ.out, decide_eq_false hz]; rfl)
            go_wp2
            go_roundg g2
            case measure => omega
            case rel => exact ⟨q + 1, by omega, by go_num, HS, rfl⟩

set_option maxRecDepth 20000 in
theorem lawMissedPictures_of (a0 a1 z : Int) (zs : List Int) (w : World) (hl : zs.length ≤ 1000)
    (hs : ∀ w : World, Calls Try.prog 44 #[.int .i64 a0, .int .i64 a1] w fun e w' => ∃ v, e = .returned (.tuple #[v, .int .i64 z]) ∧ Ints w' w.heap.size v zs ∧ Below w.heap.size w w')
    (hi : ∀ w : World, Calls Try.prog 18 #[.int .i64 a0, .int .i64 a1] w fun e w' => ∃ v, e = .returned (.tuple #[v, .int .i64 z]) ∧ Ints w' w.heap.size v zs ∧ Below w.heap.size w w') :
    Calls Try.prog 11 #[.int .i64 a0, .int .i64 a1] w fun e w' => e = .returned (.bool true) ∧ Below w.heap.size w w' := by
  have S := Lib.hid hs
  have I := Lib.hid hi
  clear hs hi
  go_enter Try.func11, Try.ntmps11
  go_wp2_with fail
  refine (S.out _).mono ?_
  rintro e u1 ⟨v1, rfl, i1, hb1⟩
  have L1 := hb1
  have I1 := Lib.hid i1
  clear i1
  go_wp2_with fail
  refine (I.out _).mono ?_
  rintro e u2 ⟨v2, rfl, i2, hb2⟩
  have J1 := Lib.hid (I1.out.below hb2)
  have I2 := Lib.hid i2
  have L2 : Below w.heap.size w u2 := bTrans L1 hb2
  clear i2
  go_wp2_with fail
  refine (eqInt64S_same _ _ v2 v1 zs _ I2.out J1.out).mono ?_
  rintro e u ⟨rfl, n, rfl⟩
  go_wp2_with fail
  refine (mark1 _ v2 zs _ (I2.out.drewN n) (by omega)).mono ?_
  rintro e u4 ⟨rfl, m4, g4⟩
  have L4 : Below w.heap.size w u4 := Below.grown (bDrewN L2 n) g4 (bDrewN L2 n).size (fun k hk => by have := (World.ownsRow.lt I2.out k hk).1; have := L1.size; omega)
  have K1 : Hid (Ints u4 w.heap.size v1 zs) := Lib.hid (World.ownsRow.kept (J1.out.drewN n) g4 (by
    cases h1 : v1.ownBlock with
    | none => exact .inl rfl
    | some k =>
      refine .inr (fun e => ?_)
      have q1 := (World.ownsRow.lt I1.out k h1).2
      have q2 := (World.ownsRow.lt I2.out k e.symm).1
      omega))
  have M4 := Lib.hid m4
  clear m4 g4
  go_wp2_with fail
  refine (held1 _ zs.length v2 _ M4.out (by omega)).mono ?_
  rintro e u ⟨rfl, rfl⟩
  go_wp2_with fail
  refine (I.out _).mono ?_
  rintro e u6 ⟨v3, rfl, i6, hb6⟩
  have N1 := Lib.hid (K1.out.below hb6)
  have N2 := Lib.hid (M4.out.below hb6)
  have I6 := Lib.hid i6
  clear i6
  go_wp2_with fail
  refine (eqInt64S_same _ _ v3 v1 zs _ I6.out N1.out).mono ?_
  rintro e u ⟨rfl, n2, rfl⟩
  go_wp2_with fail
  refine (held1 _ zs.length v2 _ (N2.out.drewN n2) (by omega)).mono ?_
  rintro e u ⟨rfl, rfl⟩
  go_wp2_with fail
  go_ret
  exact ⟨rfl, bDrewN (bTrans L4 hb6) n2⟩


/-- laws.FnExactMissedPictures. -/
theorem law_MissedPictures (p s : Int) (w : World) (_hp : I64 p) (_hs : I64 s) :
    Calls Try.prog 11 #[.int .i64 p, .int .i64 s] w fun e w' => e = .returned (.bool true) ∧ Below w.heap.size w w' := by
  cases h : discB p s
  · exact lawMissedPictures_of p s 2 [] w (by simp) (fun w => specMissed_no p s w h) (fun w => implMissed_no p s w h)
  · obtain ⟨p1, p2, s1, s2⟩ := discB_bd h
    obtain ⟨n, rfl⟩ := Int.eq_ofNat_of_zero_le (show 0 ≤ s by omega)
    obtain ⟨m, rfl⟩ := Int.eq_ofNat_of_zero_le (show 0 ≤ p by omega)
    have hl := missTo_length (orderTo m n n) m
    exact lawMissedPictures_of m n 0 _ w (by omega) (fun w => specMissed_yes m n w h) (fun w => implMissed_yes m n w h)

end Go.Proofs.Ytmgkoijnjhfinaa
