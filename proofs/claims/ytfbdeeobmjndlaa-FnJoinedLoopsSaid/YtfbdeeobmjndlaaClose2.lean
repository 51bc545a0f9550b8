/- Loops that are closed: the model, and the statement. -/
import Derived.Test.YtfbdeeobmjndlaaProg
import Derived.Test.YtfbdeeobmjndlaaLoopMath
import Derived.Test.YtfbdeeobmjndlaaInts
import Derived.Test.YtfbdeeobmjndlaaLoop
import Derived.Test.YtfbdeeobmjndlaaLoop2
import Derived.Test.YtfbdeeobmjndlaaLoop3
import Derived.Test.YtfbdeeobmjndlaaIGrids
import Derived.Test.YtfbdeeobmjndlaaClose
import Derived.Deep.AppendLies
import Derived.Deep.DrawnRows
import Derived.Test.YtfbdeeobmjndlaaHold
import Derived.IntWalk
import Derived.WalkSpells
import Derived.OwnWalk
import Derived.Laws.AppendOwn
import Derived.Laws.OwnMore
import Derived.Deep.RegionWith
import Derived.Deep.DrawnRows
import Derived.Deep.RegionHeld3
import Derived.Tactics
import Derived.Tactics2
import Derived.WalkKit
import Derived.LoopTactic
import Derived.BigQuiet
import Derived.RegionTactic
import Derived.Deep.QuietTactic
import Derived.Outline
import Derived.Lib.Hide
import Derived.Below
import Derived.KernelRfl
namespace Go.Proofs.Ytfbdeeobmjndlaa
set_option linter.unusedSimpArgs false
set_option linter.unusedVariables false
open Go.RowKit

/-- spec.l00Max and spec.l00Min. -/
theorem l00Max_any (a b : Int) (w : World) :
    Calls Try.prog 118 #[.int .i64 a, .int .i64 b] w fun e w' => e = .returned (.int .i64 (max a b)) ∧ w = w' := by
  by_cases h : a > b
  · have h' : b < a := h
    go_enter Try.func118, Try.ntmps118
    go_wp2
    go_ret
    exact ⟨ret_int (by omega), rfl⟩
  · have h' : ¬ b < a := h
    go_enter Try.func118, Try.ntmps118
    go_wp2
    go_ret
    exact ⟨ret_int (by omega), rfl⟩
theorem l00Min_any (a b : Int) (w : World) :
    Calls Try.prog 119 #[.int .i64 a, .int .i64 b] w fun e w' => e = .returned (.int .i64 (min a b)) ∧ w = w' := by
  by_cases h : a < b
  · go_enter Try.func119, Try.ntmps119
    go_wp2
    go_ret
    exact ⟨ret_int (by omega), rfl⟩
  · go_enter Try.func119, Try.ntmps119
    go_wp2
    go_ret
    exact ⟨ret_int (by omega), rfl⟩

/-- spec.CloseLoop. -/
theorem specClose_bad (A : Option Addr) (n c : Nat) (zs : List Int) (d : Int) (w : World) (hv : RdI w A n zs) (hz : loopB zs = false) :
    Calls Try.prog 33 #[.slice A n c, .int .i64 d] w fun e w' => ∃ v, e = .returned (.tuple #[v, .int .i64 1]) ∧ Ints w' w.heap.size v [] ∧ Below w.heap.size w w' := by
  have HV := Lib.hid hv
  clear hv
  go_enter Try.func33, Try.ntmps33
  go_wp2_with fail
  refine (l05Ok_any A n c zs _ HV.out).mono ?_
  rintro e u ⟨rfl, rfl⟩
  rw [hz]
  go_wp2
  go_ret2
  exact ⟨_, rfl, World.ownsRow_nil _ _ _ _, Below.refl _ _⟩
theorem specClose_range (A : Option Addr) (n c : Nat) (zs : List Int) (d : Int) (w : World) (hv : RdI w A n zs) (hz : loopB zs = true) (hd : inB d 1 n = false) :
    Calls Try.prog 33 #[.slice A n c, .int .i64 d] w fun e w' => ∃ v, e = .returned (.tuple #[v, .int .i64 2]) ∧ Ints w' w.heap.size v [] ∧ Below w.heap.size w w' := by
  have HV := Lib.hid hv
  clear hv
  go_enter Try.func33, Try.ntmps33
  go_wp2_with fail
  refine (l05Ok_any A n c zs _ HV.out).mono ?_
  rintro e u ⟨rfl, rfl⟩
  rw [hz]
  go_wp2_with fail
  refine (l00In_any _ _ _ _).mono ?_
  rintro e u ⟨rfl, rfl⟩
  rw [hd]
  go_wp2
  go_ret2
  exact ⟨_, rfl, World.ownsRow_nil _ _ _ _, Below.refl _ _⟩

set_option maxHeartbeats 2000000 in
set_option maxRecDepth 100000 in
theorem specClose_ok (A : Option Addr) (n c : Nat) (zs : List Int) (o : Nat) (w : World) (hv : RdI w A n zs) (hz : loopB zs = true) (o1 : 1 ≤ o) (o2 : o ≤ n) :
    Calls Try.prog 33 #[.slice A n c, .int .i64 o] w fun e w' => ∃ v, e = .returned (.tuple #[v, .int .i64 0]) ∧ Ints w' w.heap.size v (closeL zs o) ∧ Below w.heap.size w w' := by
  obtain ⟨i0, hi, hz0, hz1, hz2⟩ := info_parts infoI64
  have hl := loopB_len hz
  have hln := hv.1
  rw [hv.1] at hl
  have HV := Lib.hid hv
  have HV2 := Lib.hid hv.2.2
  have hd : inB (o : Int) 1 n = true := inB_iff.2 ⟨by omega, by omega⟩
  have HB0 := Lib.hid (fun j => loopB_get hz j)
  have HCL := Lib.hid (show (closeL zs o).length = n by unfold closeL; rw [genL_length, hln])
  have HE := Lib.hid (show genL (closeI zs o) n = closeL zs o by unfold closeL; rw [hln])
  have HS := Lib.hid (genL_succ (closeI zs o))
  have HC := Lib.hid (fun k : Nat => show closeI zs o k = min 1000 (max 0 (zs.getD k 0 + near ((zs.getD 0 0 - zs.getD (n - 1) 0) * max 0 ((k : Int) - ((n : Int) - (o : Int)) + 1)) ((o : Int) + 1))) by unfold closeI; rw [hln])
  have g0 := loopB_get hz 0
  have g1 := loopB_get hz (n - 1)
  clear hv
  generalize closeI zs o = f at *
  generalize closeL zs o = qs at *
  go_enter Try.func33, Try.ntmps33
  go_wp2_with fail
  refine (l05Ok_any A n c zs _ HV.out).mono ?_
  rintro e u ⟨rfl, rfl⟩
  rw [hz]
  go_wp2_with fail
  refine (l00In_any _ _ _ _).mono ?_
  rintro e u ⟨rfl, rfl⟩
  rw [hd]
  rcases HV2.out with h0 | ⟨g, rfl, hg, h3⟩
  · omega
  have x0 := h3 0 (by omega)
  have x1 := h3 (n - 1) (by omega)
  have H3 := Lib.hid h3
  have wn : IntKind.i64.wrap ((n : Int) - 1) = (n : Int) - 1 := IntWalk.i64_in _ (by omega)
  have hcast : (n : Int) - 1 = ((n - 1 : Nat) : Int) := by omega
  have y0 : (0 : Int) ≤ (n : Int) - 1 := by omega
  have y1 : (n : Int) - 1 < n := by omega
  have y2 : (0 : Int) < n := by omega
  have wg : IntKind.i64.wrap (zs.getD 0 0 - zs.getD (n - 1) 0) = zs.getD 0 0 - zs.getD (n - 1) 0 := IntWalk.i64_in _ (by omega)
  have hgb : -1000 ≤ zs.getD 0 0 - zs.getD (n - 1) 0 ∧ zs.getD 0 0 - zs.getD (n - 1) 0 ≤ 1000 := by omega
  clear h3
  generalize zs.getD 0 0 = z0 at *
  generalize zs.getD (n - 1) 0 = z1 at *
  go_wp2
  go_quiet (fail)
  clear x0 x1 wg g0 g1 wn hcast y0 y1 y2
  generalize z0 - z1 = gap at *
  go_wp2
  go_loopw [9, 8] (fun i v wr => ∃ k : Nat, k ≤ n ∧ i = .int .i64 k ∧ Hid (wr.ownsRow w.heap.size 2 1 v k ((genL f k).map (Value.int .i64))) ∧ Hid (Below w.heap.size w wr)) (fun i _ _ => n - (intOf i).toNat)
  case atStart => exact ⟨0, Nat.zero_le _, rfl, Lib.hid (World.ownsRow_lit _ #[] 0 (Nat.le_refl _) (Nat.zero_le _) rfl), Lib.hid (bAlloc (bDrewN (Below.refl _ _) _) _)⟩
  case round =>
    obtain ⟨k, hk, rfl, HO, HB⟩ := hrel
    by_cases hlt : k < n
    · have c0 := (HB.out.cell (p := ⟨g, k, none⟩) hg).trans (H3.out k hlt)
      have HS1 := Lib.hid (HS.out k)
      have HC1 := Lib.hid (HC.out k)
      have bz := HB0.out k
      have hgk := gap_bd (g := gap) (k := max 0 ((k : Int) - ((n : Int) - (o : Int)) + 1)) hgb.1 hgb.2 (by omega) (by omega)
      have hng := near_gap (x := gap * max 0 ((k : Int) - ((n : Int) - (o : Int)) + 1)) (d := (o : Int) + 1) (by omega) (by omega) hgk.1 hgk.2
      have wno : IntKind.i64.wrap ((n : Int) - o) = (n : Int) - o := IntWalk.i64_in _ (by omega)
      have wnj : IntKind.i64.wrap ((k : Int) - ((n : Int) - o)) = (k : Int) - ((n : Int) - o) := IntWalk.i64_in _ (by omega)
      have wnk : IntKind.i64.wrap ((k : Int) - ((n : Int) - o) + 1) = (k : Int) - ((n : Int) - o) + 1 := IntWalk.i64_in _ (by omega)
      have wo : IntKind.i64.wrap ((o : Int) + 1) = (o : Int) + 1 := IntWalk.i64_in _ (by omega)
      have MX := Lib.hid (fun u : World => l00Max_any 0 ((k : Int) - ((n : Int) - (o : Int)) + 1) u)
      generalize max 0 ((k : Int) - ((n : Int) - (o : Int)) + 1) = km at *
      generalize zs.getD k 0 = z at *
      have RO := Lib.hid (fun u : World => l00Round_any (gap * km) ((o : Int) + 1) u (by omega) (by omega) (by omega) (by omega))
      have wm : IntKind.i64.wrap (gap * km) = gap * km := IntWalk.i64_in _ (by omega)
      have wz : IntKind.i64.wrap (z + near (gap * km) ((o : Int) + 1)) = z + near (gap * km) ((o : Int) + 1) := IntWalk.i64_in _ (by omega)
      generalize near (gap * km) ((o : Int) + 1) = r at *
      generalize hmk : gap * km = gk at *
      have MA := Lib.hid (fun u : World => l00Max_any 0 (z + r) u)
      have MI := Lib.hid (fun u : World => l00Min_any 1000 (max 0 (z + r)) u)
      have hbz := HB.out.size
      have ag : u8.ownBlock ≠ some g := fun e => by
        have := (World.ownsRow.lt HO.out g e).1
        omega
      have lg : g < wr.heap.size := by omega
      have HF := Lib.hid (show f k = min 1000 (max 0 (z + r)) from HC1.out)
      clear HC1
      go_wp2_with fail
      refine (MX.out _).mono ?_
      rintro e u ⟨rfl, rfl⟩
      clear wno wnj wnk hgk hng bz MX
      go_wp2_with fail
      go_region_held3 (fun w' => w'.cell? ⟨g, k, none⟩ = some (.int .i64 z))
        (first
          | go_keep
          | (rw [hgrow.cell_far _ (by simp; omega) (Ne.symm ag)]; assumption))
        (first
          | (go_at_call 120; refine (RO.out _).mono ?_; rintro e u ⟨rfl, rfl⟩)
          | (go_at_call 118; refine (MA.out _).mono ?_; rintro e u ⟨rfl, rfl⟩)
          | (go_at_call 119; refine (MI.out _).mono ?_; rintro e u ⟨rfl, rfl⟩)
          | (refine step_append_lies _ (by rfl) _ _ _ (by rfl) w.heap.size 2 i0 _ 1 8 Try.underlying22 hi hz0 hz1 hz2 rfl (by omega) u8 k _ (by rfl) ((HO.out.alloc _).drew) ⟨wr.heap.size, 0, none⟩ 1 1 [.int .i64 (min 1000 (max 0 (z + r)))] (by rfl) (by rfl) (World.news_of_block (cs := #[.int .i64 (min 1000 (max 0 (z + r)))]) (t := 2) (fr := (0, 0)) (heap_alloc_new wr _)) (by simp [Value.oneCell']) (by omega) (by unfold maxLen; omega) (by omega) (by simp; omega) (wr.heap.size + 1) (by simp) ?_; intro gg cap w1 hown1 hgrow hat hlt2))
      have HO' := Lib.hid hown1
      have HB' := Lib.hid (Below.grown (Below.drew (bAlloc HB.out _)) hgrow (by simp; omega) (fun j hj => (World.ownsRow.lt HO.out j hj).1))
      clear hown1 hgrow hat hlt2
      go_wp2
      go_roundw
      case rel => exact ⟨k + 1, by omega, by go_num, Lib.hid (by rw [HS1.out, HF.out, List.map_append]; exact HO'.out), HB'⟩
      case measure => simp [intOf]; omega
    · have : k = n := by omega
      subst this
      have h1 := HO.out
      rw [HE.out] at h1
      have H1 := Lib.hid h1
      clear h1
      go_wp2
      go_ret2
      refine ⟨_, rfl, ?_, HB.out⟩
      unfold Ints
      rw [HCL.out]
      exact H1.out

set_option maxHeartbeats 2000000 in
set_option maxRecDepth 100000 in
/-- laws.FnExactCloseLoop, out of contracts. -/
theorem lawCloseLoop_of (A0 : Option Addr) (n0 c0 : Nat) (d0 : List Int) (a1 : Int) (z : Int) (qs : List Int) (w : World) (hp0 : IRow w A0 n0 d0) (hq : qs.length ≤ 1000) (ht0 : n0 ≤ 1048576)
    (hs : ∀ (E0 : Option Addr) (f0 : Nat) (u : World), RdI u E0 n0 d0 → Calls Try.prog 33 #[.slice E0 n0 f0, .int .i64 a1] u fun e u' => ∃ v, e = .returned (.tuple #[v, .int .i64 z]) ∧ Ints u' u.heap.size v qs ∧ Below u.heap.size u u')
    (hi : ∀ (E0 : Option Addr) (f0 : Nat) (u : World), RdI u E0 n0 d0 → Calls Try.prog 34 #[.slice E0 n0 f0, .int .i64 a1] u fun e u' => ∃ v, e = .returned (.tuple #[v, .int .i64 z]) ∧ Ints u' u.heap.size v qs ∧ Below u.heap.size u u')
    : Calls Try.prog 6 #[.slice A0 n0 c0, .int .i64 a1] w fun e w' => e = .returned (.bool true) ∧ Below w.heap.size w w' := by
  have HL0 := Lib.hid hp0.1
  have hm0 := ht0
  have hl0 := Nat.le_of_eq hp0.1
  have HP0 := Lib.hid hp0
  clear hp0
  have S := Lib.hid hs
  have I := Lib.hid hi
  clear hs hi
  have B := Lib.hid (Below.refl w.heap.size w)
  go_enter Try.func6, Try.ntmps6
  go_wp2_with fail
  refine (toI A0 n0 c0 d0 _ (HP0.out.below B.out) (by omega)).mono ?_
  rintro e u1 ⟨ET0, fT0, rfl, p1, hb1⟩
  have T0 := Lib.hid (ownsBase p1 (B' := w.heap.size) B.out.size)
  replace B := Lib.hid (bTrans B.out hb1)
  clear p1 hb1
  go_wp2_with fail
  refine (S.out _ _ _ (Ints.rdOf T0.out HL0.out (by omega))).mono ?_
  rintro e u2 ⟨vW, rfl, p2, hb2⟩
  have W := Lib.hid (ownsBase p2 (B' := w.heap.size) B.out.size)
  replace T0 := Lib.hid (Ints.below T0.out hb2)
  replace B := Lib.hid (bTrans B.out hb2)
  clear p2 hb2
  clear T0
  go_wp2_with fail
  refine (toI A0 n0 c0 d0 _ (HP0.out.below B.out) (by omega)).mono ?_
  rintro e u3 ⟨EX0, fX0, rfl, p3, hb3⟩
  have SWX0 := Lib.hid (sepOf _ (fun q hq => (ownsLt W.out q hq).2) (fun q hq => (ownsLt p3 q hq).1))
  have X0 := Lib.hid (ownsBase p3 (B' := w.heap.size) B.out.size)
  replace W := Lib.hid (Ints.below W.out hb3)
  replace B := Lib.hid (bTrans B.out hb3)
  clear p3 hb3
  go_wp2_with fail
  refine (I.out _ _ _ (Ints.rdOf X0.out HL0.out (by omega))).mono ?_
  rintro e u4 ⟨vG, rfl, p4, hb4⟩
  have SWG := Lib.hid (sepOf _ (fun q hq => (ownsLt W.out q hq).2) (fun q hq => (ownsLt p4 q hq).1))
  have SX0G := Lib.hid (sepOf _ (fun q hq => (ownsLt X0.out q hq).2) (fun q hq => (ownsLt p4 q hq).1))
  have G := Lib.hid (ownsBase p4 (B' := w.heap.size) B.out.size)
  replace W := Lib.hid (Ints.below W.out hb4)
  replace X0 := Lib.hid (Ints.below X0.out hb4)
  replace B := Lib.hid (bTrans B.out hb4)
  clear p4 hb4
  go_wp2_with fail
  refine (eqI_same _ _ vG vW qs _ G.out W.out).mono ?_
  rintro e u5 ⟨rfl, hb5⟩
  replace W := Lib.hid (Ints.below W.out hb5)
  replace X0 := Lib.hid (Ints.below X0.out hb5)
  replace G := Lib.hid (Ints.below G.out hb5)
  replace B := Lib.hid (bTrans B.out hb5)
  clear hb5
  go_wp2_with fail
  refine (toI A0 n0 c0 d0 _ (HP0.out.below B.out) (by omega)).mono ?_
  rintro e u6 ⟨EY0, fY0, rfl, p6, hb6⟩
  have Y0 := Lib.hid (ownsBase p6 (B' := w.heap.size) B.out.size)
  replace W := Lib.hid (Ints.below W.out hb6)
  replace X0 := Lib.hid (Ints.below X0.out hb6)
  replace G := Lib.hid (Ints.below G.out hb6)
  replace B := Lib.hid (bTrans B.out hb6)
  clear p6 hb6
  go_wp2_with fail
  refine (eqInt64S_rdB EX0 EY0 n0 fX0 fY0 d0 _ (Ints.rdOf X0.out HL0.out (by omega)) (Ints.rdOf Y0.out HL0.out (by omega))).mono ?_
  rintro e u7 ⟨rfl, hb7⟩
  replace W := Lib.hid (Ints.below W.out hb7)
  replace X0 := Lib.hid (Ints.below X0.out hb7)
  replace G := Lib.hid (Ints.below G.out hb7)
  replace Y0 := Lib.hid (Ints.below Y0.out hb7)
  replace B := Lib.hid (bTrans B.out hb7)
  clear hb7
  clear Y0
  go_wp2_with fail
  refine (markZ_any _ _ _ _ _ X0.out (by omega) (by omega) (by omega)).mono ?_
  rintro e u8 ⟨rfl, p8, g8⟩
  replace W := Lib.hid (ownsChg W.out (Chg.ofGrown g8) SWX0.out)
  replace G := Lib.hid (ownsChg G.out (Chg.ofGrown g8) SX0G.out.symm)
  replace B := Lib.hid (belowChg B.out (Chg.ofGrown g8) (fun q hq => (ownsLt X0.out q hq).1))
  clear p8 g8
  clear X0
  go_wp2_with fail
  refine (eqI_same _ _ vG vW qs _ G.out W.out).mono ?_
  rintro e u9 ⟨rfl, hb9⟩
  replace W := Lib.hid (Ints.below W.out hb9)
  replace G := Lib.hid (Ints.below G.out hb9)
  replace B := Lib.hid (bTrans B.out hb9)
  clear hb9
  go_wp2_with fail
  refine (mark1 _ _ _ _ G.out (by omega)).mono ?_
  rintro e u10 ⟨rfl, p10, g10⟩
  replace W := Lib.hid (ownsChg W.out (Chg.ofGrown g10) SWG.out)
  replace B := Lib.hid (belowChg B.out (Chg.ofGrown g10) (fun q hq => (ownsLt G.out q hq).1))
  replace G := Lib.hid p10
  clear p10 g10
  go_wp2_with fail
  refine (held1 _ qs.length vG _ G.out (by omega)).mono ?_
  rintro e u ⟨rfl, rfl⟩
  go_wp2_with fail
  refine (toI A0 n0 c0 d0 _ (HP0.out.below B.out) (by omega)).mono ?_
  rintro e u11 ⟨EZ0, fZ0, rfl, p11, hb11⟩
  have Z0 := Lib.hid (ownsBase p11 (B' := w.heap.size) B.out.size)
  replace W := Lib.hid (Ints.below W.out hb11)
  replace G := Lib.hid (Ints.below G.out hb11)
  replace B := Lib.hid (bTrans B.out hb11)
  clear p11 hb11
  go_wp2_with fail
  refine (I.out _ _ _ (Ints.rdOf Z0.out HL0.out (by omega))).mono ?_
  rintro e u12 ⟨vH, rfl, p12, hb12⟩
  have H := Lib.hid (ownsBase p12 (B' := w.heap.size) B.out.size)
  replace W := Lib.hid (Ints.below W.out hb12)
  replace G := Lib.hid (Ints.below G.out hb12)
  replace Z0 := Lib.hid (Ints.below Z0.out hb12)
  replace B := Lib.hid (bTrans B.out hb12)
  clear p12 hb12
  clear Z0
  go_wp2_with fail
  refine (eqI_same _ _ vH vW qs _ H.out W.out).mono ?_
  rintro e u13 ⟨rfl, hb13⟩
  replace W := Lib.hid (Ints.below W.out hb13)
  replace G := Lib.hid (Ints.below G.out hb13)
  replace H := Lib.hid (Ints.below H.out hb13)
  replace B := Lib.hid (bTrans B.out hb13)
  clear hb13
  go_wp2_with fail
  refine (held1 _ qs.length vG _ G.out (by omega)).mono ?_
  rintro e u ⟨rfl, rfl⟩
  go_wp2_with fail
  go_ret
  exact ⟨rfl, B.out⟩

set_option maxRecDepth 100000 in
/-- laws.FnExactCloseLoop, of what is too large to be looked at. -/
theorem lawCloseLoop_big (A0 : Option Addr) (n0 c0 : Nat) (d0 : List Int) (a1 : Int) (w : World) (hp0 : IRow w A0 n0 d0) (ht : ¬ (n0 ≤ 1048576)) :
    Calls Try.prog 6 #[.slice A0 n0 c0, .int .i64 a1] w fun e w' => e = .returned (.bool true) ∧ Below w.heap.size w w' := by
  have hm0 := hp0.2.1
  unfold maxLen at hm0
  clear hp0
  go_enter Try.func6, Try.ntmps6
  go_wp2
  go_ret
  exact ⟨rfl, Below.refl _ _⟩


/-- laws.FnExactCloseLoop. -/
theorem law_CloseLoop (A0 : Option Addr) (n0 c0 : Nat) (d0 : List Int) (a1 : Int) (w : World) (hp0 : IRow w A0 n0 d0) (_h1 : I64 a1) :
    Calls Try.prog 6 #[.slice A0 n0 c0, .int .i64 a1] w fun e w' => e = .returned (.bool true) ∧ Below w.heap.size w w' := by
  by_cases ht : n0 ≤ 1048576
  · cases hz : loopB d0
    · exact lawCloseLoop_of A0 n0 c0 d0 a1 1 [] w hp0 (by simp) ht (fun E f u h => specClose_bad E n0 f d0 a1 u h hz) (fun E f u h => implClose_bad E n0 f d0 a1 u h hz)
    · have hl := loopB_len hz
      cases hd : inB a1 1 n0
      · exact lawCloseLoop_of A0 n0 c0 d0 a1 2 [] w hp0 (by simp) ht (fun E f u h => specClose_range E n0 f d0 a1 u h hz hd) (fun E f u h => implClose_range E n0 f d0 a1 u h hz hd)
      · have d1 := inB_iff.1 hd
        obtain ⟨d, rfl⟩ := Int.eq_ofNat_of_zero_le (show 0 ≤ a1 by omega)
        exact lawCloseLoop_of A0 n0 c0 d0 d 0 (closeL d0 d) w hp0 (by unfold closeL; rw [genL_length]; omega) ht (fun E f u h => specClose_ok E n0 f d0 d u h hz (by omega) (by omega)) (fun E f u h => implClose_ok E n0 f d0 d u h hz (by omega) (by omega))
  · exact lawCloseLoop_big A0 n0 c0 d0 a1 w hp0 ht

end Go.Proofs.Ytfbdeeobmjndlaa
