/- A pose seen from the other side: the program and the model. -/
import Derived.Test.YtibafngidpmgdaaProg
import Derived.Test.YtibafngidpmgdaaBetween
import Derived.OwnWalk
import Derived.Deep.RegionWith
import Derived.Deep.DrawnRows
import Derived.Deep.RegionHeld3
import Derived.Deep.AppendLies
import Derived.Tactics
import Derived.Tactics2
import Derived.WalkKit
import Derived.WalkSpells
import Derived.StillTactics
import Derived.Laws.Pointers
import Derived.LoopTactic
import Derived.BigQuiet
import Derived.RegionTactic
import Derived.Deep.QuietTactic
import Derived.Deep.RegionLaw
import Derived.IntWalk
import Derived.Outline
import Derived.Lib.Hide
import Derived.Below
import Derived.KernelRfl
namespace Go.Proofs.Ytibafngidpmgdaa
set_option linter.unusedSimpArgs false
set_option linter.unusedVariables false
open Go.RowKit

/-- A pose seen from the other side. -/
def mirL (ps : List Pt) (W : Int) (k : Nat) : List Pt := (List.range k).map fun i => (W - (ps.getD i (0, 0)).1, (ps.getD i (0, 0)).2)
theorem mirL_length (ps : List Pt) (W : Int) (k : Nat) : (mirL ps W k).length = k := by simp [mirL]
theorem mirL_succ (ps : List Pt) (W : Int) (k : Nat) : mirL ps W (k + 1) = mirL ps W k ++ [(W - (ps.getD k (0, 0)).1, (ps.getD k (0, 0)).2)] := by
  unfold mirL
  rw [List.range_succ, List.map_append]
  rfl
theorem mirL_get (ps : List Pt) (W : Int) (k i : Nat) (h : i < k) : (mirL ps W k).getD i (0, 0) = (W - (ps.getD i (0, 0)).1, (ps.getD i (0, 0)).2) := by
  unfold mirL
  rw [List.getD_eq_getElem?_getD, List.getElem?_map, List.getElem?_range h]
  rfl

/-- No joint lies behind the width. -/
def fitB (ps : List Pt) (W : Int) : Bool := (List.range ps.length).all fun i => decide ((ps.getD i (0, 0)).1 ≤ W)
theorem fitB_get {ps : List Pt} {W : Int} (h : fitB ps W = true) (i : Nat) (hi : i < ps.length) : (ps.getD i (0, 0)).1 ≤ W := by
  have := List.all_eq_true.1 h i (List.mem_range.2 hi)
  simpa using this
theorem fitB_no {ps : List Pt} {W : Int} (i : Nat) (hi : i < ps.length) (h : W < (ps.getD i (0, 0)).1) : fitB ps W = false := by
  rw [fitB, List.all_eq_false]
  exact ⟨i, List.mem_range.2 hi, by simpa using h⟩
theorem fitB_yes {ps : List Pt} {W : Int} (h : ∀ i, i < ps.length → (ps.getD i (0, 0)).1 ≤ W) : fitB ps W = true := by
  rw [fitB, List.all_eq_true]
  intro i hi
  simpa using h i (List.mem_range.1 hi)

/-- The closure that asks whether a joint lies behind the width. -/
theorem mirror1_any (x y W : Int) (b : Nat) (w : World) (hb : w.cell? ⟨b, 0, none⟩ = some (.int .i64 W)) (hlt : b < w.heap.size) :
    Calls Try.prog 87 #[fr x y, .pointer (some ⟨b, 0, none⟩)] w fun e w' => e = .returned (.bool (decide (W < x))) ∧ Below w.heap.size w w' := by
  by_cases h : W < x
  · rw [decide_eq_true h]
    go_enter Try.func87, Try.ntmps87
    go_wp2
    go_ret
    exact ⟨rfl, bAlloc (Below.refl _ _) _⟩
  · rw [decide_eq_false h]
    go_enter Try.func87, Try.ntmps87
    go_wp2
    go_ret
    exact ⟨rfl, bAlloc (Below.refl _ _) _⟩

/-- The closure that mirrors a joint. -/
theorem mirror2_any (x y W : Int) (b : Nat) (w : World) (hb : w.cell? ⟨b, 0, none⟩ = some (.int .i64 W)) (hlt : b < w.heap.size) (x0 : 0 ≤ x) (x1 : x ≤ W) (w1 : W ≤ 1000) :
    Calls Try.prog 89 #[fr x y, .pointer (some ⟨b, 0, none⟩)] w fun e w' => e = .returned (fr (W - x) y) ∧ Below w.heap.size w w' := by
  go_enter Try.func89, Try.ntmps89
  go_wp2
  refine bodyPost_ret (v := fr (W - x) y) (by simp [results, Try.results89, go_sem]) rfl ⟨rfl, ?_⟩
  repeat (first | exact Below.refl _ _ | refine bAlloc ?_ _)

/-- The answer of a search for a joint behind the width. -/
def FoundR (w : World) (found : Bool) (e : Ending) (w' : World) : Prop := ∃ z : Int, e = .returned (.int .i64 z) ∧ -1 ≤ z ∧ z ≤ 1048576 ∧ decide (0 ≤ z) = found ∧ Below w.heap.size w w'

set_option maxHeartbeats 1000000 in
set_option maxRecDepth 100000 in
/-- slices.IndexFunc over points, with the closure that asks for the width. -/
theorem indexFunc_any (A : Option Addr) (n c b : Nat) (ps : List Pt) (W : Int) (w : World) (hv : Rd w A n ps) (hb : w.cell? ⟨b, 0, none⟩ = some (.int .i64 W)) (hlt : b < w.heap.size) :
    Calls Try.prog 141 #[.slice A n c, .func (.func 87) #[] #[.pointer (some ⟨b, 0, none⟩)]] w (FoundR w (!fitB ps W)) := by
  have hn := hv.2.1
  have HL := Lib.hid hv.1
  have HV := Lib.hid hv
  have HX := Lib.hid hb
  clear hv hb
  go_enter Try.func141, Try.ntmps141
  go_wp2
  go_loopw [8] (fun i wr => ∃ k : Nat, k ≤ n ∧ i = .int .i64 k ∧ Hid (∀ j, j < k → (ps.getD j (0, 0)).1 ≤ W) ∧ Hid (Below w.heap.size w wr)) (fun i _ => n - (intOf i).toNat)
  case atStart => exact ⟨0, Nat.zero_le _, rfl, Lib.hid (fun j hj => by omega), Lib.hid (Below.refl _ _)⟩
  case round =>
    obtain ⟨k, hk, rfl, HP, HB⟩ := hrel
    by_cases hkn : k < n
    · obtain ⟨_, _, h3⟩ := HV.out.below HB.out
      rcases h3 with h0 | ⟨g, rfl, hg, h3⟩
      · omega
      obtain ⟨c0, c1⟩ := h3 k hkn
      have hb := (HB.out.cell (p := ⟨b, 0, none⟩) hlt).trans HX.out
      have hltr : b < wr.heap.size := Nat.lt_of_lt_of_le hlt HB.out.size
      have C := Lib.hid (mirror1_any (ps.getD k (0, 0)).1 (ps.getD k (0, 0)).2 W b wr hb hltr)
      clear h3 hb
      by_cases hgt : W < (ps.getD k (0, 0)).1
      · have HF := Lib.hid (fitB_no k (by rw [HL.out]; exact hkn) hgt)
        rw [decide_eq_true hgt] at C
        clear hgt
        generalize (ps.getD k (0, 0)).1 = x at *
        generalize (ps.getD k (0, 0)).2 = y at *
        go_wp2_with fail
        refine C.out.mono ?_
        rintro e u ⟨rfl, hb3⟩
        go_wp2
        go_ret
        exact ⟨_, rfl, by omega, by omega, by rw [HF.out, decide_eq_true (by omega)]; rfl, bTrans HB.out hb3⟩
      · have HF := Lib.hid (show (ps.getD k (0, 0)).1 ≤ W by omega)
        rw [decide_eq_false hgt] at C
        clear hgt
        generalize hx : (ps.getD k (0, 0)).1 = x at *
        have HXX := Lib.hid hx
        clear hx
        generalize (ps.getD k (0, 0)).2 = y at *
        go_wp2_with fail
        refine C.out.mono ?_
        rintro e u ⟨rfl, hb3⟩
        have HB3 := Lib.hid (bTrans HB.out hb3)
        clear hb3
        go_wp2
        go_roundw
        case rel => exact ⟨k + 1, by omega, by go_num, Lib.hid (fun j hj => by
          by_cases hjk : j < k
          · exact HP.out j hjk
          · have : j = k := by omega
            subst this
            rw [HXX.out]
            exact HF.out), HB3⟩
        case measure => simp [intOf]; omega
    · have : k = n := by omega
      subst this
      have HF := Lib.hid (fitB_yes (ps := ps) (W := W) (by rw [HL.out]; exact HP.out))
      go_wp2
      go_ret
      exact ⟨-1, rfl, by omega, by omega, by rw [HF.out, decide_eq_false (by omega)]; rfl, HB.out⟩

/-- slices.ContainsFunc over points, with the closure that asks for the width. -/
theorem containsFunc_any (A : Option Addr) (n c b : Nat) (ps : List Pt) (W : Int) (w : World) (hv : Rd w A n ps) (hb : w.cell? ⟨b, 0, none⟩ = some (.int .i64 W)) (hlt : b < w.heap.size) :
    Calls Try.prog 86 #[.slice A n c, .func (.func 87) #[] #[.pointer (some ⟨b, 0, none⟩)]] w fun e w' => e = .returned (.bool (!fitB ps W)) ∧ Below w.heap.size w w' := by
  have I := Lib.hid (indexFunc_any A n c b ps W w hv hb hlt)
  clear hv hb
  go_enter Try.func86, Try.ntmps86
  go_wp2_with fail
  refine I.out.mono ?_
  rintro e u ⟨z, rfl, z0, z1, hz, hb⟩
  have HZ := Lib.hid hz
  clear hz I
  go_wp2
  go_ret
  exact ⟨ret_bool HZ.out, hb⟩

set_option maxHeartbeats 1000000 in
set_option maxRecDepth 100000 in
/-- impl.changed over points, with the closure that mirrors. -/
theorem changed_any (A : Option Addr) (n c b : Nat) (ps : List Pt) (W : Int) (w : World) (hv : Rd w A n ps) (hp : poseB ps = true) (hf : fitB ps W = true) (hW : W ≤ 1000) (hb : w.cell? ⟨b, 0, none⟩ = some (.int .i64 W)) (hlt : b < w.heap.size) :
    Calls Try.prog 88 #[.slice A n c, .func (.func 89) #[] #[.pointer (some ⟨b, 0, none⟩)]] w fun e w' => ∃ v, e = .returned v ∧ Pts w' w.heap.size v (mirL ps W n) ∧ Below w.heap.size w w' := by
  obtain ⟨i0, hi, hz0, hz1, hz2⟩ := info_parts infoPt
  have hn := hv.2.1
  have hby : i0.bytes * n ≤ 281474976710656 := by rw [hz2]; omega
  have HL := Lib.hid hv.1
  have HV := Lib.hid hv
  have HX := Lib.hid hb
  have HP := Lib.hid (poseB_get hp)
  have HF := Lib.hid (fitB_get hf)
  clear hv hb hp hf
  go_enter Try.func88, Try.ntmps88
  go_wp2_with (first | (at_make; refine wpList_make_full _ rfl _ _ 24 rfl w.heap.size 57 i0 (fr 0 0) 2 Try.underlying24 hi hz0 hz1 .i64 .i64 (n : Int) (n : Int) n rfl rfl rfl rfl hby (by unfold maxLen; omega) (Nat.le_refl _) ?_; intro w1 hown1 hgrow1) | fail)
  have HO1 := Lib.hid hown1
  have HB1 := Lib.hid (Below.grown (Below.refl _ w) hgrow1 (Nat.le_refl _) (fun k hk => by cases hk))
  have hg1 : w.heap.size < w1.heap.size := (World.ownsRow.lt hown1 _ rfl).2
  clear hown1 hgrow1
  go_wp2
  go_loopw [13] (fun i wr => ∃ k : Nat, k ≤ n ∧ i = .int .i64 k ∧ Hid (wr.ownsRow w.heap.size 57 2 (.slice (some ⟨w.heap.size, 0, none⟩) n n) n (flat ((mirL ps W n).take k ++ (List.replicate n (0, 0)).drop k))) ∧ Hid (Below w.heap.size w wr)) (fun i _ => n - (intOf i).toNat)
  case atStart =>
    refine ⟨0, Nat.zero_le _, rfl, Lib.hid ?_, HB1⟩
    have h1 := HO1.out
    rw [made_flat] at h1
    simpa using h1
  case round =>
    obtain ⟨k, hk, rfl, HO, HB⟩ := hrel
    by_cases hkn : k < n
    · obtain ⟨_, _, h3⟩ := HV.out.below HB.out
      rcases h3 with h0 | ⟨g, rfl, hg, h3⟩
      · omega
      obtain ⟨c0, c1⟩ := h3 k hkn
      have hb := (HB.out.cell (p := ⟨b, 0, none⟩) hlt).trans HX.out
      have hltr : b < wr.heap.size := Nat.lt_of_lt_of_le hlt HB.out.size
      have q1 := HP.out k (by rw [HL.out]; exact hkn)
      have q2 := HF.out k (by rw [HL.out]; exact hkn)
      have hbz := HB.out.size
      have C := Lib.hid (fun u hb1 hb2 => mirror2_any (ps.getD k (0, 0)).1 (ps.getD k (0, 0)).2 W b u hb1 hb2 q1.1 q2 hW)
      have HS := Lib.hid (put_step (mirL ps W n) k n (by rw [mirL_length]; exact hkn) (mirL_length _ _ _))
      rw [mirL_get ps W n k hkn] at HS
      have HXW := Lib.hid hb
      clear h3 q1 q2 hb
      generalize (ps.getD k (0, 0)).1 = x at *
      generalize (ps.getD k (0, 0)).2 = y at *
      go_wp2_with fail
      refine (C.out _ ((World.cell?_alloc_lt wr _ _ (by exact hltr)).trans HXW.out) (by simp; omega)).mono ?_
      rintro e u ⟨rfl, hb3⟩
      have HB3 := Lib.hid (bTrans (bAlloc HB.out _) hb3)
      have hbz3 := hb3.size
      have HO3 := ownsB (World.ownsRow.alloc HO.out _) hb3
      clear hb3
      obtain ⟨S1, S2⟩ := World.ownsRow.stored HO3 (k * 2) (.int .i64 (W - x))
      obtain ⟨S3, S4⟩ := World.ownsRow.stored S1 (k * 2 + 1) (.int .i64 y)
      have e2 := flat_set ((mirL ps W n).take k ++ (List.replicate n ((0, 0) : Pt)).drop k) k (W - x, y)
      rw [HS.out] at e2
      simp only at e2
      rw [e2] at S3
      have hf0 : u.frozen? ⟨w.heap.size, k * 2, none⟩ = false := World.ownsRow.frozenAt HO3 _
      have hf1 : u.frozen? ⟨w.heap.size, k * 2 + 1, none⟩ = false := World.ownsRow.frozenAt HO3 _
      have hc0 : ∃ z, u.cell? ⟨w.heap.size, k * 2, none⟩ = some z := by
        rw [World.ownsRow.cellAt HO3 (k * 2) (by omega)]
        exact ⟨_, List.getElem?_eq_getElem (by rw [HO3.1]; omega)⟩
      have hc1 : ∃ z, u.cell? ⟨w.heap.size, k * 2 + 1, none⟩ = some z := by
        rw [World.ownsRow.cellAt HO3 (k * 2 + 1) (by omega)]
        exact ⟨_, List.getElem?_eq_getElem (by rw [HO3.1]; omega)⟩
      obtain ⟨z0, hc0⟩ := hc0
      obtain ⟨z1, hc1⟩ := hc1
      have H3 := Lib.hid S3
      have hsz : w.heap.size ≤ u.heap.size := by simp at hbz3; omega
      have H4 := Lib.hid (Below.grown (Below.grown HB3.out S2 hsz (fun j hj => by injection hj; omega)) S4 (Nat.le_trans hsz S2.size) (fun j hj => by injection hj; omega))
      clear S1 S2 S3 S4 e2 HO3
      go_wp2
      go_roundw
      case rel => exact ⟨k + 1, by omega, by go_num, Lib.hid H3.out, Lib.hid H4.out⟩
      case measure => simp [intOf]; omega
    · have : k = n := by omega
      subst this
      have h1 := HO.out
      rw [show ((mirL ps W k).take k ++ (List.replicate k ((0, 0) : Pt)).drop k) = mirL ps W k by rw [List.drop_of_length_le (by simp), List.append_nil, List.take_of_length_le (by rw [mirL_length]; exact Nat.le_refl _)]] at h1
      have H1 := Lib.hid h1
      clear h1
      go_wp2
      go_ret
      refine ⟨_, rfl, ?_, HB.out⟩
      unfold Pts
      rw [mirL_length]
      exact H1.out

/-- spec.MirrorPose, of what is not a pose. -/
theorem specMirror_bad (A : Option Addr) (n c : Nat) (ps : List Pt) (W : Int) (w : World) (hv : Rd w A n ps) (h : poseB ps = false) :
    Calls Try.prog 20 #[.slice A n c, .int .i64 W] w (BetweenR w 1 []) := by
  have HV := Lib.hid hv
  clear hv
  go_enter Try.func20, Try.ntmps20
  go_wp2_with fail
  refine (l04Ok_any A n c ps _ HV.out).mono ?_
  rintro e u ⟨rfl, rfl⟩
  rw [h]
  go_wp2
  go_ret2
  exact ⟨_, rfl, pts_nil _ _, Below.refl _ _⟩

/-- spec.MirrorPose, of a width that is none. -/
theorem specMirror_wide (A : Option Addr) (n c : Nat) (ps : List Pt) (W : Int) (w : World) (hv : Rd w A n ps) (h : poseB ps = true) (hW : inB W 0 1000 = false) :
    Calls Try.prog 20 #[.slice A n c, .int .i64 W] w (BetweenR w 2 []) := by
  have HV := Lib.hid hv
  clear hv
  go_enter Try.func20, Try.ntmps20
  go_wp2_with fail
  refine (l04Ok_any A n c ps _ HV.out).mono ?_
  rintro e u ⟨rfl, rfl⟩
  rw [h]
  go_wp2_with fail
  refine (l00In_any _ _ _ _).mono ?_
  rintro e u ⟨rfl, rfl⟩
  rw [hW]
  go_wp2
  go_ret2
  exact ⟨_, rfl, pts_nil _ _, Below.refl _ _⟩

set_option maxHeartbeats 4000000 in
set_option maxRecDepth 100000 in
/-- spec.MirrorPose: the joints one after the other. -/
theorem specMirror_ok (A : Option Addr) (n c : Nat) (ps : List Pt) (W : Int) (w : World) (hv : Rd w A n ps) (h : poseB ps = true) (hW : inB W 0 1000 = true) (z : Int) (qs : List Pt) (hy : fitB ps W = true → z = 0 ∧ qs = mirL ps W n) (hn0 : fitB ps W = false → z = 6 ∧ qs = []) :
    Calls Try.prog 20 #[.slice A n c, .int .i64 W] w (BetweenR w z qs) := by
  obtain ⟨i0, hi, hz0, hz1, hz2⟩ := info_parts infoPt
  have hn := hv.2.1
  have HL := Lib.hid hv.1
  have HV := Lib.hid hv
  have HP := Lib.hid (poseB_get h)
  have hp8 := (poseB_len h).2
  rw [hv.1] at hp8
  obtain ⟨W0, W1⟩ := inB_iff.1 hW
  have H1 := Lib.hid hy
  have H2 := Lib.hid hn0
  clear hv hy hn0
  go_enter Try.func20, Try.ntmps20
  go_wp2_with fail
  refine (l04Ok_any A n c ps _ HV.out).mono ?_
  rintro e u ⟨rfl, rfl⟩
  rw [h]
  go_wp2_with fail
  refine (l00In_any _ _ _ _).mono ?_
  rintro e u ⟨rfl, rfl⟩
  rw [hW]
  clear h hW
  go_wp2
  go_loopw [7, 6] (fun i v wr => ∃ k : Nat, k ≤ n ∧ i = .int .i64 k ∧ Hid (wr.ownsRow w.heap.size 57 2 v k (flat (mirL ps W k))) ∧ Hid (∀ j, j < k → (ps.getD j (0, 0)).1 ≤ W) ∧ Hid (Below w.heap.size w wr)) (fun i _ _ => n - (intOf i).toNat)
  case atStart => exact ⟨0, Nat.zero_le _, rfl, Lib.hid (World.ownsRow_lit w #[] 0 (Nat.le_refl _) (Nat.zero_le _) rfl), Lib.hid (fun j hj => by omega), Lib.hid (bAlloc (Below.refl _ _) _)⟩
  case round =>
    obtain ⟨k, hk, rfl, HO, HF, HB⟩ := hrel
    by_cases hlt : k < n
    · obtain ⟨_, _, h3⟩ := HV.out
      rcases h3 with h0 | ⟨g, rfl, hg, h3⟩
      · omega
      obtain ⟨c0, c1⟩ := h3 k hlt
      have c0 := (HB.out.cell (p := ⟨g, k * 2, none⟩) hg).trans c0
      have c1 := (HB.out.cell (p := ⟨g, k * 2 + 1, none⟩) hg).trans c1
      have q1 := HP.out k (by rw [HL.out]; exact hlt)
      have HS := Lib.hid (mirL_succ ps W k)
      have hbz := HB.out.size
      clear h3
      by_cases hgt : W < (ps.getD k (0, 0)).1
      · have HN := Lib.hid (fitB_no k (by rw [HL.out]; exact hlt) hgt)
        generalize (ps.getD k (0, 0)).1 = x at *
        generalize (ps.getD k (0, 0)).2 = y at *
        obtain ⟨rfl, rfl⟩ := H2.out HN.out
        go_wp2
        go_ret2
        exact ⟨_, rfl, pts_nil _ _, HB.out⟩
      · have HXX := Lib.hid (show (ps.getD k (0, 0)).1 ≤ W by omega)
        generalize hx : (ps.getD k (0, 0)).1 = x at *
        have HX := Lib.hid hx
        clear hx
        generalize (ps.getD k (0, 0)).2 = y at *
        have ag : u6.ownBlock ≠ some g := fun e => by
          have := (World.ownsRow.lt HO.out g e).1
          omega
        have lg : g < wr.heap.size := by omega
        have wx : IntKind.i64.wrap (W - x) = W - x := IntWalk.i64_in _ (by omega)
        go_wp2_with fail
        go_region_held3 (fun w' => w'.cell? ⟨g, k * 2, none⟩ = some (.int .i64 x) ∧ w'.cell? ⟨g, k * 2 + 1, none⟩ = some (.int .i64 y))
          (first
            | go_keep
            | (go_split_ands
               refine ⟨?_, ?_⟩
               · (rw [hgrow.cell_far _ (by simp; omega) (Ne.symm ag)]; assumption)
               · (rw [hgrow.cell_far _ (by simp; omega) (Ne.symm ag)]; assumption)))
          ((refine step_append_lies _ (by rfl) _ _ _ (by rfl) w.heap.size 57 i0 _ 2 16 Try.underlying24 hi hz0 hz1 hz2 rfl (by omega) u6 k (flat (mirL ps W k)) (by rfl) ((HO.out.alloc _).drew)
              ⟨wr.heap.size, 0, none⟩ 1 1 [.int .i64 (W - x), .int .i64 y] (by rfl) (by rfl) (World.news_of_block (cs := #[.int .i64 (W - x), .int .i64 y]) (t := 57) (fr := (0, 0)) (heap_alloc_new wr _)) (by simp [Value.oneCell'])
              (by omega) (by unfold maxLen; omega) (by omega) (by simp; omega) (wr.heap.size + 1) (by simp) ?_; intro gg cap w1 hown1 hgrow hat hlt2))
        have HO' := Lib.hid hown1
        have HB' := Lib.hid (Below.grown (Below.drew (bAlloc HB.out _)) hgrow (by simp; omega) (fun j hj => (World.ownsRow.lt HO.out j hj).1))
        clear hown1 hgrow hat hlt2 wx
        go_wp2
        go_roundw
        case rel => exact ⟨k + 1, by omega, by go_num, Lib.hid (by rw [HS.out, flat_append]; exact HO'.out), Lib.hid (fun j hj => by
          by_cases hjk : j < k
          · exact HF.out j hjk
          · have : j = k := by omega
            subst this
            rw [HX.out]
            exact HXX.out), HB'⟩
        case measure => simp [intOf]; omega
    · have : k = n := by omega
      subst this
      have HY := Lib.hid (fitB_yes (ps := ps) (W := W) (by rw [HL.out]; exact HF.out))
      obtain ⟨rfl, rfl⟩ := H1.out HY.out
      go_wp2
      go_ret2
      refine ⟨_, rfl, ?_, HB.out⟩
      unfold Pts
      rw [mirL_length]
      exact HO.out

/-- impl.MirrorPose, of what is not a pose. -/
theorem implMirror_bad (A : Option Addr) (n c : Nat) (ps : List Pt) (W : Int) (w : World) (hv : Rd w A n ps) (h : poseB ps = false) :
    Calls Try.prog 22 #[.slice A n c, .int .i64 W] w (BetweenR w 1 []) := by
  have V := Lib.hid (validPose_any A n c ps _ (hv.below (bAlloc (Below.refl _ w) (.cells #[.int .i64 W] 2))))
  clear hv
  go_enter Try.func22, Try.ntmps22
  go_wp2_with fail
  refine V.out.mono ?_
  rintro e u ⟨rfl, hb⟩
  rw [h]
  go_wp2
  go_ret2
  exact ⟨_, rfl, pts_nil _ _, bTrans (bAlloc (Below.refl _ _) _) hb⟩

/-- impl.MirrorPose, of a width that is none. -/
theorem implMirror_wide (A : Option Addr) (n c : Nat) (ps : List Pt) (W : Int) (w : World) (hv : Rd w A n ps) (h : poseB ps = true) (hW : inB W 0 1000 = false) :
    Calls Try.prog 22 #[.slice A n c, .int .i64 W] w (BetweenR w 2 []) := by
  have V := Lib.hid (validPose_any A n c ps _ (hv.below (bAlloc (Below.refl _ w) (.cells #[.int .i64 W] 2))))
  have hc : W < 0 ∨ (¬ W < 0 ∧ 1000 < W) := by
    have := inB_not.1 hW
    omega
  clear hv hW
  rcases hc with h1 | ⟨h1, h2⟩
  all_goals
    go_enter Try.func22, Try.ntmps22
    go_wp2_with fail
    refine V.out.mono ?_
    rintro e u ⟨rfl, hb⟩
    have hx : u.cell? ⟨w.heap.size, 0, none⟩ = some (.int .i64 W) := (hb.cell (by simp)).trans (by go_simp)
    rw [h]
    go_wp2
    go_ret2
    exact ⟨_, rfl, pts_nil _ _, bTrans (bAlloc (Below.refl _ _) _) hb⟩

set_option maxHeartbeats 1000000 in
/-- impl.MirrorPose. -/
theorem implMirror_yes (A : Option Addr) (n c : Nat) (ps : List Pt) (W : Int) (w : World) (hv : Rd w A n ps) (h : poseB ps = true) (hW : inB W 0 1000 = true) (hf : fitB ps W = true) :
    Calls Try.prog 22 #[.slice A n c, .int .i64 W] w (BetweenR w 0 (mirL ps W n)) := by
  have V := Lib.hid (validPose_any A n c ps _ (hv.below (bAlloc (Below.refl _ w) (.cells #[.int .i64 W] 2))))
  have HV := Lib.hid (hv.below (bAlloc (Below.refl _ w) (.cells #[.int .i64 W] 2)))
  obtain ⟨W0, W1⟩ := inB_iff.1 hW
  have HP := Lib.hid h
  have HF := Lib.hid hf
  clear hv hW hf
  go_enter Try.func22, Try.ntmps22
  go_wp2_with fail
  refine V.out.mono ?_
  rintro e u ⟨rfl, hb⟩
  have hx : u.cell? ⟨w.heap.size, 0, none⟩ = some (.int .i64 W) := (hb.cell (by simp)).trans (by go_simp)
  have hz1 : w.heap.size < u.heap.size := by have := hb.size; simp at this; omega
  have HV1 := Lib.hid (HV.out.below hb)
  have B1 := Lib.hid (bTrans (bAlloc (Below.refl w.heap.size w) (.cells #[.int .i64 W] 2)) hb)
  have C1 := Lib.hid (containsFunc_any A n c w.heap.size ps W u HV1.out hx hz1)
  rw [HF.out] at C1
  rw [h]
  clear hb h
  have hmf : ∀ (fn : Fn) (first cap : Array Value) (w : World), (Instr.makeFunc fn first cap).run Try.prog w = .ok (.func fn first cap) w := fun _ _ _ _ => rfl
  go_wp2_with fail
  refine C1.out.mono ?_
  rintro e u2 ⟨rfl, hb2⟩
  have hx2 := (hb2.cell (p := ⟨w.heap.size, 0, none⟩) (by exact hz1)).trans hx
  have hz2 : w.heap.size < u2.heap.size := Nat.lt_of_lt_of_le hz1 hb2.size
  have HV2 := Lib.hid (HV1.out.below hb2)
  have B2 := Lib.hid (bTrans B1.out hb2)
  have C2 := Lib.hid (changed_any A n c w.heap.size ps W u2 HV2.out HP.out HF.out W1 hx2 hz2)
  clear hb2 C1 V
  go_wp2_with fail
  refine C2.out.mono ?_
  rintro e u3 ⟨v, rfl, p, hb3⟩
  have P := Lib.hid (p.base (B' := w.heap.size) B2.out.size)
  have B3 := Lib.hid (bTrans B2.out hb3)
  clear p hb3 C2
  go_wp2
  go_ret2
  exact ⟨v, rfl, P.out, B3.out⟩


set_option maxHeartbeats 1000000 in
/-- impl.MirrorPose, of a joint behind the width. -/
theorem implMirror_no (A : Option Addr) (n c : Nat) (ps : List Pt) (W : Int) (w : World) (hv : Rd w A n ps) (h : poseB ps = true) (hW : inB W 0 1000 = true) (hf : fitB ps W = false) :
    Calls Try.prog 22 #[.slice A n c, .int .i64 W] w (BetweenR w 6 []) := by
  have V := Lib.hid (validPose_any A n c ps _ (hv.below (bAlloc (Below.refl _ w) (.cells #[.int .i64 W] 2))))
  have HV := Lib.hid (hv.below (bAlloc (Below.refl _ w) (.cells #[.int .i64 W] 2)))
  obtain ⟨W0, W1⟩ := inB_iff.1 hW
  have HP := Lib.hid h
  have HF := Lib.hid hf
  clear hv hW hf
  go_enter Try.func22, Try.ntmps22
  go_wp2_with fail
  refine V.out.mono ?_
  rintro e u ⟨rfl, hb⟩
  have hx : u.cell? ⟨w.heap.size, 0, none⟩ = some (.int .i64 W) := (hb.cell (by simp)).trans (by go_simp)
  have hz1 : w.heap.size < u.heap.size := by have := hb.size; simp at this; omega
  have HV1 := Lib.hid (HV.out.below hb)
  have B1 := Lib.hid (bTrans (bAlloc (Below.refl w.heap.size w) (.cells #[.int .i64 W] 2)) hb)
  have C1 := Lib.hid (containsFunc_any A n c w.heap.size ps W u HV1.out hx hz1)
  rw [HF.out] at C1
  rw [h]
  clear hb h
  have hmf : ∀ (fn : Fn) (first cap : Array Value) (w : World), (Instr.makeFunc fn first cap).run Try.prog w = .ok (.func fn first cap) w := fun _ _ _ _ => rfl
  go_wp2_with fail
  refine C1.out.mono ?_
  rintro e u2 ⟨rfl, hb2⟩
  have B2 := Lib.hid (bTrans B1.out hb2)
  clear hb2 C1 V
  go_wp2
  go_ret2
  exact ⟨_, rfl, pts_nil _ _, B2.out⟩


end Go.Proofs.Ytibafngidpmgdaa
