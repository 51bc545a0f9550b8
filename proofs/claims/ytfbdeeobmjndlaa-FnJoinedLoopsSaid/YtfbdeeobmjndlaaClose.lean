/- Loops that are closed: the program. -/
import Derived.Test.YtfbdeeobmjndlaaProg
import Derived.Test.YtfbdeeobmjndlaaLoopMath
import Derived.Test.YtfbdeeobmjndlaaInts
import Derived.Test.YtfbdeeobmjndlaaLoop
import Derived.Test.YtfbdeeobmjndlaaLoop2
import Derived.Test.YtfbdeeobmjndlaaLoop3
import Derived.Test.YtfbdeeobmjndlaaIGrids
import Derived.Test.YtfbdeeobmjndlaaNear
import Derived.Deep.AppendLies
import Derived.Deep.DrawnRows
import Derived.Test.YtfbdeeobmjndlaaHold
import Derived.IntWalk
import Derived.WalkSpells
import Derived.OwnWalk
import Derived.Laws.AppendOwn
import Derived.Laws.OwnMore
import Derived.Deep.RegionWith
import Derived.Deep.DrawnRows
import Derived.Deep.RegionHeld3
import Derived.Tactics
import Derived.Tactics2
import Derived.WalkKit
import Derived.LoopTactic
import Derived.BigQuiet
import Derived.RegionTactic
import Derived.Deep.QuietTactic
import Derived.Outline
import Derived.Lib.Hide
import Derived.Below
import Derived.KernelRfl
namespace Go.Proofs.Ytfbdeeobmjndlaa
set_option linter.unusedSimpArgs false
set_option linter.unusedVariables false
open Go.RowKit

/-- A list of numbers compared with nil. -/
theorem eqlI_nil (w : World) (A : Option Addr) (n c : Nat) : (binOp .eql 22 (.slice A n c) (.slice none 0 0)).run Try.prog w = .ok (.bool A.isNone) w :=
  Lib.run_eql_slice_nil w 22 2 A n c 0 0 Try.underlying22
attribute [local go_sem] eqlI_nil

theorem RdI.news {w : World} {g n : Nat} {zs : List Int} (hl : zs.length = n) (h : ∀ j, j < n → w.cell? ⟨g, j, none⟩ = some (.int .i64 (zs.getD j 0))) :
    ∀ j u, (zs.map (Value.int .i64))[j]? = some u → w.cell? ((⟨g, 0, none⟩ : Addr).add j) = some u := by
  intro j u hj
  rw [addI, Nat.zero_add]
  rw [List.getElem?_map] at hj
  have hlt : j < zs.length := by
    rcases Nat.lt_or_ge j zs.length with h1 | h1
    · exact h1
    · rw [List.getElem?_eq_none h1] at hj
      cases hj
  rw [h j (by omega), List.getD_eq_getElem?_getD]
  rw [List.getElem?_eq_getElem hlt] at hj ⊢
  simpa using hj

set_option maxHeartbeats 1000000 in
set_option maxRecDepth 100000 in
/-- slices.Clone over numbers. -/
theorem cloneI_any (A : Option Addr) (n c : Nat) (zs : List Int) (w : World) (hv : RdI w A n zs) (hn1 : 1 ≤ n) :
    Calls Try.prog 122 #[.slice A n c] w fun e w' => ∃ A' c', e = .returned (.slice A' n c') ∧ Ints w' w.heap.size (.slice A' n c') zs ∧ Below w.heap.size w w' := by
  obtain ⟨i0, hi, hz0, hz1, hz2⟩ := info_parts infoI64
  have HL := Lib.hid hv.1
  have hn := hv.2.1
  obtain ⟨-, -, h3⟩ := hv
  rcases h3 with h0 | ⟨g, rfl, hg, h3⟩
  · omega
  have HN := Lib.hid (RdI.news HL.out h3)
  have HE : Hid ((w.alloc (.cells #[] 2)).ownsRow w.heap.size 2 1 (.slice (some ⟨w.heap.size, 0, none⟩) 0 0) 0 []) := Lib.hid (World.ownsRow_lit w #[] 0 (Nat.le_refl _) (Nat.zero_le _) rfl)
  clear h3
  go_enter Try.func122, Try.ntmps122
  go_wp2_with (first | (at_builtin; refine wpList_append_own _ rfl _ _ 22 rfl w.heap.size 2 i0 (.int .i64 0) 1 8 Try.underlying22 hi hz0 hz1 hz2 rfl (by decide) _ _ _ rfl (World.ownsRow_lit w #[] 0 (Nat.le_refl _) (Nat.zero_le _) rfl) ⟨g, 0, none⟩ n c (zs.map (Value.int .i64)) rfl (by rw [List.length_map, HL.out, Nat.mul_one]) (fun j u hj => (World.cell?_alloc_lt w _ _ (by rw [addI]; exact hg)).trans (HN.out j u hj)) (ints_oneCell .i64 zs) (by unfold maxLen; omega) (by omega) (by simp) ?_; intro v' w1 hown' hgrow hnil) | fail)
  have HO := Lib.hid hown'
  have HB := Lib.hid (Below.grown (bAlloc (Below.refl _ w) _) hgrow (by simp) (fun j hj => (World.ownsRow.lt HE.out j hj).1))
  clear hown' hgrow hnil HN
  have hP : Ints w1 w.heap.size v' zs := by
    unfold Ints
    rw [HL.out]
    simpa using HO.out
  obtain ⟨A', c', rfl, -⟩ := Ints.rd hP (by rw [HL.out]; exact hn)
  rw [HL.out] at hP ⊢
  have HP := Lib.hid hP
  clear hP HO
  go_wp2
  go_ret
  exact ⟨A', c', rfl, HP.out, HB.out⟩

/-- What the gap adds to a place. -/
def ledI (g : Int) (o : Int) (z : Int) (k : Int) : Int := min 1000 (max 0 (z + near (g * k) (o + 1)))
theorem near_zero {d : Int} (h : 1 ≤ d) : near 0 d = 0 := by
  unfold near
  rw [Int.mul_zero, Int.zero_add]
  exact Int.ediv_eq_zero_of_lt (by omega) (by omega)
theorem gap_bd {g k : Int} (g0 : -1000 ≤ g) (g1 : g ≤ 1000) (k0 : 0 ≤ k) (k1 : k ≤ 61) : -61000 ≤ g * k ∧ g * k ≤ 61000 := by
  have h1 := Int.mul_le_mul_of_nonneg_right g1 k0
  have h2 := Int.mul_le_mul_of_nonneg_right g0 k0
  omega
theorem near_gap {x d : Int} (h : 1 ≤ d) (h2 : d ≤ 100) (x0 : -61000 ≤ x) (x1 : x ≤ 61000) : -200000 ≤ near x d ∧ near x d ≤ 200000 := by
  unfold near
  rw [floor_case _ _ (by omega)]
  have := tdiv_size (2 * x + d) (2 * d)
  split <;> omega

/-- impl.CloseLoop. -/
theorem implClose_bad (A : Option Addr) (n c : Nat) (zs : List Int) (d : Int) (w : World) (hv : RdI w A n zs) (hz : loopB zs = false) :
    Calls Try.prog 34 #[.slice A n c, .int .i64 d] w fun e w' => ∃ v, e = .returned (.tuple #[v, .int .i64 1]) ∧ Ints w' w.heap.size v [] ∧ Below w.heap.size w w' := by
  have HV := Lib.hid hv
  clear hv
  go_enter Try.func34, Try.ntmps34
  go_wp2_with fail
  refine (validLoop_any A n c zs _ HV.out).mono ?_
  rintro e u ⟨rfl, rfl⟩
  rw [hz]
  go_wp2
  go_ret2
  exact ⟨_, rfl, World.ownsRow_nil _ _ _ _, Below.refl _ _⟩
theorem implClose_range (A : Option Addr) (n c : Nat) (zs : List Int) (d : Int) (w : World) (hv : RdI w A n zs) (hz : loopB zs = true) (hd : inB d 1 n = false) :
    Calls Try.prog 34 #[.slice A n c, .int .i64 d] w fun e w' => ∃ v, e = .returned (.tuple #[v, .int .i64 2]) ∧ Ints w' w.heap.size v [] ∧ Below w.heap.size w w' := by
  have HV := Lib.hid hv
  have hc : d < 1 ∨ (¬ d < 1 ∧ (n : Int) < d) := by
    have := inB_not.1 hd
    omega
  clear hv hd
  rcases hc with h1 | ⟨h1, h2⟩
  all_goals
    go_enter Try.func34, Try.ntmps34
    go_wp2_with fail
    refine (validLoop_any A n c zs _ HV.out).mono ?_
    rintro e u ⟨rfl, rfl⟩
    rw [hz]
    go_wp2
    go_ret2
    exact ⟨_, rfl, World.ownsRow_nil _ _ _ _, Below.refl _ _⟩

/-- A loop of which the last places are led, one after the other. -/
def ledTo (zs : List Int) (o k : Nat) : List Int := genL (fun i => if i < zs.length - o ∨ zs.length - o + k ≤ i then zs.getD i 0 else closeI zs o i) zs.length
theorem ledTo_length (zs : List Int) (o k : Nat) : (ledTo zs o k).length = zs.length := genL_length _ _
theorem ledTo_zero (zs : List Int) (o : Nat) : ledTo zs o 0 = zs := by
  conv => rhs; rw [← genL_self zs]
  exact genL_congr fun i hi => if_pos (by omega)
theorem ledTo_get (zs : List Int) (o k : Nat) (h : zs.length - o + k < zs.length) : (ledTo zs o k).getD (zs.length - o + k) 0 = zs.getD (zs.length - o + k) 0 := by
  unfold ledTo
  rw [genL_get _ _ _ h]
  exact if_pos (.inr (Nat.le_refl _))
theorem ledTo_succ (zs : List Int) (o k : Nat) (h : zs.length - o + k < zs.length) : (ledTo zs o k).set (zs.length - o + k) (closeI zs o (zs.length - o + k)) = ledTo zs o (k + 1) := by
  apply List.ext_getElem?
  intro i
  rw [List.getElem?_set]
  by_cases hi : zs.length - o + k = i
  · subst hi
    rw [if_pos rfl, if_pos (by rw [ledTo_length]; exact h)]
    unfold ledTo genL
    rw [List.getElem?_map, List.getElem?_range h]
    simp only [Option.map_some]
    rw [if_neg (by omega)]
  · rw [if_neg hi]
    unfold ledTo genL
    rw [List.getElem?_map, List.getElem?_map]
    by_cases hlt : i < zs.length
    · rw [List.getElem?_range hlt]
      simp only [Option.map_some]
      by_cases hc : i < zs.length - o ∨ zs.length - o + k ≤ i
      · rw [if_pos hc, if_pos (by omega)]
      · rw [if_neg hc, if_neg (by omega)]
    · rw [List.getElem?_eq_none (by simpa using hlt)]
      rfl
theorem closeI_left {zs : List Int} (hz : loopB zs = true) {o i : Nat} (ho : o ≤ zs.length) (h : i < zs.length - o) : closeI zs o i = zs.getD i 0 := by
  have h1 := loopB_get hz i
  unfold closeI
  rw [show max 0 ((i : Int) - ((zs.length : Int) - (o : Int)) + 1) = 0 by omega, Int.mul_zero, near_zero (by omega)]
  omega
theorem closeI_right {zs : List Int} {o k : Nat} (ho : o ≤ zs.length) : closeI zs o (zs.length - o + k) = min 1000 (max 0 (zs.getD (zs.length - o + k) 0 + near ((zs.getD 0 0 - zs.getD (zs.length - 1) 0) * ((k : Int) + 1)) ((o : Int) + 1))) := by
  unfold closeI
  rw [show max 0 (((zs.length - o + k : Nat) : Int) - ((zs.length : Int) - (o : Int)) + 1) = (k : Int) + 1 by omega]
theorem ledTo_all {zs : List Int} (hz : loopB zs = true) {o : Nat} (ho : o ≤ zs.length) : ledTo zs o o = closeL zs o := by
  refine genL_congr fun i hi => ?_
  by_cases hc : i < zs.length - o ∨ zs.length - o + o ≤ i
  · rw [if_pos hc, closeI_left hz ho (by omega)]
  · rw [if_neg hc]
theorem gap_is {zs : List Int} {n : Nat} (hl : zs.length = n) (h1 : 1 ≤ n) : stepI zs ((n : Int) - 1) = zs.getD 0 0 - zs.getD (n - 1) 0 := by
  unfold stepI
  rw [show (n : Int) - 1 + 1 = (n : Int) by omega, ringI_nat, hl, Nat.mod_self, show (n : Int) - 1 = ((n - 1 : Nat) : Int) by omega, ringI_lt zs (n - 1) (by omega)]

set_option maxHeartbeats 2000000 in
set_option maxRecDepth 100000 in
theorem implClose_ok (A : Option Addr) (n c : Nat) (zs : List Int) (o : Nat) (w : World) (hv : RdI w A n zs) (hz : loopB zs = true) (o1 : 1 ≤ o) (o2 : o ≤ n) :
    Calls Try.prog 34 #[.slice A n c, .int .i64 o] w fun e w' => ∃ v, e = .returned (.tuple #[v, .int .i64 0]) ∧ Ints w' w.heap.size v (closeL zs o) ∧ Below w.heap.size w w' := by
  have hl := loopB_len hz
  have hln := hv.1
  rw [hv.1] at hl
  have HV := Lib.hid hv
  have g0 := loopB_get hz 0
  have g1 := loopB_get hz (n - 1)
  have HST := Lib.hid (fun u (hu : RdI u A n zs) => ringStep_any A n c zs ((n : Int) - 1) u hu hz (by omega) (by omega))
  rw [gap_is hln hl.1] at HST
  have HA := Lib.hid (ledTo_all hz (o := o) (by omega))
  have HZ := Lib.hid (ledTo_zero zs o)
  have HG := Lib.hid (fun k hk => ledTo_get zs o k (by rw [hln]; exact hk))
  have HS := Lib.hid (fun k hk => ledTo_succ zs o k (by rw [hln]; exact hk))
  have HC := Lib.hid (fun k => closeI_right (zs := zs) (o := o) (k := k) (by omega))
  have HLL := Lib.hid (fun k => ledTo_length zs o k)
  have HB0 := Lib.hid (fun j => loopB_get hz j)
  have HCL := Lib.hid (show (closeL zs o).length = n by unfold closeL; rw [genL_length, hln])
  rw [hln] at HG HS HC HLL
  clear hv
  have hw0 : IntKind.i64.wrap ((n : Int) - 1) = (n : Int) - 1 := IntWalk.i64_in _ (by omega)
  have hg : -1000 ≤ zs.getD 0 0 - zs.getD (n - 1) 0 ∧ zs.getD 0 0 - zs.getD (n - 1) 0 ≤ 1000 := by omega
  generalize zs.getD 0 0 - zs.getD (n - 1) 0 = gap at *
  clear g0 g1
  go_enter Try.func34, Try.ntmps34
  go_wp2_with fail
  refine (validLoop_any A n c zs _ HV.out).mono ?_
  rintro e u ⟨rfl, rfl⟩
  rw [hz]
  go_wp2_with fail
  refine (HST.out _ HV.out).mono ?_
  rintro e u ⟨rfl, m, rfl⟩
  go_wp2_with fail
  refine (cloneI_any A n c zs _ (HV.out.drewN m) hl.1).mono ?_
  rintro e u1 ⟨A', c', rfl, io, hb1⟩
  have hV := io.view
  have B1 := Lib.hid (show Below w.heap.size w u1 from bTrans (bDrewN (Below.refl _ _) m) hb1)
  rcases hV with ⟨e1, e2⟩ | ⟨G, cap, e1, hG, hGl, _, _, _⟩
  · rw [e2] at hln
    simp at hln
    omega
  · simp only [Value.slice.injEq] at e1
    obtain ⟨rfl, -, rfl⟩ := e1
    have hG0 : w.heap.size ≤ G := hG
    have HO1 := Lib.hid (show u1.ownsRow w.heap.size 2 1 (.slice (some ⟨G, 0, none⟩) n c') n ((ledTo zs o 0).map (Value.int .i64)) by
      rw [HZ.out]
      have h := io
      unfold Ints at h
      rw [hln] at h
      exact h)
    clear io hb1 HZ
    go_wp2
    go_loopw [31] (fun i wr => ∃ k : Nat, k ≤ o ∧ i = .int .i64 k ∧ Hid (wr.ownsRow w.heap.size 2 1 (.slice (some ⟨G, 0, none⟩) n c') n ((ledTo zs o k).map (Value.int .i64))) ∧ Hid (Below w.heap.size w wr)) (fun i _ => o - (intOf i).toNat)
    case atStart => exact ⟨0, Nat.zero_le _, rfl, HO1, B1⟩
    case round =>
      obtain ⟨k, hk, rfl, HO, HB⟩ := hrel
      by_cases hlt : k < o
      · have hjn : n - o + k < n := by omega
        have hjc : (n : Int) - (o : Int) + (k : Int) = ((n - o + k : Nat) : Int) := by omega
        have HS1 := Lib.hid (HS.out k hjn)
        have hG1 := HG.out k hjn
        have hC1 := HC.out k
        have bz := HB0.out (n - o + k)
        have hLL := HLL.out k
        have hc0 : wr.cell? ⟨G, n - o + k, none⟩ = some (.int .i64 (zs.getD (n - o + k) 0)) := by
          rw [World.ownsRow.cellAt HO.out (n - o + k) (by omega), List.getElem?_map, List.getElem?_eq_getElem (by rw [hLL]; exact hjn), ← hG1, List.getD_eq_getElem?_getD, List.getElem?_eq_getElem (by rw [hLL]; exact hjn)]
          rfl
        have hf0 : wr.frozen? ⟨G, n - o + k, none⟩ = false := World.ownsRow.frozenAt HO.out _
        have hgk := gap_bd (g := gap) (k := (k : Int) + 1) hg.1 hg.2 (by omega) (by omega)
        have hng := near_gap (x := gap * ((k : Int) + 1)) (d := (o : Int) + 1) (by omega) (by omega) hgk.1 hgk.2
        have NW := Lib.hid (fun u : World => nearestWhole_any (gap * ((k : Int) + 1)) ((o : Int) + 1) u (by omega) (by omega) (by omega) (by omega))
        have wk : IntKind.i64.wrap ((k : Int) + 1) = (k : Int) + 1 := IntWalk.i64_in _ (by omega)
        have wo : IntKind.i64.wrap ((o : Int) + 1) = (o : Int) + 1 := IntWalk.i64_in _ (by omega)
        have hmc : ((k : Int) + 1) * gap = gap * ((k : Int) + 1) := Int.mul_comm _ _
        have wm : IntKind.i64.wrap (gap * ((k : Int) + 1)) = gap * ((k : Int) + 1) := IntWalk.i64_in _ (by omega)
        have wno : IntKind.i64.wrap ((n : Int) - o) = (n : Int) - o := IntWalk.i64_in _ (by omega)
        have wnj : IntKind.i64.wrap ((n : Int) - o + k) = (n : Int) - o + k := IntWalk.i64_in _ (by omega)
        have wz : IntKind.i64.wrap (zs.getD (n - o + k) 0 + near (gap * ((k : Int) + 1)) ((o : Int) + 1)) = zs.getD (n - o + k) 0 + near (gap * ((k : Int) + 1)) ((o : Int) + 1) := IntWalk.i64_in _ (by omega)
        obtain ⟨S1, S2⟩ := World.ownsRow.stored HO.out (n - o + k) (.int .i64 (closeI zs o (n - o + k)))
        rw [← List.map_set, HS1.out] at S1
        rw [hC1] at S1 S2
        clear hG1 hC1 hLL
        have hj0 : (0 : Int) ≤ ((n - o + k : Nat) : Int) := by omega
        have hj1 : ((n - o + k : Nat) : Int) < n := by omega
        generalize n - o + k = j at *
        generalize zs.getD j 0 = z at *
        have hmm : min 1000 (max 0 (z + near (gap * ((k : Int) + 1)) ((o : Int) + 1))) = (if 1000 < (if z + near (gap * ((k : Int) + 1)) ((o : Int) + 1) < 0 then 0 else z + near (gap * ((k : Int) + 1)) ((o : Int) + 1)) then 1000 else if z + near (gap * ((k : Int) + 1)) ((o : Int) + 1) < 0 then 0 else z + near (gap * ((k : Int) + 1)) ((o : Int) + 1)) := by (repeat' split) <;> omega
        rw [hmm] at S1 S2
        have H3 := Lib.hid S1
        have hbz := HB.out.size
        have H4 := Lib.hid (Below.grown HB.out S2 hbz (fun j hj => by injection hj; omega))
        clear S1 S2 hmm
        generalize near (gap * ((k : Int) + 1)) ((o : Int) + 1) = r at *
        generalize gap * ((k : Int) + 1) = gk at *
        go_wp2
        go_quiet ((go_at_call 123; exact quietEq (NW.out _)))
        go_wp2
        go_roundw
        case rel => exact ⟨k + 1, by omega, by go_num, Lib.hid H3.out, Lib.hid ⟨H4.out.os, H4.out.tape, H4.out.output, H4.out.size, H4.out.block⟩⟩
        case measure => simp [intOf]; omega
      · have : k = o := by omega
        subst this
        have h1 := HO.out
        rw [HA.out] at h1
        have H1 := Lib.hid h1
        clear h1
        go_wp2
        go_ret2
        refine ⟨_, rfl, ?_, HB.out⟩
        unfold Ints
        rw [HCL.out]
        exact H1.out

end Go.Proofs.Ytfbdeeobmjndlaa
