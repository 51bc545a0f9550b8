/- Runs of pages: the program's books. -/
import Derived.Test.YtibafngidpmgdabScnOk
import Derived.Test.YtibafngidpmgdabNear
import Derived.Test.YtibafngidpmgdabBook1
import Derived.Laws.AppendOwn
import Derived.Laws.OwnMore
import Derived.OwnWalk
import Derived.Deep.RegionWith
import Derived.Deep.DrawnRows
import Derived.Deep.RegionHeld3
import Derived.StillTailTactics
import Derived.IntWalk
import Derived.Tactics
import Derived.Tactics2
import Derived.WalkKit
import Derived.LoopTactic
import Derived.BigQuiet
import Derived.RegionTactic
import Derived.Deep.QuietTactic
import Derived.Outline
import Derived.Lib.Hide
import Derived.Below
import Derived.KernelRfl
namespace Go.Proofs.Ytibafngidpmgdab
set_option linter.unusedSimpArgs false
set_option linter.unusedVariables false
open Go.RowKit

/-- A run of pages: its scene, its pages, their ticks. -/
abbrev Rn := Scn × Int × Int
abbrev r0 : Rn := (s0, 0, 0)
/-- A run as a value. -/
abbrev rv (r : Rn) : Value := .agg #[.string r.1.1, .int .i64 r.1.2, .int .i64 r.2.1, .int .i64 r.2.2]
/-- The cells of some runs. -/
def flatR : List Rn → List Value
  | [] => []
  | r :: rs => .string r.1.1 :: .int .i64 r.1.2 :: .int .i64 r.2.1 :: .int .i64 r.2.2 :: flatR rs
theorem flatR_length : ∀ rs : List Rn, (flatR rs).length = rs.length * 4
  | [] => rfl
  | _ :: rs => by simp [flatR, flatR_length rs]; omega
theorem flatR_get : ∀ (rs : List Rn) (j : Nat), j < rs.length → (flatR rs)[j * 4]? = some (.string (rs.getD j r0).1.1) ∧ (flatR rs)[j * 4 + 1]? = some (.int .i64 (rs.getD j r0).1.2) ∧ (flatR rs)[j * 4 + 2]? = some (.int .i64 (rs.getD j r0).2.1) ∧ (flatR rs)[j * 4 + 3]? = some (.int .i64 (rs.getD j r0).2.2)
  | p :: ps, 0, _ => by simp [flatR]
  | p :: ps, j + 1, h => by
    have := flatR_get ps j (by simpa using h)
    rw [show (j + 1) * 4 = j * 4 + 1 + 1 + 1 + 1 by omega]
    simpa [flatR] using this
theorem flatR_set : ∀ (rs : List Rn) (j : Nat) (q : Rn), ((((flatR rs).set (j * 4) (.string q.1.1)).set (j * 4 + 1) (.int .i64 q.1.2)).set (j * 4 + 2) (.int .i64 q.2.1)).set (j * 4 + 3) (.int .i64 q.2.2) = flatR (rs.set j q)
  | [], _, _ => rfl
  | p :: ps, 0, q => by simp [flatR]
  | p :: ps, j + 1, q => by
    have := flatR_set ps j q
    rw [show (j + 1) * 4 = j * 4 + 1 + 1 + 1 + 1 by omega]
    simpa [flatR] using this
theorem made_flatR (n : Nat) : (madeCells (rv r0).cells (n * 4)).toList = flatR (List.replicate n r0) := by
  apply List.ext_getElem?
  intro j
  by_cases hj : j < n * 4
  · have h1 : (flatR (List.replicate n r0))[j]? = some (if j % 4 = 0 then .string ByteArray.empty else .int .i64 0) := by
      obtain ⟨q, r, hr, rfl⟩ : ∃ q r, r < 4 ∧ j = q * 4 + r := ⟨j / 4, j % 4, Nat.mod_lt _ (by omega), by omega⟩
      have hq : q < n := by omega
      have hg := flatR_get (List.replicate n r0) q (by simpa using hq)
      have hd : (List.replicate n r0).getD q r0 = r0 := by
        rw [List.getD_eq_getElem?_getD]
        simp [hq]
      rw [hd] at hg
      match r, hr with
      | 0, _ => simpa using hg.1
      | 1, _ => rw [hg.2.1]; simp
      | 2, _ => rw [hg.2.2.1]; simp
      | 3, _ => rw [hg.2.2.2]; simp
    rw [h1]
    have e : (rv r0).cells = #[.string ByteArray.empty, .int .i64 0, .int .i64 0, .int .i64 0] := rfl
    rw [e]
    simp [madeCells, hj]
    have h4 : j % 4 < 4 := Nat.mod_lt _ (by omega)
    match j % 4, h4 with
    | 0, _ => rfl
    | 1, _ => rfl
    | 2, _ => rfl
    | 3, _ => rfl
  · have h1 : (flatR (List.replicate n r0))[j]? = none := List.getElem?_eq_none (by rw [flatR_length]; simpa using hj)
    rw [h1]
    simp [madeCells, hj]

/-- Runs of the call's own. -/
abbrev Rns (w : World) (B : Nat) (v : Value) (rs : List Rn) : Prop := w.ownsRow B 70 4 v rs.length (flatR rs)
/-- What a reader sees of runs. -/
def RdN (w : World) (A : Option Addr) (n : Nat) (rs : List Rn) : Prop :=
  rs.length = n ∧ n ≤ 1048576 ∧ (n = 0 ∨ ∃ g, A = some ⟨g, 0, none⟩ ∧ g < w.heap.size ∧
    ∀ j, j < n → w.cell? ⟨g, j * 4, none⟩ = some (.string (rs.getD j r0).1.1) ∧ w.cell? ⟨g, j * 4 + 1, none⟩ = some (.int .i64 (rs.getD j r0).1.2) ∧ w.cell? ⟨g, j * 4 + 2, none⟩ = some (.int .i64 (rs.getD j r0).2.1) ∧ w.cell? ⟨g, j * 4 + 3, none⟩ = some (.int .i64 (rs.getD j r0).2.2))
theorem RdN.below {w u : World} {A : Option Addr} {n : Nat} {rs : List Rn} (h : RdN w A n rs) (hb : Below w.heap.size w u) : RdN u A n rs := by
  obtain ⟨h1, h2, h3⟩ := h
  refine ⟨h1, h2, ?_⟩
  rcases h3 with h0 | ⟨g, rfl, hg, hc⟩
  · exact .inl h0
  · exact .inr ⟨g, rfl, Nat.lt_of_lt_of_le hg hb.size, fun j hj => ⟨(hb.cell (p := ⟨g, j * 4, none⟩) hg).trans (hc j hj).1, (hb.cell (p := ⟨g, j * 4 + 1, none⟩) hg).trans (hc j hj).2.1, (hb.cell (p := ⟨g, j * 4 + 2, none⟩) hg).trans (hc j hj).2.2.1, (hb.cell (p := ⟨g, j * 4 + 3, none⟩) hg).trans (hc j hj).2.2.2⟩⟩
theorem Rns.rd {w : World} {B : Nat} {v : Value} {rs : List Rn} (h : Rns w B v rs) (hl : rs.length ≤ 1048576) : ∃ A cap, v = .slice A rs.length cap ∧ RdN w A rs.length rs := by
  have h' := h
  obtain ⟨_, h2⟩ := h
  rcases h2 with ⟨rfl, h0⟩ | ⟨g, cap, cur, rfl, hB, hg, hn, hm, _, _⟩
  · exact ⟨none, 0, by rw [h0], rfl, hl, .inl h0⟩
  · refine ⟨_, cap, rfl, rfl, hl, .inr ⟨g, rfl, (Array.getElem?_eq_some_iff.1 hg).1, fun j hj => ?_⟩⟩
    rw [h'.cellAt (j * 4) (by omega), h'.cellAt (j * 4 + 1) (by omega), h'.cellAt (j * 4 + 2) (by omega), h'.cellAt (j * 4 + 3) (by omega)]
    exact flatR_get rs j hj
theorem infoR : (Try.prog.info? 70).map (fun i => (i.zero, i.size, i.bytes)) = some (some (rv r0), 4, 40) := by kernel_rfl

/-- The larger one of two, as the walk says it. -/
def hiI (a b : Int) : Int := if b > a then b else a
theorem hiI_eq (a b : Int) : hiI a b = max a b := by
  unfold hiI
  omega
@[local go_sem high] theorem run_max_hi {P : Program} (w : World) (ts : Array TypeId) (t : TypeId) (k k' : IntKind) (x y : Int) : (Builtin.max_ ts t #[.int k x, .int k' y]).run P w = .ok (.int k (hiI x y)) w := by
  simp [Builtin.max_, Builtin.max2, hiI]

/-- The run of a scene. -/
abbrev runOf (x : Scn) (e : Int) : Rn := (x, cnt x.2 e, e)

set_option maxRecDepth 100000 in
/-- impl.Scene.inBook. -/
theorem inBook_any (p : ByteArray) (t e : Int) (w : World) (t1 : 1 ≤ t) (t2 : t ≤ 1000) (e1 : 1 ≤ e) (e2 : e ≤ 100) :
    Calls Try.prog 95 #[sv p t, .int .i64 e] w fun r w' => r = .returned (rv ((p, t), cnt t e, e)) ∧ Below w.heap.size w w' := by
  have NW := Lib.hid (fun u : World => nearestWhole_any t e u e1 (by omega) (by omega) (by omega))
  have HC := Lib.hid (show hiI (near t e) 1 = cnt t e from hiI_eq _ _)
  generalize near t e = m at *
  go_enter Try.func95, Try.ntmps95
  go_wp2
  have hB0 : Below w.heap.size w ((w.alloc (.cells #[.string p, .int .i64 t] 29)).alloc (.cells #[.string ⟨#[]⟩, .int .i64 0, .int .i64 0, .int .i64 0] 70)) := bAlloc (bAlloc (Below.refl _ _) _) _
  have hz : ((w.alloc (.cells #[.string p, .int .i64 t] 29)).alloc (.cells #[.string ⟨#[]⟩, .int .i64 0, .int .i64 0, .int .i64 0] 70)).heap.size = w.heap.size + 2 := by simp
  have c0 : ((w.alloc (.cells #[.string p, .int .i64 t] 29)).alloc (.cells #[.string ⟨#[]⟩, .int .i64 0, .int .i64 0, .int .i64 0] 70)).cell? ⟨w.heap.size, 0, none⟩ = some (.string p) := by go_simp
  have c1 : ((w.alloc (.cells #[.string p, .int .i64 t] 29)).alloc (.cells #[.string ⟨#[]⟩, .int .i64 0, .int .i64 0, .int .i64 0] 70)).cell? ⟨w.heap.size, 1, none⟩ = some (.int .i64 t) := by go_simp
  have d0 : ((w.alloc (.cells #[.string p, .int .i64 t] 29)).alloc (.cells #[.string ⟨#[]⟩, .int .i64 0, .int .i64 0, .int .i64 0] 70)).cell? ⟨w.heap.size + 1, 0, none⟩ = some (.string ⟨#[]⟩) := by go_simp
  have d1 : ((w.alloc (.cells #[.string p, .int .i64 t] 29)).alloc (.cells #[.string ⟨#[]⟩, .int .i64 0, .int .i64 0, .int .i64 0] 70)).cell? ⟨w.heap.size + 1, 1, none⟩ = some (.int .i64 0) := by go_simp
  have d2 : ((w.alloc (.cells #[.string p, .int .i64 t] 29)).alloc (.cells #[.string ⟨#[]⟩, .int .i64 0, .int .i64 0, .int .i64 0] 70)).cell? ⟨w.heap.size + 1, 2, none⟩ = some (.int .i64 0) := by go_simp
  have d3 : ((w.alloc (.cells #[.string p, .int .i64 t] 29)).alloc (.cells #[.string ⟨#[]⟩, .int .i64 0, .int .i64 0, .int .i64 0] 70)).cell? ⟨w.heap.size + 1, 3, none⟩ = some (.int .i64 0) := by go_simp
  have f0 : ∀ o, ((w.alloc (.cells #[.string p, .int .i64 t] 29)).alloc (.cells #[.string ⟨#[]⟩, .int .i64 0, .int .i64 0, .int .i64 0] 70)).frozen? ⟨w.heap.size + 1, o, none⟩ = false := by intro o; go_simp
  generalize hW : (w.alloc (.cells #[.string p, .int .i64 t] 29)).alloc (.cells #[.string ⟨#[]⟩, .int .i64 0, .int .i64 0, .int .i64 0] 70) = W at *
  clear hW
  have f1 := f0 0
  have f2 := f0 1
  have f3 := f0 2
  have f4 := f0 3
  clear f0
  have NQ : ∀ u : World, Calls Try.prog 110 #[.int .i64 t, .int .i64 e] u fun r u' => r = .returned (.int .i64 m) ∧ u' = u := fun u => (NW.out u).mono fun _ _ h => ⟨h.1, h.2.symm⟩
  refine wp_region_still_tail 8 (by kernel_rfl) (by kernel_rfl) ?_
  change wpStill _ _ W.drew _ _ _
  simp only [List.take_succ_cons, List.take_zero, List.drop_succ_cons, List.drop_zero]
  still_step
  still_step
  still_step
  still_step
  still_call (NQ _)
  still_step
  still_step
  still_step
  refine wpStill_nil ?_
  rw [HC.out]
  go_wp2
  refine bodyPost_ret (v := rv ((p, t), cnt t e, e)) (by simp [results, Try.results95, go_sem, c0, c1, d0, d1, d2, d3, f1, f2, f3, f4, hz]) rfl ⟨rfl, ?_⟩
  repeat (first | exact hB0 | exact Below.drew hB0 | refine bSet ?_ (by dsimp only; omega) _ | refine bDrewN ?_ _)

/-- The closure that lays a scene into a book. -/
theorem inBook1_any (p : ByteArray) (t e : Int) (b : Nat) (w : World) (hb : w.cell? ⟨b, 0, none⟩ = some (.int .i64 e)) (hlt : b < w.heap.size) (t1 : 1 ≤ t) (t2 : t ≤ 1000) (e1 : 1 ≤ e) (e2 : e ≤ 100) :
    Calls Try.prog 94 #[sv p t, .pointer (some ⟨b, 0, none⟩)] w fun r w' => r = .returned (rv ((p, t), cnt t e, e)) ∧ Below w.heap.size w w' := by
  have C := Lib.hid (fun u => inBook_any p t e u t1 t2 e1 e2)
  clear t1 t2 e1 e2
  generalize cnt t e = m at *
  go_enter Try.func94, Try.ntmps94
  go_wp2_with fail
  refine (C.out _).mono ?_
  rintro r u ⟨rfl, hb3⟩
  have L1 : Below w.heap.size w u := bTrans (by repeat (first | exact Below.refl _ _ | refine bAlloc ?_ _)) hb3
  have hz3 := hb3.size
  simp at hz3
  obtain ⟨hc3, hf3⟩ := bCells hb3
  have x0 : ∀ o, u.frozen? ⟨w.heap.size + 1, o, none⟩ = false := fun o => (hf3 _ _ (by simp)).trans (by go_simp)
  have x1 := x0 0
  have x2 := x0 1
  have x3 := x0 2
  have x4 := x0 3
  have y1 : u.cell? ⟨w.heap.size + 1, 0, none⟩ = some (.string ⟨#[]⟩) := (hc3 _ _ (by simp)).trans (by go_simp)
  have y2 : u.cell? ⟨w.heap.size + 1, 1, none⟩ = some (.int .i64 0) := (hc3 _ _ (by simp)).trans (by go_simp)
  have y3 : u.cell? ⟨w.heap.size + 1, 2, none⟩ = some (.int .i64 0) := (hc3 _ _ (by simp)).trans (by go_simp)
  have y4 : u.cell? ⟨w.heap.size + 1, 3, none⟩ = some (.int .i64 0) := (hc3 _ _ (by simp)).trans (by go_simp)
  have hz : w.heap.size + 1 < u.heap.size := by omega
  clear hc3 hf3 hb3 x0 hz3
  go_wp2
  refine bodyPost_ret (v := rv ((p, t), m, e)) (by simp [results, Try.results94, go_sem, x1, x2, x3, x4, y1, y2, y3, y4, hz]) rfl ⟨rfl, ?_⟩
  repeat (first | exact L1 | refine bSet ?_ (by dsimp only; omega) _)

/-- All runs of a book. -/
def runL (ps : List Scn) (e : Int) (k : Nat) : List Rn := (List.range k).map fun i => runOf (ps.getD i s0) e
theorem runL_length (ps : List Scn) (e : Int) (k : Nat) : (runL ps e k).length = k := by simp [runL]
theorem runL_get (ps : List Scn) (e : Int) (k i : Nat) (h : i < k) : (runL ps e k).getD i r0 = runOf (ps.getD i s0) e := by
  unfold runL
  rw [List.getD_eq_getElem?_getD, List.getElem?_map, List.getElem?_range h]
  rfl
theorem put_stepR (ps : List Rn) (k n : Nat) (hk : k < ps.length) (hn : ps.length = n) :
    (ps.take k ++ (List.replicate n r0).drop k).set k (ps.getD k r0) = ps.take (k + 1) ++ (List.replicate n r0).drop (k + 1) := by
  have hl : (ps.take k).length = k := by rw [List.length_take]; omega
  rw [List.set_append_right _ _ (by omega), hl, Nat.sub_self, List.drop_eq_getElem_cons (by simp; omega), List.set_cons_zero, List.take_add_one, List.append_assoc, List.getD_eq_getElem?_getD, List.getElem?_eq_getElem hk]
  rfl

set_option maxHeartbeats 1000000 in
set_option maxRecDepth 100000 in
/-- impl.changed over scenes, with the closure that lays each into a book. -/
theorem changedR_any (A : Option Addr) (n c b : Nat) (ps : List Scn) (e : Int) (w : World) (hv : RdC w A n ps) (ht : TicksIn ps n) (e1 : 1 ≤ e) (e2 : e ≤ 100) (hb : w.cell? ⟨b, 0, none⟩ = some (.int .i64 e)) (hlt : b < w.heap.size) :
    Calls Try.prog 93 #[.slice A n c, .func (.func 94) #[] #[.pointer (some ⟨b, 0, none⟩)]] w fun r w' => ∃ v, r = .returned v ∧ Rns w' w.heap.size v (runL ps e n) ∧ Below w.heap.size w w' := by
  obtain ⟨i0, hi, hz0, hz1, hz2⟩ := info_parts infoR
  have hn := hv.2.1
  have hby : i0.bytes * n ≤ 281474976710656 := by rw [hz2]; omega
  have HV := Lib.hid hv
  have HX := Lib.hid hb
  have HT := Lib.hid ht
  clear hv hb ht
  go_enter Try.func93, Try.ntmps93
  go_wp2_with (first | (at_make; refine wpList_make_full _ rfl _ _ 63 rfl w.heap.size 70 i0 (rv r0) 4 Try.underlying63 hi hz0 hz1 .i64 .i64 (n : Int) (n : Int) n rfl rfl rfl rfl hby (by unfold maxLen; omega) (Nat.le_refl _) ?_; intro w1 hown1 hgrow1) | fail)
  have HO1 := Lib.hid hown1
  have HB1 := Lib.hid (Below.grown (Below.refl _ w) hgrow1 (Nat.le_refl _) (fun k hk => by cases hk))
  have hg1 : w.heap.size < w1.heap.size := (World.ownsRow.lt hown1 _ rfl).2
  clear hown1 hgrow1
  go_wp2
  go_loopw [13] (fun i wr => ∃ k : Nat, k ≤ n ∧ i = .int .i64 k ∧ Hid (wr.ownsRow w.heap.size 70 4 (.slice (some ⟨w.heap.size, 0, none⟩) n n) n (flatR ((runL ps e n).take k ++ (List.replicate n r0).drop k))) ∧ Hid (Below w.heap.size w wr)) (fun i _ => n - (intOf i).toNat)
  case atStart =>
    refine ⟨0, Nat.zero_le _, rfl, Lib.hid ?_, HB1⟩
    have h1 := HO1.out
    rw [made_flatR] at h1
    simpa using h1
  case round =>
    obtain ⟨k, hk, rfl, HO, HB⟩ := hrel
    by_cases hkn : k < n
    · obtain ⟨_, _, h3⟩ := HV.out.below HB.out
      rcases h3 with h0 | ⟨g, rfl, hg, h3⟩
      · omega
      obtain ⟨c0, c1⟩ := h3 k hkn
      have hb := (HB.out.cell (p := ⟨b, 0, none⟩) hlt).trans HX.out
      have hltr : b < wr.heap.size := Nat.lt_of_lt_of_le hlt HB.out.size
      have hbz := HB.out.size
      obtain ⟨t1, t2⟩ := HT.out k hkn
      have HS := Lib.hid (put_stepR (runL ps e n) k n (by rw [runL_length]; exact hkn) (runL_length _ _ _))
      rw [runL_get ps e n k hkn] at HS
      have HXW := Lib.hid hb
      clear h3 hb
      generalize ps.getD k Go.Proofs.Ytibafngidpmgdab.s0 = q at *
      obtain ⟨x, y⟩ := q
      simp only at c0 c1 t1 t2
      replace HS : Hid (((runL ps e n).take k ++ (List.replicate n Go.Proofs.Ytibafngidpmgdab.r0).drop k).set k ((x, y), cnt y e, e) = (runL ps e n).take (k + 1) ++ (List.replicate n Go.Proofs.Ytibafngidpmgdab.r0).drop (k + 1)) := HS
      have C := Lib.hid (fun u hb1 hb2 => inBook1_any x y e b u hb1 hb2 t1 t2 e1 e2)
      clear t1 t2
      generalize cnt y e = m at *
      go_wp2_with fail
      refine (C.out _ ((World.cell?_alloc_lt wr _ _ (by exact hltr)).trans HXW.out) (by simp; omega)).mono ?_
      rintro r u ⟨rfl, hb3⟩
      have HB3 := Lib.hid (bTrans (bAlloc HB.out _) hb3)
      have hbz3 := hb3.size
      have HO3 := ownsBC (World.ownsRow.alloc HO.out _) hb3
      clear hb3
      obtain ⟨S1, G1⟩ := World.ownsRow.stored HO3 (k * 4) (.string x)
      obtain ⟨S2, G2⟩ := World.ownsRow.stored S1 (k * 4 + 1) (.int .i64 y)
      obtain ⟨S3, G3⟩ := World.ownsRow.stored S2 (k * 4 + 2) (.int .i64 m)
      obtain ⟨S4, G4⟩ := World.ownsRow.stored S3 (k * 4 + 3) (.int .i64 e)
      have e4 := flatR_set ((runL ps e n).take k ++ (List.replicate n Go.Proofs.Ytibafngidpmgdab.r0).drop k) k ((x, y), m, e)
      rw [HS.out] at e4
      simp only at e4
      rw [e4] at S4
      have hf : ∀ o, u.frozen? ⟨w.heap.size, o, none⟩ = false := fun o => World.ownsRow.frozenAt HO3 _
      have hf0 := hf (k * 4)
      have hf1 := hf (k * 4 + 1)
      have hf2 := hf (k * 4 + 2)
      have hf3 := hf (k * 4 + 3)
      have hc : ∀ o, o < n * 4 → ∃ z, u.cell? ⟨w.heap.size, o, none⟩ = some z := fun o ho => by
        rw [World.ownsRow.cellAt HO3 o (by omega)]
        exact ⟨_, List.getElem?_eq_getElem (by rw [HO3.1]; omega)⟩
      obtain ⟨z0, hc0⟩ := hc (k * 4) (by omega)
      obtain ⟨z1, hc1⟩ := hc (k * 4 + 1) (by omega)
      obtain ⟨z2, hc2⟩ := hc (k * 4 + 2) (by omega)
      obtain ⟨z3, hc3⟩ := hc (k * 4 + 3) (by omega)
      have H3 := Lib.hid S4
      have hsz : w.heap.size ≤ u.heap.size := by simp at hbz3; omega
      have H4 := Lib.hid (Below.grown (Below.grown (Below.grown (Below.grown HB3.out G1 hsz (fun j hj => by injection hj; omega)) G2 (Nat.le_trans hsz G1.size) (fun j hj => by injection hj; omega)) G3 (Nat.le_trans (Nat.le_trans hsz G1.size) G2.size) (fun j hj => by injection hj; omega)) G4 (Nat.le_trans (Nat.le_trans (Nat.le_trans hsz G1.size) G2.size) G3.size) (fun j hj => by injection hj; omega))
      clear S1 S2 S3 S4 G1 G2 G3 G4 e4 HO3 hf hc HS C
      go_wp2
      go_roundw
      case rel => exact ⟨k + 1, by omega, by go_num, Lib.hid H3.out, Lib.hid H4.out⟩
      case measure => simp [intOf]; omega
    · have : k = n := by omega
      subst this
      have h1 := HO.out
      rw [show ((runL ps e k).take k ++ (List.replicate k Go.Proofs.Ytibafngidpmgdab.r0).drop k) = runL ps e k by rw [List.drop_of_length_le (by simp), List.append_nil, List.take_of_length_le (by rw [runL_length]; exact Nat.le_refl _)]] at h1
      have H1 := Lib.hid h1
      clear h1
      go_wp2
      go_ret
      refine ⟨_, rfl, ?_, HB.out⟩
      unfold Rns
      rw [runL_length]
      exact H1.out

/-- impl.runsFor. -/
theorem runsFor_any (A : Option Addr) (n c : Nat) (ps : List Scn) (e : Int) (w : World) (hv : RdC w A n ps) (ht : TicksIn ps n) (e1 : 1 ≤ e) (e2 : e ≤ 100) :
    Calls Try.prog 59 #[.slice A n c, .int .i64 e] w fun r w' => ∃ A' c', r = .returned (.slice A' n c') ∧ RdN w' A' n (runL ps e n) ∧ Below w.heap.size w w' := by
  have hn := hv.2.1
  have HV := Lib.hid hv
  have C := Lib.hid (fun b u h h1 h2 => changedR_any A n c b ps e u h ht e1 e2 h1 h2)
  clear hv ht
  go_enter Try.func59, Try.ntmps59
  go_wp2_with fail
  refine (C.out w.heap.size _ (HV.out.below (bAlloc (Below.refl _ _) _)) (by go_simp) (by simp)).mono ?_
  rintro r u ⟨v, rfl, hr, hb⟩
  obtain ⟨A', c', rfl, hd⟩ := hr.rd (by rw [runL_length]; omega)
  rw [runL_length] at hd ⊢
  have HD := Lib.hid hd
  have HB := Lib.hid (bTrans (bAlloc (Below.refl _ _) _) hb)
  clear hd hr hb C
  go_wp2_with fail
  go_ret
  exact ⟨A', c', rfl, HD.out, HB.out⟩

end Go.Proofs.Ytibafngidpmgdab
