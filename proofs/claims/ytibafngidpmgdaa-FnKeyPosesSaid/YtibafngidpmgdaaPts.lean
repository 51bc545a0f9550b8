/- Lists of points in memory: what is read, what a call owns; the statements' own helpers. -/
import Derived.Test.YtibafngidpmgdaaProg
import Derived.Test.YtibafngidpmgdaaLeaf
import Derived.Test.YtibafngidpmgdaaLists
import Derived.Laws.AppendOwn
import Derived.Laws.OwnMore
import Derived.OwnWalk
import Derived.Deep.Slices
import Derived.Deep.RegionWith
import Derived.Deep.DrawnRows
import Derived.Deep.RegionHeld3
import Derived.Laws.StructEq
import Derived.Tactics
import Derived.Tactics2
import Derived.WalkKit
import Derived.LoopTactic
import Derived.BigQuiet
import Derived.RegionTactic
import Derived.Deep.QuietTactic
import Derived.Outline
import Derived.Lib.Hide
import Derived.Below
import Derived.KernelRfl
namespace Go.Proofs.Ytibafngidpmgdaa
set_option linter.unusedSimpArgs false
set_option linter.unusedVariables false
open Go.RowKit

/-- A point. -/
abbrev Pt := Int × Int
/-- The cells of some points. -/
def flat : List Pt → List Value
  | [] => []
  | p :: ps => .int .i64 p.1 :: .int .i64 p.2 :: flat ps
theorem flat_length : ∀ ps : List Pt, (flat ps).length = ps.length * 2
  | [] => rfl
  | _ :: ps => by simp [flat, flat_length ps]; omega
theorem flat_append : ∀ ps qs : List Pt, flat (ps ++ qs) = flat ps ++ flat qs
  | [], _ => rfl
  | p :: ps, qs => by simp [flat, flat_append ps qs]
theorem flat_get : ∀ (ps : List Pt) (j : Nat), j < ps.length → (flat ps)[j * 2]? = some (.int .i64 (ps.getD j (0, 0)).1) ∧ (flat ps)[j * 2 + 1]? = some (.int .i64 (ps.getD j (0, 0)).2)
  | p :: ps, 0, _ => by simp [flat]
  | p :: ps, j + 1, h => by
    have := flat_get ps j (by simpa using h)
    rw [show (j + 1) * 2 = j * 2 + 1 + 1 by omega]
    simpa [flat] using this
theorem flat_set : ∀ (ps : List Pt) (j : Nat) (q : Pt), ((flat ps).set (j * 2) (.int .i64 q.1)).set (j * 2 + 1) (.int .i64 q.2) = flat (ps.set j q)
  | [], _, _ => rfl
  | p :: ps, 0, q => by simp [flat]
  | p :: ps, j + 1, q => by
    have := flat_set ps j q
    rw [show (j + 1) * 2 = j * 2 + 1 + 1 by omega]
    simpa [flat] using this
theorem flat_oneCell : ∀ (ps : List Pt), ∀ u ∈ flat ps, u.oneCell' = true
  | [], _, h => by simp [flat] at h
  | p :: ps, u, h => by
    simp only [flat, List.mem_cons] at h
    rcases h with rfl | rfl | h
    · rfl
    · rfl
    · exact flat_oneCell ps u h
theorem made_flat (n : Nat) : (madeCells (fr 0 0).cells (n * 2)).toList = flat (List.replicate n (0, 0)) := by
  have h : ∀ m : Nat, (madeCells #[Value.int .i64 0, .int .i64 0] m).toList = List.replicate m (.int .i64 0) := by
    intro m
    apply List.ext_getElem?
    intro j
    by_cases hj : j < m
    · simp [madeCells, hj]
      rcases Nat.mod_two_eq_zero_or_one j with h | h <;> simp [h]
    · simp [madeCells, hj]
  have h2 : ∀ m : Nat, flat (List.replicate m (0, 0)) = List.replicate (m * 2) (.int .i64 0) := by
    intro m
    induction m with
    | zero => rfl
    | succ m ih => rw [List.replicate_succ, flat, ih, show (m + 1) * 2 = m * 2 + 1 + 1 by omega, List.replicate_succ, List.replicate_succ]
  rw [h2]
  exact h _

/-- A list of points of the call's own: nil, or a row in a block from B on. -/
abbrev Pts (w : World) (B : Nat) (v : Value) (ps : List Pt) : Prop := w.ownsRow B 57 2 v ps.length (flat ps)

/-- What a reader sees of a list of points. -/
def Rd (w : World) (A : Option Addr) (n : Nat) (ps : List Pt) : Prop :=
  ps.length = n ∧ n ≤ 1048576 ∧ (n = 0 ∨ ∃ g, A = some ⟨g, 0, none⟩ ∧ g < w.heap.size ∧
    ∀ j, j < n → w.cell? ⟨g, j * 2, none⟩ = some (.int .i64 (ps.getD j (0, 0)).1) ∧ w.cell? ⟨g, j * 2 + 1, none⟩ = some (.int .i64 (ps.getD j (0, 0)).2))
theorem Rd.below {w u : World} {A : Option Addr} {n : Nat} {ps : List Pt} (h : Rd w A n ps) (hb : Below w.heap.size w u) : Rd u A n ps := by
  obtain ⟨h1, h2, h3⟩ := h
  refine ⟨h1, h2, ?_⟩
  rcases h3 with h0 | ⟨g, rfl, hg, hc⟩
  · exact .inl h0
  · exact .inr ⟨g, rfl, Nat.lt_of_lt_of_le hg hb.size, fun j hj => ⟨(hb.cell (p := ⟨g, j * 2, none⟩) hg).trans (hc j hj).1, (hb.cell (p := ⟨g, j * 2 + 1, none⟩) hg).trans (hc j hj).2⟩⟩
theorem Rd.drewN {w : World} {A : Option Addr} {n : Nat} {ps : List Pt} (h : Rd w A n ps) (k : Nat) : Rd (w.drewN k) A n ps := h

/-- What is owned is read. -/
theorem Pts.rd {w : World} {B : Nat} {v : Value} {ps : List Pt} (h : Pts w B v ps) (hl : ps.length ≤ 1048576) : ∃ A cap, v = .slice A ps.length cap ∧ Rd w A ps.length ps := by
  have h' := h
  obtain ⟨_, h2⟩ := h
  rcases h2 with ⟨rfl, h0⟩ | ⟨g, cap, cur, rfl, hB, hg, hn, hm, _, _⟩
  · exact ⟨none, 0, by rw [h0], rfl, hl, .inl h0⟩
  · refine ⟨_, cap, rfl, rfl, hl, .inr ⟨g, rfl, (Array.getElem?_eq_some_iff.1 hg).1, fun j hj => ?_⟩⟩
    rw [h'.cellAt (j * 2) (by omega), h'.cellAt (j * 2 + 1) (by omega)]
    exact flat_get ps j hj
theorem Pts.below {w u : World} {B : Nat} {v : Value} {ps : List Pt} (h : Pts w B v ps) (hb : Below w.heap.size w u) : Pts u B v ps := by
  cases hv : v.ownBlock with
  | none => exact World.ownsRow.kept h (grownNone hb none) (.inl hv)
  | some k => exact World.ownsRow.kept h (grownNone hb none) (.inr (by rw [hv]; simp))
theorem Pts.drewN {w : World} {B : Nat} {v : Value} {ps : List Pt} (h : Pts w B v ps) (n : Nat) : Pts (w.drewN n) B v ps := h

theorem ownsB {w u : World} {B : Nat} {e : TypeId} {z : Nat} {v : Value} {n : Nat} {xs : List Value} (h : w.ownsRow B e z v n xs) (hb : Below w.heap.size w u) : u.ownsRow B e z v n xs := by
  cases hv : v.ownBlock with
  | none => exact World.ownsRow.kept h (grownNone hb none) (.inl hv)
  | some k => exact World.ownsRow.kept h (grownNone hb none) (.inr (by rw [hv]; simp))

theorem grownThenP {w u x : World} {r : Option Nat} (h : w.grownBy u r) (k : u.grownBy x r) : w.grownBy x r :=
  ⟨k.os.trans h.os, k.tape.trans h.tape, k.output.trans h.output, Nat.le_trans h.size k.size, fun j hj hne => (k.block j (Nat.lt_of_lt_of_le hj h.size) hne).trans (h.block j hj hne)⟩

theorem infoPt : (Try.prog.info? 57).map (fun i => (i.zero, i.size, i.bytes)) = some (some (fr 0 0), 2, 16) := by kernel_rfl

/-- A list of points that came in. -/
def PRow (w : World) (A : Option Addr) (n : Nat) (ps : List Pt) : Prop :=
  ps.length = n ∧ n ≤ maxLen ∧ (n = 0 ∨ ∃ b off, A = some ⟨b, off, none⟩ ∧ b < w.heap.size ∧ ∀ j, j < n → w.cell? ⟨b, off + j * 2, none⟩ = some (.int .i64 (ps.getD j (0, 0)).1) ∧ w.cell? ⟨b, off + j * 2 + 1, none⟩ = some (.int .i64 (ps.getD j (0, 0)).2))
theorem PRow.below {w u : World} {A : Option Addr} {n : Nat} {ps : List Pt} (h : PRow w A n ps) (hb : Below w.heap.size w u) : PRow u A n ps := by
  obtain ⟨h1, h2, h3⟩ := h
  refine ⟨h1, h2, ?_⟩
  rcases h3 with h0 | ⟨b, off, rfl, hg, hc⟩
  · exact .inl h0
  · exact .inr ⟨b, off, rfl, Nat.lt_of_lt_of_le hg hb.size, fun j hj => ⟨(hb.cell (p := ⟨b, off + j * 2, none⟩) hg).trans (hc j hj).1, (hb.cell (p := ⟨b, off + j * 2 + 1, none⟩) hg).trans (hc j hj).2⟩⟩

theorem addP (b off i : Nat) : (⟨b, off, none⟩ : Addr).add i = ⟨b, off + i, none⟩ := by unfold Addr.add; split <;> simp_all

/-- A list of points, as a statement's input brings it. -/
theorem PRow.of {W : World} {a : Addr} {len : Nat} (hl : len ≤ maxLen) (h : ∀ i, i < len → ∃ p : Pt, W.cell? (a.add (i * 2)) = some (.int .i64 p.1) ∧ W.cell? (a.add (i * 2 + 1)) = some (.int .i64 p.2)) : ∃ ps, PRow W (some a) len ps := by
  obtain ⟨f, hf⟩ := Go.Deep.choose_lt h
  refine ⟨(List.range len).map f, by simp, hl, ?_⟩
  by_cases h0 : len = 0
  · exact .inl h0
  obtain ⟨b, off, spot⟩ := a
  have hspot : spot = none := by simpa [Addr.add] using World.cell?_spot (hf 0 (by omega)).1
  subst hspot
  have hlt : b < W.heap.size := by simpa [Addr.add] using World.block_lt_of_cell? W _ (hf 0 (by omega)).1
  refine .inr ⟨b, off, rfl, hlt, fun j hj => ?_⟩
  have hg : ((List.range len).map f).getD j (0, 0) = f j := by
    rw [List.getD_eq_getElem?_getD, List.getElem?_map, List.getElem?_range hj]
    rfl
  rw [hg]
  have := hf j hj
  rwa [addP, addP, ← Nat.add_assoc] at this

/-- laws.szPointS. -/
theorem szPointS_any (A : Option Addr) (n cap left : Nat) (w : World) (hn : n ≤ maxLen) (hl : left ≤ 1048576) :
    Calls Try.prog 19 #[.slice A n cap, .int .i64 left] w fun e w' => e = .returned (.int .i64 (if n ≤ left then ((left - n : Nat) : Int) else -1)) ∧ w = w' := by
  unfold maxLen at hn
  by_cases h : n ≤ left
  · rw [if_pos h]
    go_enter Try.func19, Try.ntmps19
    go_wp2
    go_ret
    exact ⟨ret_int (by omega), rfl⟩
  · rw [if_neg h]
    go_enter Try.func19, Try.ntmps19
    go_wp2
    go_ret
    exact ⟨ret_int (by omega), rfl⟩

/-- laws.toPoint. -/
theorem toPoint_any (x y : Int) (w : World) :
    Calls Try.prog 85 #[fr x y] w fun e w' => e = .returned (fr x y) ∧ Below w.heap.size w w' := by
  go_enter Try.func85, Try.ntmps85
  go_wp2
  refine bodyPost_ret (v := fr x y) (by simp [results, Try.results85, go_sem]) rfl ⟨rfl, ?_⟩
  repeat (first | exact Below.refl _ _ | refine bAlloc ?_ _)

theorem put_step (ps : List Pt) (k n : Nat) (hk : k < ps.length) (hn : ps.length = n) :
    (ps.take k ++ (List.replicate n ((0, 0) : Pt)).drop k).set k (ps.getD k (0, 0)) = ps.take (k + 1) ++ (List.replicate n (0, 0)).drop (k + 1) := by
  have hl : (ps.take k).length = k := by rw [List.length_take]; omega
  rw [List.set_append_right _ _ (by omega), hl, Nat.sub_self, List.drop_eq_getElem_cons (by simp; omega), List.set_cons_zero, List.take_add_one, List.append_assoc, List.getD_eq_getElem?_getD, List.getElem?_eq_getElem hk]
  rfl

set_option maxHeartbeats 1000000 in
set_option maxRecDepth 100000 in
/-- laws.toPointS, of what came in. -/
theorem toPointS_any (A : Option Addr) (n cap : Nat) (ps : List Pt) (w : World) (hp : PRow w A n ps) (hn : n ≤ 1048576) :
    Calls Try.prog 21 #[.slice A n cap] w fun e w' => ∃ v, e = .returned v ∧ Pts w' w.heap.size v ps ∧ Below w.heap.size w w' := by
  obtain ⟨i0, hi, hz0, hz1, hz2⟩ := info_parts infoPt
  have hby : i0.bytes * n ≤ 281474976710656 := by rw [hz2]; omega
  have HC := Lib.hid hp.2.2
  have HL := Lib.hid hp.1
  clear hp
  go_enter Try.func21, Try.ntmps21
  go_wp2_with (first | (at_make; refine wpList_make_full _ rfl _ _ 24 rfl w.heap.size 57 i0 (fr 0 0) 2 Try.underlying24 hi hz0 hz1 .i64 .i64 (n : Int) (n : Int) n rfl rfl rfl rfl hby (by unfold maxLen; omega) (Nat.le_refl _) ?_; intro w1 hown1 hgrow1) | fail)
  have HO1 := Lib.hid hown1
  have HB1 := Lib.hid (Below.grown (Below.refl _ w) hgrow1 (Nat.le_refl _) (fun k hk => by cases hk))
  have hg1 : w.heap.size < w1.heap.size := (World.ownsRow.lt hown1 _ rfl).2
  clear hown1 hgrow1
  go_wp2
  go_loopw [4] (fun i wr => ∃ k : Nat, k ≤ n ∧ i = .int .i64 k ∧ Hid (wr.ownsRow w.heap.size 57 2 (.slice (some ⟨w.heap.size, 0, none⟩) n n) n (flat (ps.take k ++ (List.replicate n (0, 0)).drop k))) ∧ Hid (Below w.heap.size w wr)) (fun i _ => n - (intOf i).toNat)
  case atStart =>
    refine ⟨0, Nat.zero_le _, rfl, Lib.hid ?_, HB1⟩
    have h1 := HO1.out
    rw [made_flat] at h1
    simpa using h1
  case round =>
    obtain ⟨k, hk, rfl, HO, HB⟩ := hrel
    by_cases hlt : k < n
    · rcases HC.out with h0 | ⟨b, off, rfl, hb, hcc⟩
      · omega
      obtain ⟨c0, c1⟩ := hcc k hlt
      have hbz := HB.out.size
      have c0 := (HB.out.cell (p := ⟨b, off + k * 2, none⟩) hb).trans c0
      have c1 := (HB.out.cell (p := ⟨b, off + k * 2 + 1, none⟩) hb).trans c1
      have HS := Lib.hid (put_step ps k n (by rw [HL.out]; exact hlt) HL.out)
      generalize ps.getD k (0, 0) = q at *
      obtain ⟨x, y⟩ := q
      clear HC hcc
      go_wp2_with fail
      refine (toPoint_any x y _).mono ?_
      rintro e u ⟨rfl, hb3⟩
      have HB3 := Lib.hid (bTrans HB.out hb3)
      have hbz3 := hb3.size
      have HO3 := ownsB HO.out hb3
      clear hb3
      obtain ⟨S1, S2⟩ := World.ownsRow.stored HO3 (k * 2) (.int .i64 x)
      obtain ⟨S3, S4⟩ := World.ownsRow.stored S1 (k * 2 + 1) (.int .i64 y)
      have e2 := flat_set (ps.take k ++ (List.replicate n ((0, 0) : Pt)).drop k) k (x, y)
      rw [HS.out] at e2
      simp only at e2
      rw [e2] at S3
      have hf0 : u.frozen? ⟨w.heap.size, k * 2, none⟩ = false := World.ownsRow.frozenAt HO3 _
      have hf1 : u.frozen? ⟨w.heap.size, k * 2 + 1, none⟩ = false := World.ownsRow.frozenAt HO3 _
      have hc0 : ∃ z, u.cell? ⟨w.heap.size, k * 2, none⟩ = some z := by
        rw [World.ownsRow.cellAt HO3 (k * 2) (by omega)]
        exact ⟨_, List.getElem?_eq_getElem (by rw [HO3.1]; omega)⟩
      have hc1 : ∃ z, u.cell? ⟨w.heap.size, k * 2 + 1, none⟩ = some z := by
        rw [World.ownsRow.cellAt HO3 (k * 2 + 1) (by omega)]
        exact ⟨_, List.getElem?_eq_getElem (by rw [HO3.1]; omega)⟩
      obtain ⟨z0, hc0⟩ := hc0
      obtain ⟨z1, hc1⟩ := hc1
      have H3 := Lib.hid S3
      have H4 := Lib.hid (Below.grown (Below.grown HB3.out S2 (Nat.le_trans hbz hbz3) (fun j hj => by injection hj; omega)) S4 (Nat.le_trans (Nat.le_trans hbz hbz3) S2.size) (fun j hj => by injection hj; omega))
      clear S1 S2 S3 S4 e2 HO3
      go_wp2
      go_roundw
      case rel => exact ⟨k + 1, by omega, by go_num, Lib.hid H3.out, Lib.hid H4.out⟩
      case measure => simp [intOf]; omega
    · have : k = n := by omega
      subst this
      have h1 := HO.out
      rw [show (ps.take k ++ (List.replicate k ((0, 0) : Pt)).drop k) = ps by rw [List.drop_of_length_le (by simp), List.append_nil, List.take_of_length_le (by rw [HL.out]; exact Nat.le_refl _)]] at h1
      have H1 := Lib.hid h1
      clear h1
      go_wp2
      go_ret
      refine ⟨_, rfl, ?_, HB.out⟩
      unfold Pts
      rw [HL.out]
      exact H1.out

/-- laws.eqPoint, of one point twice. -/
theorem eqPoint_same (x y : Int) (w : World) :
    Calls Try.prog 90 #[fr x y, fr x y] w fun e w' => e = .returned (.bool true) ∧ Below w.heap.size w w' := by
  go_enter Try.func90, Try.ntmps90
  go_wp2
  go_ret
  exact ⟨rfl, bAlloc (bAlloc (Below.refl _ _) _) _⟩

theorem bUndrew {w u : World} (h : Below w.drew.heap.size w.drew u) : Below w.heap.size w u := ⟨h.os, h.tape, h.output, h.size, h.block⟩

set_option maxHeartbeats 1000000 in
set_option maxRecDepth 100000 in
/-- laws.eqPointS, of one list twice. -/
theorem eqPointS_same (A A' : Option Addr) (n c c' : Nat) (ps : List Pt) (w : World) (hv : Rd w A n ps) (hu : Rd w A' n ps) :
    Calls Try.prog 23 #[.slice A n c, .slice A' n c'] w fun e w' => e = .returned (.bool true) ∧ Below w.heap.size w w' := by
  have hn := hv.2.1
  have HV := Lib.hid hv
  have HU := Lib.hid hu
  clear hv hu
  go_enter Try.func23, Try.ntmps23
  go_wp2
  go_loopw [5] (fun i wr => ∃ k : Nat, k ≤ n ∧ i = .int .i64 k ∧ Hid (Below w.heap.size w wr)) (fun i _ => n - (intOf i).toNat)
  case atStart => exact ⟨0, Nat.zero_le _, rfl, Lib.hid (Below.refl _ _)⟩
  case round =>
    obtain ⟨k, hk, rfl, HB⟩ := hrel
    by_cases hlt : k < n
    · obtain ⟨_, _, h3⟩ := HV.out.below HB.out
      obtain ⟨_, _, h4⟩ := HU.out.below HB.out
      rcases h3 with h0 | ⟨g, rfl, hg, h3⟩
      · omega
      rcases h4 with h0 | ⟨d, rfl, hd, h4⟩
      · omega
      obtain ⟨c0, c1⟩ := h3 k hlt
      obtain ⟨c2, c3⟩ := h4 k hlt
      clear h3 h4
      generalize ps.getD k (0, 0) = q at *
      obtain ⟨x, y⟩ := q
      simp only at c0 c1 c2 c3
      go_wp2
      go_region_held3 (fun w' => w'.cell? ⟨g, k * 2, none⟩ = some (.int .i64 x) ∧ w'.cell? ⟨g, k * 2 + 1, none⟩ = some (.int .i64 y) ∧ w'.cell? ⟨d, k * 2, none⟩ = some (.int .i64 x) ∧ w'.cell? ⟨d, k * 2 + 1, none⟩ = some (.int .i64 y)) (go_keep)
        (first | (go_at_call 90; refine (eqPoint_same x y _).mono ?_; rintro e w2 ⟨rfl, hb2⟩; obtain ⟨hc3, hf3⟩ := bCells hb2; have e0 : w2.cell? ⟨g, k * 2, none⟩ = some (.int .i64 x) := (hc3 _ _ (by first | exact hg | simpa using hg)).trans (by first | exact c0 | simpa using c0); have e1 : w2.cell? ⟨g, k * 2 + 1, none⟩ = some (.int .i64 y) := (hc3 _ _ (by first | exact hg | simpa using hg)).trans (by first | exact c1 | simpa using c1); have e2 : w2.cell? ⟨d, k * 2, none⟩ = some (.int .i64 x) := (hc3 _ _ (by first | exact hd | simpa using hd)).trans (by first | exact c2 | simpa using c2); have e3 : w2.cell? ⟨d, k * 2 + 1, none⟩ = some (.int .i64 y) := (hc3 _ _ (by first | exact hd | simpa using hd)).trans (by first | exact c3 | simpa using c3)))
      all_goals go_wp2
      go_roundw
      case rel => exact ⟨k + 1, by omega, by go_num, Lib.hid (bTrans HB.out (bUndrew hb2))⟩
      case measure => simp [intOf]; omega
    · have : k = n := by omega
      subst this
      go_wp2
      go_ret
      exact ⟨rfl, HB.out⟩

/-- The marks that a statement lays into a list of points. -/
def marksP (k0 : Int) : Nat → List Pt
  | 0 => []
  | n + 1 => (k0, k0 + 1) :: marksP (k0 + 2) n
theorem marksP_length : ∀ (n : Nat) (k0 : Int), (marksP k0 n).length = n
  | 0, _ => rfl
  | n + 1, k0 => by simp [marksP, marksP_length n]
theorem marksP_get : ∀ (n : Nat) (k0 : Int) (j : Nat), j < n → (marksP k0 n).getD j (0, 0) = (k0 + 2 * (j : Int), k0 + 2 * (j : Int) + 1)
  | n + 1, k0, 0, _ => by simp [marksP]
  | n + 1, k0, j + 1, h => by
    have := marksP_get n (k0 + 2) j (by omega)
    simp only [marksP, List.getD_cons_succ]
    rw [this]
    congr 1 <;> omega
theorem marksP_step : ∀ (ps : List Pt) (k0 : Int) (i : Nat), i < ps.length → (marksP k0 i ++ ps.drop i).set i (k0 + 2 * (i : Int), k0 + 2 * (i : Int) + 1) = marksP k0 (i + 1) ++ ps.drop (i + 1)
  | p :: ps, k0, 0, _ => by simp [marksP]
  | p :: ps, k0, i + 1, h => by
    have := marksP_step ps (k0 + 2) i (by simpa using h)
    have e : k0 + 2 * ((i + 1 : Nat) : Int) = k0 + 2 + 2 * (i : Int) := by omega
    rw [e]
    conv => rhs; rw [marksP]
    simp only [marksP, List.drop_succ_cons, List.cons_append, List.set_cons_succ, this]

set_option maxHeartbeats 1000000 in
set_option maxRecDepth 100000 in
/-- laws.markPointS. -/
theorem markPointS_any (B : Nat) (k0 : Int) (v : Value) (ps : List Pt) (w : World) (hv : Pts w B v ps) (hk1 : 0 ≤ k0) (hk0 : k0 ≤ 100000000) (hl : ps.length ≤ 100000000) :
    Calls Try.prog 24 #[v, .int .i64 k0] w fun e w' => e = .returned (.int .i64 (k0 + 2 * (ps.length : Int))) ∧ Pts w' B v (marksP k0 ps.length) ∧ w.grownBy w' v.ownBlock ∧ w'.heap.size = w.heap.size := by
  have hv' := hv
  obtain ⟨_, h2⟩ := hv
  rcases h2 with ⟨rfl, h0⟩ | ⟨g, cap, cur, rfl, _, _, _, _, _, _⟩
  · obtain rfl := List.length_eq_zero_iff.1 h0
    go_enter Try.func24, Try.ntmps24
    go_wp2
    refine wp_loop_rounds 1 ?_
    rw [rounds_succ]
    go_wp2
    go_ret
    exact ⟨ret_int (by simp), hv', World.grownBy.refl _ _, rfl⟩
  · have HV := Lib.hid hv'
    clear hv'
    go_enter Try.func24, Try.ntmps24
    go_wp2
    go_loopw [5, 1] (fun i q wr => ∃ k : Nat, k ≤ ps.length ∧ i = .int .i64 k ∧ q = .int .i64 (k0 + 2 * (k : Int)) ∧ Hid (wr.ownsRow B 57 2 (.slice (some ⟨g, 0, none⟩) ps.length cap) ps.length (flat (marksP k0 k ++ ps.drop k))) ∧ Hid (w.grownBy wr (some g) ∧ wr.heap.size = w.heap.size)) (fun i _ _ => ps.length - (intOf i).toNat)
    case atStart => exact ⟨0, Nat.zero_le _, rfl, by simp, Lib.hid (by simpa [marksP] using HV.out), Lib.hid ⟨World.grownBy.refl _ _, rfl⟩⟩
    case round =>
      obtain ⟨k, hk, rfl, rfl, HO, HG⟩ := hrel
      by_cases hlt : k < ps.length
      · have HO3 := HO.out
        obtain ⟨S1, S2⟩ := World.ownsRow.stored HO3 (k * 2) (.int .i64 (k0 + 2 * (k : Int)))
        obtain ⟨S3, S4⟩ := World.ownsRow.stored S1 (k * 2 + 1) (.int .i64 (k0 + 2 * (k : Int) + 1))
        have e2 := flat_set (marksP k0 k ++ ps.drop k) k ((k0 + 2 * (k : Int)), (k0 + 2 * (k : Int) + 1))
        rw [marksP_step ps k0 k hlt] at e2
        simp only at e2
        rw [e2] at S3
        have hf0 : wr.frozen? ⟨g, k * 2, none⟩ = false := World.ownsRow.frozenAt HO3 _
        have hf1 : wr.frozen? ⟨g, k * 2 + 1, none⟩ = false := World.ownsRow.frozenAt HO3 _
        have hc0 : ∃ z, wr.cell? ⟨g, k * 2, none⟩ = some (.int .i64 z) := by
          have hh := (flat_get (marksP k0 k ++ ps.drop k) k (by rw [List.length_append, marksP_length, List.length_drop]; omega)).1
          rw [World.ownsRow.cellAt HO3 (k * 2) (by omega)]
          exact ⟨_, hh⟩
        have hc1 : ∃ z, wr.cell? ⟨g, k * 2 + 1, none⟩ = some (.int .i64 z) := by
          have hh := (flat_get (marksP k0 k ++ ps.drop k) k (by rw [List.length_append, marksP_length, List.length_drop]; omega)).2
          rw [World.ownsRow.cellAt HO3 (k * 2 + 1) (by omega)]
          exact ⟨_, hh⟩
        obtain ⟨z0, hc0⟩ := hc0
        obtain ⟨z1, hc1⟩ := hc1
        have H3 := Lib.hid S3
        have H4 := Lib.hid (show w.grownBy ((wr.setCell ⟨g, k * 2, none⟩ (.int .i64 (k0 + 2 * (k : Int)))).setCell ⟨g, k * 2 + 1, none⟩ (.int .i64 (k0 + 2 * (k : Int) + 1))) (some g) from grownThenP HG.out.1 (grownThenP S2 S4))
        clear S1 S2 S3 S4 e2 HO3
        go_wp2
        go_roundw
        case rel => exact ⟨k + 1, by omega, by go_num, by go_num, Lib.hid H3.out, Lib.hid ⟨H4.out, by simpa using HG.out.2⟩⟩
        case measure => simp [intOf]; omega
      · have : k = ps.length := by omega
        subst this
        have h1 := HO.out
        rw [List.drop_length, List.append_nil] at h1
        have H1 := Lib.hid h1
        clear h1
        go_wp2
        go_ret
        refine ⟨by go_num, ?_, HG.out⟩
        have h1 := H1.out
        unfold Pts
        rw [marksP_length]
        exact h1

set_option maxHeartbeats 1000000 in
set_option maxRecDepth 100000 in
/-- laws.heldPointS. -/
theorem heldPointS_any (k0 : Int) (n : Nat) (A : Option Addr) (c : Nat) (w : World) (hv : Rd w A n (marksP k0 n)) (hk1 : 0 ≤ k0) (hk0 : k0 ≤ 100000000) :
    Calls Try.prog 25 #[.slice A n c, .int .i64 k0] w fun e w' => e = .returned (.int .i64 (k0 + 2 * (n : Int))) ∧ w = w' := by
  have hn := hv.2.1
  have HV := Lib.hid hv
  clear hv
  go_enter Try.func25, Try.ntmps25
  go_wp2
  go_loop [5, 1] (fun i q => ∃ k : Nat, k ≤ n ∧ i = .int .i64 k ∧ q = .int .i64 (k0 + 2 * (k : Int))) (fun i _ => n - (intOf i).toNat)
  case atStart => exact ⟨0, Nat.zero_le _, rfl, by simp⟩
  case round =>
    obtain ⟨k, hk, rfl, rfl⟩ := hrel
    by_cases hlt : k < n
    · obtain ⟨_, _, h3⟩ := HV.out
      rcases h3 with h0 | ⟨g, rfl, hg, h3⟩
      · omega
      obtain ⟨c0, c1⟩ := h3 k hlt
      rw [marksP_get n k0 k hlt] at c0 c1
      simp only at c0 c1
      clear h3
      go_wp2
      go_round
      case rel => exact ⟨k + 1, by omega, by go_num, by go_num⟩
      case measure => simp [intOf]; omega
    · have : k = n := by omega
      subst this
      go_wp2
      go_ret
      exact ⟨by go_num, rfl⟩

end Go.Proofs.Ytibafngidpmgdaa
