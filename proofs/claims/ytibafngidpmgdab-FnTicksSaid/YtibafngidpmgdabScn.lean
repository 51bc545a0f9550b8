/- Lists of scenes in memory: what is read, what a call owns; the statements' own helpers. -/
import Derived.Test.YtibafngidpmgdabProg
import Derived.Test.YtibafngidpmgdabLeaf
import Derived.Test.YtibafngidpmgdabLists
import Derived.Test.YtibafngidpmgdabTexts
import Derived.Test.YtibafngidpmgdabMot
import Derived.Laws.AppendOwn
import Derived.Laws.OwnMore
import Derived.OwnWalk
import Derived.Deep.Slices
import Derived.Deep.RegionWith
import Derived.Deep.DrawnRows
import Derived.Deep.RegionHeld3
import Derived.Laws.StructEq
import Derived.Tactics
import Derived.Tactics2
import Derived.WalkKit
import Derived.LoopTactic
import Derived.BigQuiet
import Derived.RegionTactic
import Derived.Deep.QuietTactic
import Derived.Outline
import Derived.Lib.Hide
import Derived.Below
import Derived.KernelRfl
namespace Go.Proofs.Ytibafngidpmgdab
set_option linter.unusedSimpArgs false
set_option linter.unusedVariables false
open Go.RowKit

/-- A scene: its pose, its ticks. -/
abbrev Scn := ByteArray × Int
abbrev s0 : Scn := (ByteArray.empty, 0)
/-- A scene as a value. -/
abbrev sv (p : ByteArray) (t : Int) : Value := .agg #[.string p, .int .i64 t]
/-- The cells of some scenes. -/
def flatC : List Scn → List Value
  | [] => []
  | p :: ps => .string p.1 :: .int .i64 p.2 :: flatC ps
theorem flatC_length : ∀ ps : List Scn, (flatC ps).length = ps.length * 2
  | [] => rfl
  | _ :: ps => by simp [flatC, flatC_length ps]; omega
theorem flatC_append : ∀ ps qs : List Scn, flatC (ps ++ qs) = flatC ps ++ flatC qs
  | [], _ => rfl
  | p :: ps, qs => by simp [flatC, flatC_append ps qs]
theorem flatC_get : ∀ (ps : List Scn) (j : Nat), j < ps.length → (flatC ps)[j * 2]? = some (.string (ps.getD j s0).1) ∧ (flatC ps)[j * 2 + 1]? = some (.int .i64 (ps.getD j s0).2)
  | p :: ps, 0, _ => by simp [flatC]
  | p :: ps, j + 1, h => by
    have := flatC_get ps j (by simpa using h)
    rw [show (j + 1) * 2 = j * 2 + 1 + 1 by omega]
    simpa [flatC] using this
theorem flatC_set : ∀ (ps : List Scn) (j : Nat) (q : Scn), ((flatC ps).set (j * 2) (.string q.1)).set (j * 2 + 1) (.int .i64 q.2) = flatC (ps.set j q)
  | [], _, _ => rfl
  | p :: ps, 0, q => by simp [flatC]
  | p :: ps, j + 1, q => by
    have := flatC_set ps j q
    rw [show (j + 1) * 2 = j * 2 + 1 + 1 by omega]
    simpa [flatC] using this
theorem flatC_set0 : ∀ (ps : List Scn) (j : Nat) (t : ByteArray), j < ps.length → (flatC ps).set (j * 2) (.string t) = flatC (ps.set j (t, (ps.getD j s0).2))
  | p :: ps, 0, t, _ => by simp [flatC]
  | p :: ps, j + 1, t, h => by
    have := flatC_set0 ps j t (by simpa using h)
    rw [show (j + 1) * 2 = j * 2 + 1 + 1 by omega]
    simpa [flatC] using this
theorem flatC_set1 : ∀ (ps : List Scn) (j : Nat) (t : Int), j < ps.length → (flatC ps).set (j * 2 + 1) (.int .i64 t) = flatC (ps.set j ((ps.getD j s0).1, t))
  | p :: ps, 0, t, _ => by simp [flatC]
  | p :: ps, j + 1, t, h => by
    have := flatC_set1 ps j t (by simpa using h)
    rw [show (j + 1) * 2 = j * 2 + 1 + 1 by omega]
    simpa [flatC] using this
theorem flatC_oneCell : ∀ (ps : List Scn), ∀ u ∈ flatC ps, u.oneCell' = true
  | [], _, h => by simp [flatC] at h
  | p :: ps, u, h => by
    simp only [flatC, List.mem_cons] at h
    rcases h with rfl | rfl | h
    · rfl
    · rfl
    · exact flatC_oneCell ps u h
theorem made_flatC (n : Nat) : (madeCells (sv ByteArray.empty 0).cells (n * 2)).toList = flatC (List.replicate n s0) := by
  apply List.ext_getElem?
  intro j
  by_cases hj : j < n * 2
  · have h1 : (flatC (List.replicate n s0))[j]? = some (if j % 2 = 0 then .string ByteArray.empty else .int .i64 0) := by
      obtain ⟨q, r, hr, rfl⟩ : ∃ q r, r < 2 ∧ j = q * 2 + r := ⟨j / 2, j % 2, Nat.mod_lt _ (by omega), by omega⟩
      have hq : q < n := by omega
      have hg := flatC_get (List.replicate n s0) q (by simpa using hq)
      have hd : (List.replicate n s0).getD q s0 = s0 := by
        rw [List.getD_eq_getElem?_getD]
        simp [hq]
      rw [hd] at hg
      match r, hr with
      | 0, _ => simpa using hg.1
      | 1, _ => rw [hg.2]; simp
    rw [h1]
    have e : (sv ByteArray.empty 0).cells = #[.string ByteArray.empty, .int .i64 0] := rfl
    rw [e]
    simp [madeCells, hj]
    rcases Nat.mod_two_eq_zero_or_one j with h | h <;> simp [h]
  · have h1 : (flatC (List.replicate n s0))[j]? = none := List.getElem?_eq_none (by rw [flatC_length]; simpa using hj)
    rw [h1]
    simp [madeCells, hj]

/-- A list of scenes of the call's own: nil, or a row in a block from B on. -/
abbrev Scs (w : World) (B : Nat) (v : Value) (ps : List Scn) : Prop := w.ownsRow B 29 2 v ps.length (flatC ps)

/-- What a reader sees of a list of scenes. -/
def RdC (w : World) (A : Option Addr) (n : Nat) (ps : List Scn) : Prop :=
  ps.length = n ∧ n ≤ 1048576 ∧ (n = 0 ∨ ∃ g, A = some ⟨g, 0, none⟩ ∧ g < w.heap.size ∧
    ∀ j, j < n → w.cell? ⟨g, j * 2, none⟩ = some (.string (ps.getD j s0).1) ∧ w.cell? ⟨g, j * 2 + 1, none⟩ = some (.int .i64 (ps.getD j s0).2))
theorem RdC.below {w u : World} {A : Option Addr} {n : Nat} {ps : List Scn} (h : RdC w A n ps) (hb : Below w.heap.size w u) : RdC u A n ps := by
  obtain ⟨h1, h2, h3⟩ := h
  refine ⟨h1, h2, ?_⟩
  rcases h3 with h0 | ⟨g, rfl, hg, hc⟩
  · exact .inl h0
  · exact .inr ⟨g, rfl, Nat.lt_of_lt_of_le hg hb.size, fun j hj => ⟨(hb.cell (p := ⟨g, j * 2, none⟩) hg).trans (hc j hj).1, (hb.cell (p := ⟨g, j * 2 + 1, none⟩) hg).trans (hc j hj).2⟩⟩
theorem RdC.drewN {w : World} {A : Option Addr} {n : Nat} {ps : List Scn} (h : RdC w A n ps) (k : Nat) : RdC (w.drewN k) A n ps := h

theorem ownsBC {w u : World} {B : Nat} {e : TypeId} {z : Nat} {v : Value} {n : Nat} {xs : List Value} (h : w.ownsRow B e z v n xs) (hb : Below w.heap.size w u) : u.ownsRow B e z v n xs := by
  cases hv : v.ownBlock with
  | none => exact World.ownsRow.kept h (grownNone hb none) (.inl hv)
  | some k => exact World.ownsRow.kept h (grownNone hb none) (.inr (by rw [hv]; simp))
/-- What is owned is read. -/
theorem Scs.rd {w : World} {B : Nat} {v : Value} {ps : List Scn} (h : Scs w B v ps) (hl : ps.length ≤ 1048576) : ∃ A cap, v = .slice A ps.length cap ∧ RdC w A ps.length ps := by
  have h' := h
  obtain ⟨_, h2⟩ := h
  rcases h2 with ⟨rfl, h0⟩ | ⟨g, cap, cur, rfl, hB, hg, hn, hm, _, _⟩
  · exact ⟨none, 0, by rw [h0], rfl, hl, .inl h0⟩
  · refine ⟨_, cap, rfl, rfl, hl, .inr ⟨g, rfl, (Array.getElem?_eq_some_iff.1 hg).1, fun j hj => ?_⟩⟩
    rw [h'.cellAt (j * 2) (by omega), h'.cellAt (j * 2 + 1) (by omega)]
    exact flatC_get ps j hj
theorem Scs.below {w u : World} {B : Nat} {v : Value} {ps : List Scn} (h : Scs w B v ps) (hb : Below w.heap.size w u) : Scs u B v ps := ownsBC h hb
theorem Scs.base {w : World} {B B' : Nat} {v : Value} {ps : List Scn} (h : Scs w B v ps) (hB : B' ≤ B) : Scs w B' v ps := ⟨h.1, h.2.imp id (fun ⟨a, b, c, d, e, f⟩ => ⟨a, b, c, d, Nat.le_trans hB e, f⟩)⟩
theorem Scs.rdOf {w : World} {B : Nat} {A : Option Addr} {n c : Nat} {ps : List Scn} (h : Scs w B (.slice A n c) ps) (hl : ps.length = n) (hn : n ≤ 1048576) : RdC w A n ps := by
  obtain ⟨A', c', e, r⟩ := h.rd (by omega)
  simp only [Value.slice.injEq] at e
  obtain ⟨rfl, rfl, rfl⟩ := e
  rwa [hl] at r

theorem grownThenC {w u x : World} {r : Option Nat} (h : w.grownBy u r) (k : u.grownBy x r) : w.grownBy x r :=
  ⟨k.os.trans h.os, k.tape.trans h.tape, k.output.trans h.output, Nat.le_trans h.size k.size, fun j hj hne => (k.block j (Nat.lt_of_lt_of_le hj h.size) hne).trans (h.block j hj hne)⟩

theorem infoC : (Try.prog.info? 29).map (fun i => (i.zero, i.size, i.bytes)) = some (some (sv ByteArray.empty 0), 2, 24) := by kernel_rfl

/-- A list of scenes that came in. -/
def CRow (w : World) (A : Option Addr) (n : Nat) (ps : List Scn) : Prop :=
  ps.length = n ∧ n ≤ maxLen ∧ (∀ j, j < n → (ps.getD j s0).1.size ≤ maxLen) ∧ (n = 0 ∨ ∃ b off, A = some ⟨b, off, none⟩ ∧ b < w.heap.size ∧ ∀ j, j < n → w.cell? ⟨b, off + j * 2, none⟩ = some (.string (ps.getD j s0).1) ∧ w.cell? ⟨b, off + j * 2 + 1, none⟩ = some (.int .i64 (ps.getD j s0).2))
theorem CRow.below {w u : World} {A : Option Addr} {n : Nat} {ps : List Scn} (h : CRow w A n ps) (hb : Below w.heap.size w u) : CRow u A n ps := by
  obtain ⟨h1, h2, h4, h3⟩ := h
  refine ⟨h1, h2, h4, ?_⟩
  rcases h3 with h0 | ⟨b, off, rfl, hg, hc⟩
  · exact .inl h0
  · exact .inr ⟨b, off, rfl, Nat.lt_of_lt_of_le hg hb.size, fun j hj => ⟨(hb.cell (p := ⟨b, off + j * 2, none⟩) hg).trans (hc j hj).1, (hb.cell (p := ⟨b, off + j * 2 + 1, none⟩) hg).trans (hc j hj).2⟩⟩
theorem addC (b off i : Nat) : (⟨b, off, none⟩ : Addr).add i = ⟨b, off + i, none⟩ := by unfold Addr.add; split <;> simp_all
/-- A list of scenes, as a statement's input brings it. -/
theorem CRow.of {W : World} {a : Addr} {len : Nat} (hl : len ≤ maxLen) (h : ∀ i, i < len → ∃ p : Scn, p.1.size ≤ maxLen ∧ W.cell? (a.add (i * 2)) = some (.string p.1) ∧ W.cell? (a.add (i * 2 + 1)) = some (.int .i64 p.2)) : ∃ ps, CRow W (some a) len ps := by
  obtain ⟨f, hf⟩ := Go.Deep.choose_lt h
  have hg : ∀ j, j < len → ((List.range len).map f).getD j s0 = f j := fun j hj => by
    rw [List.getD_eq_getElem?_getD, List.getElem?_map, List.getElem?_range hj]
    rfl
  refine ⟨(List.range len).map f, by simp, hl, fun j hj => by rw [hg j hj]; exact (hf j hj).1, ?_⟩
  by_cases h0 : len = 0
  · exact .inl h0
  obtain ⟨b, off, spot⟩ := a
  have hspot : spot = none := by simpa [Addr.add] using World.cell?_spot (hf 0 (by omega)).2.1
  subst hspot
  have hlt : b < W.heap.size := by simpa [Addr.add] using World.block_lt_of_cell? W _ (hf 0 (by omega)).2.1
  refine .inr ⟨b, off, rfl, hlt, fun j hj => ?_⟩
  rw [hg j hj]
  have := (hf j hj).2
  rwa [addC, addC, ← Nat.add_assoc] at this

/-- How many elements some scenes have, their letters among them. -/
def totC : List Scn → Nat
  | [] => 0
  | k :: ks => k.1.size + totC ks
theorem totC_append : ∀ ks ls : List Scn, totC (ks ++ ls) = totC ks + totC ls
  | [], _ => by simp [totC]
  | k :: ks, ls => by simp [totC, totC_append ks ls]; omega
theorem totC_get : ∀ (ks : List Scn) (j : Nat), j < ks.length → (ks.getD j s0).1.size ≤ totC ks
  | k :: ks, 0, _ => by simp [totC]
  | k :: ks, j + 1, h => by
    have := totC_get ks j (by simpa using h)
    simp only [List.getD_cons_succ, totC]
    omega
theorem take_snocC (ks : List Scn) (j : Nat) (h : j < ks.length) : ks.take (j + 1) = ks.take j ++ [ks.getD j s0] := by
  rw [List.take_add_one, List.getD_eq_getElem?_getD, List.getElem?_eq_getElem h]
  rfl
theorem totC_take (ks : List Scn) (j : Nat) (h : j < ks.length) : totC (ks.take (j + 1)) = totC (ks.take j) + (ks.getD j s0).1.size := by
  rw [take_snocC ks j h, totC_append]
  simp [totC]
theorem totC_le (ks : List Scn) (j : Nat) : totC (ks.take j) ≤ totC ks := by
  have := totC_append (ks.take j) (ks.drop j)
  rw [List.take_append_drop] at this
  omega

/-- laws.szScene. -/
theorem szScene_any (p : ByteArray) (t : Int) (left : Nat) (w : World) (hn : p.size ≤ maxLen) (hl : left ≤ 1048576) :
    Calls Try.prog 61 #[sv p t, .int .i64 left] w fun e w' => e = .returned (.int .i64 (if p.size ≤ left then ((left - p.size : Nat) : Int) else -1)) ∧ Below w.heap.size w w' := by
  unfold maxLen at hn
  by_cases h : p.size ≤ left
  · rw [if_pos h]
    go_enter Try.func61, Try.ntmps61
    go_wp2
    go_ret
    exact ⟨ret_int (by omega), bAlloc (Below.refl _ _) _⟩
  · rw [if_neg h]
    go_enter Try.func61, Try.ntmps61
    go_wp2
    go_ret
    exact ⟨ret_int (by omega), bAlloc (Below.refl _ _) _⟩
theorem szScene_in (p : ByteArray) (t : Int) (left : Nat) (w : World) (hn : p.size ≤ maxLen) (hl : left ≤ 1048576) (h : p.size ≤ left) :
    Calls Try.prog 61 #[sv p t, .int .i64 left] w fun e w' => e = .returned (.int .i64 ((left - p.size : Nat) : Int)) ∧ Below w.heap.size w w' := by
  have := szScene_any p t left w hn hl
  rwa [if_pos h] at this
theorem szScene_over (p : ByteArray) (t : Int) (left : Nat) (w : World) (hn : p.size ≤ maxLen) (hl : left ≤ 1048576) (h : ¬ p.size ≤ left) :
    Calls Try.prog 61 #[sv p t, .int .i64 left] w fun e w' => e = .returned (.int .i64 (-1)) ∧ Below w.heap.size w w' := by
  have := szScene_any p t left w hn hl
  rwa [if_neg h] at this

set_option maxHeartbeats 1000000 in
set_option maxRecDepth 100000 in
/-- laws.szSceneS: small enough, or not. -/
theorem szSceneS_any (A : Option Addr) (n cap : Nat) (ks : List Scn) (left : Nat) (w : World) (hp : CRow w A n ks) (hleft : left ≤ 1048576) :
    Calls Try.prog 26 #[.slice A n cap, .int .i64 left] w fun e w' => e = .returned (.int .i64 (if n + totC ks ≤ left then ((left - (n + totC ks) : Nat) : Int) else -1)) ∧ Below w.heap.size w w' := by
  have hm := hp.2.1
  unfold maxLen at hm
  have HL := Lib.hid hp.1
  have HM := Lib.hid hp.2.2.1
  have HC := Lib.hid hp
  clear hp
  by_cases hn : n ≤ left
  · go_enter Try.func26, Try.ntmps26
    go_wp2
    go_loopw [5, 1] (fun i l wr => ∃ k : Nat, k ≤ n ∧ i = .int .i64 k ∧ n + totC (ks.take k) ≤ left ∧ l = .int .i64 ((left - (n + totC (ks.take k)) : Nat) : Int) ∧ Hid (Below w.heap.size w wr)) (fun i _ _ => n - (intOf i).toNat)
    case atStart => exact ⟨0, Nat.zero_le _, rfl, by simpa [totC] using hn, by simp [totC]; omega, Lib.hid (Below.refl _ _)⟩
    case round =>
      obtain ⟨k, hk, rfl, hs, rfl, HB⟩ := hrel
      by_cases hlt : k < n
      · obtain ⟨_, _, _, h3⟩ := HC.out.below HB.out
        rcases h3 with h0 | ⟨b, off, rfl, hb, h3⟩
        · omega
        obtain ⟨c0, c1⟩ := h3 k hlt
        have hrl := HM.out k hlt
        have hT := Lib.hid (totC_take ks k (by rw [HL.out]; exact hlt))
        have hle := totC_le ks (k + 1)
        have htk := totC_take ks k (by rw [HL.out]; exact hlt)
        clear h3
        generalize ks.getD k Go.Proofs.Ytibafngidpmgdab.s0 = q at *
        obtain ⟨p, t⟩ := q
        simp only at c0 c1 hrl hT htk
        generalize totC (ks.take k) = T at *
        by_cases hin : p.size ≤ left - (n + T)
        · clear htk
          go_wp2_with fail
          refine (szScene_in p t (left - (n + T)) _ hrl (by omega) hin).mono ?_
          rintro e u ⟨rfl, hb2⟩
          have HB2 := Lib.hid (bTrans HB.out hb2)
          clear hb2
          go_wp2
          go_roundw
          case rel => exact ⟨k + 1, by omega, by go_num, by rw [hT.out]; omega, by rw [hT.out]; simp; omega, HB2⟩
          case measure => simp [intOf]; omega
        · have hout : ¬ n + totC ks ≤ left := by omega
          clear htk
          go_wp2_with fail
          refine (szScene_over p t (left - (n + T)) _ hrl (by omega) hin).mono ?_
          rintro e u ⟨rfl, hb2⟩
          have HB2 := Lib.hid (bTrans HB.out hb2)
          clear hb2
          go_wp2
          go_ret
          exact ⟨ret_int (by first | rfl | rw [if_neg hout]), HB2.out⟩
      · have : k = n := by omega
        subst this
        have hT := Lib.hid (show ks.take k = ks from List.take_of_length_le (by rw [HL.out]; exact Nat.le_refl _))
        rw [hT.out] at hs ⊢
        go_wp2
        go_ret
        exact ⟨ret_int (by first | rfl | rw [if_pos hs]), HB.out⟩
  · have hout : ¬ n + totC ks ≤ left := by omega
    go_enter Try.func26, Try.ntmps26
    go_wp2
    go_ret
    exact ⟨ret_int (by first | rfl | rw [if_neg hout]), Below.refl _ _⟩
theorem szC_in (A : Option Addr) (n cap : Nat) (ks : List Scn) (left : Nat) (w : World) (hp : CRow w A n ks) (hleft : left ≤ 1048576) (h : n + totC ks ≤ left) :
    Calls Try.prog 26 #[.slice A n cap, .int .i64 left] w fun e w' => e = .returned (.int .i64 ((left - (n + totC ks) : Nat) : Int)) ∧ Below w.heap.size w w' := by
  have := szSceneS_any A n cap ks left w hp hleft
  rwa [if_pos h] at this
theorem szC_over (A : Option Addr) (n cap : Nat) (ks : List Scn) (left : Nat) (w : World) (hp : CRow w A n ks) (hleft : left ≤ 1048576) (h : ¬ n + totC ks ≤ left) :
    Calls Try.prog 26 #[.slice A n cap, .int .i64 left] w fun e w' => e = .returned (.int .i64 (-1)) ∧ Below w.heap.size w w' := by
  have := szSceneS_any A n cap ks left w hp hleft
  rwa [if_neg h] at this

/-- laws.toScene. -/
theorem toScene_any (p : ByteArray) (t : Int) (w : World) :
    Calls Try.prog 63 #[sv p t] w fun e w' => e = .returned (sv p t) ∧ Below w.heap.size w w' := by
  go_enter Try.func63, Try.ntmps63
  go_wp2
  refine bodyPost_ret (v := sv p t) (by simp [results, Try.results63, go_sem]) rfl ⟨rfl, ?_⟩
  repeat (first | exact Below.refl _ _ | refine bAlloc ?_ _)

theorem put_stepC (ps : List Scn) (k n : Nat) (hk : k < ps.length) (hn : ps.length = n) :
    (ps.take k ++ (List.replicate n s0).drop k).set k (ps.getD k s0) = ps.take (k + 1) ++ (List.replicate n s0).drop (k + 1) := by
  have hl : (ps.take k).length = k := by rw [List.length_take]; omega
  rw [List.set_append_right _ _ (by omega), hl, Nat.sub_self, List.drop_eq_getElem_cons (by simp; omega), List.set_cons_zero, List.take_add_one, List.append_assoc, List.getD_eq_getElem?_getD, List.getElem?_eq_getElem hk]
  rfl

set_option maxHeartbeats 1000000 in
set_option maxRecDepth 100000 in
/-- laws.toSceneS, of what came in. -/
theorem toSceneS_any (A : Option Addr) (n cap : Nat) (ps : List Scn) (w : World) (hp : CRow w A n ps) (hn : n ≤ 1048576) :
    Calls Try.prog 28 #[.slice A n cap] w fun e w' => ∃ v, e = .returned v ∧ Scs w' w.heap.size v ps ∧ Below w.heap.size w w' := by
  obtain ⟨i0, hi, hz0, hz1, hz2⟩ := info_parts infoC
  have hby : i0.bytes * n ≤ 281474976710656 := by rw [hz2]; omega
  have HC := Lib.hid hp.2.2.2
  have HL := Lib.hid hp.1
  clear hp
  go_enter Try.func28, Try.ntmps28
  go_wp2_with (first | (at_make; refine wpList_make_full _ rfl _ _ 24 rfl w.heap.size 29 i0 (sv ByteArray.empty 0) 2 Try.underlying24 hi hz0 hz1 .i64 .i64 (n : Int) (n : Int) n rfl rfl rfl rfl hby (by unfold maxLen; omega) (Nat.le_refl _) ?_; intro w1 hown1 hgrow1) | fail)
  have HO1 := Lib.hid hown1
  have HB1 := Lib.hid (Below.grown (Below.refl _ w) hgrow1 (Nat.le_refl _) (fun k hk => by cases hk))
  have hg1 : w.heap.size < w1.heap.size := (World.ownsRow.lt hown1 _ rfl).2
  clear hown1 hgrow1
  go_wp2
  go_loopw [4] (fun i wr => ∃ k : Nat, k ≤ n ∧ i = .int .i64 k ∧ Hid (wr.ownsRow w.heap.size 29 2 (.slice (some ⟨w.heap.size, 0, none⟩) n n) n (flatC (ps.take k ++ (List.replicate n s0).drop k))) ∧ Hid (Below w.heap.size w wr)) (fun i _ => n - (intOf i).toNat)
  case atStart =>
    refine ⟨0, Nat.zero_le _, rfl, Lib.hid ?_, HB1⟩
    have h1 := HO1.out
    rw [made_flatC] at h1
    simpa using h1
  case round =>
    obtain ⟨k, hk, rfl, HO, HB⟩ := hrel
    by_cases hlt : k < n
    · rcases HC.out with h0 | ⟨b, off, rfl, hb, hcc⟩
      · omega
      obtain ⟨c0, c1⟩ := hcc k hlt
      have hbz := HB.out.size
      have c0 := (HB.out.cell (p := ⟨b, off + k * 2, none⟩) hb).trans c0
      have c1 := (HB.out.cell (p := ⟨b, off + k * 2 + 1, none⟩) hb).trans c1
      have HS := Lib.hid (put_stepC ps k n (by rw [HL.out]; exact hlt) HL.out)
      generalize ps.getD k Go.Proofs.Ytibafngidpmgdab.s0 = q at *
      obtain ⟨x, y⟩ := q
      clear HC hcc
      go_wp2_with fail
      refine (toScene_any x y _).mono ?_
      rintro e u ⟨rfl, hb3⟩
      have HB3 := Lib.hid (bTrans HB.out hb3)
      have hbz3 := hb3.size
      have HO3 := ownsBC HO.out hb3
      clear hb3
      obtain ⟨S1, S2⟩ := World.ownsRow.stored HO3 (k * 2) (.string x)
      obtain ⟨S3, S4⟩ := World.ownsRow.stored S1 (k * 2 + 1) (.int .i64 y)
      have e2 := flatC_set (ps.take k ++ (List.replicate n Go.Proofs.Ytibafngidpmgdab.s0).drop k) k (x, y)
      rw [HS.out] at e2
      simp only at e2
      rw [e2] at S3
      have hf0 : u.frozen? ⟨w.heap.size, k * 2, none⟩ = false := World.ownsRow.frozenAt HO3 _
      have hf1 : u.frozen? ⟨w.heap.size, k * 2 + 1, none⟩ = false := World.ownsRow.frozenAt HO3 _
      have hc0 : ∃ z, u.cell? ⟨w.heap.size, k * 2, none⟩ = some z := by
        rw [World.ownsRow.cellAt HO3 (k * 2) (by omega)]
        exact ⟨_, List.getElem?_eq_getElem (by rw [HO3.1]; omega)⟩
      have hc1 : ∃ z, u.cell? ⟨w.heap.size, k * 2 + 1, none⟩ = some z := by
        rw [World.ownsRow.cellAt HO3 (k * 2 + 1) (by omega)]
        exact ⟨_, List.getElem?_eq_getElem (by rw [HO3.1]; omega)⟩
      obtain ⟨z0, hc0⟩ := hc0
      obtain ⟨z1, hc1⟩ := hc1
      have H3 := Lib.hid S3
      have H4 := Lib.hid (Below.grown (Below.grown HB3.out S2 (Nat.le_trans hbz hbz3) (fun j hj => by injection hj; omega)) S4 (Nat.le_trans (Nat.le_trans hbz hbz3) S2.size) (fun j hj => by injection hj; omega))
      clear S1 S2 S3 S4 e2 HO3
      go_wp2
      go_roundw
      case rel => exact ⟨k + 1, by omega, by go_num, Lib.hid H3.out, Lib.hid H4.out⟩
      case measure => simp [intOf]; omega
    · have : k = n := by omega
      subst this
      have h1 := HO.out
      rw [show (ps.take k ++ (List.replicate k Go.Proofs.Ytibafngidpmgdab.s0).drop k) = ps by rw [List.drop_of_length_le (by simp), List.append_nil, List.take_of_length_le (by rw [HL.out]; exact Nat.le_refl _)]] at h1
      have H1 := Lib.hid h1
      clear h1
      go_wp2
      go_ret
      refine ⟨_, rfl, ?_, HB.out⟩
      unfold Scs
      rw [HL.out]
      exact H1.out
/-- The contract of laws.toSceneS as the statements use it. -/
theorem toC (A : Option Addr) (n cap : Nat) (ps : List Scn) (w : World) (hp : CRow w A n ps) (hn : n ≤ 1048576) :
    Calls Try.prog 28 #[.slice A n cap] w fun e w' => ∃ A' c', e = .returned (.slice A' n c') ∧ Scs w' w.heap.size (.slice A' n c') ps ∧ Below w.heap.size w w' := by
  have hl := hp.1
  refine (toSceneS_any A n cap ps w hp hn).mono ?_
  rintro e u ⟨v, rfl, hP, hb⟩
  obtain ⟨A', c', rfl, hr⟩ := hP.rd (by omega)
  rw [hl] at hP ⊢
  exact ⟨A', c', rfl, hP, hb⟩

/-- laws.eqScene, of one scene twice. -/
theorem eqScene_same (x : ByteArray) (y : Int) (w : World) :
    Calls Try.prog 65 #[sv x y, sv x y] w fun e w' => e = .returned (.bool true) ∧ Below w.heap.size w w' := by
  go_enter Try.func65, Try.ntmps65
  go_wp2
  go_ret
  exact ⟨rfl, bAlloc (bAlloc (Below.refl _ _) _) _⟩

set_option maxHeartbeats 1000000 in
set_option maxRecDepth 100000 in
/-- laws.eqSceneS, of one list twice. -/
theorem eqSceneS_same (A A' : Option Addr) (n c c' : Nat) (ps : List Scn) (w : World) (hv : RdC w A n ps) (hu : RdC w A' n ps) :
    Calls Try.prog 30 #[.slice A n c, .slice A' n c'] w fun e w' => e = .returned (.bool true) ∧ Below w.heap.size w w' := by
  have hn := hv.2.1
  have HV := Lib.hid hv
  have HU := Lib.hid hu
  clear hv hu
  go_enter Try.func30, Try.ntmps30
  go_wp2
  go_loopw [5] (fun i wr => ∃ k : Nat, k ≤ n ∧ i = .int .i64 k ∧ Hid (Below w.heap.size w wr)) (fun i _ => n - (intOf i).toNat)
  case atStart => exact ⟨0, Nat.zero_le _, rfl, Lib.hid (Below.refl _ _)⟩
  case round =>
    obtain ⟨k, hk, rfl, HB⟩ := hrel
    by_cases hlt : k < n
    · obtain ⟨_, _, h3⟩ := HV.out.below HB.out
      obtain ⟨_, _, h4⟩ := HU.out.below HB.out
      rcases h3 with h0 | ⟨g, rfl, hg, h3⟩
      · omega
      rcases h4 with h0 | ⟨d, rfl, hd, h4⟩
      · omega
      obtain ⟨c0, c1⟩ := h3 k hlt
      obtain ⟨c2, c3⟩ := h4 k hlt
      clear h3 h4
      generalize ps.getD k Go.Proofs.Ytibafngidpmgdab.s0 = q at *
      obtain ⟨x, y⟩ := q
      simp only at c0 c1 c2 c3
      go_wp2
      go_region_held3 (fun w' => w'.cell? ⟨g, k * 2, none⟩ = some (.string x) ∧ w'.cell? ⟨g, k * 2 + 1, none⟩ = some (.int .i64 y) ∧ w'.cell? ⟨d, k * 2, none⟩ = some (.string x) ∧ w'.cell? ⟨d, k * 2 + 1, none⟩ = some (.int .i64 y)) (go_keep)
        (first | (go_at_call 65; refine (eqScene_same x y _).mono ?_; rintro e w2 ⟨rfl, hb2⟩; obtain ⟨hc3, hf3⟩ := bCells hb2; have e0 : w2.cell? ⟨g, k * 2, none⟩ = some (.string x) := (hc3 _ _ (by first | exact hg | simpa using hg)).trans (by first | exact c0 | simpa using c0); have e1 : w2.cell? ⟨g, k * 2 + 1, none⟩ = some (.int .i64 y) := (hc3 _ _ (by first | exact hg | simpa using hg)).trans (by first | exact c1 | simpa using c1); have e2 : w2.cell? ⟨d, k * 2, none⟩ = some (.string x) := (hc3 _ _ (by first | exact hd | simpa using hd)).trans (by first | exact c2 | simpa using c2); have e3 : w2.cell? ⟨d, k * 2 + 1, none⟩ = some (.int .i64 y) := (hc3 _ _ (by first | exact hd | simpa using hd)).trans (by first | exact c3 | simpa using c3)))
      all_goals go_wp2
      go_roundw
      case rel => exact ⟨k + 1, by omega, by go_num, Lib.hid (bTrans HB.out (bUndrew0 hb2))⟩
      case measure => simp [intOf]; omega
    · have : k = n := by omega
      subst this
      go_wp2
      go_ret
      exact ⟨rfl, HB.out⟩

/-- The marks that a statement lays into a list of scenes. -/
def marksC (k0 : Nat) : Nat → List Scn
  | 0 => []
  | n + 1 => (markT k0, ((k0 + 1 : Nat) : Int)) :: marksC (k0 + 2) n
theorem marksC_length : ∀ (n : Nat) (k0 : Nat), (marksC k0 n).length = n
  | 0, _ => rfl
  | n + 1, k0 => by simp [marksC, marksC_length n]
theorem marksC_get : ∀ (n : Nat) (k0 : Nat) (j : Nat), j < n → (marksC k0 n).getD j s0 = (markT (k0 + 2 * j), ((k0 + 2 * j + 1 : Nat) : Int))
  | n + 1, k0, 0, _ => by simp [marksC]
  | n + 1, k0, j + 1, h => by
    have := marksC_get n (k0 + 2) j (by omega)
    simp only [marksC, List.getD_cons_succ]
    rw [this, show k0 + 2 + 2 * j = k0 + 2 * (j + 1) by omega]
theorem marksC_step : ∀ (ps : List Scn) (k0 : Nat) (i : Nat), i < ps.length → (marksC k0 i ++ ps.drop i).set i (markT (k0 + 2 * i), ((k0 + 2 * i + 1 : Nat) : Int)) = marksC k0 (i + 1) ++ ps.drop (i + 1)
  | p :: ps, k0, 0, _ => by simp [marksC]
  | p :: ps, k0, i + 1, h => by
    have := marksC_step ps (k0 + 2) i (by simpa using h)
    rw [show k0 + 2 * (i + 1) = k0 + 2 + 2 * i by omega]
    conv => rhs; rw [marksC]
    simp only [marksC, List.drop_succ_cons, List.cons_append, List.set_cons_succ, this]

set_option maxHeartbeats 1000000 in
set_option maxRecDepth 100000 in
/-- laws.markSceneS. -/
theorem markSceneS_any (B : Nat) (k0 : Nat) (v : Value) (ps : List Scn) (w : World) (hv : Scs w B v ps) (hk1 : 1 ≤ k0) (hk0 : k0 ≤ 100000000) (hl : ps.length ≤ 100000000) :
    Calls Try.prog 33 #[v, .int .i64 k0] w fun e w' => e = .returned (.int .i64 ((k0 + 2 * ps.length : Nat) : Int)) ∧ Scs w' B v (marksC k0 ps.length) ∧ w.grownBy w' v.ownBlock := by
  have hv' := hv
  obtain ⟨_, h2⟩ := hv
  rcases h2 with ⟨rfl, h0⟩ | ⟨g, cap, cur, rfl, _, _, _, _, _, _⟩
  · obtain rfl := List.length_eq_zero_iff.1 h0
    go_enter Try.func33, Try.ntmps33
    go_wp2
    refine wp_loop_rounds 1 ?_
    rw [rounds_succ]
    go_wp2
    go_ret
    exact ⟨ret_int (by simp), hv', World.grownBy.refl _ _⟩
  · have HV := Lib.hid hv'
    clear hv'
    go_enter Try.func33, Try.ntmps33
    go_wp2
    go_loopw [5, 1] (fun i q wr => ∃ k : Nat, k ≤ ps.length ∧ i = .int .i64 k ∧ q = .int .i64 ((k0 + 2 * k : Nat) : Int) ∧ Hid (wr.ownsRow B 29 2 (.slice (some ⟨g, 0, none⟩) ps.length cap) ps.length (flatC (marksC k0 k ++ ps.drop k))) ∧ Hid (w.grownBy wr (some g))) (fun i _ _ => ps.length - (intOf i).toNat)
    case atStart => exact ⟨0, Nat.zero_le _, rfl, by simp, Lib.hid (by simpa [marksC] using HV.out), Lib.hid (World.grownBy.refl _ _)⟩
    case round =>
      obtain ⟨k, hk, rfl, rfl, HO, HG⟩ := hrel
      by_cases hlt : k < ps.length
      · have hm := Lib.hid (fun w => markText_any (k0 + 2 * k) w (by omega) (by omega))
        have HS := Lib.hid (marksC_step ps k0 k hlt)
        generalize markT (k0 + 2 * k) = mt at *
        go_wp2_with fail
        refine (hm.out _).mono ?_
        rintro e u ⟨rfl, hb⟩
        have HO3 := ownsBC HO.out hb
        have HG2 := Lib.hid (grownThenC HG.out (grownNone0 hb (some g)))
        obtain ⟨S1, S2⟩ := World.ownsRow.stored HO3 (k * 2) (.string mt)
        obtain ⟨S3, S4⟩ := World.ownsRow.stored S1 (k * 2 + 1) (.int .i64 ((k0 + 2 * k + 1 : Nat) : Int))
        have e2 := flatC_set (marksC k0 k ++ ps.drop k) k (mt, ((k0 + 2 * k + 1 : Nat) : Int))
        rw [HS.out] at e2
        simp only at e2
        rw [e2] at S3
        have hf0 : u.frozen? ⟨g, k * 2, none⟩ = false := World.ownsRow.frozenAt HO3 _
        have hf1 : u.frozen? ⟨g, k * 2 + 1, none⟩ = false := World.ownsRow.frozenAt HO3 _
        have hc0 : ∃ z, u.cell? ⟨g, k * 2, none⟩ = some (.string z) := by
          have hh := (flatC_get (marksC k0 k ++ ps.drop k) k (by rw [List.length_append, marksC_length, List.length_drop]; omega)).1
          rw [World.ownsRow.cellAt HO3 (k * 2) (by omega)]
          exact ⟨_, hh⟩
        have hc1 : ∃ z, u.cell? ⟨g, k * 2 + 1, none⟩ = some (.int .i64 z) := by
          have hh := (flatC_get (marksC k0 k ++ ps.drop k) k (by rw [List.length_append, marksC_length, List.length_drop]; omega)).2
          rw [World.ownsRow.cellAt HO3 (k * 2 + 1) (by omega)]
          exact ⟨_, hh⟩
        obtain ⟨z0, hc0⟩ := hc0
        obtain ⟨z1, hc1⟩ := hc1
        have H3 := Lib.hid S3
        have H4 := Lib.hid (show w.grownBy ((u.setCell ⟨g, k * 2, none⟩ (.string mt)).setCell ⟨g, k * 2 + 1, none⟩ (.int .i64 ((k0 + 2 * k + 1 : Nat) : Int))) (some g) from grownThenC HG2.out (grownThenC S2 S4))
        have hnum : ((k0 + 2 * k : Nat) : Int) + 1 = ((k0 + 2 * k + 1 : Nat) : Int) := by omega
        have HN := Lib.hid hnum
        clear S1 S2 S3 S4 e2 HO3 HS hb hnum
        go_wp2
        go_roundw
        case rel => exact ⟨k + 1, by omega, by go_num, by go_num, Lib.hid (by first | exact H3.out | simpa using H3.out), Lib.hid (by first | exact H4.out | simpa using H4.out)⟩
        case measure => simp [intOf]; omega
      · have : k = ps.length := by omega
        subst this
        have h1 := HO.out
        rw [List.drop_length, List.append_nil] at h1
        have H1 := Lib.hid h1
        clear h1
        go_wp2
        go_ret
        refine ⟨by go_num, ?_, HG.out⟩
        have h1 := H1.out
        unfold Scs
        rw [marksC_length]
        exact h1

set_option maxHeartbeats 1000000 in
set_option maxRecDepth 100000 in
/-- laws.heldSceneS. -/
theorem heldSceneS_any (k0 : Nat) (n : Nat) (A : Option Addr) (c : Nat) (w : World) (hv : RdC w A n (marksC k0 n)) (hk1 : 1 ≤ k0) (hk0 : k0 ≤ 100000000) :
    Calls Try.prog 34 #[.slice A n c, .int .i64 k0] w fun e w' => e = .returned (.int .i64 ((k0 + 2 * n : Nat) : Int)) ∧ Below w.heap.size w w' := by
  have hn := hv.2.1
  have HV := Lib.hid hv
  clear hv
  go_enter Try.func34, Try.ntmps34
  go_wp2
  go_loopw [5, 1] (fun i q wr => ∃ k : Nat, k ≤ n ∧ i = .int .i64 k ∧ q = .int .i64 ((k0 + 2 * k : Nat) : Int) ∧ Hid (Below w.heap.size w wr)) (fun i _ _ => n - (intOf i).toNat)
  case atStart => exact ⟨0, Nat.zero_le _, rfl, by simp, Lib.hid (Below.refl _ _)⟩
  case round =>
    obtain ⟨k, hk, rfl, rfl, HB⟩ := hrel
    by_cases hlt : k < n
    · obtain ⟨_, _, h3⟩ := HV.out.below HB.out
      rcases h3 with h0 | ⟨g, rfl, hg, h3⟩
      · omega
      obtain ⟨c0, c1⟩ := h3 k hlt
      rw [marksC_get n k0 k hlt] at c0 c1
      simp only at c0 c1
      clear h3
      have hm := Lib.hid (fun w => markText_any (k0 + 2 * k) w (by omega) (by omega))
      generalize markT (k0 + 2 * k) = mt at *
      have z0 := hg
      go_wp2
      go_region_held3 (fun w' => w'.cell? ⟨g, k * 2, none⟩ = some (.string mt) ∧ w'.cell? ⟨g, k * 2 + 1, none⟩ = some (.int .i64 ((k0 + 2 * k + 1 : Nat) : Int))) (go_keep)
        (first | (go_at_call 69; refine (hm.out _).mono ?_; rintro e w2 ⟨rfl, hb2⟩; obtain ⟨hc3, hf3⟩ := bCells hb2; have e0 : w2.cell? ⟨g, k * 2, none⟩ = some (.string mt) := (hc3 _ _ (by first | exact z0 | simpa using z0)).trans (by first | exact c0 | simpa using c0); have e1 : w2.cell? ⟨g, k * 2 + 1, none⟩ = some (.int .i64 ((k0 + 2 * k + 1 : Nat) : Int)) := (hc3 _ _ (by first | exact z0 | simpa using z0)).trans (by first | exact c1 | simpa using c1)))
      all_goals go_wp2
      go_roundw
      case rel => exact ⟨k + 1, by omega, by go_num, by go_num, Lib.hid (bTrans HB.out (bUndrew0 hb2))⟩
      case measure => simp [intOf]; omega
    · have : k = n := by omega
      subst this
      go_wp2
      go_ret
      exact ⟨by go_num, HB.out⟩

end Go.Proofs.Ytibafngidpmgdab
