/- Lists of lists of points as results: compared, marked and looked at again by the statements. -/
import Derived.Test.YtibafngidpmgdaaProg
import Derived.Test.YtibafngidpmgdaaPts
import Derived.Test.YtibafngidpmgdaaHold
import Derived.Test.YtibafngidpmgdaaKeys
import Derived.OwnWalk
import Derived.Deep.RegionWith
import Derived.Deep.DrawnRows
import Derived.Deep.RegionHeld3
import Derived.Tactics
import Derived.Tactics2
import Derived.WalkKit
import Derived.LoopTactic
import Derived.BigQuiet
import Derived.RegionTactic
import Derived.Deep.QuietTactic
import Derived.Outline
import Derived.Lib.Hide
import Derived.Below
import Derived.KernelRfl
namespace Go.Proofs.Ytibafngidpmgdaa
set_option linter.unusedSimpArgs false
set_option linter.unusedVariables false
open Go.RowKit

abbrev nv : Value := .slice none 0 0

/-- What a reader sees of a list of lists of points. -/
def RdQ (w : World) (A : Option Addr) (n : Nat) (pss : List (List Pt)) : Prop :=
  pss.length = n ∧ n ≤ 1048576 ∧ (n = 0 ∨ ∃ g, A = some ⟨g, 0, none⟩ ∧ g < w.heap.size ∧
    ∀ j, j < n → ∃ A' c', w.cell? ⟨g, j, none⟩ = some (.slice A' (pss.getD j []).length c') ∧ Rd w A' (pss.getD j []).length (pss.getD j []))
theorem RdQ.below {w u : World} {A : Option Addr} {n : Nat} {pss : List (List Pt)} (h : RdQ w A n pss) (hb : Below w.heap.size w u) : RdQ u A n pss := by
  obtain ⟨h1, h2, h3⟩ := h
  refine ⟨h1, h2, ?_⟩
  rcases h3 with h0 | ⟨g, rfl, hg, hc⟩
  · exact .inl h0
  · refine .inr ⟨g, rfl, Nat.lt_of_lt_of_le hg hb.size, fun j hj => ?_⟩
    obtain ⟨A', c', c1, r⟩ := hc j hj
    exact ⟨A', c', (hb.cell (p := ⟨g, j, none⟩) hg).trans c1, r.below hb⟩

/-- The blocks of a list of lists. -/
def ownU (v : Value) (us : List Value) (k : Nat) : Prop := own1 v k ∨ ∃ i, i < us.length ∧ own1 (us.getD i nv) k

/-- A list of lists of points of the call's own. -/
def Grid (w : World) (B : Nat) (v : Value) (us : List Value) (pss : List (List Pt)) : Prop :=
  us.length = pss.length ∧ w.ownsRow B 24 1 v pss.length us ∧
  (∀ i, i < pss.length → Pts w B (us.getD i nv) (pss.getD i [])) ∧
  ∀ i j, i < j → j < pss.length → Sep (own1 (us.getD i nv)) (own1 (us.getD j nv))

theorem Grid.lt {w : World} {B : Nat} {v : Value} {us : List Value} {pss : List (List Pt)} (h : Grid w B v us pss) : ∀ k, ownU v us k → B ≤ k ∧ k < w.heap.size := by
  rintro k (hk | ⟨i, hi, hk⟩)
  · exact ownsLt h.2.1 k hk
  · exact ownsLt (h.2.2.1 i (by rw [← h.1]; exact hi)) k hk
theorem Grid.chg {S : Nat → Prop} {w u : World} {B : Nat} {v : Value} {us : List Value} {pss : List (List Pt)} (h : Grid w B v us pss) (c : Chg S w u) (hs : Sep (ownU v us) S) : Grid u B v us pss :=
  ⟨h.1, ownsChg h.2.1 c (fun k hk => hs k (.inl hk)), fun i hi => (h.2.2.1 i hi).chg c (fun k hk => hs k (.inr ⟨i, by rw [h.1]; exact hi, hk⟩)), h.2.2.2⟩
theorem Grid.below {w u : World} {B : Nat} {v : Value} {us : List Value} {pss : List (List Pt)} (h : Grid w B v us pss) (hb : Below w.heap.size w u) : Grid u B v us pss :=
  h.chg (Chg.ofBelow (fun _ => False) hb) (fun _ _ hf => hf)
theorem Grid.base {w : World} {B B' : Nat} {v : Value} {us : List Value} {pss : List (List Pt)} (h : Grid w B v us pss) (hB : B' ≤ B) : Grid w B' v us pss :=
  ⟨h.1, ⟨h.2.1.1, h.2.1.2.imp id (fun ⟨a, b, c, d, e, f⟩ => ⟨a, b, c, d, Nat.le_trans hB e, f⟩)⟩, fun i hi => (h.2.2.1 i hi).base hB, h.2.2.2⟩

/-- How many points some lists have. -/
def totQ : List (List Pt) → Nat
  | [] => 0
  | p :: pss => p.length + totQ pss
theorem totQ_append : ∀ ks ls : List (List Pt), totQ (ks ++ ls) = totQ ks + totQ ls
  | [], _ => by simp [totQ]
  | k :: ks, ls => by simp [totQ, totQ_append ks ls]; omega
theorem totQ_get : ∀ (ks : List (List Pt)) (j : Nat), j < ks.length → (ks.getD j []).length ≤ totQ ks
  | k :: ks, 0, _ => by simp [totQ]
  | k :: ks, j + 1, h => by
    have := totQ_get ks j (by simpa using h)
    simp only [List.getD_cons_succ, totQ]
    omega
theorem take_snocQ (ks : List (List Pt)) (j : Nat) (h : j < ks.length) : ks.take (j + 1) = ks.take j ++ [ks.getD j []] := by
  rw [List.take_add_one, List.getD_eq_getElem?_getD, List.getElem?_eq_getElem h]
  rfl
theorem totQ_take (ks : List (List Pt)) (j : Nat) (h : j < ks.length) : totQ (ks.take (j + 1)) = totQ (ks.take j) + (ks.getD j []).length := by
  rw [take_snocQ ks j h, totQ_append]
  simp [totQ]
theorem totQ_le (ks : List (List Pt)) (j : Nat) : totQ (ks.take j) ≤ totQ ks := by
  have := totQ_append (ks.take j) (ks.drop j)
  rw [List.take_append_drop] at this
  omega

/-- What is owned is read. -/
theorem Grid.rd {w : World} {B : Nat} {v : Value} {us : List Value} {pss : List (List Pt)} (h : Grid w B v us pss) (hl : pss.length ≤ 1048576) (ht : totQ pss ≤ 1048576) : ∃ A cap, v = .slice A pss.length cap ∧ RdQ w A pss.length pss := by
  obtain ⟨h1, h2, h3, h4⟩ := h
  have h2' := h2
  rcases h2.2 with ⟨rfl, h0⟩ | ⟨g, cap, cur, rfl, hB, hg, hn, hm, _, _⟩
  · exact ⟨none, 0, by rw [h0], rfl, hl, .inl h0⟩
  · refine ⟨_, cap, rfl, rfl, hl, .inr ⟨g, rfl, (Array.getElem?_eq_some_iff.1 hg).1, fun j hj => ?_⟩⟩
    have p1 := h3 j hj
    have := totQ_get pss j hj
    obtain ⟨A', c', e2, r⟩ := p1.rd (by omega)
    refine ⟨A', c', ?_, r⟩
    rw [h2'.cellAt j (by omega), ← e2, List.getD_eq_getElem?_getD, List.getElem?_eq_getElem (by omega)]
    rfl
theorem Grid.rdOf {w : World} {B : Nat} {A : Option Addr} {n c : Nat} {us : List Value} {pss : List (List Pt)} (h : Grid w B (.slice A n c) us pss) (hl : pss.length = n) (hn : n ≤ 1048576) (ht : totQ pss ≤ 1048576) : RdQ w A n pss := by
  obtain ⟨A', c', e, r⟩ := h.rd (by omega) ht
  simp only [Value.slice.injEq] at e
  obtain ⟨rfl, rfl, rfl⟩ := e
  rwa [hl] at r

/-- The marks that a statement lays into a list of lists of points. -/
def marksQ (m : Int) : List (List Pt) → List (List Pt)
  | [] => []
  | k :: ks => marksP m k.length :: marksQ (m + 2 * (k.length : Int)) ks
theorem marksQ_length : ∀ (ks : List (List Pt)) (m : Int), (marksQ m ks).length = ks.length
  | [], _ => rfl
  | k :: ks, m => by simp [marksQ, marksQ_length ks]
theorem marksQ_tot : ∀ (ks : List (List Pt)) (m : Int), totQ (marksQ m ks) = totQ ks
  | [], _ => rfl
  | k :: ks, m => by simp [marksQ, totQ, marksQ_tot ks, marksP_length]
theorem marksQ_get : ∀ (ks : List (List Pt)) (m : Int) (i : Nat), i < ks.length → (marksQ m ks).getD i [] = marksP (m + 2 * (totQ (ks.take i) : Int)) (ks.getD i []).length
  | k :: ks, m, 0, _ => by simp [marksQ, totQ]
  | k :: ks, m, i + 1, h => by
    have := marksQ_get ks (m + 2 * (k.length : Int)) i (by simpa using h)
    simp only [marksQ, List.getD_cons_succ, List.take_succ_cons, totQ]
    rw [this]
    have e : m + 2 * (k.length : Int) + 2 * (totQ (ks.take i) : Int) = m + 2 * ((k.length + totQ (ks.take i) : Nat) : Int) := by omega
    rw [e]
theorem marksQ_step : ∀ (ks : List (List Pt)) (m : Int) (i : Nat), i < ks.length → (marksQ m (ks.take i) ++ ks.drop i).set i (marksP (m + 2 * (totQ (ks.take i) : Int)) (ks.getD i []).length) = marksQ m (ks.take (i + 1)) ++ ks.drop (i + 1)
  | k :: ks, m, 0, _ => by simp [marksQ, totQ]
  | k :: ks, m, i + 1, h => by
    have := marksQ_step ks (m + 2 * (k.length : Int)) i (by simpa using h)
    have e : m + 2 * (k.length : Int) + 2 * (totQ (ks.take i) : Int) = m + 2 * ((k.length + totQ (ks.take i) : Nat) : Int) := by omega
    rw [e] at this
    rw [List.take_succ_cons, List.take_succ_cons, List.drop_succ_cons, List.drop_succ_cons, marksQ, marksQ, totQ, List.getD_cons_succ]
    simp only [List.cons_append, List.set_cons_succ]
    rw [this]
theorem mixedQ_get (ks : List (List Pt)) (m : Int) (i : Nat) (h : i < ks.length) : (marksQ m (ks.take i) ++ ks.drop i).getD i [] = ks.getD i [] := by
  have hl : (marksQ m (ks.take i)).length = i := by rw [marksQ_length, List.length_take]; omega
  rw [List.getD_eq_getElem?_getD, List.getElem?_append_right (by omega), hl, Nat.sub_self, List.getElem?_drop, Nat.add_zero, List.getD_eq_getElem?_getD]
theorem mixedQ_length (ks : List (List Pt)) (m : Int) (i : Nat) (h : i ≤ ks.length) : (marksQ m (ks.take i) ++ ks.drop i).length = ks.length := by
  rw [List.length_append, marksQ_length, List.length_take, List.length_drop]; omega

/-- One list of a list of the call's own has been marked. -/
theorem Grid.mark {w w3 : World} {B i : Nat} {v : Value} {qs : List Pt} {us : List Value} {ks : List (List Pt)} (h : Grid w B v us ks) (hi : i < ks.length)
    (hp : Pts w3 B (us.getD i nv) qs) (hc : Chg (own1 (us.getD i nv)) w w3) :
    Grid w3 B v us (ks.set i qs) ∧ Chg (ownU v us) w w3 := by
  obtain ⟨h1, h2, h3, h4⟩ := h
  have hty : ∀ j, j < ks.length → Sep (own1 v) (own1 (us.getD j nv)) := fun j hj => ownsTypes h2 (h3 j hj) (by decide)
  refine ⟨⟨by simp [h1], ?_, ?_, ?_⟩, ?_⟩
  · rw [List.length_set]
    exact ownsChg h2 hc (hty i hi)
  · intro j hj
    rw [List.length_set] at hj
    rw [getD_set _ _ _ _ _ hi]
    by_cases hji : j = i
    · subst hji
      rw [if_pos rfl]
      exact hp
    · rw [if_neg hji]
      refine (h3 j hj).chg hc ?_
      rcases Nat.lt_or_ge j i with hlt | hge
      · exact h4 j i hlt hi
      · exact (h4 i j (by omega) hj).symm
  · intro a b hab hb
    rw [List.length_set] at hb
    exact h4 a b hab hb
  · refine hc.mono ?_
    intro q hq
    exact .inr ⟨i, by omega, hq⟩

end Go.Proofs.Ytibafngidpmgdaa
