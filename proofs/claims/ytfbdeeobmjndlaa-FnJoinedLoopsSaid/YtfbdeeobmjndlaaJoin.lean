/- Pairs of places of two loops: the program. -/
import Derived.Test.YtfbdeeobmjndlaaProg
import Derived.Test.YtfbdeeobmjndlaaLoopMath
import Derived.Test.YtfbdeeobmjndlaaInts
import Derived.Test.YtfbdeeobmjndlaaLoop
import Derived.Test.YtfbdeeobmjndlaaLoop2
import Derived.Test.YtfbdeeobmjndlaaLoop3
import Derived.Test.YtfbdeeobmjndlaaIGrids
import Derived.Test.YtfbdeeobmjndlaaBest
import Derived.Deep.AppendLies
import Derived.Deep.DrawnRows
import Derived.Test.YtfbdeeobmjndlaaHold
import Derived.IntWalk
import Derived.WalkSpells
import Derived.OwnWalk
import Derived.Laws.AppendOwn
import Derived.Laws.OwnMore
import Derived.Deep.RegionWith
import Derived.Deep.DrawnRows
import Derived.Deep.RegionHeld3
import Derived.Tactics
import Derived.Tactics2
import Derived.WalkKit
import Derived.LoopTactic
import Derived.BigQuiet
import Derived.RegionTactic
import Derived.Deep.QuietTactic
import Derived.Outline
import Derived.Lib.Hide
import Derived.Below
import Derived.KernelRfl
namespace Go.Proofs.Ytfbdeeobmjndlaa
set_option linter.unusedSimpArgs false
set_option linter.unusedVariables false
open Go.RowKit

/-- The pairs of places of two loops. -/
def pairsL (xs ys : List Int) (k : Nat) : List (List Int) := (List.range k).map fun (i : Nat) => [ringI xs (i : Int), ringI ys (i : Int)]
theorem pairsL_length (xs ys : List Int) (k : Nat) : (pairsL xs ys k).length = k := by simp [pairsL]
theorem pairsL_succ (xs ys : List Int) (k : Nat) : pairsL xs ys (k + 1) = pairsL xs ys k ++ [[ringI xs (k : Int), ringI ys (k : Int)]] := by
  unfold pairsL
  rw [List.range_succ, List.map_append]
  rfl
theorem totG_pairs (xs ys : List Int) : ∀ k, totG (pairsL xs ys k) = 2 * k
  | 0 => rfl
  | k + 1 => by
    rw [pairsL_succ, totG_append, totG_pairs xs ys k]
    simp [totG]
    omega
theorem pairs_put (xs ys : List Int) (k N : Nat) (h : k < N) : (pairsL xs ys k ++ List.replicate (N - k) []).set k [ringI xs (k : Int), ringI ys (k : Int)] = pairsL xs ys (k + 1) ++ List.replicate (N - (k + 1)) [] := by
  have hl := pairsL_length xs ys k
  rw [List.set_append_right _ _ (by omega), hl, Nat.sub_self, show N - k = (N - (k + 1)) + 1 by omega, List.replicate_succ, List.set_cons_zero, pairsL_succ, List.append_assoc]
  rfl

theorem gridI_nil (w : World) (B : Nat) : GridI w B nvI [] [] := ⟨rfl, World.ownsRow_nil _ _ _ _, fun _ h => by simp at h, fun _ _ _ h => by simp at h⟩
theorem getDI_l {α : Type} {xs ys : List α} {i : Nat} {d : α} (h : i < xs.length) : (xs ++ ys).getD i d = xs.getD i d := by
  rw [List.getD_eq_getElem?_getD, List.getElem?_append_left h, ← List.getD_eq_getElem?_getD]
theorem getDI_last {α : Type} (xs : List α) (x d : α) : (xs ++ [x]).getD xs.length d = x := by
  rw [List.getD_eq_getElem?_getD]
  simp
/-- An owned list behind the others. -/
theorem gridSnocI {w u : World} {B : Nat} {v v' x : Value} {us : List Value} {pss : List (List Int)} {p : List Int} (h : GridI w B v us pss) (hp : Ints w B x p) (hs : ∀ i, i < us.length → Sep (own1 (us.getD i nvI)) (own1 x)) (c : Chg (own1 v) w u)
    (ho : u.ownsRow B 22 1 v' (pss.length + 1) (us ++ [x])) : GridI u B v' (us ++ [x]) (pss ++ [p]) := by
  have hl := h.1
  have ty : ∀ {y : Value} {q : List Int}, Ints w B y q → Sep (own1 y) (own1 v) := fun hq => ownsTypes hq h.2.1 (by decide)
  refine ⟨by simp [hl], by simpa using ho, fun i hi => ?_, fun i j hij hj => ?_⟩
  · by_cases hi2 : i < pss.length
    · rw [getDI_l (show i < us.length by omega), getDI_l hi2]
      have q := h.2.2.1 i hi2
      exact q.chg c (ty q)
    · have hie : i = pss.length := by simp at hi; omega
      have e1 : (us ++ [x]).getD i nvI = x := by rw [hie, ← hl]; exact getDI_last _ _ _
      have e2 : (pss ++ [p]).getD i [] = p := by rw [hie]; exact getDI_last _ _ _
      rw [e1, e2]
      exact hp.chg c (ty hp)
  · by_cases hj2 : j < pss.length
    · rw [getDI_l (show i < us.length by omega), getDI_l (show j < us.length by omega)]
      exact h.2.2.2 i j hij hj2
    · have hje : j = pss.length := by simp at hj; omega
      have e1 : (us ++ [x]).getD j nvI = x := by rw [hje, ← hl]; exact getDI_last _ _ _
      rw [e1, getDI_l (show i < us.length by omega)]
      exact hs i (by omega)
/-- An owned list at a place of an owned list. -/
theorem GridI.put {w : World} {B g N cap k : Nat} {us : List Value} {qs : List (List Int)} {x : Value} {p : List Int} (h : GridI w B (.slice (some ⟨g, 0, none⟩) N cap) us qs) (hN : qs.length = N) (hk : k < qs.length) (hp : Ints w B x p) (hs : ∀ i, i < us.length → Sep (own1 (us.getD i nvI)) (own1 x)) :
    GridI (w.setCell ⟨g, k, none⟩ x) B (.slice (some ⟨g, 0, none⟩) N cap) (us.set k x) (qs.set k p) ∧ Chg (own1 (.slice (some ⟨g, 0, none⟩) N cap)) w (w.setCell ⟨g, k, none⟩ x) := by
  obtain ⟨h1, h2, h3, h4⟩ := h
  have h2' := h2
  rw [hN] at h2'
  obtain ⟨S1, S2⟩ := World.ownsRow.stored h2' k x
  have c : Chg (own1 (.slice (some ⟨g, 0, none⟩) N cap)) w (w.setCell ⟨g, k, none⟩ x) := Chg.set (S := own1 (.slice (some ⟨g, 0, none⟩) N cap)) (p := ⟨g, k, none⟩) (Chg.refl _ _) (.inl rfl) _
  have ty : ∀ {y : Value} {q : List Int}, Ints w B y q → Sep (own1 y) (own1 (.slice (some ⟨g, 0, none⟩) N cap)) := fun hq => ownsTypes hq h2 (by decide)
  refine ⟨⟨by simp [h1], by rw [List.length_set, hN]; exact S1, fun i hi => ?_, fun i j hij hj => ?_⟩, c⟩
  · rw [List.length_set] at hi
    rw [getDI_set _ _ _ _ _ (by omega), getDI_set _ _ _ _ _ (by omega)]
    by_cases e : i = k
    · rw [if_pos e, if_pos e]
      exact hp.chg c (ty hp)
    · rw [if_neg e, if_neg e]
      exact (h3 i hi).chg c (ty (h3 i hi))
  · rw [List.length_set] at hj
    rw [getDI_set _ _ _ _ _ (by omega), getDI_set _ _ _ _ _ (by omega)]
    by_cases ei : i = k
    · rw [if_pos ei, if_neg (by omega)]
      exact (hs j (by omega)).symm
    · rw [if_neg ei]
      by_cases ej : j = k
      · rw [if_pos ej]
        exact hs i (by omega)
      · rw [if_neg ej]
        exact h4 i j hij hj

theorem made_nvI (n : Nat) : (madeCells nvI.cells (n * 1)).toList = List.replicate n nvI := by
  apply List.ext_getElem?
  intro j
  by_cases hj : j < n
  · simp [madeCells, hj, Value.cells, Nat.mod_one]
  · simp [madeCells, hj, Value.cells]
theorem infoG : (Try.prog.info? 22).map (fun i => (i.zero, i.size, i.bytes)) = some (some nvI, 1, 24) := by kernel_rfl
/-- A list of nil lists. -/
theorem gridI_made {w : World} {B g N : Nat} (h : w.ownsRow B 22 1 (.slice (some ⟨g, 0, none⟩) N N) N (List.replicate N nvI)) : GridI w B (.slice (some ⟨g, 0, none⟩) N N) (List.replicate N nvI) (List.replicate N []) := by
  have e1 : ∀ i, (List.replicate N nvI).getD i nvI = nvI := fun i => by
    rw [List.getD_eq_getElem?_getD, List.getElem?_replicate]
    split <;> rfl
  refine ⟨by simp, by simpa using h, fun i hi => ?_, fun i j hij hj => ?_⟩
  · rw [e1 i, List.getD_eq_getElem?_getD, List.getElem?_replicate]
    split <;> exact World.ownsRow_nil _ _ _ _
  · rw [e1 i]
    intro k hk
    simp [own1, Value.ownBlock] at hk

/-- What JoinLoops hands back. -/
def JoinR (w : World) (z : Int) (qs : List (List Int)) (e : Ending) (w' : World) : Prop := ∃ v us, e = .returned (.tuple #[v, .int .i64 z]) ∧ GridI w' w.heap.size v us qs ∧ Below w.heap.size w w'

/-- impl.JoinLoops. -/
theorem implJoin_bad (A A' : Option Addr) (n c n' c' : Nat) (xs ys : List Int) (w : World) (hx : RdI w A n xs) (hy : RdI w A' n' ys) (hz : (loopB xs && loopB ys) = false) :
    Calls Try.prog 38 #[.slice A n c, .slice A' n' c'] w (JoinR w 1 []) := by
  have HX := Lib.hid hx
  have HY := Lib.hid hy
  clear hx hy
  have HB := Lib.hid (show Below w.heap.size w (w.alloc (.cells #[.slice A n c, .slice A' n' c'] 22)) from bAlloc (Below.refl _ _) _)
  go_enter Try.func38, Try.ntmps38
  go_wp2_with fail
  refine (areLoops_any w.heap.size _ A A' n c n' c' xs ys _ (by simp) (by go_simp) (by go_simp) (HX.out.below HB.out) (HY.out.below HB.out)).mono ?_
  rintro e u ⟨rfl, rfl⟩
  rw [hz]
  go_wp2
  go_ret2
  exact ⟨_, _, rfl, gridI_nil _ _, HB.out⟩
theorem implJoin_full (A A' : Option Addr) (n c n' c' : Nat) (xs ys : List Int) (w : World) (hx : RdI w A n xs) (hy : RdI w A' n' ys) (hz : (loopB xs && loopB ys) = true) (hm : ¬ n / Nat.gcd n n' * n' ≤ 360) :
    Calls Try.prog 38 #[.slice A n c, .slice A' n' c'] w (JoinR w 5 []) := by
  have hz2 := hz
  simp only [Bool.and_eq_true] at hz2
  have l1 := loopB_len hz2.1
  have l2 := loopB_len hz2.2
  rw [hx.1] at l1
  rw [hy.1] at l2
  have HX := Lib.hid hx
  have HY := Lib.hid hy
  clear hx hy hz2
  have HB := Lib.hid (show Below w.heap.size w (w.alloc (.cells #[.slice A n c, .slice A' n' c'] 22)) from bAlloc (Below.refl _ _) _)
  have L := Lib.hid (fun u => leastMultiple_any n n' u (by omega) (by omega) (by omega) (by omega))
  generalize n / Nat.gcd n n' * n' = N at *
  have hN : (360 : Int) < N := by omega
  go_enter Try.func38, Try.ntmps38
  go_wp2_with fail
  refine (areLoops_any w.heap.size _ A A' n c n' c' xs ys _ (by simp) (by go_simp) (by go_simp) (HX.out.below HB.out) (HY.out.below HB.out)).mono ?_
  rintro e u ⟨rfl, rfl⟩
  rw [hz]
  go_wp2_with fail
  refine (L.out _).mono ?_
  rintro e u ⟨rfl, m, rfl⟩
  go_wp2
  go_ret2
  exact ⟨_, _, rfl, gridI_nil _ _, bDrewN HB.out m⟩

set_option maxHeartbeats 2000000 in
set_option maxRecDepth 100000 in
theorem implJoin_ok (A A' : Option Addr) (n c n' c' : Nat) (xs ys : List Int) (qs : List (List Int)) (w : World) (hx : RdI w A n xs) (hy : RdI w A' n' ys) (hz : (loopB xs && loopB ys) = true) (hm : n / Nat.gcd n n' * n' ≤ 360) (hqs : qs = pairsL xs ys (n / Nat.gcd n n' * n')) :
    Calls Try.prog 38 #[.slice A n c, .slice A' n' c'] w (JoinR w 0 qs) := by
  have hz2 := hz
  simp only [Bool.and_eq_true] at hz2
  have l1 := loopB_len hz2.1
  have l2 := loopB_len hz2.2
  rw [hx.1] at l1
  rw [hy.1] at l2
  have HX := Lib.hid hx
  have HY := Lib.hid hy
  clear hx hy hz2
  have HB := Lib.hid (show Below w.heap.size w (w.alloc (.cells #[.slice A n c, .slice A' n' c'] 22)) from bAlloc (Below.refl _ _) _)
  have L := Lib.hid (fun u => leastMultiple_any n n' u (by omega) (by omega) (by omega) (by omega))
  obtain ⟨i0, hi, hz0, hz1, hz2⟩ := info_parts infoG
  generalize n / Nat.gcd n n' * n' = N at *
  have HQ := Lib.hid hqs
  clear hqs
  have hN : ¬ (360 : Int) < N := by omega
  have hby : i0.bytes * N ≤ 281474976710656 := by rw [hz2]; omega
  go_enter Try.func38, Try.ntmps38
  go_wp2_with fail
  refine (areLoops_any w.heap.size _ A A' n c n' c' xs ys _ (by simp) (by go_simp) (by go_simp) (HX.out.below HB.out) (HY.out.below HB.out)).mono ?_
  rintro e u ⟨rfl, rfl⟩
  rw [hz]
  go_wp2_with fail
  refine (L.out _).mono ?_
  rintro e u ⟨rfl, m, rfl⟩
  have HB0 := Lib.hid (bDrewN HB.out m)
  generalize (w.alloc (.cells #[.slice A n c, .slice A' n' c'] 22)).drewN m = W at *
  have hWz : w.heap.size ≤ W.heap.size := HB0.out.size
  go_wp2_with (first | (at_make; refine wpList_make_full _ rfl _ _ 36 rfl w.heap.size 22 i0 nvI 1 Try.underlying36 hi hz0 hz1 .i64 .i64 (N : Int) (N : Int) N rfl rfl rfl rfl hby (by unfold maxLen; omega) hWz ?_; intro w1 hown1 hgrow1) | fail)
  have HB1 := Lib.hid (Below.grown HB0.out hgrow1 hWz (fun k hk => by cases hk))
  have hg1 : W.heap.size < w1.heap.size := (World.ownsRow.lt hown1 _ rfl).2
  have HG1 := Lib.hid (gridI_made (by rw [made_nvI] at hown1; exact hown1))
  clear hown1 hgrow1
  go_wp2
  go_loopw [24] (fun i wr => ∃ (k : Nat) (us : List Value), k ≤ N ∧ i = .int .i64 k ∧ Hid (GridI wr w.heap.size (.slice (some ⟨W.heap.size, 0, none⟩) N N) us (pairsL xs ys k ++ List.replicate (N - k) [])) ∧ Hid (Below w.heap.size w wr) ∧ W.heap.size < wr.heap.size) (fun i _ => N - (intOf i).toNat)
  case atStart => exact ⟨0, _, Nat.zero_le _, rfl, Lib.hid (by simpa [pairsL] using HG1.out), HB1, hg1⟩
  case round =>
    obtain ⟨k, us, hk, rfl, HG, HB2, hgz⟩ := hrel
    by_cases hlt : k < N
    · have X1 := Lib.hid (HX.out.below HB2.out)
      have Y1 := Lib.hid (HY.out.below HB2.out)
      have R1 := Lib.hid (ringAt_any A n c xs (k : Int) wr X1.out (by omega) (by omega) (by omega))
      have R2 := Lib.hid (fun u hu => ringAt_any A' n' c' ys (k : Int) u hu (by omega) (by omega) (by omega))
      have HP := Lib.hid (pairs_put xs ys k N hlt)
      have hlen : (pairsL xs ys k ++ List.replicate (N - k) ([] : List Int)).length = N := by rw [List.length_append, pairsL_length, List.length_replicate]; omega
      have HLn := Lib.hid hlen
      have hul : us.length = N := by rw [HG.out.1]; exact hlen
      have hO := HG.out.2.1
      rw [hlen] at hO
      have hf0 : wr.frozen? ⟨W.heap.size, k, none⟩ = false := World.ownsRow.frozenAt hO _
      have hc0 : ∃ z, wr.cell? ⟨W.heap.size, k, none⟩ = some z := by
        rw [World.ownsRow.cellAt hO k (by omega)]
        exact ⟨_, List.getElem?_eq_getElem (by omega)⟩
      obtain ⟨z0, hc0⟩ := hc0
      clear hlen hO
      generalize ringI xs (k : Int) = x at *
      generalize ringI ys (k : Int) = y at *
      go_wp2_with fail
      refine R1.out.mono ?_
      rintro e u ⟨rfl, m1, rfl⟩
      go_wp2_with fail
      refine (R2.out _ (Y1.out.drewN m1)).mono ?_
      rintro e u ⟨rfl, m2, rfl⟩
      have HG3 := Lib.hid (show GridI ((wr.drewN m1).drewN m2) w.heap.size (.slice (some ⟨W.heap.size, 0, none⟩) N N) us (pairsL xs ys k ++ List.replicate (N - k) []) from HG.out.below (bDrewN (bDrewN (Below.refl _ _) m1) m2))
      have HB3 := Lib.hid (bDrewN (bDrewN HB2.out m1) m2)
      have hf1 : ((wr.drewN m1).drewN m2).frozen? ⟨W.heap.size, k, none⟩ = false := hf0
      have hc1 : ((wr.drewN m1).drewN m2).cell? ⟨W.heap.size, k, none⟩ = some z0 := hc0
      have hgz1 : W.heap.size < ((wr.drewN m1).drewN m2).heap.size := hgz
      generalize (wr.drewN m1).drewN m2 = u at *
      have hp := HG3.out.below (bAlloc (Below.refl _ u) (.cells #[.int .i64 x, .int .i64 y] 2))
      have hq : Ints (u.alloc (.cells #[.int .i64 x, .int .i64 y] 2)) w.heap.size (.slice (some ⟨u.heap.size, 0, none⟩) 2 2) [x, y] := World.ownsRow_lit u #[.int .i64 x, .int .i64 y] 2 HB3.out.size (by decide) rfl
      obtain ⟨P1, P2⟩ := hp.put (k := k) HLn.out (by rw [HLn.out]; exact hlt) hq (fun i hi => sepOf u.heap.size (fun q hqq => (GridI.lt HG3.out q (.inr ⟨i, hi, hqq⟩)).2) (fun q hqq => by simp [own1, Value.ownBlock] at hqq; omega))
      have H3 := Lib.hid P1
      have H4 := Lib.hid (show Below w.heap.size w _ from belowChg (bAlloc HB3.out _) P2 (fun q hqq => by simp [own1, Value.ownBlock] at hqq; omega))
      clear hp hq P1 P2 hf0 hc0 R1 R2
      have e9 : (u.alloc (.cells #[.int .i64 x, .int .i64 y] 2)).setCell ⟨W.heap.size, k, none⟩ (.slice (some ⟨u.heap.size, 0, none⟩) 2 2) = (u.setCell ⟨W.heap.size, k, none⟩ (.slice (some ⟨u.heap.size, 0, none⟩) 2 2)).alloc (.cells #[.int .i64 x, .int .i64 y] 2) := by go_simp
      rw [e9] at H3 H4
      rw [HP.out] at H3
      clear e9
      have hne : ¬ u.heap.size = W.heap.size := by omega
      go_wp2
      go_roundw
      case rel => exact ⟨k + 1, _, by omega, by go_num, H3, H4, by simp; omega⟩
      case measure => simp [intOf]; omega
    · have : k = N := by omega
      subst this
      have H1 := HG.out
      rw [Nat.sub_self, List.replicate_zero, List.append_nil, ← HQ.out] at H1
      have H2 := Lib.hid H1
      clear H1
      go_wp2
      go_ret2
      exact ⟨_, _, rfl, H2.out, HB2.out⟩

end Go.Proofs.Ytfbdeeobmjndlaa
