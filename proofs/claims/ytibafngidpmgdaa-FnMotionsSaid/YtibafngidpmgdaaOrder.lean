/- The pictures that are seen in a turn: in the program and in the model. -/
import Derived.Test.YtibafngidpmgdaaProg
import Derived.Test.YtibafngidpmgdaaSeen
import Derived.Test.YtibafngidpmgdaaLists
import Derived.Laws.AppendOwn
import Derived.Laws.OwnMore
import Derived.OwnWalk
import Derived.Tactics
import Derived.Tactics2
import Derived.WalkKit
import Derived.LoopTactic
import Derived.BigQuiet
import Derived.RegionTactic
import Derived.Deep.QuietTactic
import Derived.Outline
import Derived.Lib.Hide
import Derived.Below
import Derived.KernelRfl
namespace Go.Proofs.Ytibafngidpmgdaa
set_option linter.unusedSimpArgs false
set_option linter.unusedVariables false
open Go.RowKit

theorem infoInt : (Try.prog.info? 2).map (fun i => (i.zero, i.size, i.bytes)) = some (some (.int .i64 0), 1, 8) := by kernel_rfl

/-- One new cell: what an append reads. -/
theorem one_new (w : World) (x : Int) (t : TypeId) : ∀ j u, [Value.int .i64 x][j]? = some u → (w.alloc (.cells #[.int .i64 x] t)).cell? ((⟨w.heap.size, 0, none⟩ : Addr).add j) = some u := by
  intro j u hj
  match j, hj with
  | 0, hj =>
    simp at hj
    subst hj
    simp [Addr.add]

/-- The pictures seen at the first flashes. -/
def orderTo (p s : Int) (n : Nat) : List Int := (List.range n).map fun k : Nat => seenN p s ((k : Int) * p)
theorem orderTo_length (p s : Int) (n : Nat) : (orderTo p s n).length = n := by simp [orderTo]
theorem orderTo_succ (p s : Int) (n : Nat) : orderTo p s (n + 1) = orderTo p s n ++ [seenN p s ((n : Int) * p)] := by
  unfold orderTo
  rw [List.range_succ, List.map_append]
  rfl
theorem orderTo_get (p s : Int) (n k : Nat) (h : k < n) : (orderTo p s n).getD k 0 = seenN p s ((k : Int) * p) := by
  unfold orderTo
  rw [List.getD_eq_getElem?_getD, List.getElem?_map, List.getElem?_range h]
  rfl
theorem orderTo_take (p s : Int) (n k : Nat) (h : k ≤ n) : (orderTo p s n).take k = orderTo p s k := by
  unfold orderTo
  rw [← List.map_take, List.take_range, Nat.min_eq_left h]

/-- A flash within a turn. -/
theorem turn_bd {p s : Int} (h : discB p s = true) (k : Nat) (hk : (k : Int) < s) : 0 ≤ (k : Int) * p ∧ (k : Int) * p ≤ 48000000 := by
  obtain ⟨p1, p2, s1, s2⟩ := discB_bd h
  have m1 := mul_bd (x := (k : Int)) (y := p) (m := 48) (k := 48) (by omega) (by omega) (by omega) (by omega)
  have m2 : 0 ≤ (k : Int) * p := Int.mul_nonneg (by omega) (by omega)
  omega

set_option maxHeartbeats 1000000 in
/-- spec.l03Order. -/
theorem l03Order_any (p : Int) (n : Nat) (w : World) (h : discB p n = true) :
    Calls Try.prog 127 #[.int .i64 p, .int .i64 n] w fun e w' => ∃ v, e = .returned v ∧ Ints w' w.heap.size v (orderTo p n n) ∧ Below w.heap.size w w' := by
  obtain ⟨p1, p2, s1, s2⟩ := discB_bd h
  have T := Lib.hid (fun (k : Nat) (hk : (k : Int) < n) => turn_bd h k hk)
  obtain ⟨i0, hi, hz0, hz1, hz2⟩ := info_parts infoInt
  go_enter Try.func127, Try.ntmps127
  go_wp2
  go_loopw [6, 5] (fun i v wr => ∃ k : Nat, k ≤ n ∧ i = .int .i64 k ∧ Hid (wr.ownsRow w.heap.size 2 1 v k ((orderTo p n k).map (Value.int .i64))) ∧ Hid (Below w.heap.size w wr)) (fun i _ _ => n - (intOf i).toNat)
  case atStart => exact ⟨0, Nat.zero_le _, rfl, Lib.hid (World.ownsRow_lit w #[] 0 (Nat.le_refl _) (Nat.zero_le _) rfl), Lib.hid (bAlloc (Below.refl _ _) _)⟩
  case round =>
    obtain ⟨k, hk, rfl, HO, HB⟩ := hrel
    by_cases hlt : k < n
    · obtain ⟨x0, x1⟩ := T.out k (by omega)
      have hbz := HB.out.size
      go_wp2_with (first | (go_at_call 155; refine (l03Seen_any p n k ((k : Int) * p) _ h rfl x0 x1).mono ?_; rintro e u ⟨rfl, rfl⟩) | (at_builtin; refine wpList_append_own _ rfl _ _ 62 rfl w.heap.size 2 i0 (.int .i64 0) 1 8 Try.underlying62 hi hz0 hz1 hz2 rfl (by decide) _ _ _ rfl (HO.out.alloc _) ⟨wr.heap.size, 0, none⟩ 1 1 [.int .i64 (seenN p n ((k : Int) * p))] rfl rfl (one_new _ _ _) (ints_oneCell .i64 [seenN p n ((k : Int) * p)]) (by unfold maxLen; omega) (by omega) (by simp; omega) ?_; intro v' w1 hown' hgrow hnil))
      have HO' := Lib.hid hown'
      have HB' := Lib.hid (Below.grown (bAlloc HB.out _) hgrow (by simp; omega) (fun j hj => (World.ownsRow.lt HO.out j hj).1))
      clear hown' hgrow hnil
      go_wp2
      go_roundw
      case rel => exact ⟨k + 1, by omega, by go_num, Lib.hid (by rw [orderTo_succ, List.map_append]; exact HO'.out), HB'⟩
      case measure => simp [intOf]; omega
    · have : k = n := by omega
      subst this
      go_wp2
      go_ret
      refine ⟨_, rfl, ?_, HB.out⟩
      unfold Ints
      rw [orderTo_length]
      exact HO.out

theorem fill_step (xs zs : List Int) (k : Nat) (h1 : k < xs.length) (h2 : k < zs.length) : (xs.take k ++ zs.drop k).set k (xs.getD k 0) = xs.take (k + 1) ++ zs.drop (k + 1) := by
  have hl : (xs.take k).length = k := by rw [List.length_take]; omega
  rw [List.set_append_right _ _ (by omega), hl, Nat.sub_self, List.drop_eq_getElem_cons h2, List.set_cons_zero, List.take_add_one, List.append_assoc, List.getD_eq_getElem?_getD, List.getElem?_eq_getElem h1]
  rfl

theorem Fl.grown {w u : World} {b : Nat} {p s : Int} {r : Option Nat} (h : Fl w b p s) (hg : w.grownBy u r) (hr : ∀ k, r = some k → b + 3 < k) : Fl u b p s := by
  obtain ⟨h1, h2, h3, h4, h5⟩ := h
  have key : ∀ c, c ≤ b + 3 → u.heap[c]? = w.heap[c]? := fun c hc => hg.block c (by omega) (fun e => by have := hr c e.symm; omega)
  refine ⟨?_, ?_, ?_, ?_, Nat.lt_of_lt_of_le h5 hg.size⟩
  · rw [World.cell?_of_block (key b (by omega))]; exact h1
  · rw [World.cell?_of_block (key (b + 1) (by omega))]; exact h2
  · rw [World.cell?_of_block (key (b + 2) (by omega))]; exact h3
  · rw [World.cell?_of_block (key (b + 3) (by omega))]; exact h4
theorem Fl.drewN {w : World} {b : Nat} {p s : Int} (h : Fl w b p s) (n : Nat) : Fl (w.drewN n) b p s := h

set_option maxHeartbeats 2000000 in
/-- impl.seenOrder. -/
theorem seenOrder_any (p : Int) (n : Nat) (w : World) (h : discB p n = true) :
    Calls Try.prog 152 #[.int .i64 p, .int .i64 n] w fun e w' => ∃ v, e = .returned v ∧ Ints w' w.heap.size v (orderTo p n n) ∧ Below w.heap.size w w' := by
  obtain ⟨p1, p2, s1, s2⟩ := discB_bd h
  have T := Lib.hid (fun (k : Nat) (hk : (k : Int) < n) => turn_bd h k hk)
  obtain ⟨i0, hi, hz0, hz1, hz2⟩ := info_parts infoInt
  have hby : i0.bytes * n ≤ 281474976710656 := by rw [hz2]; omega
  go_enter Try.func152, Try.ntmps152
  go_wp2_with fail
  refine (flashes_any p n _).mono ?_
  rintro e u1 ⟨rfl, hf, hb1⟩
  have HF := Lib.hid hf
  have hz := hf.2.2.2.2
  clear hf
  go_wp2_with (first | (at_make; refine wpList_make_full _ rfl _ _ 62 rfl u1.heap.size 2 i0 (.int .i64 0) 1 Try.underlying62 hi hz0 hz1 .i64 .i64 (n : Int) (n : Int) n rfl rfl rfl rfl hby (by unfold maxLen; omega) (Nat.le_refl _) ?_; intro w1 hown1 hgrow1) | fail)
  have hs1 := hgrow1.size
  have HF1 := Lib.hid (HF.out.grown hgrow1 (fun k hk => by cases hk))
  have HO1 := Lib.hid hown1
  have HB1 := Lib.hid (Below.grown hb1 hgrow1 hb1.size (fun k hk => by cases hk))
  have hg1 : u1.heap.size < w1.heap.size := (World.ownsRow.lt hown1 _ rfl).2
  clear hown1 hgrow1
  generalize u1.heap.size = g at *
  go_wp2
  go_loopw [14] (fun i wr => ∃ k : Nat, k ≤ n ∧ i = .int .i64 k ∧ Hid (wr.ownsRow g 2 1 (.slice (some ⟨g, 0, none⟩) n n) n (((orderTo p n n).take k ++ (List.replicate n (0 : Int)).drop k).map (Value.int .i64))) ∧ Hid (Below w.heap.size w wr) ∧ Hid (Fl wr w.heap.size p n)) (fun i _ => n - (intOf i).toNat)
  case atStart =>
    refine ⟨0, Nat.zero_le _, rfl, Lib.hid ?_, HB1, HF1⟩
    have h1 := HO1.out
    rw [show (madeCells (Value.int .i64 0).cells (n * 1)).toList = List.replicate n (Value.int .i64 0) by rw [Nat.mul_one]; exact toList_madeCells_one _ _] at h1
    simpa using h1
  case round =>
    obtain ⟨k, hk, rfl, HO, HB, HFl⟩ := hrel
    by_cases hlt : k < n
    · obtain ⟨x0, x1⟩ := T.out k (by omega)
      have hbz := HB.out.size
      obtain ⟨S1, S2⟩ := World.ownsRow.stored HO.out k (.int .i64 (seenN p n ((k : Int) * p)))
      rw [← List.map_set, ← orderTo_get p n n k hlt, fill_step _ _ k (by rw [orderTo_length]; exact hlt) (by simpa using hlt), orderTo_get p n n k hlt] at S1
      have hf : wr.frozen? ⟨g, k, none⟩ = false := World.ownsRow.frozenAt HO.out k
      have hc : ∃ z, wr.cell? ⟨g, k, none⟩ = some (.int .i64 z) := by
        have h1 : k < ((orderTo p n n).take k ++ (List.replicate n (0 : Int)).drop k).length := by rw [List.length_append, List.length_take, orderTo_length, List.length_drop, List.length_replicate]; omega
        refine ⟨((orderTo p n n).take k ++ (List.replicate n (0 : Int)).drop k)[k], ?_⟩
        rw [World.ownsRow.cellAt HO.out k (by omega), List.getElem?_map, List.getElem?_eq_getElem h1]
        rfl
      obtain ⟨z, hc⟩ := hc
      have H1 := Lib.hid S1
      have H2 := Lib.hid S2
      clear S1 S2
      have F := Lib.hid (fun u hf => flash_any p n k ((k : Int) * p) w.heap.size u hf h rfl x0 x1)
      generalize seenN p n ((k : Int) * p) = y at *
      go_wp2_with fail
      refine (F.out _ HFl.out).mono ?_
      rintro e u ⟨rfl, m, rfl⟩
      go_wp2
      go_roundw
      case rel => exact ⟨k + 1, by omega, by go_num, Lib.hid H1.out, Lib.hid (bDrewN (Below.grown HB.out H2.out hbz (fun j hj => by injection hj; omega)) m), Lib.hid ((HFl.out.grown H2.out (fun j hj => by injection hj; omega)).drewN m)⟩
      case measure => simp [intOf]; omega
    · have : k = n := by omega
      subst this
      have h1 := HO.out
      rw [show ((orderTo p k k).take k ++ (List.replicate k (0 : Int)).drop k) = orderTo p k k by rw [List.drop_of_length_le (by simp), List.append_nil, List.take_of_length_le (by rw [orderTo_length]; exact Nat.le_refl _)]] at h1
      have H1 := Lib.hid h1
      clear h1
      go_wp2
      go_ret
      refine ⟨_, rfl, ?_, HB.out⟩
      have h1 := H1.out
      unfold Ints
      rw [orderTo_length]
      exact ⟨h1.1, h1.2.imp id (fun ⟨a, b, c, d, e, f⟩ => ⟨a, b, c, d, by omega, f⟩)⟩

end Go.Proofs.Ytibafngidpmgdaa
