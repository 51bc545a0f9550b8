/- The places of pictures and of slits around a drum, in the program and in the model. -/
import Derived.Test.YtibafngidpmgdabProg
import Derived.Test.YtibafngidpmgdabDrum
import Derived.Test.YtibafngidpmgdabLoopMath
import Derived.Test.YtibafngidpmgdabInts
import Derived.Test.YtibafngidpmgdabNear
import Derived.Test.YtibafngidpmgdabLoop2
import Derived.Test.YtibafngidpmgdabLoop3
import Derived.Deep.AppendLies
import Derived.IntWalk
import Derived.WalkSpells
import Derived.OwnWalk
import Derived.Laws.AppendOwn
import Derived.Laws.OwnMore
import Derived.Laws.Cover1
import Derived.Deep.RegionWith
import Derived.Deep.DrawnRows
import Derived.Deep.RegionHeld3
import Derived.Tactics
import Derived.Tactics2
import Derived.WalkKit
import Derived.LoopTactic
import Derived.BigQuiet
import Derived.RegionTactic
import Derived.Deep.QuietTactic
import Derived.Outline
import Derived.Lib.Hide
import Derived.Below
import Derived.KernelRfl
namespace Go.Proofs.Ytibafngidpmgdab
set_option linter.unusedSimpArgs false
set_option linter.unusedVariables false
open Go.RowKit


theorem ownsBase2 {w : World} {B B' : Nat} {e : TypeId} {z : Nat} {v : Value} {n : Nat} {xs : List Value} (h : w.ownsRow B e z v n xs) (hB : B' ≤ B) : w.ownsRow B' e z v n xs := ⟨h.1, h.2.imp id (fun ⟨a, b, c, d, e, f⟩ => ⟨a, b, c, d, Nat.le_trans hB e, f⟩)⟩

/-- The places of so many things around a drum. -/
def placesL (r : Int) (n : Nat) : List Int := genL (fun k => near ((k : Int) * r) n) n
theorem placesL_length (r : Int) (n : Nat) : (placesL r n).length = n := genL_length _ _

theorem prod_place {r : Int} {k : Nat} (r0 : 0 ≤ r) (r1 : r ≤ 10000) (hk : k ≤ 48) : 0 ≤ (k : Int) * r ∧ (k : Int) * r ≤ 480000 := by
  refine ⟨Int.mul_nonneg (by omega) r0, ?_⟩
  calc (k : Int) * r ≤ k * 10000 := Int.mul_le_mul_of_nonneg_left r1 (by omega)
    _ ≤ 480000 := by omega

set_option maxHeartbeats 1000000 in
set_option maxRecDepth 100000 in
/-- impl.listOf, of the places around a drum. -/
theorem listOf_places (x y : Value) (n : Nat) (f : Nat → Int) (w : World) (hn : n ≤ 1000000)
    (hf : ∀ k : Nat, k < n → ∀ u : World, Below w.heap.size w u → Calls Try.prog 113 #[.int .i64 k, x, y] u fun e u' => e = .returned (.int .i64 (f k)) ∧ Below u.heap.size u u') :
    Calls Try.prog 112 #[.int .i64 n, .func (.func 113) #[] #[x, y]] w fun e w' => ∃ v, e = .returned v ∧ Ints w' w.heap.size v (genL f n) ∧ Below w.heap.size w w' := by
  obtain ⟨i0, hi, hz0, hz1, hz2⟩ := info_parts infoI64
  have hby : i0.bytes * n ≤ 281474976710656 := by rw [hz2]; omega
  have HF := Lib.hid hf
  clear hf
  go_enter Try.func112, Try.ntmps112
  go_wp2_with (first | (at_make; refine wpList_make_full _ rfl _ _ 94 rfl w.heap.size 2 i0 (.int .i64 0) 1 Try.underlying94 hi hz0 hz1 .i64 .i64 (n : Int) (n : Int) n rfl rfl rfl rfl hby (by unfold maxLen; omega) (Nat.le_refl _) ?_; intro w1 hown1 hgrow1) | fail)
  have HO1 := Lib.hid hown1
  have HB1 := Lib.hid (Below.grown (Below.refl _ w) hgrow1 (Nat.le_refl _) (fun k hk => by cases hk))
  have hg1 : w.heap.size < w1.heap.size := (World.ownsRow.lt hown1 _ rfl).2
  clear hown1 hgrow1
  go_wp2
  go_loopw [10] (fun i wr => ∃ k : Nat, k ≤ n ∧ i = .int .i64 k ∧ Hid (wr.ownsRow w.heap.size 2 1 (.slice (some ⟨w.heap.size, 0, none⟩) n n) n ((genL f k ++ (List.replicate n (0 : Int)).drop k).map (Value.int .i64))) ∧ Hid (Below w.heap.size w wr)) (fun i _ => n - (intOf i).toNat)
  case atStart =>
    refine ⟨0, Nat.zero_le _, rfl, Lib.hid ?_, HB1⟩
    have h1 := HO1.out
    rw [made_int] at h1
    simpa [genL] using h1
  case round =>
    obtain ⟨k, hk, rfl, HO, HB⟩ := hrel
    by_cases hlt : k < n
    · have HS := Lib.hid (genL_put f k n hlt)
      have C := Lib.hid (HF.out k hlt wr HB.out)
      generalize f k = fz at *
      go_wp2_with fail
      refine C.out.mono ?_
      rintro e u ⟨rfl, hb⟩
      have HO3 := ownsB HO.out hb
      have HB3 := Lib.hid (bTrans HB.out hb)
      have hbz : w.heap.size ≤ u.heap.size := HB3.out.size
      clear hb C
      obtain ⟨S1, S2⟩ := World.ownsRow.stored HO3 k (.int .i64 fz)
      rw [← List.map_set, HS.out] at S1
      have hf0 : u.frozen? ⟨w.heap.size, k, none⟩ = false := World.ownsRow.frozenAt HO3 _
      have hc0 : ∃ z, u.cell? ⟨w.heap.size, k, none⟩ = some z := by
        rw [World.ownsRow.cellAt HO3 k (by omega)]
        exact ⟨_, List.getElem?_eq_getElem (by rw [HO3.1]; omega)⟩
      obtain ⟨z0, hc0⟩ := hc0
      have H3 := Lib.hid S1
      have H4 := Lib.hid (Below.grown HB3.out S2 hbz (fun j hj => by injection hj; omega))
      clear S1 S2 HO3
      go_wp2
      go_roundw
      case rel => exact ⟨k + 1, by omega, by go_num, Lib.hid H3.out, Lib.hid H4.out⟩
      case measure => simp [intOf]; omega
    · have : k = n := by omega
      subst this
      have h1 := HO.out
      rw [show (genL f k ++ (List.replicate k (0 : Int)).drop k) = genL f k by rw [List.drop_of_length_le (by simp), List.append_nil]] at h1
      have H1 := Lib.hid h1
      clear h1
      go_wp2
      go_ret
      refine ⟨_, rfl, ?_, HB.out⟩
      unfold Ints
      rw [genL_length]
      exact H1.out

/-- The function literal of impl.Drum.places. -/
theorem place1_any (r h s : Int) (n k p q : Nat) (w : World) (B : Bd w p r h s) (c1 : w.cell? ⟨q, 0, none⟩ = some (.int .i64 n)) (r0 : 0 ≤ r) (r1 : r ≤ 10000) (n1 : 1 ≤ n) (n2 : n ≤ 48) (hk : k < n) :
    Calls Try.prog 113 #[.int .i64 k, .pointer (some ⟨p, 0, none⟩), .pointer (some ⟨q, 0, none⟩)] w fun e w' => e = .returned (.int .i64 (near ((k : Int) * r) n)) ∧ Below w.heap.size w w' := by
  obtain ⟨b0, b1, b2, hl⟩ := B
  obtain ⟨m1, m2⟩ := prod_place (k := k) r0 r1 (by omega)
  have hw : IntKind.i64.wrap ((k : Int) * r) = (k : Int) * r := IntWalk.i64_in _ (by omega)
  have N := Lib.hid (fun w : World => nearestWhole_any ((k : Int) * r) n w (by omega) (by omega) (by omega) (by omega))
  generalize near ((k : Int) * r) n = z at *
  generalize hm : (k : Int) * r = m at *
  go_enter Try.func113, Try.ntmps113
  go_wp2_with fail
  refine (N.out _).mono ?_
  rintro e u ⟨rfl, rfl⟩
  go_wp2
  go_ret
  exact ⟨rfl, Below.refl _ _⟩

/-- impl.Drum.places. -/
theorem places_any (r h s : Int) (n : Nat) (w : World) (r0 : 0 ≤ r) (r1 : r ≤ 10000) (n1 : 1 ≤ n) (n2 : n ≤ 48) :
    Calls Try.prog 100 #[dr r h s, .int .i64 n] w fun e w' => ∃ v, e = .returned v ∧ Ints w' w.heap.size v (placesL r n) ∧ Below w.heap.size w w' := by
  have hmf : ∀ (fn : Fn) (first cap : Array Value) (w : World), (Instr.makeFunc fn first cap).run Try.prog w = .ok (.func fn first cap) w := fun _ _ _ _ => rfl
  have L := Lib.hid (fun q (x0 : Bd q w.heap.size r h s) (x1 : q.cell? ⟨w.heap.size + 1, 0, none⟩ = some (.int .i64 n)) (hq : w.heap.size + 1 < q.heap.size) =>
    listOf_places (.pointer (some ⟨w.heap.size, 0, none⟩)) (.pointer (some ⟨w.heap.size + 1, 0, none⟩)) n (fun k => near ((k : Int) * r) n) q (by omega) (fun k hk u hbu => place1_any r h s n k w.heap.size (w.heap.size + 1) u (x0.below hbu) ((hbu.cell (by simp; omega)).trans x1) r0 r1 n1 n2 hk))
  have HE := Lib.hid (show genL (fun k => near ((k : Int) * r) n) n = placesL r n from rfl)
  rw [HE.out] at L
  clear HE
  generalize placesL r n = qs at *
  go_enter Try.func100, Try.ntmps100
  go_wp2_with fail
  refine (L.out _ (by refine ⟨?_, ?_, ?_, ?_⟩ <;> go_simp) (by go_simp) (by simp)).mono ?_
  rintro e u ⟨v, rfl, io, hb⟩
  have HI := Lib.hid (ownsBase2 io (B' := w.heap.size) (by simp; omega))
  have HB := Lib.hid (bTrans (bAlloc (bAlloc (Below.refl _ w) _) _) hb)
  clear io hb
  go_wp2
  go_ret
  exact ⟨v, rfl, HI.out, HB.out⟩

set_option maxHeartbeats 1000000 in
set_option maxRecDepth 100000 in
/-- spec.l07Places. -/
theorem l07Places_any (b : Nat) (r h s : Int) (n : Nat) (w : World) (B : Bd w b r h s) (r0 : 0 ≤ r) (r1 : r ≤ 10000) (n1 : 1 ≤ n) (n2 : n ≤ 48) :
    Calls Try.prog 78 #[.pointer (some ⟨b, 0, none⟩), .int .i64 n] w fun e w' => ∃ v, e = .returned v ∧ Ints w' w.heap.size v (placesL r n) ∧ Below w.heap.size w w' := by
  obtain ⟨i0, hi, hz0, hz1, hz2⟩ := info_parts infoI64
  have BB := Lib.hid B
  have HS := Lib.hid (genL_succ (fun k => near ((k : Int) * r) n))
  have HE := Lib.hid (show genL (fun k => near ((k : Int) * r) n) n = placesL r n from rfl)
  have HLn := Lib.hid (placesL_length r n)
  clear B
  go_enter Try.func78, Try.ntmps78
  go_wp2
  go_loopw [6, 5] (fun i v wr => ∃ k : Nat, k ≤ n ∧ i = .int .i64 k ∧ Hid (wr.ownsRow w.heap.size 2 1 v k ((genL (fun k => near ((k : Int) * r) n) k).map (Value.int .i64))) ∧ Hid (Below w.heap.size w wr)) (fun i _ _ => n - (intOf i).toNat)
  case atStart => exact ⟨0, Nat.zero_le _, rfl, Lib.hid (World.ownsRow_lit w #[] 0 (Nat.le_refl _) (Nat.zero_le _) rfl), Lib.hid (bAlloc (Below.refl _ _) _)⟩
  case round =>
    obtain ⟨k, hk, rfl, HO, HB⟩ := hrel
    by_cases hlt : k < n
    · have HS1 := Lib.hid (HS.out k)
      obtain ⟨c0, c1, c2, hl⟩ := BB.out.below HB.out
      obtain ⟨m1, m2⟩ := prod_place (k := k) r0 r1 (by omega)
      have hw : IntKind.i64.wrap ((k : Int) * r) = (k : Int) * r := IntWalk.i64_in _ (by omega)
      have N := Lib.hid (fun w : World => l00Round_any ((k : Int) * r) n w (by omega) (by omega) (by omega) (by omega))
      generalize near ((k : Int) * r) n = x at *
      generalize hm : (k : Int) * r = m at *
      have hbz := HB.out.size
      go_wp2_with fail
      refine (N.out _).mono ?_
      rintro e u ⟨rfl, rfl⟩
      go_wp2_with (first | (at_builtin; refine wpList_append_own _ rfl _ _ 94 rfl w.heap.size 2 i0 (.int .i64 0) 1 8 Try.underlying94 hi hz0 hz1 hz2 rfl (by decide) _ _ _ rfl (HO.out.alloc _) ⟨wr.heap.size, 0, none⟩ 1 1 [.int .i64 x] rfl rfl (oneI_new _ _ _) (ints_oneCell .i64 [x]) (by unfold maxLen; omega) (by omega) (by simp; omega) ?_; intro v' w1 hown' hgrow hnil))
      have HO' := Lib.hid hown'
      have HB' := Lib.hid (Below.grown (bAlloc HB.out _) hgrow (by simp; omega) (fun j hj => (World.ownsRow.lt HO.out j hj).1))
      clear hown' hgrow hnil
      go_wp2
      go_roundw
      case rel => exact ⟨k + 1, by omega, by go_num, Lib.hid (by rw [HS1.out, List.map_append]; exact HO'.out), HB'⟩
      case measure => simp [intOf]; omega
    · have hkr : k = n := by omega
      subst hkr
      have h1 := HO.out
      rw [HE.out] at h1
      have H1 := Lib.hid h1
      clear h1
      go_wp2
      go_ret
      refine ⟨_, rfl, ?_, HB.out⟩
      unfold Ints
      rw [HLn.out]
      exact H1.out


end Go.Proofs.Ytibafngidpmgdab
