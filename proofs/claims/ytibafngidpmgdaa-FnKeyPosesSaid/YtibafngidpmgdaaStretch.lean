/- Stretched key poses: the program. -/
import Derived.Test.YtibafngidpmgdaaProg
import Derived.Test.YtibafngidpmgdaaPose
import Derived.Test.YtibafngidpmgdaaKeys
import Derived.Test.YtibafngidpmgdaaKeyOk
import Derived.Test.YtibafngidpmgdaaPoseLaw
import Derived.Test.YtibafngidpmgdaaBetween
import Derived.Test.YtibafngidpmgdaaAt2
import Derived.Test.YtibafngidpmgdaaAtLaw
import Derived.Test.YtibafngidpmgdaaMirror
import Derived.Test.YtibafngidpmgdaaAll
import Derived.IntWalk
import Derived.WalkSpells
import Derived.OwnWalk
import Derived.Deep.RegionWith
import Derived.Deep.DrawnRows
import Derived.Deep.RegionHeld3
import Derived.Tactics
import Derived.Tactics2
import Derived.WalkKit
import Derived.LoopTactic
import Derived.BigQuiet
import Derived.RegionTactic
import Derived.Deep.QuietTactic
import Derived.Outline
import Derived.Lib.Hide
import Derived.Below
import Derived.KernelRfl
namespace Go.Proofs.Ytibafngidpmgdaa
set_option linter.unusedSimpArgs false
set_option linter.unusedVariables false
open Go.RowKit


/-- Key poses, stretched. -/
def strL (ks : List Key) (x s : Int) : List Key := ks.map fun k => (x + (k.1 - x) * s, k.2)
theorem strL_length (ks : List Key) (x s : Int) : (strL ks x s).length = ks.length := by simp [strL]
theorem strL_get (ks : List Key) (x s : Int) (i : Nat) (h : i < ks.length) : (strL ks x s).getD i k0 = (x + ((ks.getD i k0).1 - x) * s, (ks.getD i k0).2) := by
  unfold strL
  rw [List.getD_eq_getElem?_getD, List.getElem?_map, List.getElem?_eq_getElem h, List.getD_eq_getElem?_getD, List.getElem?_eq_getElem h]
  rfl
theorem strL_tot (x s : Int) : ∀ ks : List Key, totK (strL ks x s) = totK ks
  | [] => rfl
  | k :: ks => by
    have := strL_tot x s ks
    unfold strL at this ⊢
    simp only [List.map_cons, totK]
    omega

set_option maxHeartbeats 1000000 in
set_option maxRecDepth 100000 in
/-- The closure that stretches a key pose. -/
theorem stretch1_any (t x s : Int) (A : Option Addr) (n c b1 b2 : Nat) (ps : List Pt) (w : World) (hv : Rd w A n ps) (hn1 : 1 ≤ n) (h1 : w.cell? ⟨b1, 0, none⟩ = some (.int .i64 x)) (hl1 : b1 < w.heap.size) (h2 : w.cell? ⟨b2, 0, none⟩ = some (.int .i64 s)) (hl2 : b2 < w.heap.size)
    (ht0 : 0 ≤ t) (ht1 : t ≤ 10000) (hx0 : 0 ≤ x) (hx1 : x ≤ t) (hs0 : 1 ≤ s) (hs1 : s ≤ 100) :
    Calls Try.prog 95 #[kv t (.slice A n c), .pointer (some ⟨b1, 0, none⟩), .pointer (some ⟨b2, 0, none⟩)] w fun e w' => ∃ A' c', e = .returned (kv (x + (t - x) * s) (.slice A' n c')) ∧ Pts w' w.heap.size (.slice A' n c') ps ∧ Below w.heap.size w w' := by
  have hm0 : 0 ≤ (t - x) * s := Int.mul_nonneg (by omega) (by omega)
  have hm1 : (t - x) * s ≤ 1000000 := by
    have : (t - x) * s ≤ 10000 * 100 := Int.mul_le_mul (by omega) hs1 (by omega) (by omega)
    omega
  have hw0 : IntKind.i64.wrap (t - x) = t - x := IntWalk.i64_in _ (by omega)
  have hw1 : IntKind.i64.wrap ((t - x) * s) = (t - x) * s := IntWalk.i64_in _ (by omega)
  have hw2 : IntKind.i64.wrap (x + (t - x) * s) = x + (t - x) * s := IntWalk.i64_in _ (by omega)
  have CL := Lib.hid (fun q (hb : Below w.heap.size w q) => clone_any A n c ps q (hv.below hb) hn1)
  have hne1 : b1 ≠ w.heap.size := by omega
  have hne2 : b2 ≠ w.heap.size := by omega
  have hne3 : b1 ≠ w.heap.size + 1 := by omega
  have hne4 : b2 ≠ w.heap.size + 1 := by omega
  clear hv ht0 ht1 hx0 hx1 hs0 hs1 hm0 hm1
  go_enter Try.func95, Try.ntmps95
  go_wp2
  have hB0 : Below w.heap.size w ((w.alloc (.cells #[.int .i64 t, .slice A n c] 55)).alloc (.cells #[.int .i64 0, .slice none 0 0] 55)) := bAlloc (bAlloc (Below.refl _ _) _) _
  have c0 : ((w.alloc (.cells #[.int .i64 t, .slice A n c] 55)).alloc (.cells #[.int .i64 0, .slice none 0 0] 55)).cell? ⟨w.heap.size, 0, none⟩ = some (.int .i64 t) := by go_simp
  have c1 : ((w.alloc (.cells #[.int .i64 t, .slice A n c] 55)).alloc (.cells #[.int .i64 0, .slice none 0 0] 55)).cell? ⟨w.heap.size, 1, none⟩ = some (.slice A n c) := by go_simp
  have c2 := (hB0.cell (p := ⟨b1, 0, none⟩) hl1).trans h1
  have c3 := (hB0.cell (p := ⟨b2, 0, none⟩) hl2).trans h2
  have c4 : ((w.alloc (.cells #[.int .i64 t, .slice A n c] 55)).alloc (.cells #[.int .i64 0, .slice none 0 0] 55)).cell? ⟨w.heap.size + 1, 0, none⟩ = some (.int .i64 0) := by go_simp
  have c5 : ((w.alloc (.cells #[.int .i64 t, .slice A n c] 55)).alloc (.cells #[.int .i64 0, .slice none 0 0] 55)).cell? ⟨w.heap.size + 1, 1, none⟩ = some (.slice none 0 0) := by go_simp
  have hz : ((w.alloc (.cells #[.int .i64 t, .slice A n c] 55)).alloc (.cells #[.int .i64 0, .slice none 0 0] 55)).heap.size = w.heap.size + 2 := by simp
  have c6 : ((w.alloc (.cells #[.int .i64 t, .slice A n c] 55)).alloc (.cells #[.int .i64 0, .slice none 0 0] 55)).frozen? ⟨w.heap.size + 1, 0, none⟩ = false := by go_simp
  have c7 : ((w.alloc (.cells #[.int .i64 t, .slice A n c] 55)).alloc (.cells #[.int .i64 0, .slice none 0 0] 55)).frozen? ⟨w.heap.size + 1, 1, none⟩ = false := by go_simp
  clear h1 h2
  generalize hW : (w.alloc (.cells #[.int .i64 t, .slice A n c] 55)).alloc (.cells #[.int .i64 0, .slice none 0 0] 55) = W at *
  clear hW
  have q0 : ∀ p : Grew W, p.u.cell? ⟨w.heap.size, 0, none⟩ = some (.int .i64 t) := fun p => p.cell (by omega) c0
  have q1 : ∀ p : Grew W, p.u.cell? ⟨w.heap.size, 1, none⟩ = some (.slice A n c) := fun p => p.cell (by omega) c1
  have q2 : ∀ p : Grew W, p.u.cell? ⟨b1, 0, none⟩ = some (.int .i64 x) := fun p => p.cell (by omega) c2
  have q3 : ∀ p : Grew W, p.u.cell? ⟨b2, 0, none⟩ = some (.int .i64 s) := fun p => p.cell (by omega) c3
  obtain ⟨Z, hZ⟩ : ∃ Z, Z = w.heap.size := ⟨_, rfl⟩
  go_region_held3 (fun w' => w'.cell? ⟨w.heap.size, 0, none⟩ = some (.int .i64 t) ∧ w'.cell? ⟨w.heap.size, 1, none⟩ = some (.slice A n c) ∧ w'.cell? ⟨b1, 0, none⟩ = some (.int .i64 x) ∧ w'.cell? ⟨b2, 0, none⟩ = some (.int .i64 s)) (first | exact ⟨(World.cell?_setCell_far _ _ _ _ (by dsimp only; omega)).trans ((World.cell?_setCell_far _ _ _ _ (by dsimp only; omega)).trans e0), (World.cell?_setCell_far _ _ _ _ (by dsimp only; omega)).trans ((World.cell?_setCell_far _ _ _ _ (by dsimp only; omega)).trans e1), (World.cell?_setCell_far _ _ _ _ (by dsimp only; omega)).trans ((World.cell?_setCell_far _ _ _ _ (by dsimp only; omega)).trans e2), (World.cell?_setCell_far _ _ _ _ (by dsimp only; omega)).trans ((World.cell?_setCell_far _ _ _ _ (by dsimp only; omega)).trans e3)⟩ | go_keep)
    (first
      | (go_at_call 96; with_reducible refine (CL.out _ (Below.drew hB0)).mono ?_; rintro e w3 ⟨A', c', rfl, p3, hb3⟩; have HP3 := Lib.hid p3; clear p3; have HB3 := Lib.hid hb3; obtain ⟨hc4, hf4⟩ := bCells hb3; have e0 : w3.cell? ⟨w.heap.size, 0, none⟩ = some (.int .i64 t) := (hc4 _ _ (by simp; omega)).trans (by first | exact c0 | simpa using c0); have e1 : w3.cell? ⟨w.heap.size, 1, none⟩ = some (.slice A n c) := (hc4 _ _ (by simp; omega)).trans (by first | exact c1 | simpa using c1); have e2 : w3.cell? ⟨b1, 0, none⟩ = some (.int .i64 x) := (hc4 _ _ (by simp; omega)).trans (by first | exact c2 | simpa using c2); have e3 : w3.cell? ⟨b2, 0, none⟩ = some (.int .i64 s) := (hc4 _ _ (by simp; omega)).trans (by first | exact c3 | simpa using c3); have e4 : w3.cell? ⟨w.heap.size + 1, 0, none⟩ = some (.int .i64 0) := (hc4 _ _ (by simp; omega)).trans (by first | exact c4 | simpa using c4); have e5 : w3.cell? ⟨w.heap.size + 1, 1, none⟩ = some (.slice none 0 0) := (hc4 _ _ (by simp; omega)).trans (by first | exact c5 | simpa using c5); have e6 : w3.frozen? ⟨w.heap.size + 1, 0, none⟩ = false := (hf4 _ _ (by simp; omega)).trans (by first | exact c6 | simpa using c6); have e7 : w3.frozen? ⟨w.heap.size + 1, 1, none⟩ = false := (hf4 _ _ (by simp; omega)).trans (by first | exact c7 | simpa using c7)))
  have P := Lib.hid (show Pts ((w3.setCell ⟨w.heap.size + 1, 0, none⟩ (.int .i64 (x + (t - x) * s))).setCell ⟨w.heap.size + 1, 1, none⟩ (.slice A' n c')) w.heap.size (.slice A' n c') ps from
    (HP3.out.base (B' := w.heap.size) (by simp; omega)).chg (S := fun k => k = w.heap.size + 1) (by refine Chg.set (Chg.set (Chg.refl _ _) ?_ _) ?_ _ <;> exact .inl rfl) (fun k hk e => by
      have := (ownsLt HP3.out k hk).1
      simp at this
      omega))
  have B3 := Lib.hid (show Below w.heap.size w ((w3.setCell ⟨w.heap.size + 1, 0, none⟩ (.int .i64 (x + (t - x) * s))).setCell ⟨w.heap.size + 1, 1, none⟩ (.slice A' n c')) from
    bSet (bSet (bTrans hB0 (bUndrew HB3.out)) (by dsimp only; omega) _) (by dsimp only; omega) _)
  have r1 : ((w3.setCell ⟨w.heap.size + 1, 0, none⟩ (.int .i64 (x + (t - x) * s))).setCell ⟨w.heap.size + 1, 1, none⟩ (.slice A' n c')).cell? ⟨w.heap.size + 1, 1, none⟩ = some (.slice A' n c') := World.cell?_setCell_same _ _ _ ((World.cell?_setCell_other _ _ _ _ (by simp)).trans e5)
  have r0 : ((w3.setCell ⟨w.heap.size + 1, 0, none⟩ (.int .i64 (x + (t - x) * s))).setCell ⟨w.heap.size + 1, 1, none⟩ (.slice A' n c')).cell? ⟨w.heap.size + 1, 0, none⟩ = some (.int .i64 (x + (t - x) * s)) := (World.cell?_setCell_other _ _ _ _ (by simp)).trans (World.cell?_setCell_same _ _ _ e4)
  clear e0 e1 e2 e3 e4 e5 e6 e7 HP3 HB3 hb3 hc4 hf4 q0 q1 q2 q3
  generalize (w3.setCell ⟨w.heap.size + 1, 0, none⟩ (.int .i64 (x + (t - x) * s))).setCell ⟨w.heap.size + 1, 1, none⟩ (.slice A' n c') = U at *
  go_wp2
  refine bodyPost_ret (v := kv (x + (t - x) * s) (.slice A' n c')) (by simp [results, Try.results95, go_sem, r0, r1]) rfl ?_
  exact ⟨A', c', rfl, P.out, B3.out⟩

end Go.Proofs.Ytibafngidpmgdaa
