/- Every pose of some key poses, handed back. -/
import Derived.Test.YtibafngidpmgdaaProg
import Derived.Test.YtibafngidpmgdaaPose
import Derived.Test.YtibafngidpmgdaaKeys
import Derived.Test.YtibafngidpmgdaaKeyOk
import Derived.Test.YtibafngidpmgdaaPoseLaw
import Derived.Test.YtibafngidpmgdaaBetween
import Derived.Test.YtibafngidpmgdaaAt2
import Derived.Test.YtibafngidpmgdaaAtLaw
import Derived.Test.YtibafngidpmgdaaGrids
import Derived.Test.YtibafngidpmgdaaAll
import Derived.IntWalk
import Derived.WalkSpells
import Derived.OwnWalk
import Derived.Deep.RegionWith
import Derived.Deep.DrawnRows
import Derived.Deep.RegionHeld3
import Derived.Tactics
import Derived.Tactics2
import Derived.WalkKit
import Derived.LoopTactic
import Derived.BigQuiet
import Derived.RegionTactic
import Derived.Deep.QuietTactic
import Derived.Outline
import Derived.Lib.Hide
import Derived.Below
import Derived.KernelRfl
namespace Go.Proofs.Ytibafngidpmgdaa
set_option linter.unusedSimpArgs false
set_option linter.unusedVariables false
open Go.RowKit


theorem grid_lit (w : World) {B : Nat} (h : B ≤ w.heap.size) : Grid (w.alloc (.cells #[] 24)) B (.slice (some ⟨w.heap.size, 0, none⟩) 0 0) [] [] := ⟨rfl, World.ownsRow_lit w #[] 0 h (Nat.zero_le _) rfl, fun _ h => by simp at h, fun _ _ _ h => by simp at h⟩

set_option maxHeartbeats 1000000 in
set_option maxRecDepth 100000 in
/-- impl.AllPoses. -/
theorem implAll_ok (A : Option Addr) (n c : Nat) (ks : List Key) (s : Int) (w : World) (hv : RdK w A n ks) (h : keysB ks = true) (hr : inB s 1 10000 = true) (qs : List (List Pt)) (hqs : qs = allN ks (tk ks 0) s (allM (tk ks (n - 1) - tk ks 0) s)) (hm : allM (tk ks (n - 1) - tk ks 0) s ≤ 100) :
    Calls Try.prog 52 #[.slice A n c, .int .i64 s] w (AllR w 0 qs) := by
  have HV := Lib.hid hv
  have hk := h
  have hl := keysB_len h
  rw [hv.1] at hl
  obtain ⟨hn1, hn2⟩ := hl
  have hko := (keysB_ok h).2.2
  have hT0 : 0 ≤ tk ks 0 := (hko 0 (by rw [hv.1]; omega)).1
  have hT1 : tk ks (n - 1) ≤ 10000 := (hko (n - 1) (by rw [hv.1]; omega)).2.1
  have hT2 : tk ks 0 ≤ tk ks (n - 1) := by
    by_cases h1 : n = 1
    · subst h1; exact Int.le_refl _
    · exact Int.le_of_lt (tk_lt hko (by omega) (by rw [hv.1]; omega))
  have hrr := inB_iff.1 hr
  obtain ⟨hs1, hs2⟩ := hrr
  have hq0 : 0 ≤ (tk ks (n - 1) - tk ks 0) / s := Int.ediv_nonneg (by omega) (by omega)
  have hq1 : (tk ks (n - 1) - tk ks 0) / s ≤ tk ks (n - 1) - tk ks 0 := Int.ediv_le_self _ (by omega)
  have hqt : (tk ks (n - 1) - tk ks 0).tdiv s = (tk ks (n - 1) - tk ks 0) / s := Int.tdiv_eq_ediv_of_nonneg (by omega)
  have hMI := Lib.hid (fun k => allM_iff (d := tk ks (n - 1) - tk ks 0) (s := s) hs1 (by omega) k)
  have PA := Lib.hid (fun t q (r : RdK q A n ks) h1 h2 => poseAt_any A n c ks t q r hk h1 h2)
  unfold allM at hm
  simp only [tk] at hm hT0 hT1 hT2 hq0 hq1 hqt hMI PA hqs
  clear hv hko hr
  go_enter Try.func52, Try.ntmps52
  go_wp2_with fail
  refine (validKeys_any A n c ks _ HV.out).mono ?_
  rintro e u ⟨rfl, hd⟩
  have hb := hd
  clear hd
  rw [h]
  have HV1 := Lib.hid (HV.out.below hb)
  obtain ⟨_, _, h3⟩ := HV.out.below hb
  rcases h3 with h0 | ⟨g, rfl, hg, h3⟩
  · omega
  obtain ⟨c0, -, -, -, -⟩ := h3 0 (by omega)
  obtain ⟨c2, -, -, -, -⟩ := h3 (n - 1) (by omega)
  have HB := Lib.hid hb
  clear h3 h hb
  have hwi : IntKind.i64.wrap ((n : Int) - 1) = (n : Int) - 1 := IntWalk.i64_in _ (by omega)
  have x0 : (0:Int) ≤ (n:Int) - 1 := by omega
  have x1 : (n:Int) - 1 < n := by omega
  have x2 : (0:Int) < n := by omega
  have hcast : (n:Int) - 1 = ((n - 1 : Nat) : Int) := by omega
  simp only [Nat.zero_mul, Nat.zero_add] at c0
  generalize (ks.getD 0 Go.Proofs.Ytibafngidpmgdaa.k0).1 = t0 at *
  generalize (ks.getD (n - 1) Go.Proofs.Ytibafngidpmgdaa.k0).1 = t1 at *
  have hd1 : IntKind.i64.wrap (t1 - t0) = t1 - t0 := IntWalk.i64_in _ (by omega)
  generalize hQ : (t1 - t0) / s = Q at *
  have hd2 : IntKind.i64.wrap Q = Q := IntWalk.i64_in _ (by omega)
  have hd3 : IntKind.i64.wrap (Q + 1) = Q + 1 := IntWalk.i64_in _ (by omega)
  have hs0 : s ≠ 0 := by omega
  have hs3 : (s == 0) = false := by simpa using hs0
  have hf0 : ¬ 100 < Q + 1 := by omega
  have hf1 : ¬ 100 ≤ Q := by omega
  obtain ⟨M, hM⟩ : ∃ M, M = allM (t1 - t0) s := ⟨_, rfl⟩
  have hM1 : M ≤ 100 := by rw [hM]; unfold allM; rw [hQ]; omega
  have HM := Lib.hid hM
  rw [← hM] at hMI hqs
  have HQS := Lib.hid hqs
  clear hm hM hqs
  have H8 := Lib.hid (fun t => show (poseAtN ks t).length ≤ 8 by rw [poseAt_len (keysB_ok hk).2.2 t]; exact (poseB_len ((keysB_ok hk).2.2 0 (keysB_len hk).1).2.2.1).2)
  obtain ⟨i0, hi, hz0, hz1, hz2⟩ := info_parts infoQ
  go_wp2
  go_quiet (fail)
  go_wp2
  clear hd1 hd2 hd3 hs3 hqt hq0 hq1 hf0 hf1 hQ hwi
  go_loopw [9, 8] (fun i v wr => ∃ (k : Nat) (us : List Value), k ≤ M ∧ i = .int .i64 (t0 + (k : Int) * s) ∧ Hid (Grid wr w.heap.size v us (allN ks t0 s k)) ∧ Hid (Below w.heap.size w wr)) (fun i _ _ => (t1 + 1 - intOf i).toNat)
  case atStart => exact ⟨0, [], Nat.zero_le _, by simp, Lib.hid (by simpa [allN] using grid_nil _ _), Lib.hid (by first | exact HB.out | exact bTrans HB.out (belowDrewn ⟨_, rfl⟩) | exact bAlloc HB.out _)⟩
  case round =>
    obtain ⟨k, us, hk, rfl, HG, HB2⟩ := hrel
    have HO := Lib.hid HG.out.2.1
    rw [allN_length] at HO
    have hx0 : 0 ≤ (k : Int) * s := Int.mul_nonneg (by omega) (by omega)
    have hki := hMI.out k
    have hnx := Lib.hid (show t0 + ((k + 1 : Nat) : Int) * s = t0 + (k : Int) * s + s by rw [show ((k + 1 : Nat) : Int) = (k : Int) + 1 by omega, Int.add_mul]; omega)
    generalize hx : (k : Int) * s = x at *
    by_cases hlt : t0 + x ≤ t1
    · have hkM : k < M := hki.1 (by omega)
      have HX := Lib.hid hx
      have hw : IntKind.i64.wrap (t0 + x + s) = t0 + x + s := IntWalk.i64_in _ (by omega)
      clear hx hki
      go_wp2_with fail
      refine (PA.out (t0 + x) _ (HV.out.below HB2.out) (by omega) (by omega)).mono ?_
      rintro e u3 ⟨vp, rfl, p, hb3⟩
      obtain ⟨A9, m9, c9, rfl⟩ : ∃ A m c, vp = Value.slice A m c := by
        obtain ⟨A9, c9, e9, -⟩ := p.rd (by have := H8.out (t0 + x); omega)
        exact ⟨A9, _, c9, e9⟩
      have P := Lib.hid p
      have HB3 := Lib.hid hb3
      have HS := Lib.hid (show ∀ i, i < us.length → Sep (own1 (us.getD i nv)) (own1 (.slice A9 m9 c9)) from fun i hi => sepOf wr.heap.size (fun j hj => (ownsLt (HG.out.2.2.1 i (by rw [← HG.out.1]; exact hi)) j hj).2) (fun j hj => (ownsLt p j hj).1))
      have HBw := HB2.out.size
      have HBz := hb3.size
      have pc := Lib.hid (ptsCell p)
      have HO3 := Lib.hid (HG.out.below hb3).2.1
      rw [allN_length] at HO3
      clear p hb3
      go_wp2_with (first | (at_builtin; refine wpList_append_own _ rfl _ _ 58 rfl w.heap.size 24 i0 nv 1 24 Try.underlying58 hi hz0 hz1 hz2 rfl (by decide) _ _ _ rfl (HO3.out.alloc _) ⟨u3.heap.size, 0, none⟩ 1 1 [.slice A9 m9 c9] rfl rfl (one_newV _ _ _) (one_cellV pc.out) (by unfold maxLen; omega) (by omega) (by simp; omega) ?_; intro v' w1 hown' hgrow hnil) | fail)
      have HG2 := Lib.hid (gridSnoc (HG.out.below (bAlloc HB3.out _)) ((P.out.base (B' := w.heap.size) HBw).below (bAlloc (Below.refl _ _) _)) HS.out (Chg.ofGrown hgrow) (by rw [allN_length]; exact hown'))
      have HB4 := Lib.hid (Below.grown (bAlloc (bTrans HB2.out HB3.out) _) hgrow (by simp; omega) (fun j hj => (World.ownsRow.lt HO.out j hj).1))
      clear hown' hgrow hnil P HS pc HO HO3
      go_wp2
      go_roundw
      case rel => exact ⟨k + 1, us ++ [.slice A9 m9 c9], by omega, by rw [hnx.out], Lib.hid (by rw [allN_succ, HX.out]; exact HG2.out), HB4⟩
      case measure => simp [intOf]; omega
    · have hkM : k = M := by
        have : ¬ k < M := fun hh => hlt (by have := hki.2 hh; omega)
        omega
      subst hkM
      go_wp2
      go_ret2
      exact ⟨_, us, rfl, by rw [HQS.out]; exact HG.out, HB2.out⟩

set_option maxHeartbeats 1000000 in
set_option maxRecDepth 100000 in
/-- spec.AllPoses. -/
theorem specAll_ok (A : Option Addr) (n c : Nat) (ks : List Key) (s : Int) (w : World) (hv : RdK w A n ks) (h : keysB ks = true) (hr : inB s 1 10000 = true) (qs : List (List Pt)) (hqs : qs = allN ks (tk ks 0) s (allM (tk ks (n - 1) - tk ks 0) s)) (hm : allM (tk ks (n - 1) - tk ks 0) s ≤ 100) :
    Calls Try.prog 53 #[.slice A n c, .int .i64 s] w (AllR w 0 qs) := by
  have HV := Lib.hid hv
  have hk := h
  have hl := keysB_len h
  rw [hv.1] at hl
  obtain ⟨hn1, hn2⟩ := hl
  have hko := (keysB_ok h).2.2
  have hT0 : 0 ≤ tk ks 0 := (hko 0 (by rw [hv.1]; omega)).1
  have hT1 : tk ks (n - 1) ≤ 10000 := (hko (n - 1) (by rw [hv.1]; omega)).2.1
  have hT2 : tk ks 0 ≤ tk ks (n - 1) := by
    by_cases h1 : n = 1
    · subst h1; exact Int.le_refl _
    · exact Int.le_of_lt (tk_lt hko (by omega) (by rw [hv.1]; omega))
  have hrr := inB_iff.1 hr
  obtain ⟨hs1, hs2⟩ := hrr
  have hq0 : 0 ≤ (tk ks (n - 1) - tk ks 0) / s := Int.ediv_nonneg (by omega) (by omega)
  have hq1 : (tk ks (n - 1) - tk ks 0) / s ≤ tk ks (n - 1) - tk ks 0 := Int.ediv_le_self _ (by omega)
  have hqt : (tk ks (n - 1) - tk ks 0).tdiv s = (tk ks (n - 1) - tk ks 0) / s := Int.tdiv_eq_ediv_of_nonneg (by omega)
  have hMI := Lib.hid (fun k => allM_iff (d := tk ks (n - 1) - tk ks 0) (s := s) hs1 (by omega) k)
  have PA := Lib.hid (fun t q (r : RdK q A n ks) h1 h2 => l04At_any A n c ks t q r hk h1 h2)
  unfold allM at hm
  simp only [tk] at hm hT0 hT1 hT2 hq0 hq1 hqt hMI PA hqs
  clear hv hko hr
  go_enter Try.func53, Try.ntmps53
  go_wp2_with fail
  refine (l04Keys_any A n c ks _ HV.out).mono ?_
  rintro e u ⟨rfl, hd⟩
  have hb := belowDrewn hd
  clear hd
  rw [h]
  go_wp2_with fail
  refine (l00In_any _ _ _ _).mono ?_
  rintro e u2 ⟨rfl, rfl⟩
  rw [inB_iff.2 ⟨hs1, hs2⟩]
  have HV1 := Lib.hid (HV.out.below hb)
  obtain ⟨_, _, h3⟩ := HV.out.below hb
  rcases h3 with h0 | ⟨g, rfl, hg, h3⟩
  · omega
  obtain ⟨c0, -, -, -, -⟩ := h3 0 (by omega)
  obtain ⟨c2, -, -, -, -⟩ := h3 (n - 1) (by omega)
  have HB := Lib.hid hb
  clear h3 h hb
  have hwi : IntKind.i64.wrap ((n : Int) - 1) = (n : Int) - 1 := IntWalk.i64_in _ (by omega)
  have x0 : (0:Int) ≤ (n:Int) - 1 := by omega
  have x1 : (n:Int) - 1 < n := by omega
  have x2 : (0:Int) < n := by omega
  have hcast : (n:Int) - 1 = ((n - 1 : Nat) : Int) := by omega
  simp only [Nat.zero_mul, Nat.zero_add] at c0
  generalize (ks.getD 0 Go.Proofs.Ytibafngidpmgdaa.k0).1 = t0 at *
  generalize (ks.getD (n - 1) Go.Proofs.Ytibafngidpmgdaa.k0).1 = t1 at *
  have hd1 : IntKind.i64.wrap (t1 - t0) = t1 - t0 := IntWalk.i64_in _ (by omega)
  generalize hQ : (t1 - t0) / s = Q at *
  have hd2 : IntKind.i64.wrap Q = Q := IntWalk.i64_in _ (by omega)
  have hd3 : IntKind.i64.wrap (Q + 1) = Q + 1 := IntWalk.i64_in _ (by omega)
  have hs0 : s ≠ 0 := by omega
  have hs3 : (s == 0) = false := by simpa using hs0
  have hf0 : ¬ 100 < Q + 1 := by omega
  have hf1 : ¬ 100 ≤ Q := by omega
  obtain ⟨M, hM⟩ : ∃ M, M = allM (t1 - t0) s := ⟨_, rfl⟩
  have hM1 : M ≤ 100 := by rw [hM]; unfold allM; rw [hQ]; omega
  have HM := Lib.hid hM
  rw [← hM] at hMI hqs
  have HQS := Lib.hid hqs
  clear hm hM hqs
  have H8 := Lib.hid (fun t => show (poseAtN ks t).length ≤ 8 by rw [poseAt_len (keysB_ok hk).2.2 t]; exact (poseB_len ((keysB_ok hk).2.2 0 (keysB_len hk).1).2.2.1).2)
  obtain ⟨i0, hi, hz0, hz1, hz2⟩ := info_parts infoQ
  go_wp2
  clear hd1 hd2 hd3 hs3 hqt hq0 hq1 hf0 hf1 hQ hwi
  go_loopw [9, 8] (fun i v wr => ∃ (k : Nat) (us : List Value), k ≤ M ∧ i = .int .i64 (t0 + (k : Int) * s) ∧ Hid (Grid wr w.heap.size v us (allN ks t0 s k)) ∧ Hid (Below w.heap.size w wr)) (fun i _ _ => (t1 + 1 - intOf i).toNat)
  case atStart => exact ⟨0, [], Nat.zero_le _, by simp, Lib.hid (by simpa [allN] using grid_lit _ (by have := HB.out.size; omega)), Lib.hid (by first | exact HB.out | exact bTrans HB.out (belowDrewn ⟨_, rfl⟩) | exact bAlloc HB.out _)⟩
  case round =>
    obtain ⟨k, us, hk, rfl, HG, HB2⟩ := hrel
    have HO := Lib.hid HG.out.2.1
    rw [allN_length] at HO
    have hx0 : 0 ≤ (k : Int) * s := Int.mul_nonneg (by omega) (by omega)
    have hki := hMI.out k
    have hnx := Lib.hid (show t0 + ((k + 1 : Nat) : Int) * s = t0 + (k : Int) * s + s by rw [show ((k + 1 : Nat) : Int) = (k : Int) + 1 by omega, Int.add_mul]; omega)
    generalize hx : (k : Int) * s = x at *
    by_cases hlt : t0 + x ≤ t1
    · have hkM : k < M := hki.1 (by omega)
      have HX := Lib.hid hx
      have hw : IntKind.i64.wrap (t0 + x + s) = t0 + x + s := IntWalk.i64_in _ (by omega)
      clear hx hki
      go_wp2_with fail
      refine (PA.out (t0 + x) _ (HV.out.below HB2.out) (by omega) (by omega)).mono ?_
      rintro e u3 ⟨vp, rfl, p, hb3⟩
      obtain ⟨A9, m9, c9, rfl⟩ : ∃ A m c, vp = Value.slice A m c := by
        obtain ⟨A9, c9, e9, -⟩ := p.rd (by have := H8.out (t0 + x); omega)
        exact ⟨A9, _, c9, e9⟩
      have P := Lib.hid p
      have HB3 := Lib.hid hb3
      have HS := Lib.hid (show ∀ i, i < us.length → Sep (own1 (us.getD i nv)) (own1 (.slice A9 m9 c9)) from fun i hi => sepOf wr.heap.size (fun j hj => (ownsLt (HG.out.2.2.1 i (by rw [← HG.out.1]; exact hi)) j hj).2) (fun j hj => (ownsLt p j hj).1))
      have HBw := HB2.out.size
      have HBz := hb3.size
      have pc := Lib.hid (ptsCell p)
      have HO3 := Lib.hid (HG.out.below hb3).2.1
      rw [allN_length] at HO3
      clear p hb3
      go_wp2_with (first | (at_builtin; refine wpList_append_own _ rfl _ _ 58 rfl w.heap.size 24 i0 nv 1 24 Try.underlying58 hi hz0 hz1 hz2 rfl (by decide) _ _ _ rfl (HO3.out.alloc _) ⟨u3.heap.size, 0, none⟩ 1 1 [.slice A9 m9 c9] rfl rfl (one_newV _ _ _) (one_cellV pc.out) (by unfold maxLen; omega) (by omega) (by simp; omega) ?_; intro v' w1 hown' hgrow hnil) | fail)
      have HG2 := Lib.hid (gridSnoc (HG.out.below (bAlloc HB3.out _)) ((P.out.base (B' := w.heap.size) HBw).below (bAlloc (Below.refl _ _) _)) HS.out (Chg.ofGrown hgrow) (by rw [allN_length]; exact hown'))
      have HB4 := Lib.hid (Below.grown (bAlloc (bTrans HB2.out HB3.out) _) hgrow (by simp; omega) (fun j hj => (World.ownsRow.lt HO.out j hj).1))
      clear hown' hgrow hnil P HS pc HO HO3
      go_wp2
      go_roundw
      case rel => exact ⟨k + 1, us ++ [.slice A9 m9 c9], by omega, by rw [hnx.out], Lib.hid (by rw [allN_succ, HX.out]; exact HG2.out), HB4⟩
      case measure => simp [intOf]; omega
    · have hkM : k = M := by
        have : ¬ k < M := fun hh => hlt (by have := hki.2 hh; omega)
        omega
      subst hkM
      go_wp2
      go_ret2
      exact ⟨_, us, rfl, by rw [HQS.out]; exact HG.out, HB2.out⟩

end Go.Proofs.Ytibafngidpmgdaa
