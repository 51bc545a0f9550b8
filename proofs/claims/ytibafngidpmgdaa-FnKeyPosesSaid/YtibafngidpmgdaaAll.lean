/- Every pose of some key poses: the program and the model. -/
import Derived.Test.YtibafngidpmgdaaProg
import Derived.Test.YtibafngidpmgdaaPose
import Derived.Test.YtibafngidpmgdaaKeys
import Derived.Test.YtibafngidpmgdaaKeyOk
import Derived.Test.YtibafngidpmgdaaPoseLaw
import Derived.Test.YtibafngidpmgdaaBetween
import Derived.Test.YtibafngidpmgdaaAt2
import Derived.Test.YtibafngidpmgdaaAtLaw
import Derived.Test.YtibafngidpmgdaaGrids
import Derived.IntWalk
import Derived.WalkSpells
import Derived.OwnWalk
import Derived.Deep.RegionWith
import Derived.Deep.DrawnRows
import Derived.Deep.RegionHeld3
import Derived.Tactics
import Derived.Tactics2
import Derived.WalkKit
import Derived.LoopTactic
import Derived.BigQuiet
import Derived.RegionTactic
import Derived.Deep.QuietTactic
import Derived.Outline
import Derived.Lib.Hide
import Derived.Below
import Derived.KernelRfl
namespace Go.Proofs.Ytibafngidpmgdaa
set_option linter.unusedSimpArgs false
set_option linter.unusedVariables false
open Go.RowKit


theorem one_newV (w : World) (x : Value) (t : TypeId) : ∀ j u, [x][j]? = some u → (w.alloc (.cells #[x] t)).cell? ((⟨w.heap.size, 0, none⟩ : Addr).add j) = some u := by
  intro j u hj
  match j, hj with
  | 0, hj =>
    simp only [List.getElem?_cons_zero, Option.some.injEq] at hj
    subst hj
    rw [addP]
    go_simp
theorem one_cellV {x : Value} (h : x.oneCell' = true) : ∀ u ∈ [x], u.oneCell' = true := by
  intro u hu
  rw [List.mem_singleton.1 hu]
  exact h
theorem ptsCell {w : World} {B : Nat} {v : Value} {ps : List Pt} (h : Pts w B v ps) : v.oneCell' = true := by
  rcases h.2 with ⟨rfl, _⟩ | ⟨g, cap, cur, rfl, _⟩ <;> rfl
theorem infoQ : (Try.prog.info? 24).map (fun i => (i.zero, i.size, i.bytes)) = some (some nv, 1, 24) := by kernel_rfl

theorem getD_l {α : Type} {xs ys : List α} {i : Nat} {d : α} (h : i < xs.length) : (xs ++ ys).getD i d = xs.getD i d := by
  rw [List.getD_eq_getElem?_getD, List.getElem?_append_left h, ← List.getD_eq_getElem?_getD]
theorem getD_last {α : Type} (xs : List α) (x d : α) : (xs ++ [x]).getD xs.length d = x := by
  rw [List.getD_eq_getElem?_getD]
  simp
theorem gridSnoc {w u : World} {B : Nat} {v v' x : Value} {us : List Value} {pss : List (List Pt)} {p : List Pt} (h : Grid w B v us pss) (hp : Pts w B x p) (hs : ∀ i, i < us.length → Sep (own1 (us.getD i nv)) (own1 x)) (c : Chg (own1 v) w u)
    (ho : u.ownsRow B 24 1 v' (pss.length + 1) (us ++ [x])) : Grid u B v' (us ++ [x]) (pss ++ [p]) := by
  have hl := h.1
  have ty : ∀ {y : Value} {q : List Pt}, Pts w B y q → Sep (own1 y) (own1 v) := fun hq => ownsTypes hq h.2.1 (by decide)
  refine ⟨by simp [hl], by simpa using ho, fun i hi => ?_, fun i j hij hj => ?_⟩
  · by_cases hi2 : i < pss.length
    · rw [getD_l (show i < us.length by omega), getD_l hi2]
      have q := h.2.2.1 i hi2
      exact q.chg c (ty q)
    · have hie : i = pss.length := by simp at hi; omega
      have e1 : (us ++ [x]).getD i nv = x := by rw [hie, ← hl]; exact getD_last _ _ _
      have e2 : (pss ++ [p]).getD i [] = p := by rw [hie]; exact getD_last _ _ _
      rw [e1, e2]
      exact hp.chg c (ty hp)
  · by_cases hj2 : j < pss.length
    · rw [getD_l (show i < us.length by omega), getD_l (show j < us.length by omega)]
      exact h.2.2.2 i j hij hj2
    · have hje : j = pss.length := by simp at hj; omega
      have e1 : (us ++ [x]).getD j nv = x := by rw [hje, ← hl]; exact getD_last _ _ _
      rw [e1, getD_l (show i < us.length by omega)]
      exact hs i (by omega)

theorem grid_nil (w : World) (B : Nat) : Grid w B nv [] [] := ⟨rfl, World.ownsRow_nil _ _ _ _, fun _ h => by simp at h, fun _ _ _ h => by simp at h⟩

/-- Every pose, from the first tick on. -/
def allN (ks : List Key) (t0 s : Int) (k : Nat) : List (List Pt) := (List.range k).map fun (j : Nat) => poseAtN ks (t0 + (j : Int) * s)
theorem allN_succ (ks : List Key) (t0 s : Int) (k : Nat) : allN ks t0 s (k + 1) = allN ks t0 s k ++ [poseAtN ks (t0 + (k : Int) * s)] := by
  unfold allN
  rw [List.range_succ, List.map_append]
  rfl
theorem allN_length (ks : List Key) (t0 s : Int) (k : Nat) : (allN ks t0 s k).length = k := by simp [allN]
/-- How many poses there are. -/
def allM (d s : Int) : Nat := (d / s).toNat + 1
theorem allM_iff {d s : Int} (hs : 1 ≤ s) (hd : 0 ≤ d) (k : Nat) : (k : Int) * s ≤ d ↔ k < allM d s := by
  have h0 : 0 ≤ d / s := Int.ediv_nonneg hd (by omega)
  rw [← Int.le_ediv_iff_mul_le (by omega)]
  unfold allM
  omega

theorem totAll (ks : List Key) (h : keysB ks = true) (t0 s : Int) : ∀ k, totQ (allN ks t0 s k) ≤ k * 8
  | 0 => by simp [allN, totQ]
  | k + 1 => by
    rw [allN_succ, totQ_append]
    have := totAll ks h t0 s k
    have hk := (keysB_ok h).2.2
    have hl := poseAt_len hk (t0 + (k : Int) * s)
    have h8 := (poseB_len (hk 0 (keysB_len h).1).2.2.1).2
    have h9 : (poseAtN ks (t0 + (k : Int) * s)).length ≤ 8 := by rw [hl]; exact h8
    simp only [totQ]
    omega

/-- What AllPoses hands back. -/
def AllR (w : World) (z : Int) (qs : List (List Pt)) (e : Ending) (w' : World) : Prop := ∃ v us, e = .returned (.tuple #[v, .int .i64 z]) ∧ Grid w' w.heap.size v us qs ∧ Below w.heap.size w w'

/-- impl.AllPoses, of what are not key poses. -/
theorem implAll_bad (A : Option Addr) (n c : Nat) (ks : List Key) (s : Int) (w : World) (hv : RdK w A n ks) (h : keysB ks = false) :
    Calls Try.prog 52 #[.slice A n c, .int .i64 s] w (AllR w 1 []) := by
  have HV := Lib.hid hv
  clear hv
  go_enter Try.func52, Try.ntmps52
  go_wp2_with fail
  refine (validKeys_any A n c ks _ HV.out).mono ?_
  rintro e u ⟨rfl, hd⟩
  have hb := hd
  clear hd
  rw [h]
  go_wp2
  go_ret2
  exact ⟨_, _, rfl, grid_nil _ _, hb⟩

/-- impl.AllPoses, of a step that is none. -/
theorem implAll_range (A : Option Addr) (n c : Nat) (ks : List Key) (s : Int) (w : World) (hv : RdK w A n ks) (h : keysB ks = true) (hr : inB s 1 10000 = false) :
    Calls Try.prog 52 #[.slice A n c, .int .i64 s] w (AllR w 2 []) := by
  have HV := Lib.hid hv
  have hc : s < 1 ∨ (¬ s < 1 ∧ 10000 < s) := by
    by_cases h1 : s < 1
    · exact .inl h1
    · refine .inr ⟨h1, Int.not_le.1 fun h2 => ?_⟩
      rw [inB_iff.2 ⟨Int.not_lt.1 h1, h2⟩] at hr
      cases hr
  clear hv
  rcases hc with h1 | ⟨h1, h2⟩
  all_goals
    go_enter Try.func52, Try.ntmps52
    go_wp2_with fail
    refine (validKeys_any A n c ks _ HV.out).mono ?_
    rintro e u ⟨rfl, hd⟩
    have hb := hd
    clear hd
    rw [h]
    go_wp2
    go_ret2
    exact ⟨_, _, rfl, grid_nil _ _, hb⟩

set_option maxHeartbeats 1000000 in
/-- impl.AllPoses, of too many poses. -/
theorem implAll_full (A : Option Addr) (n c : Nat) (ks : List Key) (s : Int) (w : World) (hv : RdK w A n ks) (h : keysB ks = true) (hr : inB s 1 10000 = true) (hm : ¬ allM (tk ks (n - 1) - tk ks 0) s ≤ 100) :
    Calls Try.prog 52 #[.slice A n c, .int .i64 s] w (AllR w 5 []) := by
  have HV := Lib.hid hv
  have hk := h
  have hl := keysB_len h
  rw [hv.1] at hl
  obtain ⟨hn1, hn2⟩ := hl
  have hko := (keysB_ok h).2.2
  have hT0 : 0 ≤ tk ks 0 := (hko 0 (by rw [hv.1]; omega)).1
  have hT1 : tk ks (n - 1) ≤ 10000 := (hko (n - 1) (by rw [hv.1]; omega)).2.1
  have hT2 : tk ks 0 ≤ tk ks (n - 1) := by
    by_cases h1 : n = 1
    · subst h1; exact Int.le_refl _
    · exact Int.le_of_lt (tk_lt hko (by omega) (by rw [hv.1]; omega))
  have hrr := inB_iff.1 hr
  obtain ⟨hs1, hs2⟩ := hrr
  have hq0 : 0 ≤ (tk ks (n - 1) - tk ks 0) / s := Int.ediv_nonneg (by omega) (by omega)
  have hq1 : (tk ks (n - 1) - tk ks 0) / s ≤ tk ks (n - 1) - tk ks 0 := Int.ediv_le_self _ (by omega)
  have hqt : (tk ks (n - 1) - tk ks 0).tdiv s = (tk ks (n - 1) - tk ks 0) / s := Int.tdiv_eq_ediv_of_nonneg (by omega)
  have hMI := Lib.hid (fun k => allM_iff (d := tk ks (n - 1) - tk ks 0) (s := s) hs1 (by omega) k)
  have PA := Lib.hid (fun t q (r : RdK q A n ks) h1 h2 => poseAt_any A n c ks t q r hk h1 h2)
  unfold allM at hm
  simp only [tk] at hm hT0 hT1 hT2 hq0 hq1 hqt hMI PA ⊢
  clear hv hko hr
  go_enter Try.func52, Try.ntmps52
  go_wp2_with fail
  refine (validKeys_any A n c ks _ HV.out).mono ?_
  rintro e u ⟨rfl, hd⟩
  have hb := hd
  clear hd
  rw [h]
  have HV1 := Lib.hid (HV.out.below hb)
  obtain ⟨_, _, h3⟩ := HV.out.below hb
  rcases h3 with h0 | ⟨g, rfl, hg, h3⟩
  · omega
  obtain ⟨c0, -, -, -, -⟩ := h3 0 (by omega)
  obtain ⟨c2, -, -, -, -⟩ := h3 (n - 1) (by omega)
  have HB := Lib.hid hb
  clear h3 h hb
  have hwi : IntKind.i64.wrap ((n : Int) - 1) = (n : Int) - 1 := IntWalk.i64_in _ (by omega)
  have x0 : (0:Int) ≤ (n:Int) - 1 := by omega
  have x1 : (n:Int) - 1 < n := by omega
  have x2 : (0:Int) < n := by omega
  have hcast : (n:Int) - 1 = ((n - 1 : Nat) : Int) := by omega
  simp only [Nat.zero_mul, Nat.zero_add] at c0
  generalize (ks.getD 0 Go.Proofs.Ytibafngidpmgdaa.k0).1 = t0 at *
  generalize (ks.getD (n - 1) Go.Proofs.Ytibafngidpmgdaa.k0).1 = t1 at *
  have hd1 : IntKind.i64.wrap (t1 - t0) = t1 - t0 := IntWalk.i64_in _ (by omega)
  generalize hQ : (t1 - t0) / s = Q at *
  have hd2 : IntKind.i64.wrap Q = Q := IntWalk.i64_in _ (by omega)
  have hd3 : IntKind.i64.wrap (Q + 1) = Q + 1 := IntWalk.i64_in _ (by omega)
  have hs0 : s ≠ 0 := by omega
  have hs3 : (s == 0) = false := by simpa using hs0
  have hf0 : 100 < Q + 1 := by omega
  have hf1 : 100 ≤ Q := by omega
  clear hm
  go_wp2
  go_quiet (fail)
  go_wp2
  go_ret2
  exact ⟨_, _, rfl, grid_nil _ _, by first | exact HB.out | exact bTrans HB.out (belowDrewn ⟨_, rfl⟩)⟩

/-- spec.AllPoses, of what are not key poses. -/
theorem specAll_bad (A : Option Addr) (n c : Nat) (ks : List Key) (s : Int) (w : World) (hv : RdK w A n ks) (h : keysB ks = false) :
    Calls Try.prog 53 #[.slice A n c, .int .i64 s] w (AllR w 1 []) := by
  have HV := Lib.hid hv
  clear hv
  go_enter Try.func53, Try.ntmps53
  go_wp2_with fail
  refine (l04Keys_any A n c ks _ HV.out).mono ?_
  rintro e u ⟨rfl, hd⟩
  have hb := belowDrewn hd
  clear hd
  rw [h]
  go_wp2
  go_ret2
  exact ⟨_, _, rfl, grid_nil _ _, hb⟩

/-- spec.AllPoses, of a step that is none. -/
theorem specAll_range (A : Option Addr) (n c : Nat) (ks : List Key) (s : Int) (w : World) (hv : RdK w A n ks) (h : keysB ks = true) (hr : inB s 1 10000 = false) :
    Calls Try.prog 53 #[.slice A n c, .int .i64 s] w (AllR w 2 []) := by
  have HV := Lib.hid hv
  have hc : s < 1 ∨ (¬ s < 1 ∧ 10000 < s) := by
    by_cases h1 : s < 1
    · exact .inl h1
    · refine .inr ⟨h1, Int.not_le.1 fun h2 => ?_⟩
      rw [inB_iff.2 ⟨Int.not_lt.1 h1, h2⟩] at hr
      cases hr
  clear hv
  rcases hc with h1 | ⟨h1, h2⟩
  all_goals
    go_enter Try.func53, Try.ntmps53
    go_wp2_with fail
    refine (l04Keys_any A n c ks _ HV.out).mono ?_
    rintro e u ⟨rfl, hd⟩
    have hb := belowDrewn hd
    clear hd
    rw [h]
    go_wp2_with fail
    refine (l00In_any _ _ _ _).mono ?_
    rintro e u2 ⟨rfl, rfl⟩
    rw [hr]
    go_wp2
    go_ret2
    exact ⟨_, _, rfl, grid_nil _ _, hb⟩

set_option maxHeartbeats 1000000 in
/-- spec.AllPoses, of too many poses. -/
theorem specAll_full (A : Option Addr) (n c : Nat) (ks : List Key) (s : Int) (w : World) (hv : RdK w A n ks) (h : keysB ks = true) (hr : inB s 1 10000 = true) (hm : ¬ allM (tk ks (n - 1) - tk ks 0) s ≤ 100) :
    Calls Try.prog 53 #[.slice A n c, .int .i64 s] w (AllR w 5 []) := by
  have HV := Lib.hid hv
  have hk := h
  have hl := keysB_len h
  rw [hv.1] at hl
  obtain ⟨hn1, hn2⟩ := hl
  have hko := (keysB_ok h).2.2
  have hT0 : 0 ≤ tk ks 0 := (hko 0 (by rw [hv.1]; omega)).1
  have hT1 : tk ks (n - 1) ≤ 10000 := (hko (n - 1) (by rw [hv.1]; omega)).2.1
  have hT2 : tk ks 0 ≤ tk ks (n - 1) := by
    by_cases h1 : n = 1
    · subst h1; exact Int.le_refl _
    · exact Int.le_of_lt (tk_lt hko (by omega) (by rw [hv.1]; omega))
  have hrr := inB_iff.1 hr
  obtain ⟨hs1, hs2⟩ := hrr
  have hq0 : 0 ≤ (tk ks (n - 1) - tk ks 0) / s := Int.ediv_nonneg (by omega) (by omega)
  have hq1 : (tk ks (n - 1) - tk ks 0) / s ≤ tk ks (n - 1) - tk ks 0 := Int.ediv_le_self _ (by omega)
  have hqt : (tk ks (n - 1) - tk ks 0).tdiv s = (tk ks (n - 1) - tk ks 0) / s := Int.tdiv_eq_ediv_of_nonneg (by omega)
  have hMI := Lib.hid (fun k => allM_iff (d := tk ks (n - 1) - tk ks 0) (s := s) hs1 (by omega) k)
  have PA := Lib.hid (fun t q (r : RdK q A n ks) h1 h2 => l04At_any A n c ks t q r hk h1 h2)
  unfold allM at hm
  simp only [tk] at hm hT0 hT1 hT2 hq0 hq1 hqt hMI PA ⊢
  clear hv hko hr
  go_enter Try.func53, Try.ntmps53
  go_wp2_with fail
  refine (l04Keys_any A n c ks _ HV.out).mono ?_
  rintro e u ⟨rfl, hd⟩
  have hb := belowDrewn hd
  clear hd
  rw [h]
  go_wp2_with fail
  refine (l00In_any _ _ _ _).mono ?_
  rintro e u2 ⟨rfl, rfl⟩
  rw [inB_iff.2 ⟨hs1, hs2⟩]
  have HV1 := Lib.hid (HV.out.below hb)
  obtain ⟨_, _, h3⟩ := HV.out.below hb
  rcases h3 with h0 | ⟨g, rfl, hg, h3⟩
  · omega
  obtain ⟨c0, -, -, -, -⟩ := h3 0 (by omega)
  obtain ⟨c2, -, -, -, -⟩ := h3 (n - 1) (by omega)
  have HB := Lib.hid hb
  clear h3 h hb
  have hwi : IntKind.i64.wrap ((n : Int) - 1) = (n : Int) - 1 := IntWalk.i64_in _ (by omega)
  have x0 : (0:Int) ≤ (n:Int) - 1 := by omega
  have x1 : (n:Int) - 1 < n := by omega
  have x2 : (0:Int) < n := by omega
  have hcast : (n:Int) - 1 = ((n - 1 : Nat) : Int) := by omega
  simp only [Nat.zero_mul, Nat.zero_add] at c0
  generalize (ks.getD 0 Go.Proofs.Ytibafngidpmgdaa.k0).1 = t0 at *
  generalize (ks.getD (n - 1) Go.Proofs.Ytibafngidpmgdaa.k0).1 = t1 at *
  have hd1 : IntKind.i64.wrap (t1 - t0) = t1 - t0 := IntWalk.i64_in _ (by omega)
  generalize hQ : (t1 - t0) / s = Q at *
  have hd2 : IntKind.i64.wrap Q = Q := IntWalk.i64_in _ (by omega)
  have hd3 : IntKind.i64.wrap (Q + 1) = Q + 1 := IntWalk.i64_in _ (by omega)
  have hs0 : s ≠ 0 := by omega
  have hs3 : (s == 0) = false := by simpa using hs0
  have hf0 : 100 < Q + 1 := by omega
  have hf1 : 100 ≤ Q := by omega
  clear hm
  go_wp2
  go_ret2
  exact ⟨_, _, rfl, grid_nil _ _, by first | exact HB.out | exact bTrans HB.out (belowDrewn ⟨_, rfl⟩)⟩


end Go.Proofs.Ytibafngidpmgdaa
