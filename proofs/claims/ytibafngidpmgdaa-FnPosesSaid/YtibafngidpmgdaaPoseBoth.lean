/- What both the program and the model tell of poses between, poses at a tick, mirrored poses and greatest moves. -/
import Derived.Test.YtibafngidpmgdaaProg
import Derived.Test.YtibafngidpmgdaaInts
import Derived.Test.YtibafngidpmgdaaBetweenLaw
import Derived.Test.YtibafngidpmgdaaMirrorLaw
import Derived.Test.YtibafngidpmgdaaMoveLaw
import Derived.Test.YtibafngidpmgdaaAtLaw
import Derived.Test.YtibafngidpmgdaaFnMath
import Derived.Deep.AppendLies
import Derived.Deep.DrawnRows
import Derived.Test.YtibafngidpmgdaaHold
import Derived.IntWalk
import Derived.WalkSpells
import Derived.OwnWalk
import Derived.Laws.AppendOwn
import Derived.Laws.OwnMore
import Derived.Deep.RegionWith
import Derived.Deep.DrawnRows
import Derived.Deep.RegionHeld3
import Derived.Tactics
import Derived.Tactics2
import Derived.WalkKit
import Derived.LoopTactic
import Derived.BigQuiet
import Derived.RegionTactic
import Derived.Deep.QuietTactic
import Derived.Outline
import Derived.Lib.Hide
import Derived.Below
import Derived.KernelRfl
namespace Go.Proofs.Ytibafngidpmgdaa
set_option linter.unusedSimpArgs false
set_option linter.unusedVariables false
open Go.RowKit

theorem mirL_pose {ps : List Pt} {W : Int} (h : poseB ps = true) (hW : inB W 0 1000 = true) (hf : fitB ps W = true) : poseB (mirL ps W ps.length) = true ∧ fitB (mirL ps W ps.length) W = true := by
  obtain ⟨w0, w1⟩ := inB_iff.1 hW
  have hl := poseB_len h
  refine ⟨?_, fitB_yes fun i hi => ?_⟩
  · rw [poseB_all]
    · rw [mirL_length]
      exact inB_iff.2 ⟨by omega, by omega⟩
    · intro j hj
      rw [mirL_length] at hj
      rw [mirL_get _ _ _ _ hj]
      obtain ⟨a, b, c, d⟩ := poseB_get h j hj
      have := fitB_get hf j hj
      simp only [ptB, Bool.and_eq_true]
      exact ⟨inB_iff.2 ⟨by omega, by omega⟩, inB_iff.2 ⟨c, d⟩⟩
  · rw [mirL_length] at hi
    rw [mirL_get _ _ _ _ hi]
    obtain ⟨a, -, -, -⟩ := poseB_get h i hi
    show W - _ ≤ W
    omega

/-- What both MirrorPose tell; and mirrored twice. -/
theorem mirror_both (n : Nat) (d : List Pt) (W : Int) (hn : d.length = n) : ∃ z qs, (∀ (E : Option Addr) (f : Nat) (u : World), Rd u E n d → Calls Try.prog 22 #[.slice E n f, .int .i64 W] u (BetweenR u z qs)) ∧
    (∀ (E : Option Addr) (f : Nat) (u : World), Rd u E n d → Calls Try.prog 20 #[.slice E n f, .int .i64 W] u (BetweenR u z qs)) ∧ qs.length ≤ 8 ∧
    (z = 0 → ∀ (E : Option Addr) (f : Nat) (u : World), Rd u E qs.length qs → Calls Try.prog 22 #[.slice E qs.length f, .int .i64 W] u (BetweenR u 0 d)) := by
  cases h : poseB d
  · exact ⟨1, [], fun E f u r => implMirror_bad E n f d W u r h, fun E f u r => specMirror_bad E n f d W u r h, by simp, fun h => by cases h⟩
  · cases hW : inB W 0 1000
    · exact ⟨2, [], fun E f u r => implMirror_wide E n f d W u r h hW, fun E f u r => specMirror_wide E n f d W u r h hW, by simp, fun h => by cases h⟩
    · cases hf : fitB d W
      · exact ⟨6, [], fun E f u r => implMirror_no E n f d W u r h hW hf, fun E f u r => specMirror_ok E n f d W u r h hW 6 [] (by rw [hf]; intro e; cases e) (fun _ => ⟨rfl, rfl⟩), by simp, fun h => by cases h⟩
      · subst hn
        refine ⟨0, mirL d W d.length, fun E f u r => implMirror_yes E d.length f d W u r h hW hf, fun E f u r => specMirror_ok E d.length f d W u r h hW 0 (mirL d W d.length) (fun _ => ⟨rfl, rfl⟩) (by rw [hf]; intro e; cases e), by rw [mirL_length]; exact (poseB_len h).2, fun _ E f u r => ?_⟩
        have hm := mirL_pose h hW hf
        have h2 := mirL_twice d W
        rw [mirL_length] at r ⊢
        have := implMirror_yes E d.length f (mirL d W d.length) W u r hm.1 hW hm.2
        rwa [h2] at this

/-- What both PoseAt tell; and at a key's tick. -/
theorem at_both (n : Nat) (d : List Key) (t : Int) (hn : d.length = n) : ∃ z qs, (∀ (E : Option Addr) (f : Nat) (u : World), RdK u E n d → Calls Try.prog 38 #[.slice E n f, .int .i64 t] u (BetweenR u z qs)) ∧
    (∀ (E : Option Addr) (f : Nat) (u : World), RdK u E n d → Calls Try.prog 39 #[.slice E n f, .int .i64 t] u (BetweenR u z qs)) ∧ qs.length ≤ 8 ∧
    (z = 0 → ∀ i, i < n → (jt d i).length ≤ 8 ∧ ∀ (E : Option Addr) (f : Nat) (u : World), RdK u E n d → Calls Try.prog 38 #[.slice E n f, .int .i64 (tk d i)] u (BetweenR u 0 (jt d i))) := by
  cases h : keysB d
  · exact ⟨1, [], fun E f u r => implAt_bad E n f d t u r h, fun E f u r => specAt_bad E n f d t u r h, by simp, fun h => by cases h⟩
  · cases hr : inB t (tk d 0) (tk d (n - 1))
    · exact ⟨2, [], fun E f u r => implAt_range E n f d t u r h hr, fun E f u r => specAt_range E n f d t u r h hr, by simp, fun h => by cases h⟩
    · have hko := (keysB_ok h).2.2
      refine ⟨0, poseAtN d t, fun E f u r => implAt_ok E n f d t u r h hr, fun E f u r => specAt_ok E n f d t u r h hr, by rw [poseAt_len hko]; exact (poseB_len (hko 0 (keysB_len h).1).2.2.1).2, fun _ i hi => ⟨(poseB_len (hko i (by omega)).2.2.1).2, fun E f u r => ?_⟩⟩
      have e1 : tk d 0 ≤ tk d i := by
        by_cases h1 : i = 0
        · subst h1; exact Int.le_refl _
        · exact Int.le_of_lt (tk_lt hko (by omega) (by omega))
      have e2 : tk d i ≤ tk d (n - 1) := by
        by_cases h1 : i = n - 1
        · subst h1; exact Int.le_refl _
        · exact Int.le_of_lt (tk_lt hko (by omega) (by omega))
      have := implAt_ok E n f d (tk d i) u r h (inB_iff.2 ⟨e1, e2⟩)
      rwa [poseAt_key hko (by omega)] at this

/-- What both PoseBetween tell; and that it lies between. -/
theorem between_both (n n' : Nat) (d d' : List Pt) (m N : Int) (hn : d.length = n) : ∃ z qs, (∀ (E E' : Option Addr) (f f' : Nat) (u : World), Rd u E n d → Rd u E' n' d' → Calls Try.prog 35 #[.slice E n f, .slice E' n' f', .int .i64 m, .int .i64 N] u (BetweenR u z qs)) ∧
    (∀ (E E' : Option Addr) (f f' : Nat) (u : World), Rd u E n d → Rd u E' n' d' → Calls Try.prog 36 #[.slice E n f, .slice E' n' f', .int .i64 m, .int .i64 N] u (BetweenR u z qs)) ∧ qs.length ≤ 8 ∧
    (z = 0 → ∀ i, i < qs.length → i < n ∧ i < n' ∧ min (d.getD i (0, 0)).1 (d'.getD i (0, 0)).1 ≤ (qs.getD i (0, 0)).1 ∧ (qs.getD i (0, 0)).1 ≤ max (d.getD i (0, 0)).1 (d'.getD i (0, 0)).1 ∧ min (d.getD i (0, 0)).2 (d'.getD i (0, 0)).2 ≤ (qs.getD i (0, 0)).2 ∧ (qs.getD i (0, 0)).2 ≤ max (d.getD i (0, 0)).2 (d'.getD i (0, 0)).2) := by
  cases h : poseB d && poseB d'
  · exact ⟨1, [], fun E E' f f' u r r' => implBetween_bad E E' n n' f f' d d' m N u r r' h, fun E E' f f' u r r' => specBetween_bad E E' n n' f f' d d' m N u r r' h, by simp, fun h => by cases h⟩
  · simp only [Bool.and_eq_true] at h
    cases hb : partB m N
    · exact ⟨2, [], fun E E' f f' u r r' => implBetween_part E E' n n' f f' d d' m N u r r' h.1 h.2 hb, fun E E' f f' u r r' => specBetween_part E E' n n' f f' d d' m N u r r' h.1 h.2 hb, by simp, fun h => by cases h⟩
    · by_cases hnm : n = n'
      · subst hnm
        obtain ⟨b1, b2, b3, b4⟩ := partB_bd hb
        refine ⟨0, mixL d d' m N n, fun E E' f f' u r r' => implBetween_ok E E' n f f' d d' m N u r r' h.1 h.2 hb, fun E E' f f' u r r' => specBetween_ok E E' n f f' d d' m N u r r' h.1 h.2 hb, by rw [mixL_length]; have := (poseB_len h.1).2; omega, fun _ i hi => ?_⟩
        rw [mixL_length] at hi
        rw [mixL_get _ _ _ _ _ _ hi]
        have x1 := mix_between (a := (d.getD i (0, 0)).1) (b := (d'.getD i (0, 0)).1) b3 b4 b1
        have x2 := mix_between (a := (d.getD i (0, 0)).2) (b := (d'.getD i (0, 0)).2) b3 b4 b1
        exact ⟨hi, hi, x1.1, x1.2, x2.1, x2.2⟩
      · exact ⟨8, [], fun E E' f f' u r r' => implBetween_fmt E E' n n' f f' d d' m N u r r' h.1 h.2 hb hnm, fun E E' f f' u r r' => specBetween_fmt E E' n n' f f' d d' m N u r r' h.1 h.2 hb hnm, by simp, fun h => by cases h⟩

/-- What a greatest move leaves. -/
def MoveR (w : World) (x y z : Int) (e : Ending) (w' : World) : Prop := e = .returned (.tuple #[.int .i64 x, .int .i64 y, .int .i64 z]) ∧ Below w.heap.size w w'
/-- What both GreatestMove tell. -/
theorem move_both (n n' : Nat) (d d' : List Pt) : ∃ x y z, (∀ (E E' : Option Addr) (f f' : Nat) (u : World), Rd u E n d → Rd u E' n' d' → Calls Try.prog 42 #[.slice E n f, .slice E' n' f'] u (MoveR u x y z)) ∧
    (∀ (E E' : Option Addr) (f f' : Nat) (u : World), Rd u E n d → Rd u E' n' d' → Calls Try.prog 43 #[.slice E n f, .slice E' n' f'] u (MoveR u x y z)) := by
  cases h : poseB d && poseB d'
  · exact ⟨0, 0, 1, fun E E' f f' u r r' => implMove_bad E E' n n' f f' d d' u r r' h, fun E E' f f' u r r' => specMove_bad E E' n n' f f' d d' u r r' h⟩
  · simp only [Bool.and_eq_true] at h
    by_cases hnm : n = n'
    · subst hnm
      exact ⟨_, _, 0, fun E E' f f' u r r' => implMove_ok E E' n f f' d d' u r r' h.1 h.2, fun E E' f f' u r r' => specMove_ok E E' n f f' d d' u r r' h.1 h.2⟩
    · exact ⟨0, 0, 8, fun E E' f f' u r r' => implMove_fmt E E' n n' f f' d d' u r r' h.1 h.2 hnm, fun E E' f f' u r r' => specMove_fmt E E' n n' f f' d d' u r r' h.1 h.2 hnm⟩

end Go.Proofs.Ytibafngidpmgdaa
