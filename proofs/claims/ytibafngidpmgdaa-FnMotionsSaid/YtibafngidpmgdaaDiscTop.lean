/- DiscFor: the model, the program with its deferred look, the statement. -/
import Derived.Test.YtibafngidpmgdaaDiscI
import Derived.Test.YtibafngidpmgdaaMotTop
import Derived.Defers
import Derived.RangeFuncBox
import Derived.RangeFuncNested
import Derived.Tactics
import Derived.Tactics2
import Derived.WalkKit
import Derived.Outline
import Derived.Lib.Hide
import Derived.Below
import Derived.KernelRfl
namespace Go.Proofs.Ytibafngidpmgdaa
set_option linter.unusedSimpArgs false
set_option linter.unusedVariables false
open Go.RowKit

/-- What DiscFor returns. -/
def forV (s : ByteArray) (n : Int) : Value := withV s n (if fitsB s n.toNat = true then txt (discL s n.toNat) else ⟨#[]⟩) (if fitsB s n.toNat = true then 0 else 9)

/-- spec.DiscFor. -/
theorem specDiscFor_any (s : ByteArray) (n : Int) (w : World) (hs : s.size ≤ maxLen) :
    Calls Try.prog 76 #[.string s, .int .i64 n] w fun e w' => e = .returned (forV s n) ∧ Below w.heap.size w w' := by
  have C := Lib.hid (fun w => l06Code_any s n w hs)
  unfold forV
  cases h1 : motB s
  · rw [withV_bad h1]
    rw [h1] at C
    go_enter Try.func76, Try.ntmps76
    go_wp2_with fail
    refine (C.out _).mono ?_
    rintro e u ⟨rfl, rfl⟩
    go_wp2_with fail
    go_ret2
    exact ⟨rfl, Below.refl _ _⟩
  · rw [h1] at C
    cases h2 : inB n 1 24
    · rw [withV_off h1 h2]
      rw [h2] at C
      go_enter Try.func76, Try.ntmps76
      go_wp2_with fail
      refine (C.out _).mono ?_
      rintro e u ⟨rfl, rfl⟩
      go_wp2_with fail
      go_ret2
      exact ⟨rfl, Below.refl _ _⟩
    · rw [withV_yes h1 h2]
      rw [h2] at C
      obtain ⟨n1, n2⟩ := inB_iff.1 h2
      obtain ⟨k, rfl⟩ := Int.eq_ofNat_of_zero_le (show 0 ≤ n by omega)
      have D := Lib.hid (fun w => l06Disc_any s k w h1 (by omega) (by omega))
      rw [Int.toNat_natCast]
      cases hf : fitsB s k
      · rw [discV_no hf] at D
        go_enter Try.func76, Try.ntmps76
        go_wp2_with fail
        refine (C.out _).mono ?_
        rintro e u ⟨rfl, rfl⟩
        go_wp2_with fail
        refine (D.out _).mono ?_
        rintro e u2 ⟨rfl, hb⟩
        go_wp2_with fail
        go_ret2
        exact ⟨rfl, hb⟩
      · rw [discV_yes hf] at D
        generalize txt (discL s k) = x at *
        go_enter Try.func76, Try.ntmps76
        go_wp2_with fail
        refine (C.out _).mono ?_
        rintro e u ⟨rfl, rfl⟩
        go_wp2_with fail
        refine (D.out _).mono ?_
        rintro e u2 ⟨rfl, hb⟩
        go_wp2_with fail
        go_ret2
        exact ⟨rfl, hb⟩

/-- The function that impl.DiscFor defers: the disc shows the motion. -/
theorem look_yes (b0 b1 b2 : Nat) (d m : ByteArray) (fm : FrameMode) (w : World) (hS : ∀ w, Calls Try.prog 121 #[.string d, .string m] w fun e w' => e = .returned (.bool true) ∧ Below w.heap.size w w')
    (h0 : Boxed w b0 9 (.string m)) (h1 : Boxed w b1 9 (.string d)) :
    CallsD Try.prog 120 #[.pointer (some ⟨b1, 0, none⟩), .pointer (some ⟨b0, 0, none⟩), .pointer (some ⟨b2, 0, none⟩)] fm w fun e u' w' => u' = fm ∧ (e = .returned (.tuple #[]) ∧ Below w.heap.size w w') := by
  have c0 := h0.cell
  have c1 := h1.cell
  go_enter_d Try.func120, Try.ntmps120
  go_wp2_with fail
  refine (hS _).mono ?_
  rintro e u ⟨rfl, hb⟩
  go_wp2_with fail
  go_end0
  exact ⟨rfl, hb⟩
/-- .. it does not. -/
theorem look_no (b0 b1 b2 : Nat) (d m : ByteArray) (c : Value) (fm : FrameMode) (w : World) (hne : b1 ≠ b2) (hS : ∀ w, Calls Try.prog 121 #[.string d, .string m] w fun e w' => e = .returned (.bool false) ∧ Below w.heap.size w w')
    (h0 : Boxed w b0 9 (.string m)) (h1 : Boxed w b1 9 (.string d)) (h2 : Boxed w b2 2 c) :
    CallsD Try.prog 120 #[.pointer (some ⟨b1, 0, none⟩), .pointer (some ⟨b0, 0, none⟩), .pointer (some ⟨b2, 0, none⟩)] fm w fun e u' w' => u' = fm ∧ (e = .returned (.tuple #[]) ∧ Boxed w' b1 9 (.string ⟨#[]⟩) ∧ Boxed w' b2 2 (.int .i64 9) ∧ ∀ B, B ≤ b1 → B ≤ b2 → Below B w w') := by
  have c0 := h0.cell
  have c1 := h1.cell
  go_enter_d Try.func120, Try.ntmps120
  go_wp2_with fail
  refine (hS _).mono ?_
  rintro e u ⟨rfl, hb⟩
  have k1 : Boxed u b1 9 (.string d) := h1.kept (grownNone hb none) (by simp)
  have k2 : Boxed u b2 2 c := h2.kept (grownNone hb none) (by simp)
  have c3 := k1.cell
  have c4 := k2.cell
  have f3 := k1.frozen
  have f4 := k2.frozen
  have hlt := h1.lt
  have n1 : ¬ b1 = b2 := hne
  have n2 : ¬ b2 = b1 := fun e => hne e.symm
  go_wp2_with fail
  go_end0
  refine ⟨rfl, Boxed.other (Boxed.set _ k1) n1 _, Boxed.set _ (Boxed.other k2 n2 _), fun B e1 e2 => ?_⟩
  have hB : Below B w u := hb.mono (by omega)
  exact (hB.setCell (p := ⟨b1, 0, none⟩) e1 _).setCell (p := ⟨b2, 0, none⟩) e2 _

theorem twoSet {u : World} {b1 b2 : Nat} {t1 t2 : TypeId} {v1 v2 : Value} (k1 : Boxed u b1 t1 v1) (k2 : Boxed u b2 t2 v2) (hne : b1 ≠ b2) (x y : Value) :
    Boxed ((u.setCell ⟨b1, 0, none⟩ x).setCell ⟨b2, 0, none⟩ y) b1 t1 x ∧ Boxed ((u.setCell ⟨b1, 0, none⟩ x).setCell ⟨b2, 0, none⟩ y) b2 t2 y ∧ ∀ B, B ≤ b1 → B ≤ b2 → Below B u ((u.setCell ⟨b1, 0, none⟩ x).setCell ⟨b2, 0, none⟩ y) :=
  ⟨Boxed.other (Boxed.set _ k1) hne _, Boxed.set _ (Boxed.other k2 (fun e => hne e.symm) _), fun B e1 e2 => ((Below.refl B u).setCell (p := ⟨b1, 0, none⟩) e1 _).setCell (p := ⟨b2, 0, none⟩) e2 _⟩
theorem door_end {tmps : Array Value} {p1 p2 : Addr} {w : World} {R : Ending → World → Prop}
    (ht : tmps[4]? = some (.pointer (some p1)) ∧ tmps[5]? = some (.pointer (some p2)))
    (h : ∃ x y, w.cell? p1 = some x ∧ w.cell? p2 = some y ∧ R (.returned (.tuple #[x, y])) w) : Leaves Try.prog Try.f63 tmps R [] .returning w := by
  obtain ⟨h1, h2⟩ := ht
  obtain ⟨x, y, c1, c2, hR⟩ := h
  simp [Leaves, settle, results, Try.results63, go_sem, c1, c2, h1, h2]
  exact hR
theorem door_ret {tmps : Array Value} {p1 p2 : Addr} {w : World} {R : Ending → World → Prop}
    (ht : tmps[4]? = some (.pointer (some p1)) ∧ tmps[5]? = some (.pointer (some p2)))
    (h : ∃ x y, w.cell? p1 = some x ∧ w.cell? p2 = some y ∧ R (.returned (.tuple #[x, y])) w) : bodyPostD Try.prog Try.f63 R .ret { tmps := tmps, defers := [] } w := door_end ht h
theorem boxBelow {w u : World} {B : Nat} {t : TypeId} {v : Value} (h : Boxed w B t v) (hb : Below w.heap.size w u) : Boxed u B t v := h.kept (grownNone hb none) (by simp)

set_option maxHeartbeats 2000000 in
/-- impl.DiscFor. -/
theorem implDiscFor_any (s : ByteArray) (n : Int) (w : World) (hs : s.size ≤ maxLen) :
    Calls Try.prog 63 #[.string s, .int .i64 n] w fun e w' => e = .returned (forV s n) ∧ Below w.heap.size w w' := by
  have A1 := Lib.hid (fun w => implMotion_any s w hs)
  have C := Lib.hid (fun w => isPoseCount_any n w)
  have hmf : ∀ (fn : Fn) (first cap : Array Value) (w : World), (Instr.makeFunc fn first cap).run Try.prog w = .ok (.func fn first cap) w := fun _ _ _ _ => rfl
  have b0 := ((Boxed.new w 9 (.string s)).alloc (.cells #[.string ⟨#[]⟩] 9)).alloc (.cells #[.int .i64 0] 2)
  have b1 := (Boxed.new (w.alloc (.cells #[.string s] 9)) 9 (.string ⟨#[]⟩)).alloc (.cells #[.int .i64 0] 2)
  have b2 := Boxed.new ((w.alloc (.cells #[.string s] 9)).alloc (.cells #[.string ⟨#[]⟩] 9)) 2 (.int .i64 0)
  simp only [World.size_alloc] at b1 b2
  have hB0 : Below w.heap.size w (((w.alloc (.cells #[.string s] 9)).alloc (.cells #[.string ⟨#[]⟩] 9)).alloc (.cells #[.int .i64 0] 2)) := (((Below.refl _ w).alloc (Nat.le_refl _) _).alloc (by simp) _).alloc (by simp; omega) _
  have BX := Lib.hid (And.intro b0 (And.intro b1 (And.intro b2 hB0)))
  clear b0 b1 b2 hB0
  unfold forV
  cases h1 : motB s
  · rw [withV_bad h1]
    rw [h1] at A1
    go_enter_defers Try.func63, Try.ntmps63
    go_wp2_with fail
    refine (A1.out _).mono ?_
    rintro e u ⟨rfl, hb1⟩
    obtain ⟨b0, b1, b2, hB0⟩ := BX.out
    have k1 := boxBelow b1 hb1
    have k2 := boxBelow b2 hb1
    have c1 := k1.cell
    have c2 := k2.cell
    have f1 := k1.frozen
    have f2 := k2.frozen
    have hB := bTrans hB0 hb1
    obtain ⟨t1, t2, t3⟩ := twoSet k1 k2 (by omega) (.string ⟨#[]⟩) (.int .i64 1)
    have r1 := t1.cell
    have r2 := t2.cell
    have hB2 := Lib.hid (hB.trans (t3 w.heap.size (by omega) (by omega)))
    clear hb1 hB0 t1 t2 t3 hB BX
    go_wp2_with fail
    refine door_ret ⟨rfl, rfl⟩ ?_
    exact ⟨_, _, r1, r2, rfl, hB2.out⟩
  · rw [h1] at A1
    cases h2 : inB n 1 24
    · rw [withV_off h1 h2]
      rw [h2] at C
      go_enter_defers Try.func63, Try.ntmps63
      go_wp2_with fail
      refine (A1.out _).mono ?_
      rintro e u ⟨rfl, hb1⟩
      obtain ⟨b0, b1, b2, hB0⟩ := BX.out
      have k1 := boxBelow b1 hb1
      have k2 := boxBelow b2 hb1
      have c1 := k1.cell
      have c2 := k2.cell
      have f1 := k1.frozen
      have f2 := k2.frozen
      have hB := bTrans hB0 hb1
      obtain ⟨t1, t2, t3⟩ := twoSet k1 k2 (by omega) (.string ⟨#[]⟩) (.int .i64 2)
      have r1 := t1.cell
      have r2 := t2.cell
      have hB2 := Lib.hid (hB.trans (t3 w.heap.size (by omega) (by omega)))
      clear hb1 hB0 t1 t2 t3 hB BX
      go_wp2_with fail
      refine (C.out _).mono ?_
      rintro e u ⟨rfl, rfl⟩
      go_wp2_with fail
      refine door_ret ⟨rfl, rfl⟩ ?_
      exact ⟨_, _, r1, r2, rfl, hB2.out⟩
    · rw [withV_yes h1 h2]
      rw [h2] at C
      obtain ⟨n1, n2⟩ := inB_iff.1 h2
      obtain ⟨k, rfl⟩ := Int.eq_ofNat_of_zero_le (show 0 ≤ n by omega)
      have D := Lib.hid (fun w => discFor_any s k w h1 (by omega) (by omega))
      have S := Lib.hid (fun w => showsDisc_any s k w h1 (by omega) (by omega))
      rw [Int.toNat_natCast]
      cases hf : fitsB s k
      all_goals
        rw [hf] at S
        generalize txt (discL s k) = x at *
        go_enter_defers Try.func63, Try.ntmps63
        go_wp2_with fail
        refine (A1.out _).mono ?_
        rintro e u ⟨rfl, hb1⟩
        obtain ⟨b0, b1, b2, hB0⟩ := BX.out
        have k0 := boxBelow b0 hb1
        have k1 := boxBelow b1 hb1
        have k2 := boxBelow b2 hb1
        have c0 := k0.cell
        have hB := Lib.hid (bTrans hB0 hb1)
        clear hb1 hB0 b0 b1 b2
        go_wp2_with fail
        refine (C.out _).mono ?_
        rintro e u ⟨rfl, rfl⟩
        go_wp2_with fail
        refine (D.out _).mono ?_
        rintro e v ⟨rfl, hb2⟩
        replace k0 := boxBelow k0 hb2
        replace k1 := boxBelow k1 hb2
        replace k2 := boxBelow k2 hb2
        clear c0
        have c1 := k1.cell
        have c2 := k2.cell
        have f1 := k1.frozen
        have f2 := k2.frozen
        obtain ⟨t1, t2, t3⟩ := twoSet k1 k2 (by omega) (.string x) (.int .i64 0)
        have t0 := Boxed.other (Boxed.other k0 (B' := w.heap.size + 1) (by omega) (.string x)) (B' := w.heap.size + 1 + 1) (by omega) (.int .i64 0)
        have T := Lib.hid (And.intro t0 (And.intro t1 t2))
        have hB2 := Lib.hid ((bTrans hB.out hb2).trans (t3 w.heap.size (by omega) (by omega)))
        clear t0 t1 t2 t3 hb2
        go_wp2_with fail
        refine leaves_cons (f := 120) (args := #[.pointer (some ⟨w.heap.size + 1, 0, none⟩), .pointer (some ⟨w.heap.size, 0, none⟩), .pointer (some ⟨w.heap.size + 1 + 1, 0, none⟩)]) (by simp) (by simp [go_sem]) ?_
      · refine (look_no _ _ _ x s _ .returning _ (by omega) S.out T.out.1 T.out.2.1 T.out.2.2).mono ?_
        rintro e u' w'' ⟨rfl, rfl, q1, q2, q3⟩
        refine door_end ⟨rfl, rfl⟩ ?_
        exact ⟨_, _, q1.cell, q2.cell, rfl, hB2.out.trans (q3 _ (by omega) (by omega))⟩
      · refine (look_yes _ _ _ x s .returning _ S.out T.out.1 T.out.2.1).mono ?_
        rintro e u' w'' ⟨rfl, rfl, hb3⟩
        refine door_end ⟨rfl, rfl⟩ ?_
        exact ⟨_, _, (boxBelow T.out.2.1 hb3).cell, (boxBelow T.out.2.2 hb3).cell, rfl, bTrans hB2.out hb3⟩

/-- laws.FnExactDiscFor. -/
theorem law_DiscFor (s : ByteArray) (n : Int) (w : World) (hs : s.size ≤ maxLen) (_hn : I64 n) :
    Calls Try.prog 11 #[.string s, .int .i64 n] w fun e w' => e = .returned (.bool true) ∧ Below w.heap.size w w' := by
  by_cases hl : 1048576 < s.size
  · exact lawDiscFor_big0 s n w hs hl
  · obtain ⟨x, y, h⟩ := withV_pair s n (if fitsB s n.toNat = true then txt (discL s n.toNat) else ⟨#[]⟩) (if fitsB s n.toNat = true then 0 else 9)
    refine lawDiscFor_of s n x y w hs hl (fun u => ?_) (fun u => ?_)
    · rw [← h]; exact specDiscFor_any s n u hs
    · rw [← h]; exact implDiscFor_any s n u hs

end Go.Proofs.Ytibafngidpmgdaa
