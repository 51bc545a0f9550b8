/- impl.Drum.nearestDistance: its last lines (plain). (Printed by gen/mknear.py.) -/
import Derived.Test.YtibafngidpmgdabNearD
import Derived.Test.YtibafngidpmgdabGrew
import Derived.Test.YtibafngidpmgdabTail
namespace Go.Proofs.Ytibafngidpmgdab
open Go.Conc Go.RowKit
set_option linter.unusedSimpArgs false
set_option linter.unusedVariables false

noncomputable def nBody : Code := Try.f101.body.getD .skip
noncomputable def nTail : Code := match nBody with | .seq _ (.seq _ c) => c | _ => .skip

set_option maxHeartbeats 2000000 in
set_option maxRecDepth 100000 in
theorem near_tail (b3 b4 b5 : Nat) (r h s x y z : Int) (k : Nat) (A : Option Addr) (m cap : Nat) (ts : List Int) (w : World) (B : Bd w b3 r h s) (c4 : w.cell? ⟨b4, 0, none⟩ = some (.slice A m cap)) (l4 : b4 < w.heap.size) (c5 : w.cell? ⟨b5, 0, none⟩ = some (.int .i64 x)) (l5 : b5 < w.heap.size)
    (hv : RdI w A m ts) (h1 : 1 ≤ m) (hk : k ≤ 1000) (r1 : 0 ≤ r ∧ r ≤ 10000) (x1 : 0 ≤ x ∧ x ≤ 10000) (hy : ringI ts k = y) (y1 : 0 ≤ y ∧ y ≤ 10000) (hz : ringI ts ((k : Int) - 1) = z) (z1 : 0 ≤ z ∧ z ≤ 10000) (u0 u1 u2 u6 u8 u9 u10 u11 u12 u13 u14 u15 u16 u17 u18 u19 u20 u21 u22 u23 u24 u25 : Value) :
    nTail.wp Try.prog (bodyPost Try.prog Try.f101 fun e w' => e = .returned (.int .i64 (min (circI r x y) (circI r x z))) ∧ Below w.heap.size w w') ⟨#[u0, u1, u2, .pointer (some ⟨b3, 0, none⟩), .pointer (some ⟨b4, 0, none⟩), .pointer (some ⟨b5, 0, none⟩), u6, .int .i64 k, u8, u9, u10, u11, u12, u13, u14, u15, u16, u17, u18, u19, u20, u21, u22, u23, u24, u25], []⟩ w := by
  obtain ⟨x0, x1', x2, x3⟩ := B
  have hw : IntKind.i64.wrap ((k : Int) - 1) = (k : Int) - 1 := by rw [IntKind.wrap_i64]; omega
  have q0 : ∀ p : Grew w, p.u.cell? ⟨b3, 0, none⟩ = some (.int .i64 r) := fun p => p.cell x3 x0
  have q1 : ∀ p : Grew w, p.u.cell? ⟨b3, 1, none⟩ = some (.int .i64 h) := fun p => p.cell x3 x1'
  have q2 : ∀ p : Grew w, p.u.cell? ⟨b3, 2, none⟩ = some (.int .i64 s) := fun p => p.cell x3 x2
  have q4 : ∀ p : Grew w, p.u.cell? ⟨b4, 0, none⟩ = some (.slice A m cap) := fun p => p.cell l4 c4
  have q5 : ∀ p : Grew w, p.u.cell? ⟨b5, 0, none⟩ = some (.int .i64 x) := fun p => p.cell l5 c5
  have R0 : Hid (∀ p : Grew w, Calls Try.prog 117 #[.slice A m cap, .int .i64 k] p.u fun e w' => e = Ending.returned (.int .i64 y) ∧ Below p.u.heap.size p.u w') :=
    Lib.hid (fun p => (ringAt_any A m cap ts k p.u (RdI.below hv p.h) h1 (by omega) (by omega)).mono fun e w' ⟨e1, n, e2⟩ => ⟨by rw [e1, hy], by rw [e2]; exact bDrewN (Below.refl _ _) _⟩)
  have R1 : Hid (∀ p : Grew w, Calls Try.prog 117 #[.slice A m cap, .int .i64 ((k : Int) - 1)] p.u fun e w' => e = Ending.returned (.int .i64 z) ∧ Below p.u.heap.size p.u w') :=
    Lib.hid (fun p => (ringAt_any A m cap ts ((k : Int) - 1) p.u (RdI.below hv p.h) h1 (by omega) (by omega)).mono fun e w' ⟨e1, n, e2⟩ => ⟨by rw [e1, hz], by rw [e2]; exact bDrewN (Below.refl _ _) _⟩)
  have D0 := Lib.hid (fun (p : Grew w) => distance_any r h s x y p.u r1 x1 y1)
  have D1 := Lib.hid (fun (p : Grew w) => distance_any r h s x z p.u r1 x1 z1)
  clear hv hy hz
  generalize circI r x y = dy at *
  generalize circI r x z = dz at *
  obtain ⟨F, hF⟩ : ∃ F, F = Try.f101 := ⟨_, rfl⟩
  rw [← hF]
  simp only [nTail, nBody, Try.f101, Option.getD_some]
  subst hF
  refine wp_seq ?_
  refine wp_region_grew (by kernel_rfl) (by kernel_rfl) ?_
  repeat (go_big_quiet_step ((first
    | (go_at_call 117; first | with_reducible exact grewOf (R0.out _) | with_reducible exact grewOf (R1.out _))
    | (go_at_call 116; first | with_reducible exact grewOf (D0.out _) | with_reducible exact grewOf (D1.out _)))))
  refine wpQuiet_nil ?_
  intro w3 hw'
  obtain ⟨p3, hw''⟩ := hw'
  have hb2 : Below w.heap.size w w3 := by rw [hw'']; exact p3.h
  clear hw'' p3 q0 q1 q2 q4 q5 R0 R1 D0 D1
  go_wp2
  all_goals
    go_ret
    exact ⟨ret_int (by first | omega | (split <;> omega)), hb2⟩
end Go.Proofs.Ytibafngidpmgdab
