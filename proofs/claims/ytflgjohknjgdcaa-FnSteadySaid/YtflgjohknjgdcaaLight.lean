/- The light of two wheels: lightOf's function. -/
import Derived.Test.YtflgjohknjgdcaaProg
import Derived.Test.YtflgjohknjgdcaaInBoth
import Derived.Laws.Cover1
import Derived.Deep.MidRow
import Derived.Deep.RegionWith
import Derived.Deep.RegionHeld3
import Derived.Deep.DrawnRows
import Derived.Deep.DeepCutAuto
import Derived.Tactics
import Derived.Tactics2
import Derived.WalkKit
import Derived.LoopTactic
import Derived.BigQuiet
import Derived.BigRegion
import Derived.RegionTactic
import Derived.Deep.QuietTactic
import Derived.Outline
import Derived.Lib.Hide
import Derived.Below
import Derived.KernelRfl
namespace Go.Proofs.Ytflgjohknjgdcaa
set_option linter.unusedSimpArgs false
set_option linter.unusedVariables false
open Go.RowKit

/-- The value of a wheel's function of its open parts. -/
def opV (b1 b2 : Nat) : Value := .func (.func 96) #[] #[.pointer (some ⟨b1, 0, none⟩), .pointer (some ⟨b2, 0, none⟩)]
/-- What lightOf has laid: the first wheel's set, the second one's function and its two variables. -/
structure Lt (w : World) (pf pi b1 b2 : Nat) (P : Nat → Bool) (S G : Nat) : Prop where
  row : w.rangeAt pf 0 (psL P 1000)
  lf : pf < w.heap.size
  fn : w.cell? ⟨pi, 0, none⟩ = some (opV b1 b2)
  li : pi < w.heap.size
  op : Op w b1 b2 S G
theorem opOf {W u : World} (hb : Below W.heap.size W u) {b1 b2 S G : Nat} (h : Op W b1 b2 S G) : Op u b1 b2 S G :=
  ⟨(hb.cell (p := ⟨b1, 0, none⟩) h.2.2.1).trans h.1, (hb.cell (p := ⟨b2, 0, none⟩) h.2.2.2).trans h.2.1, Nat.lt_of_lt_of_le h.2.2.1 hb.size, Nat.lt_of_lt_of_le h.2.2.2 hb.size⟩
theorem rangeOf {W u : World} (hb : Below W.heap.size W u) {b : Nat} {cs : List Value} (h : W.rangeAt b 0 cs) (hl : b < W.heap.size) : u.rangeAt b 0 cs :=
  fun j v hv => (hb.cell (p := ⟨b, 0 + j, none⟩) hl).trans (h j v hv)
theorem Lt.below {W u : World} {pf pi b1 b2 S G : Nat} {P : Nat → Bool} (h : Lt W pf pi b1 b2 P S G) (hb : Below W.heap.size W u) : Lt u pf pi b1 b2 P S G :=
  ⟨rangeOf hb h.row h.lf, Nat.lt_of_lt_of_le h.lf hb.size, (hb.cell (p := ⟨pi, 0, none⟩) h.li).trans h.fn, Nat.lt_of_lt_of_le h.li hb.size, opOf hb h.op⟩

/-- At how many parts light passes, the second wheel turned. -/
def lightN (P : Nat → Bool) (S G y : Nat) : Nat := cnt (fun k => P k && openB S G (k + y)) 1000

set_option maxHeartbeats 4000000 in
set_option maxRecDepth 100000 in
/-- The function that impl.lightOf hands back. -/
theorem light1_of (pf pi b1 b2 : Nat) (P : Nat → Bool) {S G : Nat} (y : Nat) (A B : List Value) (hA : psL P 1000 = A) (hB : psL (fun k => openB S G (k + y)) 1000 = B) (w : World) (h : Lt w pf pi b1 b2 P S G) (hS : 1 ≤ S) (hS2 : S ≤ 1000) (hG : G ≤ 1000) (hy : y ≤ 1000) :
    Calls Try.prog 98 #[.int .i64 y, .pointer (some ⟨pf, 0, none⟩), .pointer (some ⟨pi, 0, none⟩)] w fun e w' => e = .returned (.int .i64 (lightN P S G y)) ∧ Below w.heap.size w w' := by
  have hmf : ∀ (fn : Fn) (first cap : Array Value) (w : World), (Instr.makeFunc fn first cap).run Try.prog w = .ok (.func fn first cap) w := fun _ _ _ _ => rfl
  have lA : A.length = 16 := by rw [← hA]; exact psL_length _ _
  have hinf : (Try.prog.info? 102).map (·.size) = some A.length := by rw [lA]; exact psInfo
  have hbw : Below w.heap.size w (w.alloc (.cells #[.int .i64 y] 2)) := bAlloc (Below.refl _ _) _
  have hx : Bx (w.alloc (.cells #[.int .i64 y] 2)) w.heap.size (.int .i64 y) := bxAlloc _ _ _
  have h2 := h.below hbw
  have HI := Lib.hid (inBoth_of P (fun k => openB S G (k + y)) A B hA hB)
  have HS := Lib.hid (fun (v : World) (hv : Below (w.alloc (.cells #[.int .i64 y] 2)).heap.size (w.alloc (.cells #[.int .i64 y] 2)) v) => setOf2_any_of pi w.heap.size (fun k => openB S G (k + y)) B hB v (fun k W hk hW => turned_any pi w.heap.size b1 b2 k y W (h2.below (hv.trans (hW.mono hv.size))).fn ((bxOf (hv.trans (hW.mono hv.size)) hx).1) (h2.below (hv.trans (hW.mono hv.size))).op hS hS2 hG (by omega) hy))
  have hr := h2.row
  rw [hA] at hr
  have hlf := h2.lf
  have hE : both P (fun k => openB S G (k + y)) 16 = lightN P S G y := rfl
  rw [hE] at HI
  have HW := Lib.hid hbw
  clear h h2 hA hB hx hbw lA hE
  go_enter Try.func98, Try.ntmps98
  go_upto_region 1 with fail
  generalize w.alloc (.cells #[.int .i64 y] 2) = u0 at *
  have hu : Try.prog.underlying 102 = some (.array 16 95) := psArr
  have hL : ∀ v, (v.rangeAt pf 0 A ∧ Below u0.heap.size u0 v) → (Instr.loadAt 102 (.pointer (some ⟨pf, 0, none⟩))).run Try.prog v = .ok (.agg A.toArray) v := fun v hv => run_loadAt_mid v _ _ _ _ _ hv.1 psArr rfl hinf
  have MK := Lib.hid (fun v (hb : Below u0.heap.size u0 v) => (⟨rangeOf hb hr hlf, hb⟩ : v.rangeAt pf 0 A ∧ Below u0.heap.size u0 v))
  have HB := Lib.hid (Below.refl u0.heap.size u0)
  clear hr hlf hL
  go_region_held3 (fun v => v.rangeAt pf 0 A ∧ Below u0.heap.size u0 v) ((refine MK.out _ ?_; repeat (first | with_reducible exact HB.out | with_reducible exact Below.refl _ _ | with_reducible refine Below.drew ?_))) (first | (go_at_call 97; refine (HS.out _ (‹_ ∧ Below _ u0 _›).2).mono ?_; rintro e v ⟨rfl, hbv⟩; have HB := Lib.hid (bTrans (‹_ ∧ Below _ u0 _›).2 hbv)) | (go_at_call 99; refine (HI.out _).mono ?_; rintro e v ⟨rfl, hbv⟩; have HB := Lib.hid (bTrans (‹_ ∧ Below _ u0 _›).2 hbv)))
  all_goals go_wp2_with fail
  all_goals go_ret
  all_goals exact ⟨rfl, bTrans HW.out HB.out⟩

end Go.Proofs.Ytflgjohknjgdcaa
