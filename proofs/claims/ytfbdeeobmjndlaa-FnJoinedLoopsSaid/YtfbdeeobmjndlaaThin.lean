/- Every so many places of a loop: the program. -/
import Derived.Test.YtfbdeeobmjndlaaProg
import Derived.Test.YtfbdeeobmjndlaaLoopMath
import Derived.Test.YtfbdeeobmjndlaaInts
import Derived.Test.YtfbdeeobmjndlaaLoop
import Derived.Test.YtfbdeeobmjndlaaLoop2
import Derived.Test.YtfbdeeobmjndlaaLoop3
import Derived.Test.YtfbdeeobmjndlaaIGrids
import Derived.Test.YtfbdeeobmjndlaaComLen
import Derived.Deep.AppendLies
import Derived.Deep.DrawnRows
import Derived.Test.YtfbdeeobmjndlaaHold
import Derived.IntWalk
import Derived.WalkSpells
import Derived.OwnWalk
import Derived.Laws.AppendOwn
import Derived.Laws.OwnMore
import Derived.Deep.RegionWith
import Derived.Deep.DrawnRows
import Derived.Deep.RegionHeld3
import Derived.Tactics
import Derived.Tactics2
import Derived.WalkKit
import Derived.LoopTactic
import Derived.BigQuiet
import Derived.RegionTactic
import Derived.Deep.QuietTactic
import Derived.Outline
import Derived.Lib.Hide
import Derived.Below
import Derived.KernelRfl
namespace Go.Proofs.Ytfbdeeobmjndlaa
set_option linter.unusedSimpArgs false
set_option linter.unusedVariables false
open Go.RowKit

theorem thin_lt {n e k : Nat} (he : 1 ≤ e) (hk : k < n / e) : k * e < n := by
  have h1 := Nat.div_mul_le_self n e
  have h2 : (k + 1) * e ≤ n / e * e := Nat.mul_le_mul_right e hk
  rw [Nat.add_mul, Nat.one_mul] at h2
  omega

/-- The function literal of impl.ThinLoop. -/
theorem thin1_any (A : Option Addr) (n c : Nat) (zs : List Int) (e k p : Nat) (w : World) (hv : RdI w A n zs) (hn : n ≤ 1000) (he : 1 ≤ e) (hk : k < n / e) (c0 : w.cell? ⟨p, 0, none⟩ = some (.slice A n c)) (c1 : w.cell? ⟨p + 1, 0, none⟩ = some (.int .i64 e)) :
    Calls Try.prog 131 #[.int .i64 k, .pointer (some ⟨p, 0, none⟩), .pointer (some ⟨p + 1, 0, none⟩)] w fun e' w' => e' = .returned (.int .i64 (zs.getD (k * e) 0)) ∧ Below w.heap.size w w' := by
  have hlt := thin_lt he hk
  obtain ⟨hl, hn2, h3⟩ := hv
  rcases h3 with h0 | ⟨g, rfl, hg, h3⟩
  · omega
  have c2 := h3 (k * e) hlt
  have hm : (k : Int) * (e : Int) = ((k * e : Nat) : Int) := (Int.natCast_mul _ _).symm
  have hw : IntKind.i64.wrap ((k : Int) * e) = (k : Int) * e := IntWalk.i64_in _ (by omega)
  generalize k * e = m at *
  generalize zs.getD m 0 = x at *
  have hj0 : (0 : Int) ≤ (m : Int) := by omega
  have hj1 : (m : Int) < n := by omega
  clear h3
  go_enter Try.func131, Try.ntmps131
  go_wp2
  go_ret
  exact ⟨rfl, Below.refl _ _⟩

/-- impl.ThinLoop. -/
theorem implThin_bad (A : Option Addr) (n c : Nat) (zs : List Int) (d : Int) (w : World) (hv : RdI w A n zs) (hz : loopB zs = false) :
    Calls Try.prog 47 #[.slice A n c, .int .i64 d] w fun e w' => ∃ v, e = .returned (.tuple #[v, .int .i64 1]) ∧ Ints w' w.heap.size v [] ∧ Below w.heap.size w w' := by
  have HV := Lib.hid hv
  clear hv
  go_enter Try.func47, Try.ntmps47
  go_wp2_with fail
  refine (validLoop_any A n c zs _ (HV.out.below (bAlloc (bAlloc (Below.refl _ _) _) _))).mono ?_
  rintro e u ⟨rfl, rfl⟩
  rw [hz]
  go_wp2
  go_ret2
  exact ⟨_, rfl, World.ownsRow_nil _ _ _ _, bAlloc (bAlloc (Below.refl _ _) _) _⟩
theorem implThin_range (A : Option Addr) (n c : Nat) (zs : List Int) (d : Int) (w : World) (hv : RdI w A n zs) (hz : loopB zs = true) (hd : lenB d = false) :
    Calls Try.prog 47 #[.slice A n c, .int .i64 d] w fun e w' => ∃ v, e = .returned (.tuple #[v, .int .i64 2]) ∧ Ints w' w.heap.size v [] ∧ Below w.heap.size w w' := by
  have HV := Lib.hid hv
  clear hv
  go_enter Try.func47, Try.ntmps47
  go_wp2_with fail
  refine (validLoop_any A n c zs _ (HV.out.below (bAlloc (bAlloc (Below.refl _ _) _) _))).mono ?_
  rintro e u ⟨rfl, rfl⟩
  rw [hz]
  go_wp2_with fail
  refine (isLoopLength_any d _).mono ?_
  rintro e u ⟨rfl, rfl⟩
  rw [hd]
  go_wp2
  go_ret2
  exact ⟨_, rfl, World.ownsRow_nil _ _ _ _, bAlloc (bAlloc (Below.refl _ _) _) _⟩
theorem implThin_odd (A : Option Addr) (n c : Nat) (zs : List Int) (d : Nat) (w : World) (hv : RdI w A n zs) (hz : loopB zs = true) (hd : lenB d = true) (hm : n % d ≠ 0) :
    Calls Try.prog 47 #[.slice A n c, .int .i64 d] w fun e w' => ∃ v, e = .returned (.tuple #[v, .int .i64 8]) ∧ Ints w' w.heap.size v [] ∧ Below w.heap.size w w' := by
  have HV := Lib.hid hv
  obtain ⟨d1, d2⟩ := lenB_iff.1 hd
  have hl := loopB_len hz
  rw [hv.1] at hl
  clear hv
  have hr2 : (n : Int) % d = ((n % d : Nat) : Int) := (Int.natCast_emod _ _).symm
  have hr : Int.tmod (n : Int) d = ((n % d : Nat) : Int) := by rw [Int.tmod_eq_emod_of_nonneg (by omega), hr2]
  have hd0 : ¬ d = 0 := by omega
  have hmb : (((n % d : Nat) : Int) != 0) = true := by rw [bne_iff_ne]; omega
  generalize n % d = r at *
  go_enter Try.func47, Try.ntmps47
  go_wp2_with fail
  refine (validLoop_any A n c zs _ (HV.out.below (bAlloc (bAlloc (Below.refl _ _) _) _))).mono ?_
  rintro e u ⟨rfl, rfl⟩
  rw [hz]
  go_wp2_with fail
  refine (isLoopLength_any d _).mono ?_
  rintro e u ⟨rfl, rfl⟩
  rw [hd]
  go_wp2
  go_ret2
  exact ⟨_, rfl, World.ownsRow_nil _ _ _ _, bAlloc (bAlloc (Below.refl _ _) _) _⟩
set_option maxHeartbeats 1000000 in
theorem implThin_ok (A : Option Addr) (n c : Nat) (zs : List Int) (d : Nat) (w : World) (hv : RdI w A n zs) (hz : loopB zs = true) (hd : lenB d = true) (hm : n % d = 0) :
    Calls Try.prog 47 #[.slice A n c, .int .i64 d] w fun e w' => ∃ v, e = .returned (.tuple #[v, .int .i64 0]) ∧ Ints w' w.heap.size v (thinL zs d) ∧ Below w.heap.size w w' := by
  have hmf : ∀ (fn : Fn) (first cap : Array Value) (w : World), (Instr.makeFunc fn first cap).run Try.prog w = .ok (.func fn first cap) w := fun _ _ _ _ => rfl
  have HV := Lib.hid hv
  obtain ⟨d1, d2⟩ := lenB_iff.1 hd
  have hl := loopB_len hz
  rw [hv.1] at hl
  have HE := Lib.hid (show genL (fun k => zs.getD (k * d) 0) (n / d) = thinL zs d by unfold thinL; rw [hv.1])
  have hnd : n / d ≤ n := Nat.div_le_self _ _
  have L := Lib.hid (fun q (hb : Below w.heap.size w q) (x0 : q.cell? ⟨w.heap.size, 0, none⟩ = some (.slice A n c)) (x1 : q.cell? ⟨w.heap.size + 1, 0, none⟩ = some (.int .i64 d)) (hq : w.heap.size + 1 < q.heap.size) =>
    listOf_thin (.pointer (some ⟨w.heap.size, 0, none⟩)) (.pointer (some ⟨w.heap.size + 1, 0, none⟩)) (n / d) (fun k => zs.getD (k * d) 0) q (by omega) (fun k hk u hbu => thin1_any A n c zs d k w.heap.size u ((hv.below hb).below hbu) (by omega) (by omega) hk ((hbu.cell (by simp; omega)).trans x0) ((hbu.cell (by simp; omega)).trans x1)))
  rw [HE.out] at L
  clear hv HE
  have hr2 : (n : Int) % d = 0 := by rw [← Int.natCast_emod, hm]; rfl
  have hr : Int.tmod (n : Int) d = 0 := by rw [Int.tmod_eq_emod_of_nonneg (by omega), hr2]
  have hq2 : (n : Int) / d = ((n / d : Nat) : Int) := (Int.natCast_ediv _ _).symm
  have hd0 : ¬ d = 0 := by omega
  generalize n / d = r at *
  have hwr : IntKind.i64.wrap (r : Int) = r := IntWalk.i64_in _ (by omega)
  generalize thinL zs d = qs at *
  go_enter Try.func47, Try.ntmps47
  go_wp2_with fail
  refine (validLoop_any A n c zs _ (HV.out.below (bAlloc (bAlloc (Below.refl _ _) _) _))).mono ?_
  rintro e u ⟨rfl, rfl⟩
  rw [hz]
  go_wp2_with fail
  refine (isLoopLength_any d _).mono ?_
  rintro e u ⟨rfl, rfl⟩
  rw [hd]
  go_wp2_with fail
  refine (L.out _ (bAlloc (bAlloc (Below.refl _ _) _) _) (by go_simp) (by go_simp) (by simp)).mono ?_
  rintro e u ⟨v, rfl, io, hb⟩
  have HI := Lib.hid (Ints.base io (B' := w.heap.size) (by simp; omega))
  have HB := Lib.hid (bTrans (bAlloc (bAlloc (Below.refl _ w) _) _) hb)
  clear io hb
  go_wp2
  go_ret2
  exact ⟨v, rfl, HI.out, HB.out⟩

end Go.Proofs.Ytfbdeeobmjndlaa
