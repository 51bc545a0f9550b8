/- Sums over runs and scenes, in the program. -/
import Derived.Test.YtibafngidpmgdabRuns
import Derived.Deep.RegionWith
import Derived.Deep.DrawnRows
import Derived.Deep.RegionHeld3
import Derived.IntWalk
import Derived.Tactics
import Derived.Tactics2
import Derived.WalkKit
import Derived.LoopTactic
import Derived.BigQuiet
import Derived.RegionTactic
import Derived.Deep.QuietTactic
import Derived.Outline
import Derived.Lib.Hide
import Derived.Below
import Derived.KernelRfl
namespace Go.Proofs.Ytibafngidpmgdab
set_option linter.unusedSimpArgs false
set_option linter.unusedVariables false
open Go.RowKit

/-- impl.Scene.ticks. -/
theorem sceneTicks_any (p : ByteArray) (t : Int) (w : World) :
    Calls Try.prog 48 #[sv p t] w fun r w' => r = .returned (.int .i64 t) ∧ Below w.heap.size w w' := by
  go_enter Try.func48, Try.ntmps48
  go_wp2
  go_ret
  exact ⟨rfl, bAlloc (Below.refl _ _) _⟩

/-- impl.run.ticks. -/
theorem runTicks_any (p : ByteArray) (t m e f : Int) (w : World) (hf : m * e = f) (f1 : -1000000 ≤ f) (f2 : f ≤ 1000000) :
    Calls Try.prog 136 #[rv ((p, t), m, e)] w fun r w' => r = .returned (.int .i64 f) ∧ Below w.heap.size w w' := by
  have hw1 : IntKind.i64.wrap (m * e) = f := by rw [hf, IntWalk.i64_in _ (by omega)]
  have HF := Lib.hid hf
  clear hf
  go_enter Try.func136, Try.ntmps136
  go_wp2
  go_ret
  exact ⟨rfl, bAlloc (Below.refl _ _) _⟩

/-- impl.run.pages. -/
theorem runPages_any (p : ByteArray) (t m e : Int) (w : World) :
    Calls Try.prog 60 #[rv ((p, t), m, e)] w fun r w' => r = .returned (.int .i64 m) ∧ Below w.heap.size w w' := by
  go_enter Try.func60, Try.ntmps60
  go_wp2
  go_ret
  exact ⟨rfl, bAlloc (Below.refl _ _) _⟩

set_option maxRecDepth 100000 in
/-- impl.apart, of a run and its scene. -/
theorem apart_any (p : ByteArray) (t m e f : Int) (w : World) (hf : m * e = f) (f1 : 0 ≤ f) (f2 : f ≤ 1000000) (t1 : 0 ≤ t) (t2 : t ≤ 1000) :
    Calls Try.prog 91 #[.iface 70 (rv ((p, t), m, e)), .iface 29 (sv p t)] w fun r w' => r = .returned (.int .i64 ((f - t).natAbs : Nat)) ∧ Below w.heap.size w w' := by
  have hm1 : ∀ w, (method 247 70 (rv ((p, t), m, e)) "loop.example/g01063/impl.ticks").run Try.prog w = .ok (136, rv ((p, t), m, e)) w := fun _ => by kernel_rfl
  have hm2 : ∀ w, (method 247 29 (sv p t) "loop.example/g01063/impl.ticks").run Try.prog w = .ok (48, sv p t) w := fun _ => by kernel_rfl
  have T1 := Lib.hid (fun u => runTicks_any p t m e f u hf (by omega) f2)
  have T2 := Lib.hid (fun u => sceneTicks_any p t u)
  have AB := Lib.hid (fun u => absolute_any (f - t) u (by omega) (by omega))
  have HF := Lib.hid hf
  have hw2 : IntKind.i64.wrap (f - t) = f - t := by rw [IntWalk.i64_in _ (by omega)]
  clear hf
  go_enter Try.func91, Try.ntmps91
  go_wp2_with fail
  refine (T1.out _).mono ?_
  rintro r u1 ⟨rfl, hb1⟩
  have B1 := Lib.hid hb1
  clear hb1
  go_wp2_with fail
  refine (T2.out _).mono ?_
  rintro r u2 ⟨rfl, hb2⟩
  have B2 := Lib.hid (bTrans B1.out hb2)
  clear hb2
  go_wp2_with fail
  refine (AB.out _).mono ?_
  rintro r u3 ⟨rfl, rfl⟩
  go_wp2_with fail
  go_ret
  exact ⟨rfl, B2.out⟩

/-- impl.run.wrong. -/
theorem runWrong_any (p : ByteArray) (t e : Int) (w : World) (t1 : 1 ≤ t) (t2 : t ≤ 1000) (e1 : 1 ≤ e) (e2 : e ≤ 100) :
    Calls Try.prog 54 #[rv ((p, t), cnt t e, e)] w fun r w' => r = .returned (.int .i64 (off t e)) ∧ Below w.heap.size w w' := by
  obtain ⟨f1, f2⟩ := cntMul_bd t1 t2 e1 e2
  have AP := Lib.hid (fun u => apart_any p t (cnt t e) e (cnt t e * e) u rfl (by omega) (by omega) (by omega) t2)
  have HO := Lib.hid (show off t e = (((cnt t e * e - t).natAbs : Nat) : Int) from rfl)
  rw [← HO.out] at AP
  clear f1 f2 HO
  generalize off t e = z at *
  generalize cnt t e = m at *
  go_enter Try.func54, Try.ntmps54
  go_wp2_with fail
  refine (AP.out _).mono ?_
  rintro r u ⟨rfl, hb⟩
  go_wp2_with fail
  go_ret
  exact ⟨rfl, bTrans (bAlloc (Below.refl _ _) _) hb⟩

set_option maxHeartbeats 1000000 in
set_option maxRecDepth 100000 in
/-- impl.sumOf over the runs of a book: their pages. -/
theorem sumPages_any (A : Option Addr) (n c : Nat) (ps : List Scn) (e : Int) (w : World) (hv : RdN w A n (runL ps e n)) (hl : ps.length = n) (ht : TicksIn ps n) (hn : n ≤ 12) (e1 : 1 ≤ e) (e2 : e ≤ 100) :
    Calls Try.prog 53 #[.slice A n c, .func (.func 60) #[] #[]] w fun r w' => r = .returned (.int .i64 (sumC (fun x => cnt x.2 e) ps)) ∧ Below w.heap.size w w' := by
  have BD := Lib.hid (fun i => pages_bd (e := e) (by rw [hl]; exact ht) (by omega) e1 e2 i)
  have HS := Lib.hid (fun k (hk : k < n) => sumC_take (fun x => cnt x.2 e) ps k (by omega))
  have HT := Lib.hid ht
  have HA := Lib.hid (show ps.take n = ps from List.take_of_length_le (by omega))
  have HV := Lib.hid hv
  clear hv ht hl
  go_enter Try.func53, Try.ntmps53
  go_wp2
  go_loopw [10, 5] (fun i s wr => ∃ k : Nat, k ≤ n ∧ i = .int .i64 k ∧ s = .int .i64 (sumC (fun x => cnt x.2 e) (ps.take k)) ∧ Hid (Below w.heap.size w wr)) (fun i _ _ => n - (intOf i).toNat)
  case atStart => exact ⟨0, Nat.zero_le _, rfl, by simp [sumC], Lib.hid (Below.refl _ _)⟩
  case round =>
    obtain ⟨k, hk, rfl, rfl, HB⟩ := hrel
    by_cases hlt : k < n
    · obtain ⟨_, _, h3⟩ := HV.out.below HB.out
      rcases h3 with h0 | ⟨g, rfl, hg, h3⟩
      · omega
      obtain ⟨c0, c1, c2, c3⟩ := h3 k hlt
      rw [runL_get ps e n k hlt] at c0 c1 c2 c3
      obtain ⟨t1, t2⟩ := HT.out k hlt
      obtain ⟨s1, s2⟩ := BD.out k
      have HSk := Lib.hid (HS.out k hlt)
      clear h3
      generalize ps.getD k Go.Proofs.Ytibafngidpmgdab.s0 = q at *
      obtain ⟨x, y⟩ := q
      simp only at c0 c1 c2 c3 t1 t2 HSk
      obtain ⟨m1, m2, _, _⟩ := cnt_bd t1 t2 e1 e2
      generalize cnt y e = m at *
      have C := Lib.hid (fun u => runPages_any x y m e u)
      generalize sumC (fun x => cnt x.2 e) (ps.take k) = S at *
      go_wp2_with fail
      refine (C.out _).mono ?_
      rintro r u ⟨rfl, hb⟩
      have HB2 := Lib.hid (bTrans (bAlloc HB.out _) hb)
      clear hb
      go_wp2
      go_roundw
      case rel => exact ⟨k + 1, by omega, by go_num, by rw [HSk.out], HB2⟩
      case measure => simp [intOf]; omega
    · have : k = n := by omega
      subst this
      rw [HA.out]
      go_wp2
      go_ret
      exact ⟨rfl, HB.out⟩

set_option maxHeartbeats 1000000 in
set_option maxRecDepth 100000 in
/-- impl.sumOf over the runs of a book: their errors. -/
theorem sumWrong_any (A : Option Addr) (n c : Nat) (ps : List Scn) (e : Int) (w : World) (hv : RdN w A n (runL ps e n)) (hl : ps.length = n) (ht : TicksIn ps n) (hn : n ≤ 12) (e1 : 1 ≤ e) (e2 : e ≤ 100) :
    Calls Try.prog 53 #[.slice A n c, .func (.func 54) #[] #[]] w fun r w' => r = .returned (.int .i64 (sumC (fun x => off x.2 e) ps)) ∧ Below w.heap.size w w' := by
  have BD := Lib.hid (fun i => wrong_bd (e := e) (by rw [hl]; exact ht) (by omega) e1 e2 i)
  have HS := Lib.hid (fun k (hk : k < n) => sumC_take (fun x => off x.2 e) ps k (by omega))
  have HT := Lib.hid ht
  have HA := Lib.hid (show ps.take n = ps from List.take_of_length_le (by omega))
  have HV := Lib.hid hv
  clear hv ht hl
  go_enter Try.func53, Try.ntmps53
  go_wp2
  go_loopw [10, 5] (fun i s wr => ∃ k : Nat, k ≤ n ∧ i = .int .i64 k ∧ s = .int .i64 (sumC (fun x => off x.2 e) (ps.take k)) ∧ Hid (Below w.heap.size w wr)) (fun i _ _ => n - (intOf i).toNat)
  case atStart => exact ⟨0, Nat.zero_le _, rfl, by simp [sumC], Lib.hid (Below.refl _ _)⟩
  case round =>
    obtain ⟨k, hk, rfl, rfl, HB⟩ := hrel
    by_cases hlt : k < n
    · obtain ⟨_, _, h3⟩ := HV.out.below HB.out
      rcases h3 with h0 | ⟨g, rfl, hg, h3⟩
      · omega
      obtain ⟨c0, c1, c2, c3⟩ := h3 k hlt
      rw [runL_get ps e n k hlt] at c0 c1 c2 c3
      obtain ⟨t1, t2⟩ := HT.out k hlt
      obtain ⟨s1, s2⟩ := BD.out k
      have HSk := Lib.hid (HS.out k hlt)
      clear h3
      generalize ps.getD k Go.Proofs.Ytibafngidpmgdab.s0 = q at *
      obtain ⟨x, y⟩ := q
      simp only at c0 c1 c2 c3 t1 t2 HSk
      have hob := off_bd t1 t2 e1 e2
      have C := Lib.hid (fun u => runWrong_any x y e u t1 t2 e1 e2)
      generalize off y e = z at *
      generalize cnt y e = m at *
      generalize sumC (fun x => off x.2 e) (ps.take k) = S at *
      go_wp2_with fail
      refine (C.out _).mono ?_
      rintro r u ⟨rfl, hb⟩
      have HB2 := Lib.hid (bTrans (bAlloc HB.out _) hb)
      clear hb
      go_wp2
      go_roundw
      case rel => exact ⟨k + 1, by omega, by go_num, by rw [HSk.out], HB2⟩
      case measure => simp [intOf]; omega
    · have : k = n := by omega
      subst this
      rw [HA.out]
      go_wp2
      go_ret
      exact ⟨rfl, HB.out⟩

set_option maxHeartbeats 1000000 in
set_option maxRecDepth 100000 in
/-- impl.sumOf over scenes: their ticks. -/
theorem sumTicks_any (A : Option Addr) (n c : Nat) (ps : List Scn) (w : World) (hv : RdC w A n ps) (ht : TicksIn ps n) (hn : n ≤ 12) :
    Calls Try.prog 47 #[.slice A n c, .func (.func 48) #[] #[]] w fun r w' => r = .returned (.int .i64 (ticksN ps)) ∧ Below w.heap.size w w' := by
  have hl := hv.1
  have BD := Lib.hid (fun i => ticks_bd (by rw [hl]; exact ht) (by omega) i)
  have HS := Lib.hid (fun k (hk : k < n) => sumC_take (fun x => x.2) ps k (by omega))
  have HT := Lib.hid ht
  have HA := Lib.hid (show ps.take n = ps from List.take_of_length_le (by omega))
  have HV := Lib.hid hv
  clear hv ht hl
  go_enter Try.func47, Try.ntmps47
  go_wp2
  go_loopw [10, 5] (fun i s wr => ∃ k : Nat, k ≤ n ∧ i = .int .i64 k ∧ s = .int .i64 (sumC (fun x => x.2) (ps.take k)) ∧ Hid (Below w.heap.size w wr)) (fun i _ _ => n - (intOf i).toNat)
  case atStart => exact ⟨0, Nat.zero_le _, rfl, by simp [sumC], Lib.hid (Below.refl _ _)⟩
  case round =>
    obtain ⟨k, hk, rfl, rfl, HB⟩ := hrel
    by_cases hlt : k < n
    · obtain ⟨_, _, h3⟩ := HV.out.below HB.out
      rcases h3 with h0 | ⟨g, rfl, hg, h3⟩
      · omega
      obtain ⟨c0, c1⟩ := h3 k hlt
      obtain ⟨t1, t2⟩ := HT.out k hlt
      obtain ⟨s1, s2⟩ := BD.out k
      have HSk := Lib.hid (HS.out k hlt)
      clear h3
      generalize ps.getD k Go.Proofs.Ytibafngidpmgdab.s0 = q at *
      obtain ⟨x, y⟩ := q
      simp only at c0 c1 t1 t2 HSk
      have C := Lib.hid (fun u => sceneTicks_any x y u)
      generalize sumC (fun x => x.2) (ps.take k) = S at *
      go_wp2_with fail
      refine (C.out _).mono ?_
      rintro r u ⟨rfl, hb⟩
      have HB2 := Lib.hid (bTrans (bAlloc HB.out _) hb)
      clear hb
      go_wp2
      go_roundw
      case rel => exact ⟨k + 1, by omega, by go_num, by rw [HSk.out], HB2⟩
      case measure => simp [intOf]; omega
    · have : k = n := by omega
      subst this
      rw [HA.out]
      go_wp2
      go_ret
      exact ⟨rfl, HB.out⟩

end Go.Proofs.Ytibafngidpmgdab
