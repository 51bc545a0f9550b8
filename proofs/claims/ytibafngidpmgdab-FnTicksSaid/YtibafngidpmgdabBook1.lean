/- Books of scenes: the model's sums. -/
import Derived.Test.YtibafngidpmgdabScnOk2
import Derived.Test.YtibafngidpmgdabNear
import Derived.Deep.RegionWith
import Derived.Deep.DrawnRows
import Derived.Deep.RegionHeld3
import Derived.IntWalk
import Derived.Tactics
import Derived.Tactics2
import Derived.WalkKit
import Derived.LoopTactic
import Derived.BigQuiet
import Derived.RegionTactic
import Derived.Deep.QuietTactic
import Derived.Outline
import Derived.Lib.Hide
import Derived.Below
import Derived.KernelRfl
namespace Go.Proofs.Ytibafngidpmgdab
set_option linter.unusedSimpArgs false
set_option linter.unusedVariables false
open Go.RowKit

/-- spec.l00Max. -/
theorem l00Max_any (a b : Int) (w : World) :
    Calls Try.prog 96 #[.int .i64 a, .int .i64 b] w fun e w' => e = .returned (.int .i64 (max a b)) ∧ w = w' := by
  by_cases h : b < a
  · go_enter Try.func96, Try.ntmps96
    go_wp2
    go_ret
    exact ⟨ret_int (by omega), rfl⟩
  · go_enter Try.func96, Try.ntmps96
    go_wp2
    go_ret
    exact ⟨ret_int (by omega), rfl⟩

/-- spec.l00Min. -/
theorem l00Min_any (a b : Int) (w : World) :
    Calls Try.prog 72 #[.int .i64 a, .int .i64 b] w fun e w' => e = .returned (.int .i64 (min a b)) ∧ w = w' := by
  by_cases h : a < b
  · go_enter Try.func72, Try.ntmps72
    go_wp2
    go_ret
    exact ⟨ret_int (by omega), rfl⟩
  · go_enter Try.func72, Try.ntmps72
    go_wp2
    go_ret
    exact ⟨ret_int (by omega), rfl⟩

/-- spec.l08Each. -/
theorem l08Each_any (n : Int) (w : World) :
    Calls Try.prog 68 #[.int .i64 n] w fun e w' => e = .returned (.bool (inB n 1 100)) ∧ w = w' := by
  go_enter Try.func68, Try.ntmps68
  go_wp2_with fail
  refine (l00In_any _ _ _ _).mono ?_
  rintro e u ⟨rfl, rfl⟩
  go_wp2_with fail
  go_ret
  exact ⟨rfl, rfl⟩

/-- impl.isPageTime. -/
theorem isPageTime_any (n : Int) (w : World) :
    Calls Try.prog 56 #[.int .i64 n] w fun e w' => e = .returned (.bool (inB n 1 100)) ∧ w = w' := by
  go_enter Try.func56, Try.ntmps56
  go_wp2_with fail
  refine (isWithin_any _ _ _ _).mono ?_
  rintro e u ⟨rfl, rfl⟩
  go_wp2_with fail
  go_ret
  exact ⟨rfl, rfl⟩

/-- spec.l08Count. -/
theorem l08Count_any (p : ByteArray) (t e : Int) (w : World) (t1 : 1 ≤ t) (t2 : t ≤ 1000) (e1 : 1 ≤ e) (e2 : e ≤ 100) :
    Calls Try.prog 74 #[sv p t, .int .i64 e] w fun r w' => r = .returned (.int .i64 (cnt t e)) ∧ Below w.heap.size w w' := by
  go_enter Try.func74, Try.ntmps74
  go_wp2_with fail
  refine (l00Round_any t e _ e1 (by omega) (by omega) (by omega)).mono ?_
  rintro r u ⟨rfl, rfl⟩
  go_wp2_with fail
  refine (l00Max_any _ _ _).mono ?_
  rintro r u ⟨rfl, rfl⟩
  go_wp2_with fail
  go_ret
  exact ⟨ret_int (by unfold cnt; omega), bAlloc (Below.refl _ _) _⟩

/-- All scenes have ticks in their bounds. -/
def TicksIn (ps : List Scn) (n : Nat) : Prop := ∀ j, j < n → 1 ≤ (ps.getD j s0).2 ∧ (ps.getD j s0).2 ≤ 1000
theorem ticksIn {ps : List Scn} (h : scnsB ps = true) : TicksIn ps ps.length := fun j hj => (scns_scene h hj).2
theorem pages_bd {ps : List Scn} {e : Int} (h : TicksIn ps ps.length) (hl : ps.length ≤ 12) (e1 : 1 ≤ e) (e2 : e ≤ 100) (i : Nat) : 0 ≤ sumC (fun x => cnt x.2 e) (ps.take i) ∧ sumC (fun x => cnt x.2 e) (ps.take i) ≤ 12000 := by
  have := sumC_small (f := fun x => cnt x.2 e) (M := 1000) (by omega) hl (fun j hj => by have h1 := h j hj; have h2 := cnt_bd h1.1 h1.2 e1 e2; exact ⟨by omega, h2.2.1⟩) i
  omega
theorem wrong_bd {ps : List Scn} {e : Int} (h : TicksIn ps ps.length) (hl : ps.length ≤ 12) (e1 : 1 ≤ e) (e2 : e ≤ 100) (i : Nat) : 0 ≤ sumC (fun x => off x.2 e) (ps.take i) ∧ sumC (fun x => off x.2 e) (ps.take i) ≤ 1200000 := by
  have := sumC_small (f := fun x => off x.2 e) (M := 100000) (by omega) hl (fun j hj => by have h1 := h j hj; exact off_bd h1.1 h1.2 e1 e2) i
  omega
theorem ticks_bd {ps : List Scn} (h : TicksIn ps ps.length) (hl : ps.length ≤ 12) (i : Nat) : 0 ≤ sumC (fun x => x.2) (ps.take i) ∧ sumC (fun x => x.2) (ps.take i) ≤ 12000 := by
  have := sumC_small (f := fun x => x.2) (M := 1000) (by omega) hl (fun j hj => by have h1 := h j hj; exact ⟨by omega, h1.2⟩) i
  omega

set_option maxHeartbeats 1000000 in
set_option maxRecDepth 100000 in
/-- spec.l08Many. -/
theorem l08Many_any (A : Option Addr) (n c : Nat) (ps : List Scn) (e : Int) (w : World) (hv : RdC w A n ps) (ht : TicksIn ps n) (hn : n ≤ 12) (e1 : 1 ≤ e) (e2 : e ≤ 100) :
    Calls Try.prog 76 #[.slice A n c, .int .i64 e] w fun r w' => r = .returned (.int .i64 (pagesN e ps)) ∧ Below w.heap.size w w' := by
  have hl := hv.1
  have BD := Lib.hid (fun i => pages_bd (e := e) (by rw [hl]; exact ht) (by omega) e1 e2 i)
  have HS := Lib.hid (fun k (hk : k < n) => sumC_take (fun x => cnt x.2 e) ps k (by omega))
  have HT := Lib.hid ht
  have HA := Lib.hid (show ps.take n = ps from List.take_of_length_le (by omega))
  have HV := Lib.hid hv
  clear hv ht hl
  go_enter Try.func76, Try.ntmps76
  go_wp2
  go_loopw [6, 5] (fun i s wr => ∃ k : Nat, k ≤ n ∧ i = .int .i64 k ∧ s = .int .i64 (sumC (fun x => cnt x.2 e) (ps.take k)) ∧ Hid (Below w.heap.size w wr)) (fun i _ _ => n - (intOf i).toNat)
  case atStart => exact ⟨0, Nat.zero_le _, rfl, by simp [sumC], Lib.hid (Below.refl _ _)⟩
  case round =>
    obtain ⟨k, hk, rfl, rfl, HB⟩ := hrel
    by_cases hlt : k < n
    · obtain ⟨_, _, h3⟩ := HV.out.below HB.out
      rcases h3 with h0 | ⟨g, rfl, hg, h3⟩
      · omega
      obtain ⟨c0, c1⟩ := h3 k hlt
      obtain ⟨t1, t2⟩ := HT.out k hlt
      obtain ⟨s1, s2⟩ := BD.out k
      have HSk := Lib.hid (HS.out k hlt)
      clear h3
      generalize ps.getD k Go.Proofs.Ytibafngidpmgdab.s0 = q at *
      obtain ⟨x, y⟩ := q
      simp only at c0 c1 t1 t2 HSk
      obtain ⟨m1, m2, _, _⟩ := cnt_bd t1 t2 e1 e2
      have C := Lib.hid (fun u => l08Count_any x y e u t1 t2 e1 e2)
      generalize cnt y e = m at *
      generalize sumC (fun x => cnt x.2 e) (ps.take k) = S at *
      go_wp2_with fail
      refine (C.out _).mono ?_
      rintro r u ⟨rfl, hb⟩
      have HB2 := Lib.hid (bTrans HB.out hb)
      clear hb
      go_wp2
      go_roundw
      case rel => exact ⟨k + 1, by omega, by go_num, by rw [HSk.out], HB2⟩
      case measure => simp [intOf]; omega
    · have : k = n := by omega
      subst this
      rw [HA.out]
      go_wp2
      go_ret
      exact ⟨rfl, HB.out⟩

set_option maxHeartbeats 1000000 in
set_option maxRecDepth 100000 in
/-- spec.l08Error. -/
theorem l08Error_any (A : Option Addr) (n c : Nat) (ps : List Scn) (e : Int) (w : World) (hv : RdC w A n ps) (ht : TicksIn ps n) (hn : n ≤ 12) (e1 : 1 ≤ e) (e2 : e ≤ 100) :
    Calls Try.prog 75 #[.slice A n c, .int .i64 e] w fun r w' => r = .returned (.int .i64 (wrongN e ps)) ∧ Below w.heap.size w w' := by
  have hl := hv.1
  have BD := Lib.hid (fun i => wrong_bd (e := e) (by rw [hl]; exact ht) (by omega) e1 e2 i)
  have HS := Lib.hid (fun k (hk : k < n) => sumC_take (fun x => off x.2 e) ps k (by omega))
  have HT := Lib.hid ht
  have HA := Lib.hid (show ps.take n = ps from List.take_of_length_le (by omega))
  have HV := Lib.hid hv
  clear hv ht hl
  go_enter Try.func75, Try.ntmps75
  go_wp2
  go_loopw [6, 5] (fun i s wr => ∃ k : Nat, k ≤ n ∧ i = .int .i64 k ∧ s = .int .i64 (sumC (fun x => off x.2 e) (ps.take k)) ∧ Hid (Below w.heap.size w wr)) (fun i _ _ => n - (intOf i).toNat)
  case atStart => exact ⟨0, Nat.zero_le _, rfl, by simp [sumC], Lib.hid (Below.refl _ _)⟩
  case round =>
    obtain ⟨k, hk, rfl, rfl, HB⟩ := hrel
    by_cases hlt : k < n
    · obtain ⟨_, _, h3⟩ := HV.out.below HB.out
      rcases h3 with h0 | ⟨g, rfl, hg, h3⟩
      · omega
      obtain ⟨c0, c1⟩ := h3 k hlt
      obtain ⟨t1, t2⟩ := HT.out k hlt
      obtain ⟨s1, s2⟩ := BD.out k
      have HSk := Lib.hid (HS.out k hlt)
      clear h3
      generalize ps.getD k Go.Proofs.Ytibafngidpmgdab.s0 = q at *
      obtain ⟨x, y⟩ := q
      simp only at c0 c1 t1 t2 HSk
      obtain ⟨m1, m2, _, _⟩ := cnt_bd t1 t2 e1 e2
      obtain ⟨f1, f2⟩ := cntMul_bd t1 t2 e1 e2
      have C := Lib.hid (fun u => l08Count_any x y e u t1 t2 e1 e2)
      have HO := Lib.hid (show off y e = (((cnt y e * e - y).natAbs : Nat) : Int) from rfl)
      have hob := off_bd t1 t2 e1 e2
      generalize cnt y e = m at *
      obtain ⟨f, hf⟩ : ∃ f, m * e = f := ⟨_, rfl⟩
      rw [hf] at f1 f2 HO
      have hw1 : IntKind.i64.wrap (m * e) = f := by rw [hf, IntWalk.i64_in _ (by omega)]
      have hw2 : IntKind.i64.wrap (f - y) = f - y := by rw [IntWalk.i64_in _ (by omega)]
      have AB := Lib.hid (fun u => l00Size_any (f - y) u (by omega) (by omega))
      rw [← HO.out] at AB
      have hw3 : IntKind.i64.wrap (sumC (fun x => off x.2 e) (ps.take k) + off y e) = sumC (fun x => off x.2 e) (ps.take k) + off y e := by rw [IntWalk.i64_in _ (by omega)]
      have hgz := hg
      clear hf HO
      generalize off y e = z at *
      generalize sumC (fun x => off x.2 e) (ps.take k) = S at *
      go_wp2
      go_region_held3 (fun w' => w'.cell? ⟨g, k * 2, none⟩ = some (.string x) ∧ w'.cell? ⟨g, k * 2 + 1, none⟩ = some (.int .i64 y)) (go_keep)
        (first | (go_at_call 74; refine (C.out _).mono ?_; rintro r w2 ⟨rfl, hb2⟩; obtain ⟨hc3, hf3⟩ := bCells hb2; have e0 : w2.cell? ⟨g, k * 2, none⟩ = some (.string x) := (hc3 _ _ (by first | exact hgz | simpa using hgz)).trans (by first | exact c0 | simpa using c0); have e1 : w2.cell? ⟨g, k * 2 + 1, none⟩ = some (.int .i64 y) := (hc3 _ _ (by first | exact hgz | simpa using hgz)).trans (by first | exact c1 | simpa using c1)) | (go_at_call 79; refine (AB.out _).mono ?_; rintro r w3 ⟨rfl, rfl⟩))
      all_goals go_wp2
      go_roundw
      case rel => exact ⟨k + 1, by omega, by go_num, by rw [HSk.out], Lib.hid (bTrans HB.out (bUndrew0 hb2))⟩
      case measure => simp [intOf]; omega
    · have : k = n := by omega
      subst this
      rw [HA.out]
      go_wp2
      go_ret
      exact ⟨rfl, HB.out⟩

/-- The code of scenes and the ticks of a page. -/
def code8 (ps : List Scn) (e : Int) : Int := if scnsB ps = true then (if inB e 1 100 = true then (if pagesN e ps ≤ 60 then 0 else 5) else 2) else 1

/-- spec.l08Code. -/
theorem l08Code_any (A : Option Addr) (n c : Nat) (ps : List Scn) (e : Int) (w : World) (hv : RdC w A n ps) (hm : ∀ j, j < n → (ps.getD j s0).1.size ≤ maxLen) :
    Calls Try.prog 73 #[.slice A n c, .int .i64 e] w fun r w' => r = .returned (.int .i64 (code8 ps e)) ∧ Below w.heap.size w w' := by
  have OK := Lib.hid (fun u h => l08Ok_any A n c ps u h hm)
  have hl := hv.1
  have HV := Lib.hid hv
  clear hv hm
  cases h1 : scnsB ps
  · have HC := Lib.hid (show code8 ps e = 1 by simp [code8, h1])
    rw [h1] at OK
    go_enter Try.func73, Try.ntmps73
    go_wp2_with fail
    refine (OK.out _ HV.out).mono ?_
    rintro r u ⟨rfl, hb⟩
    go_wp2_with fail
    go_ret
    exact ⟨ret_int HC.out.symm, hb⟩
  · rw [h1] at OK
    cases h2 : inB e 1 100
    · have HC := Lib.hid (show code8 ps e = 2 by simp [code8, h1, h2])
      have EA := Lib.hid (fun u => l08Each_any e u)
      rw [h2] at EA
      go_enter Try.func73, Try.ntmps73
      go_wp2_with fail
      refine (OK.out _ HV.out).mono ?_
      rintro r u ⟨rfl, hb⟩
      go_wp2_with fail
      refine (EA.out _).mono ?_
      rintro r u2 ⟨rfl, rfl⟩
      go_wp2_with fail
      go_ret
      exact ⟨ret_int HC.out.symm, hb⟩
    · have EA := Lib.hid (fun u => l08Each_any e u)
      rw [h2] at EA
      obtain ⟨e1, e2⟩ := inB_iff.1 h2
      have hl2 := scnsB_len h1
      have M := Lib.hid (fun u h => l08Many_any A n c ps e u h (by rw [← hl]; exact ticksIn h1) (by omega) e1 e2)
      by_cases h3 : pagesN e ps ≤ 60
      · have HC := Lib.hid (show code8 ps e = 0 by simp [code8, h1, h2, h3])
        clear hl hl2
        generalize pagesN e ps = P at *
        go_enter Try.func73, Try.ntmps73
        go_wp2_with fail
        refine (OK.out _ HV.out).mono ?_
        rintro r u ⟨rfl, hb⟩
        have HV2 := Lib.hid (HV.out.below hb)
        have HB := Lib.hid hb
        clear hb
        go_wp2_with fail
        refine (EA.out _).mono ?_
        rintro r u2 ⟨rfl, rfl⟩
        go_wp2_with fail
        refine (M.out _ HV2.out).mono ?_
        rintro r u3 ⟨rfl, hb3⟩
        have HB3 := Lib.hid (bTrans HB.out hb3)
        clear hb3
        go_wp2_with fail
        go_ret
        exact ⟨ret_int HC.out.symm, HB3.out⟩
      · have HC := Lib.hid (show code8 ps e = 5 by simp [code8, h1, h2, h3])
        clear hl hl2
        generalize pagesN e ps = P at *
        go_enter Try.func73, Try.ntmps73
        go_wp2_with fail
        refine (OK.out _ HV.out).mono ?_
        rintro r u ⟨rfl, hb⟩
        have HV2 := Lib.hid (HV.out.below hb)
        have HB := Lib.hid hb
        clear hb
        go_wp2_with fail
        refine (EA.out _).mono ?_
        rintro r u2 ⟨rfl, rfl⟩
        go_wp2_with fail
        refine (M.out _ HV2.out).mono ?_
        rintro r u3 ⟨rfl, hb3⟩
        have HB3 := Lib.hid (bTrans HB.out hb3)
        clear hb3
        go_wp2_with fail
        go_ret
        exact ⟨ret_int HC.out.symm, HB3.out⟩

end Go.Proofs.Ytibafngidpmgdab
