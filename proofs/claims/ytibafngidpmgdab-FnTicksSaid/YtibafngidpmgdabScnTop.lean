/- The statements of scenes: ValidScenes, SameScenes, LengthOfScenes, ErrorOfBook, BestTick. -/
import Derived.Test.YtibafngidpmgdabScnLaws
import Derived.Test.YtibafngidpmgdabScnEq
import Derived.Test.YtibafngidpmgdabSums
import Derived.IntWalk
import Derived.OwnWalk
import Derived.Tactics
import Derived.Tactics2
import Derived.WalkKit
import Derived.LoopTactic
import Derived.BigQuiet
import Derived.RegionTactic
import Derived.Deep.QuietTactic
import Derived.Outline
import Derived.Lib.Hide
import Derived.Below
import Derived.KernelRfl
namespace Go.Proofs.Ytibafngidpmgdab
set_option linter.unusedSimpArgs false
set_option linter.unusedVariables false
open Go.RowKit

theorem belowDrewnC {w u : World} (h : ∃ d, u = w.drewN d) : Below w.heap.size w u := by
  obtain ⟨d, rfl⟩ := h
  exact bDrewN (Below.refl _ _) d

/-- laws.FnExactValidScenes. -/
theorem law_ValidScenes (A : Option Addr) (n c : Nat) (d : List Scn) (w : World) (hp : CRow w A n d) :
    Calls Try.prog 5 #[.slice A n c] w fun e w' => e = .returned (.bool true) ∧ Below w.heap.size w w' := by
  by_cases ht : n + totC d ≤ 1048576
  · exact lawValidScenes_of A n c d (scnsB d) w hp ht (fun E f u h => specValidScenes_any E n f d u h hp.2.2.1) (fun E f u h => validScenes_any E n f d u h hp.2.2.1)
  · exact lawValidScenes_big A n c d w hp ht

/-- laws.FnExactSameScenes. -/
theorem law_SameScenes (A : Option Addr) (n c : Nat) (d : List Scn) (A' : Option Addr) (n' c' : Nat) (d' : List Scn) (w : World) (hp : CRow w A n d) (hp' : CRow w A' n' d') :
    Calls Try.prog 6 #[.slice A n c, .slice A' n' c'] w fun e w' => e = .returned (.bool true) ∧ Below w.heap.size w w' := by
  by_cases ht : (n + totC d) + (n' + totC d') ≤ 1048576
  · exact lawSameScenes_of A n c d A' n' c' d' (sameC d d') w hp hp' ht (fun E f E' f' u h h' => (specSameScenes_any E E' n n' f f' d d' u h h').mono fun _ _ hh => ⟨hh.1, belowDrewnC hh.2⟩) (fun E f E' f' u h h' => (sameScenes_any E E' n n' f f' d d' u h h').mono fun _ _ hh => ⟨hh.1, belowDrewnC hh.2⟩)
  · exact lawSameScenes_big A n c d A' n' c' d' w hp hp' ht

/-- Sizes of the poses, as the contracts ask them. -/
abbrev Sizes (ps : List Scn) (n : Nat) : Prop := ∀ j, j < n → (ps.getD j s0).1.size ≤ maxLen

/-- spec.LengthOfScenes, of what is not valid. -/
theorem specLength_no (A : Option Addr) (n c : Nat) (ps : List Scn) (w : World) (hv : RdC w A n ps) (hm : Sizes ps n) (h : scnsB ps = false) :
    Calls Try.prog 40 #[.slice A n c] w fun e w' => e = .returned (.tuple #[.int .i64 0, .int .i64 1]) ∧ Below w.heap.size w w' := by
  have OK := Lib.hid (fun u h => l08Ok_any A n c ps u h hm)
  rw [h] at OK
  have HV := Lib.hid hv
  clear hv hm
  go_enter Try.func40, Try.ntmps40
  go_wp2_with fail
  refine (OK.out _ HV.out).mono ?_
  rintro r u ⟨rfl, hb⟩
  go_wp2_with fail
  go_ret2
  exact ⟨rfl, hb⟩

/-- impl.LengthOfScenes, of what is not valid. -/
theorem implLength_no (A : Option Addr) (n c : Nat) (ps : List Scn) (w : World) (hv : RdC w A n ps) (hm : Sizes ps n) (h : scnsB ps = false) :
    Calls Try.prog 18 #[.slice A n c] w fun e w' => e = .returned (.tuple #[.int .i64 0, .int .i64 1]) ∧ Below w.heap.size w w' := by
  have OK := Lib.hid (fun u h => validScenes_any A n c ps u h hm)
  rw [h] at OK
  have HV := Lib.hid hv
  clear hv hm
  go_enter Try.func18, Try.ntmps18
  go_wp2_with fail
  refine (OK.out _ HV.out).mono ?_
  rintro r u ⟨rfl, hb⟩
  go_wp2_with fail
  go_ret2
  exact ⟨rfl, hb⟩

/-- impl.LengthOfScenes. -/
theorem implLength_yes (A : Option Addr) (n c : Nat) (ps : List Scn) (w : World) (hv : RdC w A n ps) (hm : Sizes ps n) (h : scnsB ps = true) :
    Calls Try.prog 18 #[.slice A n c] w fun e w' => e = .returned (.tuple #[.int .i64 (ticksN ps), .int .i64 0]) ∧ Below w.heap.size w w' := by
  have OK := Lib.hid (fun u h => validScenes_any A n c ps u h hm)
  rw [h] at OK
  have hl := hv.1
  have hl2 := scnsB_len h
  have ST := Lib.hid (fun u hu => sumTicks_any A n c ps u hu (by rw [← hl]; exact ticksIn h) (by omega))
  have HV := Lib.hid hv
  clear hv hm hl hl2
  go_enter Try.func18, Try.ntmps18
  go_wp2_with fail
  refine (OK.out _ HV.out).mono ?_
  rintro r u ⟨rfl, hb⟩
  have HV2 := Lib.hid (HV.out.below hb)
  have HB := Lib.hid hb
  clear hb
  go_wp2_with fail
  refine (ST.out _ HV2.out).mono ?_
  rintro r u2 ⟨rfl, hb2⟩
  have HB2 := Lib.hid (bTrans HB.out hb2)
  clear hb2
  go_wp2_with fail
  go_ret2
  exact ⟨rfl, HB2.out⟩

set_option maxHeartbeats 1000000 in
set_option maxRecDepth 100000 in
/-- spec.LengthOfScenes. -/
theorem specLength_yes (A : Option Addr) (n c : Nat) (ps : List Scn) (w : World) (hv : RdC w A n ps) (hm : Sizes ps n) (h : scnsB ps = true) :
    Calls Try.prog 40 #[.slice A n c] w fun e w' => e = .returned (.tuple #[.int .i64 (ticksN ps), .int .i64 0]) ∧ Below w.heap.size w w' := by
  have OK := Lib.hid (fun u h => l08Ok_any A n c ps u h hm)
  rw [h] at OK
  have hl := hv.1
  have hl2 := scnsB_len h
  have ht := ticksIn h
  have BD := Lib.hid (fun i => ticks_bd ht hl2.2 i)
  have HS := Lib.hid (fun k (hk : k < n) => sumC_take (fun x => x.2) ps k (by omega))
  have HT := Lib.hid (show TicksIn ps n by rw [← hl]; exact ht)
  have HA := Lib.hid (show ps.take n = ps from List.take_of_length_le (by omega))
  have HV := Lib.hid hv
  clear hv hm hl hl2 ht
  go_enter Try.func40, Try.ntmps40
  go_wp2_with fail
  refine (OK.out _ HV.out).mono ?_
  rintro r u0 ⟨rfl, hb0⟩
  have HV2 := Lib.hid (HV.out.below hb0)
  have HB0 := Lib.hid hb0
  clear hb0
  go_wp2
  go_loop [5, 4] (fun i s => ∃ k : Nat, k ≤ n ∧ i = .int .i64 k ∧ s = .int .i64 (sumC (fun x => x.2) (ps.take k))) (fun i _ => n - (intOf i).toNat)
  case atStart => exact ⟨0, Nat.zero_le _, rfl, by simp [sumC]⟩
  case round =>
    obtain ⟨k, hk, rfl, rfl⟩ := hrel
    by_cases hlt : k < n
    · obtain ⟨_, _, h3⟩ := HV2.out
      rcases h3 with h0 | ⟨g, rfl, hg, h3⟩
      · omega
      obtain ⟨c0, c1⟩ := h3 k hlt
      obtain ⟨t1, t2⟩ := HT.out k hlt
      obtain ⟨s1, s2⟩ := BD.out k
      have HSk := Lib.hid (HS.out k hlt)
      clear h3
      generalize ps.getD k Go.Proofs.Ytibafngidpmgdab.s0 = q at *
      obtain ⟨x, y⟩ := q
      simp only at c0 c1 t1 t2 HSk
      generalize sumC (fun x => x.2) (ps.take k) = S at *
      go_wp2
      go_round
      case rel => exact ⟨k + 1, by omega, by go_num, by rw [HSk.out]⟩
      case measure => simp [intOf]; omega
    · have : k = n := by omega
      subst this
      rw [HA.out]
      go_wp2
      go_ret2
      exact ⟨rfl, HB0.out⟩

/-- laws.FnExactLengthOfScenes. -/
theorem law_LengthOfScenes (A : Option Addr) (n c : Nat) (d : List Scn) (w : World) (hp : CRow w A n d) :
    Calls Try.prog 13 #[.slice A n c] w fun e w' => e = .returned (.bool true) ∧ Below w.heap.size w w' := by
  by_cases ht : n + totC d ≤ 1048576
  · cases h : scnsB d
    · exact lawLengthOfScenes_of A n c d 0 1 w hp ht (fun E f u hu => specLength_no E n f d u hu hp.2.2.1 h) (fun E f u hu => implLength_no E n f d u hu hp.2.2.1 h)
    · exact lawLengthOfScenes_of A n c d (ticksN d) 0 w hp ht (fun E f u hu => specLength_yes E n f d u hu hp.2.2.1 h) (fun E f u hu => implLength_yes E n f d u hu hp.2.2.1 h)
  · exact lawLengthOfScenes_big A n c d w hp ht

/-- Which code it is. -/
theorem code8_cases (ps : List Scn) (e : Int) : (scnsB ps = false ∧ code8 ps e = 1) ∨ (scnsB ps = true ∧ inB e 1 100 = false ∧ code8 ps e = 2) ∨ (scnsB ps = true ∧ inB e 1 100 = true ∧ 60 < pagesN e ps ∧ code8 ps e = 5) ∨ (scnsB ps = true ∧ inB e 1 100 = true ∧ pagesN e ps ≤ 60 ∧ code8 ps e = 0) := by
  cases h1 : scnsB ps
  · exact .inl ⟨rfl, by simp [code8, h1]⟩
  · cases h2 : inB e 1 100
    · exact .inr (.inl ⟨rfl, rfl, by simp [code8, h1, h2]⟩)
    · by_cases h3 : pagesN e ps ≤ 60
      · exact .inr (.inr (.inr ⟨rfl, rfl, h3, by simp [code8, h1, h2, h3]⟩))
      · exact .inr (.inr (.inl ⟨rfl, rfl, by omega, by simp [code8, h1, h2, h3]⟩))

/-- What bookFor returns. -/
def BookR (w : World) (n : Nat) (ps : List Scn) (e : Int) (r : Ending) (w' : World) : Prop :=
  (code8 ps e ≠ 0 ∧ r = .returned (.tuple #[.slice none 0 0, .int .i64 (code8 ps e)]) ∧ Below w.heap.size w w') ∨
  (code8 ps e = 0 ∧ ∃ A' c', r = .returned (.tuple #[.slice A' n c', .int .i64 0]) ∧ RdN w' A' n (runL ps e n) ∧ Below w.heap.size w w')

set_option maxHeartbeats 1000000 in
/-- impl.bookFor. -/
theorem bookFor_any (A : Option Addr) (n c : Nat) (ps : List Scn) (e : Int) (w : World) (hv : RdC w A n ps) (hm : Sizes ps n) :
    Calls Try.prog 49 #[.slice A n c, .int .i64 e] w (BookR w n ps e) := by
  have OK := Lib.hid (fun u h => validScenes_any A n c ps u h hm)
  have hl := hv.1
  have HV := Lib.hid hv
  clear hv hm
  rcases code8_cases ps e with ⟨h1, h5⟩ | ⟨h1, h2, h5⟩ | ⟨h1, h2, h3, h5⟩ | ⟨h1, h2, h3, h5⟩
  · have HQ := Lib.hid (show code8 ps e ≠ 0 by omega)
    have H5 := Lib.hid h5
    rw [h1] at OK
    clear h5
    go_enter Try.func49, Try.ntmps49
    go_wp2_with fail
    refine (OK.out _ HV.out).mono ?_
    rintro r u ⟨rfl, hb⟩
    go_wp2_with fail
    go_ret2
    exact .inl ⟨HQ.out, by rw [H5.out] <;> rfl, hb⟩
  · have HQ := Lib.hid (show code8 ps e ≠ 0 by omega)
    have H5 := Lib.hid h5
    have EA := Lib.hid (fun u => isPageTime_any e u)
    rw [h1] at OK
    rw [h2] at EA
    clear h5
    go_enter Try.func49, Try.ntmps49
    go_wp2_with fail
    refine (OK.out _ HV.out).mono ?_
    rintro r u ⟨rfl, hb⟩
    go_wp2_with fail
    refine (EA.out _).mono ?_
    rintro r u2 ⟨rfl, rfl⟩
    go_wp2_with fail
    go_ret2
    exact .inl ⟨HQ.out, by rw [H5.out] <;> rfl, hb⟩
  all_goals
    have H5 := Lib.hid h5
    have EA := Lib.hid (fun u => isPageTime_any e u)
    rw [h1] at OK
    rw [h2] at EA
    obtain ⟨e1, e2⟩ := inB_iff.1 h2
    have hl2 := scnsB_len h1
    have HT := Lib.hid (show TicksIn ps n by rw [← hl]; exact ticksIn h1)
    have RF := Lib.hid (fun u h => runsFor_any A n c ps e u h HT.out e1 e2)
    have SP := Lib.hid (fun A' c' u h => sumPages_any A' n c' ps e u h hl HT.out (by omega) e1 e2)
    replace SP : Hid (∀ A' c' u, RdN u A' n (runL ps e n) → Calls Try.prog 53 #[.slice A' n c', .func (.func 60) #[] #[]] u fun r w' => r = .returned (.int .i64 (pagesN e ps)) ∧ Below u.heap.size u w') := SP
    clear h5 hl hl2
    generalize pagesN e ps = P at *
    go_enter Try.func49, Try.ntmps49
    go_wp2_with fail
    refine (OK.out _ HV.out).mono ?_
    rintro r u ⟨rfl, hb⟩
    have HV2 := Lib.hid (HV.out.below hb)
    have HB := Lib.hid hb
    clear hb
    go_wp2_with fail
    refine (EA.out _).mono ?_
    rintro r u2 ⟨rfl, rfl⟩
    go_wp2_with fail
    refine (RF.out _ HV2.out).mono ?_
    rintro r u3 ⟨A', c', rfl, hr, hb3⟩
    have HR := Lib.hid hr
    have HB3 := Lib.hid (bTrans HB.out hb3)
    clear hr hb3
    go_wp2_with fail
    refine (SP.out A' c' _ HR.out).mono ?_
    rintro r u4 ⟨rfl, hb4⟩
    have HR4 := Lib.hid (HR.out.below hb4)
    have HB4 := Lib.hid (bTrans HB3.out hb4)
    clear hb4
    go_wp2_with fail
    go_ret2
    first | exact .inl ⟨by rw [H5.out]; decide, by rw [H5.out] <;> rfl, HB4.out⟩ | exact .inr ⟨H5.out, A', c', rfl, HR4.out, HB4.out⟩

/-- impl.sumOf over no run. -/
theorem sumNone_any (w : World) :
    Calls Try.prog 53 #[.slice none 0 0, .func (.func 54) #[] #[]] w fun r w' => r = .returned (.int .i64 0) ∧ w = w' := by
  go_enter Try.func53, Try.ntmps53
  go_wp2
  refine wp_loop_rounds 1 ?_
  rw [rounds_succ]
  go_wp2
  go_ret
  exact ⟨rfl, rfl⟩

/-- The error that is told beside the code. -/
def err8 (ps : List Scn) (e : Int) : Int := if code8 ps e = 0 then wrongN e ps else 0

set_option maxHeartbeats 1000000 in
/-- impl.ErrorOfBook. -/
theorem implError_any (A : Option Addr) (n c : Nat) (ps : List Scn) (e : Int) (w : World) (hv : RdC w A n ps) (hm : Sizes ps n) :
    Calls Try.prog 20 #[.slice A n c, .int .i64 e] w fun r w' => r = .returned (.tuple #[.int .i64 (err8 ps e), .int .i64 (code8 ps e)]) ∧ Below w.heap.size w w' := by
  have BF := Lib.hid (fun u h => bookFor_any A n c ps e u h hm)
  have hl := hv.1
  have HV := Lib.hid hv
  clear hv hm
  by_cases h5 : code8 ps e = 0
  · have HE := Lib.hid (show err8 ps e = wrongN e ps by rw [err8, if_pos h5])
    rcases code8_cases ps e with ⟨_, h⟩ | ⟨_, _, h⟩ | ⟨_, _, _, h⟩ | ⟨h1, h2, h3, _⟩
    · omega
    · omega
    · omega
    obtain ⟨e1, e2⟩ := inB_iff.1 h2
    have hl2 := scnsB_len h1
    have HT := Lib.hid (show TicksIn ps n by rw [← hl]; exact ticksIn h1)
    have SW := Lib.hid (fun A' c' u h => sumWrong_any A' n c' ps e u h hl HT.out (by omega) e1 e2)
    replace SW : Hid (∀ A' c' u, RdN u A' n (runL ps e n) → Calls Try.prog 53 #[.slice A' n c', .func (.func 54) #[] #[]] u fun r w' => r = .returned (.int .i64 (wrongN e ps)) ∧ Below u.heap.size u w') := SW
    have H5 := Lib.hid h5
    clear h5 h3 hl hl2
    go_enter Try.func20, Try.ntmps20
    go_wp2_with fail
    refine (BF.out _ HV.out).mono ?_
    rintro r u (⟨hx, _⟩ | ⟨_, A', c', rfl, hr, hb⟩)
    · exact absurd H5.out hx
    have HR := Lib.hid hr
    have HB := Lib.hid hb
    clear hr hb
    go_wp2_with fail
    refine (SW.out A' c' _ HR.out).mono ?_
    rintro r u4 ⟨rfl, hb4⟩
    have HB4 := Lib.hid (bTrans HB.out hb4)
    clear hb4
    go_wp2_with fail
    go_ret2
    exact ⟨by rw [HE.out, H5.out] <;> rfl, HB4.out⟩
  · have HE := Lib.hid (show err8 ps e = 0 by rw [err8, if_neg h5])
    have H5 := Lib.hid h5
    clear h5
    go_enter Try.func20, Try.ntmps20
    go_wp2_with fail
    refine (BF.out _ HV.out).mono ?_
    rintro r u (⟨_, rfl, hb⟩ | ⟨hx, _⟩)
    case inr => exact absurd hx H5.out
    have HB := Lib.hid hb
    clear hb
    go_wp2_with fail
    refine (sumNone_any _).mono ?_
    rintro r u4 ⟨rfl, rfl⟩
    go_wp2_with fail
    go_ret2
    exact ⟨by rw [HE.out] <;> rfl, HB.out⟩

set_option maxHeartbeats 1000000 in
/-- spec.ErrorOfBook. -/
theorem specError_any (A : Option Addr) (n c : Nat) (ps : List Scn) (e : Int) (w : World) (hv : RdC w A n ps) (hm : Sizes ps n) :
    Calls Try.prog 38 #[.slice A n c, .int .i64 e] w fun r w' => r = .returned (.tuple #[.int .i64 (err8 ps e), .int .i64 (code8 ps e)]) ∧ Below w.heap.size w w' := by
  have CD := Lib.hid (fun u h => l08Code_any A n c ps e u h hm)
  have hl := hv.1
  have HV := Lib.hid hv
  clear hv hm
  by_cases h5 : code8 ps e = 0
  · have HE := Lib.hid (show err8 ps e = wrongN e ps by rw [err8, if_pos h5])
    rcases code8_cases ps e with ⟨_, h⟩ | ⟨_, _, h⟩ | ⟨_, _, _, h⟩ | ⟨h1, h2, h3, _⟩
    · omega
    · omega
    · omega
    obtain ⟨e1, e2⟩ := inB_iff.1 h2
    have hl2 := scnsB_len h1
    have SW := Lib.hid (fun u h => l08Error_any A n c ps e u h (by rw [← hl]; exact ticksIn h1) (by omega) e1 e2)
    rw [h5] at CD
    have H5 := Lib.hid h5
    clear h5 h3 hl hl2
    go_enter Try.func38, Try.ntmps38
    go_wp2_with fail
    refine (CD.out _ HV.out).mono ?_
    rintro r u ⟨rfl, hb⟩
    have HV2 := Lib.hid (HV.out.below hb)
    have HB := Lib.hid hb
    clear hb
    go_wp2_with fail
    refine (SW.out _ HV2.out).mono ?_
    rintro r u4 ⟨rfl, hb4⟩
    have HB4 := Lib.hid (bTrans HB.out hb4)
    clear hb4
    go_wp2_with fail
    go_ret2
    exact ⟨by rw [HE.out, H5.out] <;> rfl, HB4.out⟩
  · have HE := Lib.hid (show err8 ps e = 0 by rw [err8, if_neg h5])
    generalize hC : code8 ps e = C at *
    have hne : (C != 0) = true := by rw [bne_iff_ne]; exact h5
    clear hC
    go_enter Try.func38, Try.ntmps38
    go_wp2_with fail
    refine (CD.out _ HV.out).mono ?_
    rintro r u ⟨rfl, hb⟩
    go_wp2_with fail
    go_ret2
    exact ⟨by rw [HE.out] <;> rfl, hb⟩

/-- laws.FnExactErrorOfBook. -/
theorem law_ErrorOfBook (A : Option Addr) (n c : Nat) (d : List Scn) (a : Int) (w : World) (hp : CRow w A n d) (ha : -9223372036854775808 ≤ a ∧ a ≤ 9223372036854775807) :
    Calls Try.prog 11 #[.slice A n c, .int .i64 a] w fun e w' => e = .returned (.bool true) ∧ Below w.heap.size w w' := by
  by_cases ht : n + totC d ≤ 1048576
  · exact lawErrorOfBook_of A n c d a (err8 d a) (code8 d a) w hp ht (fun E f u hu => specError_any E n f d a u hu hp.2.2.1) (fun E f u hu => implError_any E n f d a u hu hp.2.2.1)
  · exact lawErrorOfBook_big A n c d a w hp ht

end Go.Proofs.Ytibafngidpmgdab
