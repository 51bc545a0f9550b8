/- What the laws of chapter 3 draw and look up: a number of pictures and of slits; whether a number is in a list; whether a list rises. -/
import Derived.Test.YtmgkoijnjhfinaaProg
import Derived.Test.YtmgkoijnjhfinaaMissed
import Derived.Test.YtmgkoijnjhfinaaSmall
import Derived.Deep.LoopGhost
import Derived.WalkMore
import Derived.Laws.AppendOwn
import Derived.Laws.OwnMore
import Derived.OwnWalk
import Derived.Tactics
import Derived.Tactics2
import Derived.WalkKit
import Derived.LoopTactic
import Derived.BigQuiet
import Derived.RegionTactic
import Derived.Deep.QuietTactic
import Derived.Outline
import Derived.Lib.Hide
import Derived.Below
import Derived.KernelRfl
namespace Go.Proofs.Ytmgkoijnjhfinaa
set_option linter.unusedSimpArgs false
set_option linter.unusedVariables false
open Go.RowKit

/-- laws.a2Has. -/
theorem a2Has_any (B : Nat) (v : Value) (zs : List Int) (x : Int) (w : World) (hv : Ints w B v zs) :
    Calls Try.prog 22 #[v, .int .i64 x] w fun e w' => e = .returned (.bool (hasI zs x)) ∧ w = w' := by
  rcases hv.view with ⟨rfl, rfl⟩ | ⟨g, cap, rfl, hB, hg, hm, hc, hf⟩
  · clear hv
    go_enter Try.func22, Try.ntmps22
    go_wp2
    refine wp_loop_rounds 1 ?_
    rw [rounds_succ]
    go_wp2
    go_ret
    exact ⟨rfl, rfl⟩
  · have HC := Lib.hid hc
    clear hv hf hc
    unfold maxLen at hm
    go_enter Try.func22, Try.ntmps22
    go_wp2
    go_loop [5] (fun i => ∃ k : Nat, k ≤ zs.length ∧ i = .int .i64 k ∧ Hid (hasI (zs.take k) x = false)) (fun i => zs.length - (intOf i).toNat)
    case atStart => exact ⟨0, Nat.zero_le _, rfl, Lib.hid (by simp [hasI])⟩
    case round =>
      obtain ⟨k, hk, rfl, HK⟩ := hrel
      by_cases hlt : k < zs.length
      · have c1 := HC.out k hlt
        have hs := Lib.hid (hasI_take_succ zs x k hlt)
        have ht := Lib.hid (hasI_of_get zs x k hlt)
        generalize zs.getD k 0 = z at *
        by_cases hz : z = x
        · have HT := Lib.hid (ht.out hz)
          have hzb : (z == x) = true := by simpa using hz
          go_wp2
          go_ret
          exact ⟨ret_bool HT.out.symm, rfl⟩
        · have hzb : (z == x) = false := by simpa using hz
          have HS : Hid (hasI (zs.take (k + 1)) x = false) := Lib.hid (by rw [hs.out, HK.out, decide_eq_false hz]; rfl)
          go_wp2
          go_round
          case rel => exact ⟨k + 1, by omega, by go_num, HS⟩
          case measure => simp [intOf]; omega
      · have : k = zs.length := by omega
        subst this
        have HT : Hid (hasI zs x = false) := Lib.hid (by have := HK.out; rwa [List.take_length] at this)
        go_wp2
        go_ret
        exact ⟨ret_bool HT.out.symm, rfl⟩

/-- spec.l00Max. -/
theorem l00Max_any (a b : Int) (w : World) :
    Calls Try.prog 51 #[.int .i64 a, .int .i64 b] w fun e w' => e = .returned (.int .i64 (max a b)) ∧ w = w' := by
  by_cases h : b < a
  · go_enter Try.func51, Try.ntmps51
    go_wp2
    go_ret
    exact ⟨ret_int (by omega), rfl⟩
  · go_enter Try.func51, Try.ntmps51
    go_wp2
    go_ret
    exact ⟨ret_int (by omega), rfl⟩

/-- spec.A2Disc. -/
theorem A2Disc_any (a : Option Addr) (len cap : Nat) (zs : List Int) (w : World) (hr : Row w a len cap zs) :
    Calls Try.prog 16 #[.slice a len cap] w fun e w' => ∃ p s : Nat, e = .returned (.tuple #[.int .i64 p, .int .i64 s]) ∧ 1 ≤ p ∧ p ≤ 16 ∧ 1 ≤ s ∧ s ≤ 20 ∧ Below w.heap.size w w' := by
  have ha : cap ≠ 0 → ∀ x, a = some x → x.block < w.heap.size := by
    intro h0 x hx
    rcases hr with ⟨_, h⟩ | ⟨c, off, h, _, _, _, h4, _⟩
    · exact absurd h h0
    · rw [h] at hx; cases hx; exact h4
  go_enter Try.func16, Try.ntmps16
  go_wp2_with fail
  refine (from_any a len cap _).mono ?_
  rintro e u1 ⟨rfl, hu⟩
  obtain ⟨S1, L1⟩ : Src u1 w.heap.size a len cap 0 0 ∧ Below w.heap.size w u1 := by
    subst hu
    refine ⟨?_, bAlloc (Below.refl _ _) _⟩
    show (w.heap.push _)[w.heap.size]? = _
    rw [Array.getElem?_push, if_pos (by simp)]
    rfl
  have R1 := hr.below L1
  clear hu
  have S1 := Lib.hid S1
  go_wp2_with fail
  refine (pick_small 16 w.heap.size a len cap 0 0 zs _ (by omega) (by omega) S1.out R1 (by omega)).mono ?_
  rintro e u2 ⟨x, s1, x0, x1, rfl, g1, o1⟩
  have L2 : Below w.heap.size w u2 := L1.trans (o1.below (Nat.le_refl _) L1.size)
  have R2 := hr.below L2
  have G1 := Lib.hid g1
  clear g1 S1
  go_wp2_with fail
  refine (pick_small 9 w.heap.size a len cap 1 s1 zs _ (by omega) (by omega) G1.out R2 (by omega)).mono ?_
  rintro e u3 ⟨y, s2, y0, y1, rfl, g2, o2⟩
  have L3 : Below w.heap.size w u3 := L2.trans (o2.below (Nat.le_refl _) L2.size)
  clear g2 G1
  go_wp2_with fail
  refine (l00Max_any _ _ _).mono ?_
  rintro e u ⟨rfl, rfl⟩
  go_wp2_with fail
  obtain ⟨P, hP⟩ := Int.eq_ofNat_of_zero_le (show 0 ≤ 1 + x by omega)
  obtain ⟨S, hS⟩ := Int.eq_ofNat_of_zero_le (show 0 ≤ max 1 (1 + x + y - 4) by omega)
  have hb : 1 ≤ P ∧ P ≤ 16 ∧ 1 ≤ S ∧ S ≤ 20 := by omega
  go_ret2
  exact ⟨P, S, by rw [show (P : Int) = 1 + x from hP.symm, show (S : Int) = max 1 (1 + x + y - 4) from hS.symm]; rfl, hb.1, hb.2.1, hb.2.2.1, hb.2.2.2, L3⟩

set_option maxHeartbeats 600000 in
/-- laws.a2Rises, of a list that rises within bounds. -/
theorem a2Rises_yes (B : Nat) (v : Value) (zs : List Int) (n : Int) (w : World) (hv : Ints w B v zs) (hb : ∀ j, j < zs.length → 0 ≤ zs.getD j 0 ∧ zs.getD j 0 < n) (hr : ∀ j, j + 1 < zs.length → zs.getD j 0 < zs.getD (j + 1) 0) :
    Calls Try.prog 19 #[v, .int .i64 n] w fun e w' => e = .returned (.bool true) ∧ ∃ m, w' = w.drewN m := by
  rcases hv.view with ⟨rfl, rfl⟩ | ⟨g, cap, rfl, hB, hg, hm, hc, hf⟩
  · clear hv
    go_enter Try.func19, Try.ntmps19
    go_wp2
    refine wp_loop_rounds 1 ?_
    rw [rounds_succ]
    go_wp2
    go_ret
    exact ⟨rfl, 0, rfl⟩
  · have HC := Lib.hid hc
    have HR := Lib.hid hr
    have HB := Lib.hid hb
    clear hv hf hc hr hb
    unfold maxLen at hm
    go_enter Try.func19, Try.ntmps19
    go_wp2
    go_loopw [5] (fun i wr => ∃ k : Nat, k ≤ zs.length ∧ i = .int .i64 k ∧ ∃ m, Hid (wr = w.drewN m)) (fun i _ => zs.length - (intOf i).toNat)
    case atStart => exact ⟨0, Nat.zero_le _, rfl, 0, Lib.hid rfl⟩
    case round =>
      obtain ⟨k, hk, rfl, m, HW⟩ := hrel
      by_cases hlt : k < zs.length
      · have c1 : wr.cell? ⟨g, k, none⟩ = some (.int .i64 (zs.getD k 0)) := by rw [HW.out]; exact HC.out k hlt
        obtain ⟨b1, b2⟩ := HB.out k hlt
        have d1 : decide (zs.getD k 0 < 0) = false := decide_eq_false (by omega)
        have d2 : decide (n ≤ zs.getD k 0) = false := decide_eq_false (by omega)
        rcases Nat.eq_zero_or_pos k with hk0 | hk0
        · have d3 : decide ((0 : Int) < (k : Int)) = false := decide_eq_false (by omega)
          have d5 : decide (0 < k) = false := decide_eq_false (by omega)
          generalize zs.getD k 0 = z at *
          clear b1 b2 hk0
          go_wp2
          go_quiet (fail)
          go_wp2
          go_roundw
          case rel => exact ⟨k + 1, by omega, by go_num, _, Lib.hid (by rw [HW.out, World.drewN_drewN])⟩
          case measure => simp [intOf]; omega
        · obtain ⟨j, rfl⟩ : ∃ j, k = j + 1 := ⟨k - 1, by omega⟩
          have c2 : wr.cell? ⟨g, j, none⟩ = some (.int .i64 (zs.getD j 0)) := by rw [HW.out]; exact HC.out j (by omega)
          have h3 := HR.out j hlt
          have d3 : decide ((0 : Int) < ((j + 1 : Nat) : Int)) = true := decide_eq_true (by omega)
          have d4 : decide (zs.getD (j + 1) 0 ≤ zs.getD j 0) = false := decide_eq_false (by omega)
          generalize zs.getD (j + 1) 0 = z at *
          generalize zs.getD j 0 = y at *
          clear b1 b2 h3
          go_wp2
          go_quiet (fail)
          go_wp2
          go_roundw
          case rel => exact ⟨j + 2, by omega, by go_num, _, Lib.hid (by rw [HW.out, World.drewN_drewN])⟩
          case measure => simp [intOf]; omega
      · have : k = zs.length := by omega
        subst this
        go_wp2
        go_ret
        exact ⟨rfl, m, HW.out⟩

end Go.Proofs.Ytmgkoijnjhfinaa
