/- Loops that are valid; rings: the program and the model. -/
import Derived.Test.YtfbdeeobmjndlaaProg
import Derived.Test.YtfbdeeobmjndlaaLoopMath
import Derived.Test.YtfbdeeobmjndlaaInts
import Derived.IntWalk
import Derived.WalkSpells
import Derived.OwnWalk
import Derived.Laws.AppendOwn
import Derived.Laws.OwnMore
import Derived.Deep.RegionWith
import Derived.Deep.DrawnRows
import Derived.Deep.RegionHeld3
import Derived.Tactics
import Derived.Tactics2
import Derived.WalkKit
import Derived.LoopTactic
import Derived.BigQuiet
import Derived.RegionTactic
import Derived.Deep.QuietTactic
import Derived.Outline
import Derived.Lib.Hide
import Derived.Below
import Derived.KernelRfl
namespace Go.Proofs.Ytfbdeeobmjndlaa
set_option linter.unusedSimpArgs false
set_option linter.unusedVariables false
open Go.RowKit

/-- The number of places of a loop. -/
def lenB (n : Int) : Bool := decide (1 ≤ n) && decide (n ≤ 60)
/-- impl.isLoopLength. -/
theorem isLoopLength_any (n : Int) (w : World) :
    Calls Try.prog 110 #[.int .i64 n] w fun e w' => e = .returned (.bool (lenB n)) ∧ w = w' := by
  by_cases h1 : 1 ≤ n
  · by_cases h2 : n ≤ 60
    all_goals
      go_enter Try.func110, Try.ntmps110
      go_wp2
      go_ret
      exact ⟨ret_bool (by simp [lenB]; omega), rfl⟩
  · go_enter Try.func110, Try.ntmps110
    go_wp2
    go_ret
    exact ⟨ret_bool (by simp [lenB]; omega), rfl⟩
theorem loopB_eq (zs : List Int) : loopB zs = (lenB (zs.length : Int) && zs.all placeB) := by
  have e1 : decide ((1 : Int) ≤ (zs.length : Int)) = decide (1 ≤ zs.length) := by rw [Bool.eq_iff_iff, decide_eq_true_eq, decide_eq_true_eq]; omega
  have e2 : decide ((zs.length : Int) ≤ 60) = decide (zs.length ≤ 60) := by rw [Bool.eq_iff_iff, decide_eq_true_eq, decide_eq_true_eq]; omega
  unfold loopB lenB
  rw [e1, e2]

set_option maxHeartbeats 1000000 in
/-- impl.ValidLoop. -/
theorem validLoop_any (A : Option Addr) (n c : Nat) (zs : List Int) (w : World) (hv : RdI w A n zs) :
    Calls Try.prog 25 #[.slice A n c] w fun e w' => e = .returned (.bool (loopB zs)) ∧ w = w' := by
  have HL := Lib.hid hv.1
  have HE := Lib.hid (loopB_eq zs)
  have hn := hv.2.1
  have HV := Lib.hid hv.2.2
  clear hv
  cases hl : lenB (n : Int)
  · have HR : Hid (loopB zs = false) := Lib.hid (by rw [HE.out, HL.out, hl]; rfl)
    go_enter Try.func25, Try.ntmps25
    go_wp2_with fail
    refine (isLoopLength_any _ _).mono ?_
    rintro e u ⟨rfl, rfl⟩
    go_wp2_with fail
    go_ret
    exact ⟨ret_bool HR.out.symm, rfl⟩
  · have HR : Hid (loopB zs = zs.all placeB) := Lib.hid (by rw [HE.out, HL.out, hl]; rfl)
    clear HE
    go_enter Try.func25, Try.ntmps25
    go_wp2_with fail
    refine (isLoopLength_any _ _).mono ?_
    rintro e u ⟨rfl, rfl⟩
    go_wp2
    go_loop [11] (fun i => ∃ k : Nat, k ≤ n ∧ i = .int .i64 k ∧ Hid ((zs.take k).all placeB = true)) (fun i => n - (intOf i).toNat)
    case atStart => exact ⟨0, Nat.zero_le _, rfl, Lib.hid (by simp)⟩
    case round =>
      obtain ⟨k, hk, rfl, HK⟩ := hrel
      by_cases hlt : k < n
      · rcases HV.out with h0 | ⟨g, rfl, hg, h3⟩
        · omega
        have c1 := h3 k hlt
        have hkl : k < zs.length := by rw [HL.out]; exact hlt
        have hs := Lib.hid (all_take_succ zs k hkl)
        have hb := Lib.hid (fun h => all_of_bad (zs := zs) (k := k) hkl h)
        clear h3
        generalize zs.getD k 0 = z at *
        clear hkl
        by_cases z0 : 0 ≤ z
        · by_cases z1 : z ≤ 1000
          · have HS : Hid ((zs.take (k + 1)).all placeB = true) := Lib.hid (by rw [hs.out, HK.out, placeB_iff.2 ⟨z0, z1⟩]; rfl)
            go_wp2
            go_round
            case rel => exact ⟨k + 1, by omega, by go_num, HS⟩
            case measure => simp [intOf]; omega
          · have HB := Lib.hid (hb.out (by cases hp : placeB z; rfl; have := placeB_iff.1 hp; omega))
            go_wp2
            go_ret
            exact ⟨ret_bool (by rw [HR.out, HB.out]), rfl⟩
        · have HB := Lib.hid (hb.out (by cases hp : placeB z; rfl; have := placeB_iff.1 hp; omega))
          go_wp2
          go_ret
          exact ⟨ret_bool (by rw [HR.out, HB.out]), rfl⟩
      · have : k = n := by omega
        subst this
        have HB : Hid (zs.all placeB = true) := Lib.hid (by have := HK.out; rwa [List.take_of_length_le (by rw [HL.out]; exact Nat.le_refl _)] at this)
        go_wp2
        go_ret
        exact ⟨ret_bool (by rw [HR.out, HB.out]), rfl⟩

set_option maxHeartbeats 1000000 in
/-- spec.l05Ok. -/
theorem l05Ok_any (A : Option Addr) (n c : Nat) (zs : List Int) (w : World) (hv : RdI w A n zs) :
    Calls Try.prog 109 #[.slice A n c] w fun e w' => e = .returned (.bool (loopB zs)) ∧ w = w' := by
  have HL := Lib.hid hv.1
  have HE := Lib.hid (loopB_eq zs)
  have hn := hv.2.1
  have HV := Lib.hid hv.2.2
  clear hv
  go_enter Try.func109, Try.ntmps109
  go_wp2
  go_loop [3] (fun i => ∃ k : Nat, k ≤ n ∧ i = .int .i64 k ∧ Hid ((zs.take k).all placeB = true)) (fun i => n - (intOf i).toNat)
  case atStart => exact ⟨0, Nat.zero_le _, rfl, Lib.hid (by simp)⟩
  case round =>
    obtain ⟨k, hk, rfl, HK⟩ := hrel
    by_cases hlt : k < n
    · rcases HV.out with h0 | ⟨g, rfl, hg, h3⟩
      · omega
      have c1 := h3 k hlt
      have hkl : k < zs.length := by rw [HL.out]; exact hlt
      have hs := Lib.hid (all_take_succ zs k hkl)
      have hb := Lib.hid (fun h => all_of_bad (zs := zs) (k := k) hkl h)
      clear h3
      generalize zs.getD k 0 = z at *
      clear hkl
      cases hz : inB z 0 1000
      · have HB := Lib.hid (hb.out (show placeB z = false from hz))
        go_wp2_with fail
        refine (l00In_any _ _ _ _).mono ?_
        rintro e u ⟨rfl, rfl⟩
        rw [hz]
        go_wp2
        go_ret
        exact ⟨ret_bool (by rw [HE.out, HB.out, Bool.and_false]), rfl⟩
      · have HS : Hid ((zs.take (k + 1)).all placeB = true) := Lib.hid (by rw [hs.out, HK.out, show placeB z = true from hz]; rfl)
        go_wp2_with fail
        refine (l00In_any _ _ _ _).mono ?_
        rintro e u ⟨rfl, rfl⟩
        rw [hz]
        go_wp2
        go_round
        case rel => exact ⟨k + 1, by omega, by go_num, HS⟩
        case measure => simp [intOf]; omega
    · have : k = n := by omega
      subst this
      have HB : Hid (zs.all placeB = true) := Lib.hid (by have := HK.out; rwa [List.take_of_length_le (by rw [HL.out]; exact Nat.le_refl _)] at this)
      go_wp2_with fail
      refine (l00In_any _ _ _ _).mono ?_
      rintro e u ⟨rfl, rfl⟩
      go_wp2
      go_ret
      exact ⟨ret_bool (by rw [HE.out, HB.out, Bool.and_true, HL.out]; rfl), rfl⟩

/-- spec.ValidLoop. -/
theorem specValidLoop_any (A : Option Addr) (n c : Nat) (zs : List Int) (w : World) (hv : RdI w A n zs) :
    Calls Try.prog 23 #[.slice A n c] w fun e w' => e = .returned (.bool (loopB zs)) ∧ Below w.heap.size w w' := by
  have HV := Lib.hid hv
  clear hv
  go_enter Try.func23, Try.ntmps23
  go_wp2_with fail
  refine (l05Ok_any A n c zs _ HV.out).mono ?_
  rintro e u ⟨rfl, rfl⟩
  go_wp2
  go_ret
  exact ⟨rfl, Below.refl _ _⟩

/-- impl.ring.length. -/
theorem ringLen_any (A : Option Addr) (n c : Nat) (w : World) (hn : n ≤ 1048576) :
    Calls Try.prog 114 #[.slice A n c] w fun e w' => e = .returned (.int .i64 (n : Int)) ∧ w = w' := by
  go_enter Try.func114, Try.ntmps114
  go_wp2
  go_ret
  exact ⟨rfl, rfl⟩

set_option maxHeartbeats 1000000 in
/-- impl.ring.at. -/
theorem ringAt_any (A : Option Addr) (n c : Nat) (zs : List Int) (k : Int) (w : World) (hv : RdI w A n zs) (h1 : 1 ≤ n) (k0 : -1 ≤ k) (k1 : k ≤ 100000000) :
    Calls Try.prog 116 #[.slice A n c, .int .i64 k] w fun e w' => e = .returned (.int .i64 (ringI zs k)) ∧ ∃ m, w' = w.drewN m := by
  obtain ⟨hl, hn, h3⟩ := hv
  have hm := ring_mod k n (by omega)
  obtain ⟨i0, i1⟩ := ringI_idx k n (by omega)
  have t0 : -(n : Int) < Int.tmod k n := by have := Int.lt_tmod_of_pos k (show (0 : Int) < n by omega); omega
  have t1 : Int.tmod k n < n := Int.tmod_lt_of_pos k (by omega)
  rcases h3 with h0 | ⟨g, rfl, hg, h3⟩
  · omega
  have hR := Lib.hid (show ringI zs k = zs.getD (k % (n : Int)).toNat 0 by unfold ringI; rw [hl])
  obtain ⟨j, hj⟩ : ∃ j : Nat, k % (n : Int) = j := ⟨(k % (n : Int)).toNat, by omega⟩
  have c1 := h3 j (by omega)
  rw [hj] at hm hR i0 i1
  rw [Int.toNat_natCast] at hR
  have hjn : j < n := by omega
  generalize zs.getD j 0 = z at *
  generalize hT : Int.tmod k n = T at *
  have hm2 : (T + n) % (n : Int) = j := by rw [← hm, Int.tmod_eq_emod_of_nonneg (by omega)]
  have hn0 : ¬ (n : Int) = 0 := by omega
  have w1 : IntKind.i64.wrap (T + n) = T + n := IntWalk.i64_in _ (by omega)
  have w2 : IntKind.i64.wrap T = T := IntWalk.i64_in _ (by omega)
  clear h3 hl hj
  go_enter Try.func116, Try.ntmps116
  go_wp2
  go_quiet ((go_at_call 114; exact quietEq (ringLen_any _ _ _ _ (by omega))))
  go_wp2
  go_ret
  exact ⟨by rw [hR.out]; rfl, _, rfl⟩

end Go.Proofs.Ytfbdeeobmjndlaa
