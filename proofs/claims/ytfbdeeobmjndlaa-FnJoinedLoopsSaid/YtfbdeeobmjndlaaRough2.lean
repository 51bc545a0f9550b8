/- The roughest step of a loop: the model. -/
import Derived.Test.YtfbdeeobmjndlaaProg
import Derived.Test.YtfbdeeobmjndlaaLoopMath
import Derived.Test.YtfbdeeobmjndlaaInts
import Derived.Test.YtfbdeeobmjndlaaLoop
import Derived.Test.YtfbdeeobmjndlaaLoop2
import Derived.Test.YtfbdeeobmjndlaaLoop3
import Derived.Test.YtfbdeeobmjndlaaRough
import Derived.Deep.AppendLies
import Derived.Deep.DrawnRows
import Derived.Test.YtfbdeeobmjndlaaHold
import Derived.IntWalk
import Derived.WalkSpells
import Derived.OwnWalk
import Derived.Laws.AppendOwn
import Derived.Laws.OwnMore
import Derived.Deep.RegionWith
import Derived.Deep.DrawnRows
import Derived.Deep.RegionHeld3
import Derived.Tactics
import Derived.Tactics2
import Derived.WalkKit
import Derived.LoopTactic
import Derived.BigQuiet
import Derived.RegionTactic
import Derived.Deep.QuietTactic
import Derived.Outline
import Derived.Lib.Hide
import Derived.Below
import Derived.KernelRfl
namespace Go.Proofs.Ytfbdeeobmjndlaa
set_option linter.unusedSimpArgs false
set_option linter.unusedVariables false
open Go.RowKit

theorem ringI_prev (qs : List Int) (k n : Nat) (h : qs.length = n) (h1 : 1 ≤ n) : ringI qs ((k : Int) - 1) = qs.getD ((k + n - 1) % n) 0 := by
  unfold ringI
  rw [h]
  have e : ((k : Int) - 1) % (n : Int) = (((k + n - 1) % n : Nat) : Int) := by
    rw [Int.natCast_emod, show ((k + n - 1 : Nat) : Int) = (k : Int) - 1 + n by omega, Int.add_emod_right]
  rw [e]
  rfl

/-- spec.RoughestStep. -/
theorem specRough_bad (A : Option Addr) (n c : Nat) (zs : List Int) (w : World) (hv : RdI w A n zs) (hz : loopB zs = false) :
    Calls Try.prog 31 #[.slice A n c] w fun e w' => e = .returned (.tuple #[.int .i64 0, .int .i64 0, .int .i64 1]) ∧ Below w.heap.size w w' := by
  have HV := Lib.hid hv
  clear hv
  go_enter Try.func31, Try.ntmps31
  go_wp2_with fail
  refine (l05Ok_any A n c zs _ HV.out).mono ?_
  rintro e u ⟨rfl, rfl⟩
  rw [hz]
  go_wp2
  go_ret3
  exact ⟨rfl, Below.refl _ _⟩

set_option maxHeartbeats 1000000 in
theorem specRough_ok (A : Option Addr) (n c : Nat) (zs : List Int) (w : World) (hv : RdI w A n zs) (hz : loopB zs = true) :
    Calls Try.prog 31 #[.slice A n c] w fun e w' => e = .returned (roughV zs) ∧ Below w.heap.size w w' := by
  have hl := loopB_len hz
  have hln := hv.1
  rw [hv.1] at hl
  have HV := Lib.hid hv
  clear hv
  obtain ⟨n', hn'⟩ : ∃ n', n = n' + 1 := ⟨n - 1, by omega⟩
  have hR := Lib.hid (show roughV zs = .tuple #[.int .i64 (topS (chgI zs) n).1, .int .i64 (topS (chgI zs) n).2, .int .i64 0] by
    unfold roughV
    rw [hln, hn', top_same _ (fun k => (chgI_bd hz k).1)])
  have ST := Lib.hid (l05Steps_any A n c zs w HV.out hz)
  have HC := Lib.hid (fun k => chgI_bd hz k)
  have HT := Lib.hid (fun k => topS_bd (chgI zs) 2000 (fun k => (chgI_bd hz k).2) (by omega) k)
  have HS := Lib.hid (fun k => show topS (chgI zs) (k + 1) = if chgI zs k > (topS (chgI zs) k).2 then ((k : Int), chgI zs k) else topS (chgI zs) k from rfl)
  have hsl := stepsL_length zs
  rw [hln] at hsl
  have HE := Lib.hid (fun (k : Nat) (hk : k < n) => show chgI zs k = (((stepsL zs).getD k 0 - (stepsL zs).getD ((k + n - 1) % n) 0).natAbs : Nat) by unfold chgI; rw [ringI_lt _ k (by omega), ringI_prev _ k n hsl hl.1])
  have HB2 := Lib.hid (fun j : Nat => stepsL_bd hz j)
  rw [hR.out]
  clear hR hn'
  generalize stepsL zs = qs at *
  generalize chgI zs = f at *
  go_enter Try.func31, Try.ntmps31
  go_wp2_with fail
  refine (l05Ok_any A n c zs _ HV.out).mono ?_
  rintro e u ⟨rfl, rfl⟩
  rw [hz]
  go_wp2_with fail
  refine ST.out.mono ?_
  rintro e u1 ⟨v, rfl, io, hb1⟩
  obtain ⟨E, c1, rfl, rd⟩ := io.rd (by omega)
  have HSL := Lib.hid hsl
  rw [hsl] at rd ⊢
  have RD := Lib.hid rd.2.2
  have B1 := Lib.hid hb1
  clear io rd hb1 ST hsl
  go_wp2
  go_loopw [9, 7, 8] (fun i a b wr => ∃ k : Nat, k ≤ n ∧ i = .int .i64 k ∧ a = .int .i64 (topS f k).1 ∧ b = .int .i64 (topS f k).2 ∧ ∃ m, Hid (wr = u1.drewN m)) (fun i _ _ _ => n - (intOf i).toNat)
  case atStart => exact ⟨0, Nat.zero_le _, rfl, rfl, rfl, 0, Lib.hid rfl⟩
  case round =>
    obtain ⟨k, hk, rfl, rfl, rfl, m, HW⟩ := hrel
    by_cases hlt : k < n
    · rcases RD.out with h0 | ⟨g, rfl, hg, h3⟩
      · omega
      have hmod : (k + n - 1) % n < n := Nat.mod_lt _ (by omega)
      have c0 : wr.cell? ⟨g, k, none⟩ = some (.int .i64 (qs.getD k 0)) := by rw [HW.out]; exact h3 k hlt
      have c2 : wr.cell? ⟨g, (k + n - 1) % n, none⟩ = some (.int .i64 (qs.getD ((k + n - 1) % n) 0)) := by rw [HW.out]; exact h3 _ hmod
      have hcs := HC.out k
      have hts := HT.out k
      have hss := HS.out k
      have hes := HE.out k hlt
      have hb3 := HB2.out k
      have hb4 := HB2.out ((k + n - 1) % n)
      have AB := Lib.hid (fun u : World => l00Size_any (qs.getD k 0 - qs.getD ((k + n - 1) % n) 0) u (by omega) (by omega))
      rw [← hes] at AB
      have wd : IntKind.i64.wrap (qs.getD k 0 - qs.getD ((k + n - 1) % n) 0) = qs.getD k 0 - qs.getD ((k + n - 1) % n) 0 := IntWalk.i64_in _ (by omega)
      have wk : IntKind.i64.wrap ((k : Int) + n) = (k : Int) + n := IntWalk.i64_in _ (by omega)
      have wk2 : IntKind.i64.wrap ((k : Int) + n - 1) = (k : Int) + n - 1 := IntWalk.i64_in _ (by omega)
      have hr2 : ((k : Int) + n - 1) % n = (((k + n - 1) % n : Nat) : Int) := by rw [Int.natCast_emod, show ((k + n - 1 : Nat) : Int) = (k : Int) + n - 1 by omega]
      have hr : Int.tmod ((k : Int) + n - 1) n = (((k + n - 1) % n : Nat) : Int) := by rw [Int.tmod_eq_emod_of_nonneg (by omega), hr2]
      have hn0 : ¬ (n : Int) = 0 := by omega
      have hn00 : ¬ n = 0 := by omega
      clear hes h3
      have HSS := Lib.hid hss
      clear hss
      generalize (k + n - 1) % n = j at *
      generalize qs.getD k 0 = x at *
      generalize qs.getD j 0 = y at *
      generalize f k = z at *
      generalize (topS f k) = t at *
      obtain ⟨t1, t2⟩ := t
      simp only at hts HSS ⊢
      have hj0 : (0 : Int) ≤ (j : Int) := by omega
      have hj1 : (j : Int) < n := by omega
      by_cases hgt : z > t2
      · have HF := HSS.out
        rw [if_pos hgt] at HF
        have HF := Lib.hid HF
        have hgt' : t2 < z := hgt
        clear hgt HSS
        go_wp2
        go_quiet ((go_at_call 113; exact quietEq (AB.out _)))
        go_wp2
        go_roundw
        case rel => exact ⟨k + 1, by omega, by go_num, by rw [HF.out], by rw [HF.out], _, Lib.hid (by rw [HW.out, World.drewN_drewN])⟩
        case measure => simp [intOf]; omega
      · have HF := HSS.out
        rw [if_neg hgt] at HF
        have HF := Lib.hid HF
        have hgt' : ¬ t2 < z := hgt
        clear hgt HSS
        go_wp2
        go_quiet ((go_at_call 113; exact quietEq (AB.out _)))
        go_wp2
        go_roundw
        case rel => exact ⟨k + 1, by omega, by go_num, by rw [HF.out], by rw [HF.out], _, Lib.hid (by rw [HW.out, World.drewN_drewN])⟩
        case measure => simp [intOf]; omega
    · have : k = n := by omega
      subst this
      go_wp2
      go_ret3
      exact ⟨rfl, by rw [HW.out]; exact bDrewN B1.out m⟩

end Go.Proofs.Ytfbdeeobmjndlaa
