/- The roughest step of a loop: the program. -/
import Derived.Test.YtfbdeeobmjndlaaProg
import Derived.Test.YtfbdeeobmjndlaaLoopMath
import Derived.Test.YtfbdeeobmjndlaaInts
import Derived.Test.YtfbdeeobmjndlaaLoop
import Derived.Test.YtfbdeeobmjndlaaLoop2
import Derived.Test.YtfbdeeobmjndlaaLoop3
import Derived.Deep.AppendLies
import Derived.Deep.DrawnRows
import Derived.Test.YtfbdeeobmjndlaaHold
import Derived.IntWalk
import Derived.WalkSpells
import Derived.OwnWalk
import Derived.Laws.AppendOwn
import Derived.Laws.OwnMore
import Derived.Deep.RegionWith
import Derived.Deep.DrawnRows
import Derived.Deep.RegionHeld3
import Derived.Tactics
import Derived.Tactics2
import Derived.WalkKit
import Derived.LoopTactic
import Derived.BigQuiet
import Derived.RegionTactic
import Derived.Deep.QuietTactic
import Derived.Outline
import Derived.Lib.Hide
import Derived.Below
import Derived.KernelRfl
namespace Go.Proofs.Ytfbdeeobmjndlaa
set_option linter.unusedSimpArgs false
set_option linter.unusedVariables false
open Go.RowKit

theorem ringI_steps (zs : List Int) (k : Int) (n : Nat) (h : zs.length = n) : ringI (stepsL zs) k = (stepsL zs).getD (k % (n : Int)).toNat 0 := by
  unfold ringI
  rw [stepsL_length, h]
theorem stepsL_bd {zs : List Int} (h : loopB zs = true) (j : Nat) : -1000 ≤ (stepsL zs).getD j 0 ∧ (stepsL zs).getD j 0 ≤ 1000 := by
  by_cases hj : j < zs.length
  · unfold stepsL
    rw [genL_get _ _ _ hj]
    exact stepI_bd h _
  · rw [List.getD_eq_getElem?_getD, List.getElem?_eq_none (by rw [stepsL_length]; omega)]
    decide
theorem chgI_bd {zs : List Int} (h : loopB zs = true) (k : Nat) : 0 ≤ chgI zs k ∧ chgI zs k ≤ 2000 := by
  have h1 := stepsL_bd h ((k : Int) % ((stepsL zs).length : Int)).toNat
  have h2 := stepsL_bd h (((k : Int) - 1) % ((stepsL zs).length : Int)).toNat
  unfold chgI ringI
  omega
/-- What RoughestStep tells. -/
def roughV (zs : List Int) : Value := .tuple #[.int .i64 (topI (chgI zs) zs.length).1, .int .i64 (topI (chgI zs) zs.length).2, .int .i64 0]

/-- impl.RoughestStep. -/
theorem implRough_bad (A : Option Addr) (n c : Nat) (zs : List Int) (w : World) (hv : RdI w A n zs) (hz : loopB zs = false) :
    Calls Try.prog 32 #[.slice A n c] w fun e w' => e = .returned (.tuple #[.int .i64 0, .int .i64 0, .int .i64 1]) ∧ Below w.heap.size w w' := by
  have HV := Lib.hid hv
  clear hv
  go_enter Try.func32, Try.ntmps32
  go_wp2_with fail
  refine (validLoop_any A n c zs _ HV.out).mono ?_
  rintro e u ⟨rfl, rfl⟩
  rw [hz]
  go_wp2
  go_ret3
  exact ⟨rfl, Below.refl _ _⟩

set_option maxHeartbeats 1000000 in
theorem implRough_ok (A : Option Addr) (n c : Nat) (zs : List Int) (w : World) (hv : RdI w A n zs) (hz : loopB zs = true) :
    Calls Try.prog 32 #[.slice A n c] w fun e w' => e = .returned (roughV zs) ∧ Below w.heap.size w w' := by
  have hl := loopB_len hz
  have hln := hv.1
  rw [hv.1] at hl
  have HV := Lib.hid hv
  clear hv
  have hR := Lib.hid (show roughV zs = .tuple #[.int .i64 (topI (chgI zs) n).1, .int .i64 (topI (chgI zs) n).2, .int .i64 0] by unfold roughV; rw [hln])
  have ST := Lib.hid (stepsOf_any A n c zs w HV.out hz)
  have HC := Lib.hid (fun k => chgI_bd hz k)
  have HT := Lib.hid (fun k => topI_bd (chgI zs) 2000 (fun k => (chgI_bd hz k).2) (by omega) k)
  have HS := Lib.hid (fun k => show topI (chgI zs) (k + 1) = if chgI zs k > (topI (chgI zs) k).2 then ((k : Int), chgI zs k) else topI (chgI zs) k from rfl)
  have HE := Lib.hid (fun k : Nat => show chgI zs k = ((ringI (stepsL zs) k - ringI (stepsL zs) ((k : Int) - 1)).natAbs : Nat) from rfl)
  have HB2 := Lib.hid (fun k : Int => show -1000 ≤ ringI (stepsL zs) k ∧ ringI (stepsL zs) k ≤ 1000 from stepsL_bd hz _)
  have hsl := stepsL_length zs
  rw [hln] at hsl
  rw [hR.out]
  clear hR
  generalize stepsL zs = qs at *
  generalize chgI zs = f at *
  go_enter Try.func32, Try.ntmps32
  go_wp2_with fail
  refine (validLoop_any A n c zs _ HV.out).mono ?_
  rintro e u ⟨rfl, rfl⟩
  rw [hz]
  go_wp2_with fail
  refine ST.out.mono ?_
  rintro e u1 ⟨v, rfl, io, hb1⟩
  obtain ⟨E, c1, rfl, rd⟩ := io.rd (by omega)
  have HSL := Lib.hid hsl
  rw [hsl] at rd ⊢
  have RD := Lib.hid rd
  have B1 := Lib.hid hb1
  clear io rd hb1 ST
  go_wp2_with fail
  refine (ringLen_any _ _ _ _ (by omega)).mono ?_
  rintro e u ⟨rfl, rfl⟩
  clear hsl
  go_wp2
  go_loopw [17, 6, 7] (fun i a b wr => ∃ k : Nat, k ≤ n ∧ i = .int .i64 k ∧ a = .int .i64 (topI f k).1 ∧ b = .int .i64 (topI f k).2 ∧ ∃ m, Hid (wr = u1.drewN m)) (fun i _ _ _ => n - (intOf i).toNat)
  case atStart => exact ⟨0, Nat.zero_le _, rfl, rfl, rfl, 0, Lib.hid rfl⟩
  case round =>
    obtain ⟨k, hk, rfl, rfl, rfl, m, HW⟩ := hrel
    by_cases hlt : k < n
    · have hcs := HC.out k
      have hts := HT.out k
      have hss := HS.out k
      have hes := HE.out k
      have hb3 := HB2.out k
      have hb4 := HB2.out ((k : Int) - 1)
      have R1 := Lib.hid (fun u (hu : RdI u E n qs) => ringAt_any E n c1 qs (k : Int) u hu (by omega) (by omega) (by omega))
      have R2 := Lib.hid (fun u (hu : RdI u E n qs) => ringAt_any E n c1 qs ((k : Int) - 1) u hu (by omega) (by omega) (by omega))
      have HT1 := Lib.hid (show RdI wr E n qs by rw [HW.out]; exact RD.out.drewN m)
      have AB := Lib.hid (fun u : World => absolute_any (ringI qs (k : Int) - ringI qs ((k : Int) - 1)) u (by omega) (by omega))
      rw [← hes] at AB
      have wk : IntKind.i64.wrap ((k : Int) - 1) = (k : Int) - 1 := IntWalk.i64_in _ (by omega)
      have wd : IntKind.i64.wrap (ringI qs (k : Int) - ringI qs ((k : Int) - 1)) = ringI qs (k : Int) - ringI qs ((k : Int) - 1) := IntWalk.i64_in _ (by omega)
      clear hes
      have HSS := Lib.hid hss
      clear hss
      generalize ringI qs (k : Int) = x at *
      generalize ringI qs ((k : Int) - 1) = y at *
      generalize f k = z at *
      generalize (topI f k) = t at *
      obtain ⟨t1, t2⟩ := t
      simp only at hts HSS ⊢
      by_cases hgt : z > t2
      · have HF := HSS.out
        rw [if_pos hgt] at HF
        have HF := Lib.hid HF
        have hgt' : t2 < z := hgt
        clear hgt HSS
        go_wp2_with fail
        refine (R1.out _ HT1.out).mono ?_
        rintro e u ⟨rfl, m1, rfl⟩
        go_wp2_with fail
        refine (R2.out _ (HT1.out.drewN m1)).mono ?_
        rintro e u ⟨rfl, m2, rfl⟩
        go_wp2_with fail
        refine (AB.out _).mono ?_
        rintro e u ⟨rfl, rfl⟩
        go_wp2
        go_roundw
        case rel => exact ⟨k + 1, by omega, by go_num, by rw [HF.out], by rw [HF.out], _, Lib.hid (by rw [HW.out, World.drewN_drewN])⟩
        case measure => simp [intOf]; omega
      · have HF := HSS.out
        rw [if_neg hgt] at HF
        have HF := Lib.hid HF
        have hgt' : ¬ t2 < z := hgt
        clear hgt HSS
        go_wp2_with fail
        refine (R1.out _ HT1.out).mono ?_
        rintro e u ⟨rfl, m1, rfl⟩
        go_wp2_with fail
        refine (R2.out _ (HT1.out.drewN m1)).mono ?_
        rintro e u ⟨rfl, m2, rfl⟩
        go_wp2_with fail
        refine (AB.out _).mono ?_
        rintro e u ⟨rfl, rfl⟩
        go_wp2
        go_roundw
        case rel => exact ⟨k + 1, by omega, by go_num, by rw [HF.out], by rw [HF.out], _, Lib.hid (by rw [HW.out, World.drewN_drewN])⟩
        case measure => simp [intOf]; omega
    · have : k = n := by omega
      subst this
      go_wp2
      go_ret3
      exact ⟨rfl, by rw [HW.out]; exact bDrewN B1.out m⟩

end Go.Proofs.Ytfbdeeobmjndlaa
