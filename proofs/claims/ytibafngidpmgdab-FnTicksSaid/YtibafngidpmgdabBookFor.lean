/- BookFor: the program, the model and the statement. -/
import Derived.Test.YtibafngidpmgdabBookText
import Derived.Test.YtibafngidpmgdabShelf
import Derived.IntWalk
import Derived.WalkSpells
import Derived.OwnWalk
import Derived.Tactics
import Derived.Tactics2
import Derived.WalkKit
import Derived.LoopTactic
import Derived.BigQuiet
import Derived.RegionTactic
import Derived.Deep.QuietTactic
import Derived.Outline
import Derived.Lib.Hide
import Derived.Below
import Derived.KernelRfl
namespace Go.Proofs.Ytibafngidpmgdab
set_option linter.unusedSimpArgs false
set_option linter.unusedVariables false
open Go.RowKit

set_option maxHeartbeats 2000000 in
set_option maxRecDepth 100000 in
/-- impl.BookFor. -/
theorem implBook_any (A : Option Addr) (n c : Nat) (ps : List Scn) (e : Int) (w : World) (hv : RdC w A n ps) (hm : Sizes ps n) :
    Calls Try.prog 19 #[.slice A n c, .int .i64 e] w fun r w' => r = .returned (.tuple #[.string (bookT ps e), .int .i64 (code8 ps e)]) ∧ Below w.heap.size w w' := by
  have BF := Lib.hid (fun u h => bookFor_any A n c ps e u h hm)
  have hl := hv.1
  have HV := Lib.hid hv
  clear hv hm
  by_cases h5 : code8 ps e = 0
  · have HE := Lib.hid (show bookT ps e = txt (bookB ps e n) by rw [bookT, if_pos h5, hl])
    rcases code8_cases ps e with ⟨_, h⟩ | ⟨_, _, h⟩ | ⟨_, _, _, h⟩ | ⟨h1, h2, h3, _⟩
    · omega
    · omega
    · omega
    obtain ⟨e1, e2⟩ := inB_iff.1 h2
    have hl2 := scnsB_len h1
    have HT := Lib.hid (show TicksIn ps n by rw [← hl]; exact ticksIn h1)
    have HZ := Lib.hid (fun j (hj : j < n) => (scns_scene h1 (k := j) (by omega)).1.1)
    have HLE := Lib.hid (fun k (hk : k ≤ n) => bookB_le h1 e1 e2 k (by omega))
    have H5 := Lib.hid h5
    clear h5 h3 hl hl2 h1 h2
    go_enter Try.func19, Try.ntmps19
    go_wp2_with fail
    refine (BF.out _ HV.out).mono ?_
    rintro r u (⟨hx, _⟩ | ⟨_, A', c', rfl, hr, hb⟩)
    · exact absurd H5.out hx
    have HR := Lib.hid hr
    have HB := Lib.hid hb
    clear hr hb
    go_wp2_with fail
    have HF := Lib.hid (Lib.IsBuilderF.of (Lib.fresh_isBuilder 68 5 u))
    go_loopw [19] (fun i wr => ∃ k : Nat, k ≤ n ∧ i = .int .i64 k ∧ Hid (Holds u.heap.size u.heap.size (Lib.byteCells (bookB ps e k)) wr) ∧ Hid (Below u.heap.size u wr)) (fun i _ => n - (intOf i).toNat)
    case atStart => exact ⟨0, Nat.zero_le _, rfl, HF, Lib.hid (bAlloc (Below.refl _ _) _)⟩
    case round =>
      obtain ⟨k, hk, rfl, HO, HW⟩ := hrel
      by_cases hlt : k < n
      · obtain ⟨_, _, h3⟩ := HR.out.below HW.out
        rcases h3 with h0 | ⟨g, rfl, hg, h3⟩
        · omega
        obtain ⟨c0, c1, c2, c3⟩ := h3 k hlt
        rw [runL_get ps e n k hlt] at c0 c1 c2 c3
        obtain ⟨t1, t2⟩ := HT.out k hlt
        have hz := HZ.out k hlt
        have HLk := Lib.hid (HLE.out k hk)
        have HBS := Lib.hid (show bookB ps e (k + 1) = bookB ps e k ++ Lib.repeatL (ps.getD k Go.Proofs.Ytibafngidpmgdab.s0).1.data.toList (cnt (ps.getD k Go.Proofs.Ytibafngidpmgdab.s0).2 e).toNat from rfl)
        clear h3
        generalize ps.getD k Go.Proofs.Ytibafngidpmgdab.s0 = q at *
        obtain ⟨x, y⟩ := q
        simp only at c0 c1 c2 c3 t1 t2 hz HBS
        obtain ⟨m1, m2, _, _⟩ := cnt_bd t1 t2 e1 e2
        obtain ⟨m, hmm⟩ := Int.eq_ofNat_of_zero_le (show 0 ≤ cnt y e by omega)
        rw [hmm] at m1 m2 c2 HBS
        rw [Int.toNat_natCast] at HBS
        have RP := Lib.hid (fun w => Try.strings_Repeat x m w (by omega) (by rw [hz]; omega))
        have HRL := Lib.hid (show (⟨(Lib.repeatL x.data.toList m).toArray⟩ : ByteArray).size = m ∧ Lib.strCells ⟨(Lib.repeatL x.data.toList m).toArray⟩ = Lib.byteCells (Lib.repeatL x.data.toList m) by
          refine ⟨?_, ?_⟩
          · have h4 := Lib.repeatL_length x.data.toList m
            rw [size_list, hz] at h4
            simp only [ByteArray.size, List.size_toArray, h4]
            omega
          · rw [Lib.strCells_eq])
        clear hmm hz
        generalize Lib.repeatL x.data.toList m = l at *
        have hwz := HW.out.size
        go_wp2_with fail
        refine (RP.out _).mono ?_
        rintro r v1 ⟨rfl, hv1⟩
        have HO1 := Lib.hid (Holds.below (Holds.below HO.out (bAlloc (Below.refl _ _) _)) hv1)
        have HW1 := Lib.hid (bTrans (bAlloc HW.out _) hv1)
        clear hv1
        go_wp2_with fail
        refine (writeString_any _ _ _ _ _ HO1.out (by rw [HRL.out.1, Lib.byteCells_length]; have := HLk.out; omega) HW1.out.size).mono ?_
        rintro r v2 ⟨rfl, ho2, hv2⟩
        rw [HRL.out.2, ← Lib.byteCells_append, ← HBS.out] at ho2
        have HO2 := Lib.hid ho2
        have HW2 := Lib.hid (HW1.out.trans hv2)
        clear hv2 ho2
        go_wp2
        go_roundw
        case rel => exact ⟨k + 1, by omega, by go_num, HO2, HW2⟩
        case measure => simp [intOf]; omega
      · have : k = n := by omega
        subst this
        go_wp2_with fail
        refine (Try.Builder_String_any_k u.heap.size u.heap.size _ _ HO.out HW.out.size).mono ?_
        rintro r v1 ⟨rfl, _, hv1, _⟩
        have HW1 := Lib.hid (HW.out.trans hv1)
        clear hv1
        go_wp2_with fail
        go_ret2
        exact ⟨by rw [HE.out, H5.out] <;> rfl, bTrans HB.out HW1.out⟩
  · have HE := Lib.hid (show bookT ps e = ⟨#[]⟩ by rw [bookT, if_neg h5])
    have H5 := Lib.hid h5
    clear h5
    go_enter Try.func19, Try.ntmps19
    go_wp2_with fail
    refine (BF.out _ HV.out).mono ?_
    rintro r u (⟨_, rfl, hb⟩ | ⟨hx, _⟩)
    case inr => exact absurd hx H5.out
    have HB := Lib.hid hb
    clear hb
    go_wp2_with fail
    have HF := Lib.hid (Lib.IsBuilderF.of (Lib.fresh_isBuilder 68 5 u))
    refine wp_loop_rounds 1 ?_
    rw [rounds_succ]
    go_wp2_with fail
    refine (Try.Builder_String_any_k u.heap.size u.heap.size [] _ HF.out (by simp)).mono ?_
    rintro r v1 ⟨rfl, _, hv1, _⟩
    have HW1 := Lib.hid (show Below u.heap.size u v1 from (bAlloc (Below.refl _ u) _).trans hv1)
    clear hv1
    go_wp2_with fail
    go_ret2
    exact ⟨by rw [HE.out] <;> rfl, bTrans HB.out HW1.out⟩

/-- One text behind another one, as letters. -/
theorem txtAdd (l : List UInt8) (p : ByteArray) : txt l ++ p = txt (l ++ p.data.toList) := by
  have h : (txt l ++ p).data.toList = l ++ p.data.toList := by rw [ByteArray.data_append, Array.toList_append, txt_data]
  rw [← h, txt_of]
theorem addRun (l : List UInt8) (p : ByteArray) (w : World) (h : l.length ≤ 100000) (h2 : p.size = 1) : (Op.stringOp .add (txt l) p).run Try.prog w = .ok (.string (txt (l ++ p.data.toList))) w := by
  rw [run_string_add_sum w _ _ (by rw [txt_size]; omega), txtAdd]

set_option maxHeartbeats 2000000 in
set_option maxRecDepth 100000 in
/-- spec.BookFor. -/
theorem specBook_any (A : Option Addr) (n c : Nat) (ps : List Scn) (e : Int) (w : World) (hv : RdC w A n ps) (hm : Sizes ps n) :
    Calls Try.prog 37 #[.slice A n c, .int .i64 e] w fun r w' => r = .returned (.tuple #[.string (bookT ps e), .int .i64 (code8 ps e)]) ∧ Below w.heap.size w w' := by
  have CD := Lib.hid (fun u h => l08Code_any A n c ps e u h hm)
  have hl := hv.1
  have HV := Lib.hid hv
  clear hv hm
  by_cases h5 : code8 ps e = 0
  · have HE := Lib.hid (show bookT ps e = txt (bookB ps e n) by rw [bookT, if_pos h5, hl])
    rcases code8_cases ps e with ⟨_, h⟩ | ⟨_, _, h⟩ | ⟨_, _, _, h⟩ | ⟨h1, h2, h3, _⟩
    · omega
    · omega
    · omega
    obtain ⟨e1, e2⟩ := inB_iff.1 h2
    have hl2 := scnsB_len h1
    have HT := Lib.hid (show TicksIn ps n by rw [← hl]; exact ticksIn h1)
    have HZ := Lib.hid (fun j (hj : j < n) => (scns_scene h1 (k := j) (by omega)).1.1)
    have HLE := Lib.hid (fun k (hk : k ≤ n) => bookB_le h1 e1 e2 k (by omega))
    rw [h5] at CD
    have H5 := Lib.hid h5
    clear h5 h3 hl hl2 h1 h2
    go_enter Try.func37, Try.ntmps37
    go_wp2_with fail
    refine (CD.out _ HV.out).mono ?_
    rintro r u ⟨rfl, hb⟩
    have HR := Lib.hid (HV.out.below hb)
    have HB := Lib.hid hb
    clear hb
    go_wp2_with fail
    go_loopw [8, 7] (fun i o wr => ∃ k : Nat, k ≤ n ∧ i = .int .i64 k ∧ o = .string (txt (bookB ps e k)) ∧ Hid (Below u.heap.size u wr)) (fun i _ _ => n - (intOf i).toNat)
    case atStart => exact ⟨0, Nat.zero_le _, rfl, rfl, Lib.hid (Below.refl _ _)⟩
    case round =>
      obtain ⟨k, hk, rfl, rfl, HW⟩ := hrel
      by_cases hlt : k < n
      · obtain ⟨_, _, h3⟩ := HR.out.below HW.out
        rcases h3 with h0 | ⟨g, rfl, hg, h3⟩
        · omega
        obtain ⟨c0, c1⟩ := h3 k hlt
        obtain ⟨t1, t2⟩ := HT.out k hlt
        have hz := HZ.out k hlt
        have HLk := Lib.hid (HLE.out k hk)
        have HBS := Lib.hid (show bookB ps e (k + 1) = bookB ps e k ++ Lib.repeatL (ps.getD k Go.Proofs.Ytibafngidpmgdab.s0).1.data.toList (cnt (ps.getD k Go.Proofs.Ytibafngidpmgdab.s0).2 e).toNat from rfl)
        clear h3
        generalize ps.getD k Go.Proofs.Ytibafngidpmgdab.s0 = q at *
        obtain ⟨x, y⟩ := q
        simp only at c0 c1 t1 t2 hz HBS
        obtain ⟨m1, m2, _, _⟩ := cnt_bd t1 t2 e1 e2
        have C := Lib.hid (fun v => l08Count_any x y e v t1 t2 e1 e2)
        obtain ⟨m, hmm⟩ := Int.eq_ofNat_of_zero_le (show 0 ≤ cnt y e by omega)
        rw [hmm] at m1 m2 HBS C
        rw [Int.toNat_natCast] at HBS
        have HX := Lib.hid hz
        clear hmm hz
        generalize bookB ps e k = l at *
        go_wp2_with fail
        refine (C.out _).mono ?_
        rintro r v1 ⟨rfl, hv1⟩
        have d0 := (hv1.cell (p := ⟨g, k * 2, none⟩) hg).trans c0
        have HW1 := Lib.hid (bTrans HW.out hv1)
        clear hv1 c0 c1
        go_wp2_with fail
        go_loop [9, 7] (fun i o => ∃ j : Nat, j ≤ m ∧ i = .int .i64 ((m - j : Nat) : Int) ∧ o = .string (txt (l ++ Lib.repeatL x.data.toList j))) (fun i _ => (intOf i).toNat)
        case atStart => exact ⟨0, Nat.zero_le _, by simp, by simp [Lib.repeatL]⟩
        case round =>
          obtain ⟨j, hj, rfl, rfl⟩ := hrel
          by_cases hjm : j < m
          · have hpos : (0 : Int) < ((m - j : Nat) : Int) := by omega
            have HN := Lib.hid (show ((m - j : Nat) : Int) - 1 = ((m - (j + 1) : Nat) : Int) by omega)
            have hadd := fun w => addRun (l ++ Lib.repeatL x.data.toList j) x w (by
              rw [List.length_append, Lib.repeatL_length, size_list, HX.out]
              have := HLk.out
              omega) HX.out
            have HJ := Lib.hid (show l ++ Lib.repeatL x.data.toList j ++ x.data.toList = l ++ Lib.repeatL x.data.toList (j + 1) by
              rw [Lib.repeatL_add, Lib.repeatL_one, List.append_assoc])
            rw [HJ.out] at hadd
            generalize txt (l ++ Lib.repeatL x.data.toList j) = o at *
            obtain ⟨d, hd⟩ : ∃ d : Nat, m - j = d := ⟨_, rfl⟩
            rw [hd] at hpos HN ⊢
            have hdb : d ≤ 1000 := by omega
            have hd1 : 1 ≤ d := by omega
            clear hd
            go_wp2
            go_round
            case rel => exact ⟨j + 1, by omega, by rw [HN.out], rfl⟩
            case measure => simp [intOf]; omega
          · have : j = m := by omega
            subst this
            rw [Nat.sub_self, ← HBS.out]
            go_wp2
            go_roundw
            case rel => exact ⟨k + 1, by omega, by go_num, rfl, HW1⟩
            case measure => simp [intOf]; omega
      · have : k = n := by omega
        subst this
        go_wp2
        go_ret2
        exact ⟨by rw [HE.out, H5.out] <;> rfl, bTrans HB.out HW.out⟩
  · have HE := Lib.hid (show bookT ps e = ⟨#[]⟩ by rw [bookT, if_neg h5])
    generalize hC : code8 ps e = C at *
    have hne : (C != 0) = true := by rw [bne_iff_ne]; exact h5
    clear hC
    go_enter Try.func37, Try.ntmps37
    go_wp2_with fail
    refine (CD.out _ HV.out).mono ?_
    rintro r u ⟨rfl, hb⟩
    go_wp2_with fail
    go_ret2
    exact ⟨by rw [HE.out] <;> rfl, hb⟩

/-- laws.FnExactBookFor. -/
theorem law_BookFor (A : Option Addr) (n c : Nat) (d : List Scn) (a : Int) (w : World) (hp : CRow w A n d) (ha : -9223372036854775808 ≤ a ∧ a ≤ 9223372036854775807) :
    Calls Try.prog 10 #[.slice A n c, .int .i64 a] w fun e w' => e = .returned (.bool true) ∧ Below w.heap.size w w' := by
  by_cases ht : n + totC d ≤ 1048576
  · exact lawBookFor_of A n c d a _ _ w hp ht (fun E f u hu => specBook_any E n f d a u hu hp.2.2.1) (fun E f u hu => implBook_any E n f d a u hu hp.2.2.1)
  · exact lawBookFor_big A n c d a w hp ht

end Go.Proofs.Ytibafngidpmgdab
