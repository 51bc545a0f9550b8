/- Decimal forms read back: the model's way. -/
import Derived.Test.YthphihfcgpoefaaDoorProg
import Derived.Test.YthphihfcgpoefaaDoorSpecDec
import Derived.Test.YthphihfcgpoefaaDoorReadMath
import Derived.Test.YthphihfcgpoefaaDoorRead
import Derived.Deep.RegionWith
import Derived.Deep.DrawnRows
import Derived.Tactics
import Derived.Tactics2
import Derived.WalkKit
import Derived.LoopTactic
import Derived.BigQuiet
import Derived.RegionTactic
import Derived.BigRegion
import Derived.Deep.QuietTactic
import Derived.Outline
import Derived.Lib.Hide
import Derived.Below
import Derived.KernelRfl
namespace Go.Proofs.YthphihfcgpoefaaDoor
open Go.RowKit
set_option linter.unusedSimpArgs false
set_option linter.unusedVariables false

/-- spec.l01Digit. -/
theorem l01Digit_any (c : UInt8) (w : World) :
    Calls Tryd.prog 13 #[.int .u8 (c.toNat : Int)] w fun e w' => e = .returned (.bool (isDig c)) ∧ w = w' := by
  have hc : c.toNat < 256 := c.toNat_lt
  by_cases h1 : 48 ≤ c.toNat
  · by_cases h2 : c.toNat ≤ 57
    · rw [isDig_iff.2 ⟨h1, h2⟩]
      go_enter Tryd.func13, Tryd.ntmps13
      go_wp2
      go_ret
      refine ⟨ret_bool ?_, rfl⟩
      simp; omega
    · rw [show isDig c = false by simp [isDig]; omega]
      go_enter Tryd.func13, Tryd.ntmps13
      go_wp2
      go_ret
      refine ⟨ret_bool ?_, rfl⟩
      simp; omega
  · rw [show isDig c = false by simp [isDig]; omega]
    go_enter Tryd.func13, Tryd.ntmps13
    go_wp2
    go_ret
    exact ⟨rfl, rfl⟩

/-- A number's decimal form as a text. -/
def decS (n : Int) : ByteArray := ⟨(decText n).toArray⟩
/-- What is read: the number, if its decimal form is the text. -/
def readV (n : Int) (ok : Bool) : Value := if ok then .tuple #[.int .i64 n, .bool true] else .tuple #[.int .i64 0, .bool false]

theorem all_not {l : List UInt8} {i : Nat} (h : i < l.length) (hd : isDig (l[i]'h) = false) : l.all isDig = false := by
  rw [List.all_eq_false]
  exact ⟨l[i]'h, List.getElem_mem h, by rw [hd]; decide⟩
theorem all_yes {l : List UInt8} (hd : ∀ c ∈ l, isDig c = true) : l.all isDig = true := List.all_eq_true.2 hd

set_option maxRecDepth 100000 in
theorem number_plain (s : ByteArray) (l : List UInt8) (hl : s.data.toList = l) (w : World) (h1 : 1 ≤ s.size) (h2 : s.size ≤ 18) (hm : ¬ (s[0]'(by omega)).toNat = 45) :
    Calls Tryd.prog 8 #[.string s] w fun e w' => e = .returned (readV ((val 0 l : Nat) : Int) (l.all isDig && ((decS ((val 0 l : Nat) : Int)).toList == s.toList))) ∧ Below w.heap.size w w' := by
  have hL : l.length = s.size := by rw [← hl]; simp
  have hget : ∀ (k : Nat) (h : k < s.size), l[k]'(by omega) = s[k]'h := by
    intro k h
    subst hl
    simp [ByteArray.getElem_eq_getElem_data]
  have hE : s.toList.isEmpty = false := by
    rw [Lib.toList_data, hl]
    cases l with
    | nil => simp at hL; omega
    | cons x r => rfl
  have h45 : (((s[0]'(by omega)).toNat : Int) == 45) = false := by
    rw [beq_eq_false_iff_ne]
    omega
  have HG := Lib.hid hget
  have HM := Lib.hid hm
  clear hget hm
  go_enter Tryd.func8, Tryd.ntmps8
  go_wp2_with fail
  go_loop [5, 6] (fun x y => ∃ i : Nat, i ≤ s.size ∧ x = .int .i64 ((val 0 (l.take i) : Nat) : Int) ∧ y = .int .i64 i ∧ Hid (∀ c ∈ l.take i, isDig c = true)) (fun _ y => s.size - (intOf y).toNat)
  case atStart => exact ⟨0, Nat.zero_le _, rfl, rfl, Lib.hid (fun c hc => by simp at hc)⟩
  case round =>
    obtain ⟨i, hi, rfl, rfl, HD⟩ := hrel
    by_cases hlt : i < s.size
    · have hv := val_take_lt (l := l) (i := i) (by omega) HD.out
      have hp : (10 : Nat) ^ i ≤ 10 ^ 17 := Nat.pow_le_pow_right (by omega) (by omega)
      have hp17 : (10 : Nat) ^ 17 = 100000000000000000 := by decide
      have hstep := val_take (l := l) (i := i) (by omega)
      have hc := HG.out i hlt
      rw [hc] at hstep
      cases hd : isDig (s[i]'hlt)
      · go_wp2_with (go_at_call 13; refine (l01Digit_any _ _).mono ?_; rintro e u ⟨rfl, rfl⟩)
        refine bodyPost_ret (v := .tuple #[.int .i64 0, .bool false]) (by simp [results, Tryd.results8, go_sem]) rfl ⟨?_, Below.refl _ _⟩
        rw [all_not (l := l) (i := i) (by omega) (by rw [hc]; exact hd)]
        rfl
      · have h3 := isDig_iff.1 hd
        have HS := Lib.hid hstep
        have HT := Lib.hid (digits_take (l := l) (i := i) (by omega) HD.out (by rw [hc]; exact hd))
        have h4 : (s[i]'hlt).toNat < 256 := (s[i]'hlt).toNat_lt
        have h5 : val 0 (l.take i) < 100000000000000000 := by omega
        clear hstep hv hp hp17 hc
        go_wp2_with (go_at_call 13; refine (l01Digit_any _ _).mono ?_; rintro e u ⟨rfl, rfl⟩)
        go_round
        case rel =>
          refine ⟨i + 1, by omega, ?_, by go_num, HT⟩
          rw [HS.out]
          go_num
        case measure => simp [intOf]; omega
    · have hi2 : i = l.length := by omega
      have hA : ∀ c ∈ l, isDig c = true := by
        have := HD.out
        rw [hi2, List.take_length] at this
        exact this
      have hv := val_take_lt (l := l) (i := l.length) (by omega) (by rw [List.take_length]; exact hA)
      rw [List.take_length] at hv
      have hp : (10 : Nat) ^ l.length ≤ 10 ^ 18 := Nat.pow_le_pow_right (by omega) (by omega)
      have hp18 : (10 : Nat) ^ 18 = 1000000000000000000 := by decide
      have h5 : val 0 l < 1000000000000000000 := by omega
      have e1 : val 0 (l.take i) = val 0 l := by rw [hi2, List.take_length]
      have HA := Lib.hid (all_yes hA)
      have CD := Lib.hid (fun w => l01Dec_any ((val 0 l : Nat) : Int) w (by omega) (by omega))
      have e0 : (⟨(decText ((val 0 l : Nat) : Int)).toArray⟩ : ByteArray) = decS ((val 0 l : Nat) : Int) := rfl
      rw [e0] at CD
      rw [e1]
      clear hA hv hp hp18 e0 HD e1
      cases hq : (decS ((val 0 l : Nat) : Int)).toList == s.toList
      · have HQ := Lib.hid hq
        go_wp2_with fail
        refine (CD.out _).mono ?_
        rintro e u1 ⟨rfl, hb1⟩
        go_wp2_with fail
        refine bodyPost_ret (v := .tuple #[.int .i64 0, .bool false]) (by simp [results, Tryd.results8, go_sem]) rfl ⟨?_, hb1⟩
        rw [HA.out, HQ.out]
        rfl
      · have HQ := Lib.hid hq
        go_wp2_with fail
        refine (CD.out _).mono ?_
        rintro e u1 ⟨rfl, hb1⟩
        go_wp2_with fail
        refine bodyPost_ret (v := .tuple #[.int .i64 ((val 0 l : Nat) : Int), .bool true]) (by simp [results, Tryd.results8, go_sem]) rfl ⟨?_, hb1⟩
        rw [HA.out, HQ.out]
        rfl

set_option maxRecDepth 100000 in
theorem number_minus (s t : ByteArray) (l : List UInt8) (hl : t.data.toList = l) (ht : s.extract 1 s.size = t) (hts : t.size = s.size - 1) (w : World) (h0 : 1 ≤ s.size) (h1 : 1 ≤ t.size) (h2 : t.size ≤ 18) (hm : (s[0]'(by omega)).toNat = 45) :
    Calls Tryd.prog 8 #[.string s] w fun e w' => e = .returned (readV (-((val 0 l : Nat) : Int)) (l.all isDig && ((decS (-((val 0 l : Nat) : Int))).toList == s.toList))) ∧ Below w.heap.size w w' := by
  have hL : l.length = t.size := by rw [← hl]; simp
  have hget : ∀ (k : Nat) (h : k < t.size), l[k]'(by omega) = t[k]'h := by
    intro k h
    subst hl
    simp [ByteArray.getElem_eq_getElem_data]
  have hE : s.toList.isEmpty = false := by
    rw [Lib.toList_data, List.isEmpty_eq_false_iff]
    intro e
    have h9 : s.data.toList.length = 0 := by rw [e]; rfl
    rw [Array.length_toList] at h9
    change s.size = 0 at h9
    omega
  have h45 : (((s[0]'(by omega)).toNat : Int) == 45) = true := by
    rw [hm]
    rfl
  have HG := Lib.hid hget
  have HM := Lib.hid hm
  clear hget hm
  go_enter Tryd.func8, Tryd.ntmps8
  go_wp2_with fail
  have hlt2 : t.size < s.size := by omega
  go_loop [5, 6] (fun x y => ∃ i : Nat, i ≤ t.size ∧ x = .int .i64 ((val 0 (l.take i) : Nat) : Int) ∧ y = .int .i64 i ∧ Hid (∀ c ∈ l.take i, isDig c = true)) (fun _ y => t.size - (intOf y).toNat)
  case atStart => exact ⟨0, Nat.zero_le _, rfl, rfl, Lib.hid (fun c hc => by simp at hc)⟩
  case round =>
    obtain ⟨i, hi, rfl, rfl, HD⟩ := hrel
    by_cases hlt : i < t.size
    · have hv := val_take_lt (l := l) (i := i) (by omega) HD.out
      have hp : (10 : Nat) ^ i ≤ 10 ^ 17 := Nat.pow_le_pow_right (by omega) (by omega)
      have hp17 : (10 : Nat) ^ 17 = 100000000000000000 := by decide
      have hstep := val_take (l := l) (i := i) (by omega)
      have hc := HG.out i hlt
      rw [hc] at hstep
      cases hd : isDig (t[i]'hlt)
      · go_wp2_with (go_at_call 13; refine (l01Digit_any _ _).mono ?_; rintro e u ⟨rfl, rfl⟩)
        refine bodyPost_ret (v := .tuple #[.int .i64 0, .bool false]) (by simp [results, Tryd.results8, go_sem]) rfl ⟨?_, Below.refl _ _⟩
        rw [all_not (l := l) (i := i) (by omega) (by rw [hc]; exact hd)]
        rfl
      · have h3 := isDig_iff.1 hd
        have HS := Lib.hid hstep
        have HT := Lib.hid (digits_take (l := l) (i := i) (by omega) HD.out (by rw [hc]; exact hd))
        have h4 : (t[i]'hlt).toNat < 256 := (t[i]'hlt).toNat_lt
        have h5 : val 0 (l.take i) < 100000000000000000 := by omega
        clear hstep hv hp hp17 hc
        go_wp2_with (go_at_call 13; refine (l01Digit_any _ _).mono ?_; rintro e u ⟨rfl, rfl⟩)
        go_round
        case rel =>
          refine ⟨i + 1, by omega, ?_, by go_num, HT⟩
          rw [HS.out]
          go_num
        case measure => simp [intOf]; omega
    · have hi2 : i = l.length := by omega
      have hA : ∀ c ∈ l, isDig c = true := by
        have := HD.out
        rw [hi2, List.take_length] at this
        exact this
      have hv := val_take_lt (l := l) (i := l.length) (by omega) (by rw [List.take_length]; exact hA)
      rw [List.take_length] at hv
      have hp : (10 : Nat) ^ l.length ≤ 10 ^ 18 := Nat.pow_le_pow_right (by omega) (by omega)
      have hp18 : (10 : Nat) ^ 18 = 1000000000000000000 := by decide
      have h5 : val 0 l < 1000000000000000000 := by omega
      have e1 : val 0 (l.take i) = val 0 l := by rw [hi2, List.take_length]
      have HA := Lib.hid (all_yes hA)
      have CD := Lib.hid (fun w => l01Dec_any (-((val 0 l : Nat) : Int)) w (by omega) (by omega))
      have e0 : (⟨(decText (-((val 0 l : Nat) : Int))).toArray⟩ : ByteArray) = decS (-((val 0 l : Nat) : Int)) := rfl
      rw [e0] at CD
      rw [e1]
      clear hA hv hp hp18 e0 HD e1
      cases hq : (decS (-((val 0 l : Nat) : Int))).toList == s.toList
      · have HQ := Lib.hid hq
        go_wp2_with fail
        refine (CD.out _).mono ?_
        rintro e u1 ⟨rfl, hb1⟩
        go_wp2_with fail
        refine bodyPost_ret (v := .tuple #[.int .i64 0, .bool false]) (by simp [results, Tryd.results8, go_sem]) rfl ⟨?_, hb1⟩
        rw [HA.out, HQ.out]
        rfl
      · have HQ := Lib.hid hq
        go_wp2_with fail
        refine (CD.out _).mono ?_
        rintro e u1 ⟨rfl, hb1⟩
        go_wp2_with fail
        refine bodyPost_ret (v := .tuple #[.int .i64 (-((val 0 l : Nat) : Int)), .bool true]) (by simp [results, Tryd.results8, go_sem]) rfl ⟨?_, hb1⟩
        rw [HA.out, HQ.out]
        rfl

set_option maxRecDepth 100000 in
theorem number_empty (w : World) :
    Calls Tryd.prog 8 #[.string ⟨#[]⟩] w fun e w' => e = .returned (.tuple #[.int .i64 0, .bool false]) ∧ Below w.heap.size w w' := by
  go_enter Tryd.func8, Tryd.ntmps8
  go_wp2_with fail
  refine bodyPost_ret (v := .tuple #[.int .i64 0, .bool false]) (by simp [results, Tryd.results8, go_sem]) rfl ⟨rfl, Below.refl _ _⟩

set_option maxRecDepth 100000 in
theorem number_long (s : ByteArray) (w : World) (h1 : 18 < s.size) (hs : s.size ≤ 281474976710656) (hm : ¬ (s[0]'(by omega)).toNat = 45) :
    Calls Tryd.prog 8 #[.string s] w fun e w' => e = .returned (.tuple #[.int .i64 0, .bool false]) ∧ Below w.heap.size w w' := by
  have hE : s.toList.isEmpty = false := by
    rw [Lib.toList_data, List.isEmpty_eq_false_iff]
    intro e
    have h9 : s.data.toList.length = 0 := by rw [e]; rfl
    rw [Array.length_toList] at h9
    change s.size = 0 at h9
    omega
  have h45 : (((s[0]'(by omega)).toNat : Int) == 45) = false := by
    rw [beq_eq_false_iff_ne]
    omega
  clear hm
  go_enter Tryd.func8, Tryd.ntmps8
  go_wp2_with fail
  refine bodyPost_ret (v := .tuple #[.int .i64 0, .bool false]) (by simp [results, Tryd.results8, go_sem]) rfl ⟨rfl, Below.refl _ _⟩

set_option maxRecDepth 100000 in
theorem number_minus_len (s t : ByteArray) (ht : s.extract 1 s.size = t) (hts : t.size = s.size - 1) (w : World) (h0 : 1 ≤ s.size) (hs : s.size ≤ 281474976710656) (h1 : t.size < 1 ∨ (1 ≤ t.size ∧ 18 < t.size)) (hm : (s[0]'(by omega)).toNat = 45) :
    Calls Tryd.prog 8 #[.string s] w fun e w' => e = .returned (.tuple #[.int .i64 0, .bool false]) ∧ Below w.heap.size w w' := by
  have hE : s.toList.isEmpty = false := by
    rw [Lib.toList_data, List.isEmpty_eq_false_iff]
    intro e
    have h9 : s.data.toList.length = 0 := by rw [e]; rfl
    rw [Array.length_toList] at h9
    change s.size = 0 at h9
    omega
  have h45 : (((s[0]'(by omega)).toNat : Int) == 45) = true := by
    rw [hm]
    rfl
  clear hm
  rcases h1 with h1 | ⟨h1, h2⟩
  all_goals
    go_enter Tryd.func8, Tryd.ntmps8
    go_wp2_with fail
    refine bodyPost_ret (v := .tuple #[.int .i64 0, .bool false]) (by simp [results, Tryd.results8, go_sem]) rfl ⟨rfl, Below.refl _ _⟩

theorem flag_no {s : ByteArray} (h : NoDec s) {l : List UInt8} (hl : l.length ≤ 18) (f : Nat → Int) (hf : ∀ n, (f n).natAbs = n) : (l.all isDig && ((decS (f (val 0 l))).toList == s.toList)) = false := by
  cases ha : l.all isDig
  · rfl
  · have hA : ∀ c ∈ l, isDig c = true := List.all_eq_true.1 ha
    have hv := val_lt l hA 0
    have hp : (10 : Nat) ^ l.length ≤ 10 ^ 18 := Nat.pow_le_pow_right (by omega) hl
    have hne := h (f (val 0 l)) (by rw [hf]; omega)
    rw [Bool.true_and]
    exact neq_text hne

theorem extract_size (s : ByteArray) : (s.extract 1 s.size).size = s.size - 1 := by
  rw [ByteArray.size_extract]
  omega

/-- spec.l01Number of a text that is no decimal form. -/
theorem number_no (s : ByteArray) (w : World) (hs : s.size ≤ 281474976710656) (h : NoDec s) :
    Calls Tryd.prog 8 #[.string s] w fun e w' => e = .returned (.tuple #[.int .i64 0, .bool false]) ∧ Below w.heap.size w w' := by
  by_cases h0 : s.size = 0
  · have : s = ⟨#[]⟩ := by
      obtain ⟨d⟩ := s
      change d.size = 0 at h0
      rw [Array.eq_empty_of_size_eq_zero h0]
    rw [this]
    exact number_empty w
  by_cases hm : (s[0]'(by omega)).toNat = 45
  · have hts := extract_size s
    by_cases h1 : (s.extract 1 s.size).size < 1 ∨ (1 ≤ (s.extract 1 s.size).size ∧ 18 < (s.extract 1 s.size).size)
    · exact number_minus_len s _ rfl hts w (by omega) hs h1 hm
    · have hc := number_minus s _ _ rfl rfl hts w (by omega) (by omega) (by omega) hm
      have hf := flag_no h (l := (s.extract 1 s.size).data.toList) (by rw [Array.length_toList]; change (s.extract 1 s.size).size ≤ 18; omega) (fun n => -((n : Nat) : Int)) (fun n => by omega)
      rw [hf] at hc
      exact hc
  · by_cases h1 : 18 < s.size
    · exact number_long s w h1 hs hm
    · have hc := number_plain s _ rfl w (by omega) (by omega) hm
      have hf := flag_no h (l := s.data.toList) (by rw [Array.length_toList]; change s.size ≤ 18; omega) (fun n => ((n : Nat) : Int)) (fun n => by omega)
      rw [hf] at hc
      exact hc

/-- spec.l01Number of a decimal form. -/
theorem number_yes (n : Int) (w : World) (hn : n.natAbs < 10 ^ 18) :
    Calls Tryd.prog 8 #[.string (decS n)] w fun e w' => e = .returned (.tuple #[.int .i64 n, .bool true]) ∧ Below w.heap.size w w' := by
  have hl1 := digs_length_pos n.natAbs
  have hl2 := digs_length 17 n.natAbs hn
  have hv := val_digs n.natAbs
  have ha : (digs n.natAbs).all isDig = true := List.all_eq_true.2 (all_digs n.natAbs)
  by_cases h : n < 0
  · have e : decS n = ⟨(45 :: digs n.natAbs).toArray⟩ := by rw [decS, decText_neg h]
    have hsz : (decS n).size = (digs n.natAbs).length + 1 := by rw [e]; show (45 :: digs n.natAbs).toArray.size = _; simp
    have hx : (decS n).extract 1 (decS n).size = ⟨(digs n.natAbs).toArray⟩ := by
      rw [hsz, e]
      apply ByteArray.ext
      simp [ByteArray.extract, ByteArray.copySlice]
    have hm : ((decS n)[0]'(by omega)).toNat = 45 := by
      simp only [e]
      rfl
    have hc := number_minus (decS n) ⟨(digs n.natAbs).toArray⟩ (digs n.natAbs) (by simp) hx (by rw [hsz]; show (digs n.natAbs).toArray.size = _; simp) w (by omega) (by show 1 ≤ (digs n.natAbs).toArray.size; simp; omega) (by show (digs n.natAbs).toArray.size ≤ 18; simp; omega) hm
    rw [hv, ha, show (-((n.natAbs : Nat) : Int)) = n by omega] at hc
    simpa [readV] using hc
  · have e : decS n = ⟨(digs n.natAbs).toArray⟩ := by rw [decS, decText_pos h]
    have hsz : (decS n).size = (digs n.natAbs).length := by rw [e]; show (digs n.natAbs).toArray.size = _; simp
    have hm : ¬ ((decS n)[0]'(by omega)).toNat = 45 := by
      have hd : isDig ((digs n.natAbs)[0]'(by omega)) = true := all_digs n.natAbs _ (List.getElem_mem _)
      have := isDig_iff.1 hd
      have e2 : ((decS n)[0]'(by omega)) = (digs n.natAbs)[0]'(by omega) := by
        simp only [e]
        rfl
      rw [e2]
      omega
    have hc := number_plain (decS n) (digs n.natAbs) (by rw [e]) w (by omega) (by omega) hm
    rw [hv, ha, show ((n.natAbs : Nat) : Int) = n by omega] at hc
    simpa [readV] using hc

end Go.Proofs.YthphihfcgpoefaaDoor
