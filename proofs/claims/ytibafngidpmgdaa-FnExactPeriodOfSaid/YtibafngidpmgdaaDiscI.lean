/- A disc for a motion in the program: what each picture must show, in a map; the disc; whether it shows the motion. -/
import Derived.Test.YtibafngidpmgdaaDiscM
namespace Go.Proofs.Ytibafngidpmgdaa
set_option linter.unusedSimpArgs false
set_option linter.unusedVariables false
open Go.RowKit Go.Maps Go.WideMaps

/-- The wanted letters, as the map has them. -/
def Want (m : ByteArray) (p : Nat) : Nat → DataW Unit
  | 0 => .map []
  | k + 1 => (Want m p k).put (.int .i64 (seenK p m.size k : Nat)) (.lit (.int .u8 (letter m k).toNat))
theorem want_map (m : ByteArray) (p : Nat) : ∀ k, IsMap (Want m p k)
  | 0 => isMap_empty
  | k + 1 => (want_map m p k).put _ _
theorem want_has {m : ByteArray} (hm : motB m = true) (p : Nat) (q : Nat) : ∀ k, k ≤ m.size → Maps.has (Want m p k) (.int .i64 q) = decide (mustL m p k q ≠ 0)
  | 0, _ => by simp [Want, mustL, lastL, Maps.has]
  | k + 1, hk => by
    rw [Want, ← mustL_step]
    by_cases e : q = seenK p m.size k
    · rw [if_pos e, e]
      exact (has_put_same (want_map m p k) (show WideAt.IsKeyLit (Lit.int .i64 (seenK p m.size k : Nat)) from trivial) _).trans (decide_eq_true (letter_pos hm (by omega))).symm
    · rw [if_neg e, has_put_other (by intro h; apply e; injection h with _ h; exact_mod_cast h)]
      exact want_has hm p q k (by omega)
theorem want_at {m : ByteArray} (p : Nat) (q : Nat) : ∀ k, (Want m p k).atKey (.int .i64 q) (.lit (.int .u8 0)) = .lit (.int .u8 (mustL m p k q).toNat)
  | 0 => by rfl
  | k + 1 => by
    rw [Want, ← mustL_step]
    by_cases e : q = seenK p m.size k
    · rw [if_pos e, e]
      exact atKey_put_same (want_map m p k) (show WideAt.IsKeyLit (Lit.int .i64 (seenK p m.size k : Nat)) from trivial) _ _
    · rw [if_neg e, atKey_put_other (by intro h; apply e; injection h with _ h; exact_mod_cast h)]
      exact want_at p q k

theorem keyL : Keyed Try.prog 2 := int_keyed Try.underlying2
theorem keyK (q : Nat) (h : q ≤ 48) : keyOf Try.prog 2 (.int .i64 q) = some (.int .i64 q) := keyOf_int_mk Try.underlying2 (WalkArith.wf_i64 (by omega))
theorem zeroU8 (w : World) : (zeroValue 5).run Try.prog w = .ok (.int .u8 0) w := by kernel_rfl
theorem wfU8 (c : UInt8) : (Lit.int .u8 c.toNat).wf = true := by
  have := c.toNat_lt
  simp [Lit.wf, IntKind.min, IntKind.max, IntKind.bits, IntKind.signed]
  omega

set_option maxHeartbeats 4000000 in
set_option maxRecDepth 100000 in
/-- impl.discFor. -/
theorem discFor_any (m : ByteArray) (p : Nat) (w : World) (hm : motB m = true) (p1 : 1 ≤ p) (p2 : p ≤ 24) :
    Calls Try.prog 122 #[.string m, .int .i64 p] w fun e w' => e = .returned (.string (txt (discL m p))) ∧ Below w.heap.size w w' := by
  obtain ⟨s1, s2⟩ := motB_size hm
  obtain ⟨i0, hi, hz0, hz1, hz2⟩ := info_parts infoU8
  have hby : i0.bytes * p ≤ 281474976710656 := by rw [hz2]; omega
  have hmm := @run_makeMap Try.prog
  have Q := Lib.hid (fun k => seenK_lt (p := p) m.size k p1)
  have SO := Lib.hid (fun w => seenOrder_any (p : Int) m.size w (disc_of p1 (by omega) s1 (by omega)))
  have OG := Lib.hid (fun k (hk : k < m.size) => order_get (p := p) (s := m.size) p1 hk)
  have OL := Lib.hid (orderTo_length p m.size m.size)
  have WH := Lib.hid (fun q => want_has hm p q m.size (Nat.le_refl _))
  have WA := Lib.hid (fun q => want_at (m := m) p q m.size)
  have M0 := Lib.hid (show mustL m p m.size 0 ≠ 0 by
    have h2 := mustL_seen hm (p := p) (k := 0) (by omega)
    rw [seenK_zero _ _ s1] at h2
    exact h2)
  go_enter Try.func122, Try.ntmps122
  go_wp2_with fail
  refine (SO.out _).mono ?_
  rintro e u ⟨v, rfl, hv, hb⟩
  have HM0 : Hid (u.ownsMap Try.prog 2 (plainElem (H := Unit) Try.prog 5) w.heap.size 0 (Want m p 0)) := Lib.hid (World.ownsMap.kept (World.ownsMap_made w _ _ _) (grownNone hb none) (by simp))
  have HB2 := Lib.hid (bTrans (bAlloc (Below.refl _ w) (.map #[] 0)) hb)
  obtain ⟨b, cap, rfl, hbg, hbu, hc⟩ : ∃ b cap, v = .slice (some ⟨b, 0, none⟩) m.size cap ∧ w.heap.size < b ∧ b < u.heap.size ∧ ∀ j, j < m.size → u.cell? ⟨b, j, none⟩ = some (.int .i64 ((seenK p m.size j : Nat) : Int)) := by
    rcases hv.view with ⟨_, h0⟩ | ⟨b, cap, rfl, h1, h2, _, h3, _⟩
    · have h4 := OL.out
      rw [h0] at h4
      simp at h4
      omega
    · refine ⟨b, cap, by rw [OL.out], by simp at h1; omega, h2, fun j hj => ?_⟩
      rw [← OG.out j hj]
      exact h3 j (by rw [OL.out]; exact hj)
  have HC := Lib.hid hc
  clear hv hb hc OG OL
  go_wp2
  go_loopw [18] (fun i wr => ∃ k : Nat, k ≤ m.size ∧ i = .int .i64 k ∧ Hid (wr.ownsMap Try.prog 2 (plainElem (H := Unit) Try.prog 5) w.heap.size k (Want m p k)) ∧ Hid (Below w.heap.size w wr) ∧ Hid (∀ j, j < m.size → wr.cell? ⟨b, j, none⟩ = some (.int .i64 ((seenK p m.size j : Nat) : Int))) ∧ b < wr.heap.size) (fun i _ => m.size - (intOf i).toNat)
  case atStart => exact ⟨0, Nat.zero_le _, rfl, HM0, HB2, HC, hbu⟩
  case round =>
    obtain ⟨k, hk, rfl, HM, HB, HCk, hbw⟩ := hrel
    by_cases hlt : k < m.size
    · have hq := Q.out k
      have hcq := HCk.out k hlt
      have hlk := letter_of hlt
      have hkey := keyK (seenK p m.size k) (by omega)
      have hbz := HB.out.size
      have HW := Lib.hid (show Want m p (k + 1) = (Want m p k).put (.int .i64 (seenK p m.size k : Nat)) (.lit (.int .u8 ((m[k]'hlt).toNat : Int))) by rw [hlk]; rfl)
      have hwf := wfU8 (m[k]'hlt)
      clear hlk
      generalize seenK p m.size k = q at *
      go_wp2_with (first | (at_mapUpdate; refine wpList_mapUpdate_own _ rfl _ _ _ 144 rfl 2 5 keyL Try.underlying144 (plainElem (H := Unit) Try.prog 5) w.heap.size k _ rfl HM.out (by unfold maxLen; omega) _ _ _ rfl rfl hkey _ [] (plainElem_int Try.underlying5 hwf) ?_; intro w1 hown1 hgrow1) | fail)
      have H1 := Lib.hid hown1
      have H2 := Lib.hid hgrow1
      clear hown1 hgrow1
      go_wp2
      go_roundw
      case rel => exact ⟨k + 1, by omega, by go_num, Lib.hid (by rw [HW.out]; exact H1.out), Lib.hid (Below.grown HB.out H2.out hbz (fun j hj => by injection hj; omega)), Lib.hid (fun j hj => (World.cell?_of_block (H2.out.block b hbw (by simp; omega))).trans (HCk.out j hj)), Nat.lt_of_lt_of_le hbw H2.out.size⟩
      case measure => simp [intOf]; omega
    · have hks : k = m.size := by omega
      subst hks
      have hbz := HB.out.size
      go_wp2_with (at_make; refine wpList_make_full _ rfl _ _ 40 rfl wr.heap.size 5 i0 (.int .u8 0) 1 Try.underlying40 hi hz0 hz1 .i64 .i64 (p : Int) (p : Int) p rfl rfl rfl rfl hby (by unfold maxLen; omega) (Nat.le_refl _) ?_; intro w1 hown1 hgrow1)
      have hg1 : wr.heap.size < w1.heap.size := (World.ownsRow.lt hown1 _ rfl).2
      have HO1 : Hid (RowF w1 wr.heap.size wr.heap.size p (fun j => if j < 0 then fillL (mustL m p m.size) j else 0)) := Lib.hid (by
        have h1 := hown1
        rw [byteZeros] at h1
        exact h1)
      have HB1 := Lib.hid (Below.grown HB.out hgrow1 hbz (fun k hk => by cases hk))
      have HM1 := Lib.hid (World.ownsMap.kept HM.out hgrow1 (by simp))
      have hwm : w.heap.size < wr.heap.size := World.ownsMap.lt HM.out
      clear hown1 hgrow1 HM HB HCk
      have HD := Lib.hid (show discL m p = rowL (fillL (mustL m p m.size)) p from rfl)
      have FZ := Lib.hid (fun r => show fillL (mustL m p m.size) (r + 1) = if mustL m p m.size (r + 1) = 0 then fillL (mustL m p m.size) r else mustL m p m.size (r + 1) from rfl)
      have FV := Lib.hid (fun q h => fillL_of (L := mustL m p m.size) (p := q) h)
      generalize wr.heap.size = g at *
      generalize mustL m p m.size = L at *
      generalize hdl : discL m p = dl at HD
      have HX := Lib.hid hdl
      clear hdl
      generalize Want m p m.size = DD at *
      go_wp2_with fail
      go_loopw [32] (fun i wr => ∃ k : Nat, k ≤ p ∧ i = .int .i64 k ∧ Hid (RowF wr g g p (fun j => if j < k then fillL L j else 0)) ∧ Hid (wr.ownsMap Try.prog 2 (plainElem (H := Unit) Try.prog 5) w.heap.size m.size DD) ∧ Hid (Below w.heap.size w wr)) (fun i _ => p - (intOf i).toNat)
      case atStart => exact ⟨0, Nat.zero_le _, rfl, HO1, HM1, HB1⟩
      case round =>
        obtain ⟨k, hk, rfl, HO, HM, HB⟩ := hrel
        by_cases hlt2 : k < p
        · have hbz2 := HB.out.size
          have hc := HO.out.cell hlt2
          have hf := HO.out.frozen k
          have hkey := keyK k (by omega)
          have HH := Lib.hid (WH.out k)
          have HA := Lib.hid (WA.out k)
          by_cases z : L k = 0
          · have hk0 : k ≠ 0 := fun e => M0.out (by rw [← e]; exact z)
            obtain ⟨r, hr⟩ : ∃ r, k = r + 1 := ⟨k - 1, by omega⟩
            have hrp : r < p := by omega
            have e1 : (k : Int) - 1 = (r : Int) := by omega
            have hc2 := HO.out.cell hrp
            rw [if_pos (by omega)] at hc2
            have FZr := FZ.out r
            rw [← hr, if_pos z] at FZr
            obtain ⟨S1, S2⟩ := HO.out.set hlt2 (fillL L r) (f' := fun j => if j < k + 1 then fillL L j else 0) (fun j _ => fillTo_step L k _ FZr (fun _ => 0) j)
            have H1 := Lib.hid S1
            have H2 := Lib.hid S2
            have HZ := Lib.hid z
            clear S1 S2 FZr z hr
            generalize ((fillL L r).toNat : Int) = cn at *
            go_wp2_with (first | (at_lookup; refine wpList_lookup_own_ok_int _ rfl _ _ 144 rfl 2 5 .u8 keyL Try.underlying144 Try.underlying5 (zeroU8 _) w.heap.size m.size _ rfl HM.out _ _ rfl hkey ?_; intro c hat hwc; rw [HH.out, decide_eq_false (by simpa using HZ.out)]) | fail)
            go_roundw
            case rel => exact ⟨k + 1, by omega, by go_num, Lib.hid H1.out, Lib.hid (World.ownsMap.kept HM.out H2.out (by simp; omega)), Lib.hid (Below.grown HB.out H2.out hbz2 (fun j hj => by injection hj; omega))⟩
            case measure => simp [intOf]; omega
          · obtain ⟨S1, S2⟩ := HO.out.set hlt2 (L k) (f' := fun j => if j < k + 1 then fillL L j else 0) (fun j _ => fillTo_step L k _ (FV.out k z) (fun _ => 0) j)
            have H1 := Lib.hid S1
            have H2 := Lib.hid S2
            have HZ := Lib.hid z
            clear S1 S2 z
            generalize ((L k).toNat : Int) = cn at *
            go_wp2_with (first | (at_lookup; refine wpList_lookup_own_ok_int _ rfl _ _ 144 rfl 2 5 .u8 keyL Try.underlying144 Try.underlying5 (zeroU8 _) w.heap.size m.size _ rfl HM.out _ _ rfl hkey ?_; intro c hat hwc; rw [HH.out, decide_eq_true (by simpa using HZ.out)]; obtain rfl : cn = c := by { rw [HA.out] at hat; injection hat with h1; injection h1 }) | fail)
            go_roundw
            case rel => exact ⟨k + 1, by omega, by go_num, Lib.hid H1.out, Lib.hid (World.ownsMap.kept HM.out H2.out (by simp; omega)), Lib.hid (Below.grown HB.out H2.out hbz2 (fun j hj => by injection hj; omega))⟩
            case measure => simp [intOf]; omega
        · have hkp : k = p := by omega
          have HO' := Lib.hid (HO.out.congr (f' := fillL L) fun j hj => if_pos (by omega))
          have hcv := textOwn _ g p _ p wr (rowL_length _ _) HO'.out
          rw [← HD.out] at hcv
          clear hkp
          go_wp2
          go_ret
          exact ⟨ret_text (by rw [HX.out]), HB.out⟩


theorem ret_eqT {a b c d : ByteArray} (h1 : a = b) (h2 : c = d) : Ending.returned (.bool (a.toList == c.toList)) = .returned (.bool (eqT b d)) := by rw [h1, h2]; rfl

set_option maxRecDepth 100000 in
/-- impl.shows, of a disc for the motion. -/
theorem shows_any (d m : ByteArray) (w : World) (d1 : 1 ≤ d.size) (d2 : d.size ≤ 24) (s1 : 1 ≤ m.size) (s2 : m.size ≤ 24) :
    Calls Try.prog 121 #[.string d, .string m] w fun e w' => e = .returned (.bool (eqT (txt (showL d m.size)) m)) ∧ Below w.heap.size w w' := by
  have M := Lib.hid (fun w => motionOf_any d m.size w d1 d2 s1 s2)
  generalize txt (showL d m.size) = x at *
  go_enter Try.func121, Try.ntmps121
  go_wp2_with fail
  refine (M.out _).mono ?_
  rintro e u ⟨rfl, hb⟩
  go_wp2_with fail
  go_ret
  exact ⟨rfl, hb⟩
theorem showsDisc_any (m : ByteArray) (p : Nat) (w : World) (hm : motB m = true) (p1 : 1 ≤ p) (p2 : p ≤ 24) :
    Calls Try.prog 121 #[.string (txt (discL m p)), .string m] w fun e w' => e = .returned (.bool (fitsB m p)) ∧ Below w.heap.size w w' := by
  obtain ⟨s1, s2⟩ := motB_size hm
  rw [← show_fits hm p1]
  exact shows_any _ m w (by rw [txt_size, discL_length]; exact p1) (by rw [txt_size, discL_length]; exact p2) s1 s2

end Go.Proofs.Ytibafngidpmgdaa
