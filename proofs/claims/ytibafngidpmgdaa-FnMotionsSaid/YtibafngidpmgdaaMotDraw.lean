/- What the laws of chapter 6 draw: motions. -/
import Derived.Test.YtibafngidpmgdaaMot2
import Derived.Test.YtibafngidpmgdaaMotRow
import Derived.Test.YtibafngidpmgdaaSrc
import Derived.Test.YtibafngidpmgdaaSmall
import Derived.Laws.AppendOwn
import Derived.Laws.OwnMore
import Derived.IntWalk
import Derived.WalkSpells
import Derived.OwnWalk
import Derived.Tactics
import Derived.Tactics2
import Derived.WalkKit
import Derived.LoopTactic
import Derived.BigQuiet
import Derived.RegionTactic
import Derived.Deep.QuietTactic
import Derived.Outline
import Derived.Lib.Hide
import Derived.Below
import Derived.KernelRfl
namespace Go.Proofs.Ytibafngidpmgdaa
set_option linter.unusedSimpArgs false
set_option linter.unusedVariables false
open Go.RowKit

/-- What a draw of a motion leaves. -/
def DrawnM (b : Nat) (w : World) (e : Ending) (w' : World) : Prop := ∃ x : ByteArray, e = .returned (.string x) ∧ motB x = true ∧ x.size ≤ 12 ∧ Only b w w'

theorem ownsOnly {w u : World} {b B : Nat} {v : Value} {l : List UInt8} (h : Byts w B v l) (ho : Only b w u) (hb : b < B) : Byts u B v l :=
  World.ownsRow.kept h ho (by
    cases hv : v.ownBlock with
    | none => exact .inl rfl
    | some k => exact .inr (fun e => by
        injection e with e
        have := (World.ownsRow.lt h k hv).1
        omega))
theorem onlyOwn {b : Nat} {a w u : World} {v : Value} (h : Only b a w) (g : w.grownBy u v.ownBlock) (hv : ∀ k, v.ownBlock = some k → a.heap.size ≤ k) : Only b a u :=
  ⟨g.os.trans h.os, g.tape.trans h.tape, g.output.trans h.output, Nat.le_trans h.size g.size, fun i hi hne => (g.block i (Nat.lt_of_lt_of_le hi h.size) (fun e => by have := hv i e.symm; omega)).trans (h.block i hi hne)⟩
theorem srcGrown {w u : World} {b : Nat} {a : Option Addr} {len cap k : Nat} {seed : Int} {r : Option Nat} (h : Src w b a len cap k seed) (g : w.grownBy u r) (hr : ∀ j, r = some j → b < j) : Src u b a len cap k seed := by
  have := g.block b h.lt (fun e => by have := hr b e.symm; omega)
  unfold Src at *
  rw [this, h]
theorem abc_get {q : Nat} (h : q < 3) : ∃ c : UInt8, smallB c = true ∧ ((⟨#[97, 98, 99]⟩ : ByteArray)[q]'h) = c := by
  refine ⟨_, ?_, rfl⟩
  match q, h with
  | 0, _ => rfl
  | 1, _ => rfl
  | 2, _ => rfl
theorem double_motB {l : List UInt8} (h1 : 1 ≤ l.length) (h2 : l.length ≤ 6) (h : ∀ c ∈ l, smallB c = true) : motB (txt l ++ txt l) = true ∧ (txt l ++ txt l).size ≤ 12 := by
  have e : txt l ++ txt l = txt (l ++ l) := by
    rw [← txt_of (txt l ++ txt l)]
    congr 1
  rw [e]
  refine ⟨motB_txt (by rw [List.length_append]; omega) fun c hc => ?_, by rw [txt_size, List.length_append]; omega⟩
  rcases List.mem_append.1 hc with h3 | h3
  · exact h c h3
  · exact h c h3
theorem doubleAdd (l : List UInt8) (w : World) (h2 : l.length ≤ 6) : (Op.stringOp .add (txt l) (txt l)).run Try.prog w = .ok (.string (txt l ++ txt l)) w :=
  run_string_add_sum w _ _ (by rw [txt_size]; omega)
theorem ret_txt {a b : ByteArray} (h : a = b) : Ending.returned (.string a) = .returned (.string b) := by rw [h]

set_option maxHeartbeats 2000000 in
set_option maxRecDepth 100000 in
/-- spec.l06Draw. -/
theorem l06Draw_any (b : Nat) (a : Option Addr) (len cap : Nat) (seed0 : Int) (zs : List Int) (w : World) (h : Src w b a len cap 0 seed0) (hr : Row w a len cap zs) (ha : cap ≠ 0 → ∀ x, a = some x → x.block ≠ b) :
    Calls Try.prog 116 #[.pointer (some ⟨b, 0, none⟩)] w (DrawnM b w) := by
  obtain ⟨i0, hi, hz0, hz1, hz2⟩ := info_parts infoU8
  have hb := h.lt
  have H := Lib.hid h
  have R := Lib.hid hr
  have HA := Lib.hid ha
  clear h hr ha
  go_enter Try.func116, Try.ntmps116
  go_wp2_with fail
  refine (pick_small 6 b a len cap 0 seed0 zs _ (by omega) (by omega) (H.out.alloc _) (R.out.below (bAlloc (Below.refl _ _) _)) (by omega)).mono ?_
  rintro e u0 ⟨x, seed1, x0, x1, rfl, hs0, ho0⟩
  have HS0 := Lib.hid hs0
  have HO0 := Lib.hid (((Only.refl b w).alloc (.cells #[] 5)).trans ho0)
  have HR0 := Lib.hid ((R.out.below (bAlloc (Below.refl _ _) _)).only ho0 HA.out)
  have HP0 := Lib.hid (show Byts u0 w.heap.size (.slice (some ⟨w.heap.size, 0, none⟩) 0 0) [] from ownsOnly (World.ownsRow_lit w #[] 0 (Nat.le_refl _) (Nat.zero_le _) rfl) ho0 hb)
  clear hs0 ho0 H
  obtain ⟨N, hN⟩ : ∃ N : Nat, 1 + x = N := ⟨(1 + x).toNat, by omega⟩
  have hN1 : 1 ≤ N := by omega
  have hN9 : N ≤ 6 := by omega
  go_wp2_with fail
  go_loopw [4, 3] (fun i v wr => ∃ (r k : Nat) (sd : Int) (l : List UInt8), r + l.length = N ∧ k ≤ 1 + l.length ∧ i = .int .i64 r ∧ Hid (Byts wr w.heap.size v l) ∧ Hid (Src wr b a len cap k sd) ∧ Hid (Row wr a len cap zs) ∧ Hid (Only b w wr) ∧ Hid (∀ c ∈ l, smallB c = true)) (fun i _ _ => (intOf i).toNat)
  case atStart => exact ⟨N, _, _, [], by simp, by simp, rfl, HP0, HS0, HR0, HO0, Lib.hid (fun c hc => by simp at hc)⟩
  case round =>
    obtain ⟨r, k, sd, l, hrl, hk, rfl, HP, HS, HR, HO, HL⟩ := hrel
    by_cases hpos : 0 < r
    · obtain ⟨r', hr'⟩ : ∃ r', r = r' + 1 := ⟨r - 1, by omega⟩
      have hBw := HO.out.size
      have hwr : (r : Int) - 1 = (r' : Int) := by omega
      go_wp2_with fail
      refine (pick_small 3 b a len cap k sd zs _ (by omega) (by omega) HS.out HR.out (by omega)).mono ?_
      rintro e u ⟨y, seed2, y0, y1, rfl, hs1, ho1⟩
      have HS1 := Lib.hid hs1
      have HR1 := Lib.hid (HR.out.only ho1 HA.out)
      have HO1 := Lib.hid (HO.out.trans ho1)
      have HP1 := Lib.hid (ownsOnly HP.out ho1 hb)
      have hBu := HO1.out.size
      clear hs1 ho1 HS HR HO HP
      obtain ⟨q, rfl⟩ := Int.eq_ofNat_of_zero_le y0
      have hq : q < 3 := by omega
      obtain ⟨c, hcs, hc⟩ := abc_get hq
      have hq2 : (q : Int) < 3 := by omega
      go_wp2_with (at_builtin; refine wpList_append_own _ rfl _ _ 40 rfl w.heap.size 5 i0 (.int .u8 0) 1 1 Try.underlying40 hi hz0 hz1 hz2 rfl (by decide) _ _ _ rfl (HP1.out.alloc _) ⟨u.heap.size, 0, none⟩ 1 1 [.int .u8 (c.toNat : Int)] rfl rfl (newByte _ _ _) (oneByte _) (by unfold maxLen; omega) (by omega) (by simp; omega) ?_; intro v' w5 hown' hgrow hnil)
      have HP5 := Lib.hid (show Byts w5 w.heap.size v' (l ++ [c]) by
        unfold Byts
        rw [Lib.byteCells_append, byteOne, List.length_append]
        exact hown')
      have HO5 := Lib.hid (onlyOwn (HO1.out.alloc _) hgrow (fun k hk => (World.ownsRow.lt HP1.out k hk).1))
      have HS5 := Lib.hid (srcGrown (HS1.out.alloc _) hgrow (fun j hj => by have := (World.ownsRow.lt HP1.out j hj).1; omega))
      have HR5 := Lib.hid (R.out.only HO5.out HA.out)
      have HL5 := Lib.hid (fun d (hd : d ∈ l ++ [c]) => show smallB d = true from (List.mem_append.1 hd).elim (HL.out d) (fun e => by simp at e; subst e; exact hcs))
      clear hown' hgrow hnil
      go_wp2
      go_roundw
      case rel => exact ⟨r', k + 1, seed2, l ++ [c], by simp; omega, by simp; omega, by go_num, HP5, HS5, HR5, HO5, HL5⟩
      case measure => simp [intOf]; omega
    · have hr0 : r = 0 := by omega
      subst hr0
      have hl1 : 1 ≤ l.length := by omega
      have hl6 : l.length ≤ 6 := by omega
      obtain ⟨g, cap', rfl⟩ : ∃ g cap', u3 = .slice (some ⟨g, 0, none⟩) l.length cap' := by
        rcases HP.out.2 with ⟨_, h0⟩ | ⟨g, cap', _, h0, _⟩
        · omega
        · exact ⟨g, cap', h0⟩
      have hcv := textOwn _ g l.length l cap' wr rfl HP.out
      have hadd := fun w => doubleAdd l w hl6
      have hm1 : motB (txt l) = true := motB_txt (by omega) HL.out
      have D2 := Lib.hid (double_motB hl1 hl6 HL.out)
      have hz : (txt l).size = l.length := txt_size l
      have M := Lib.hid (fun n (n1 : 1 ≤ n) (n2 : n ≤ 24) w => l06Motion_any (txt l) n w (by rw [hz]; exact hl1) (by rw [hz]; omega) n1 n2)
      have SM := Lib.hid (fun n (n1 : 1 ≤ n) (n2 : n ≤ 24) => show_motB hm1 n1 n2)
      have SZ := Lib.hid (fun n => show (txt (showL (txt l) n)).size = n by rw [txt_size, showL_length])
      have T0 := Lib.hid (And.intro hm1 (show (txt l).size ≤ 12 by omega))
      clear hm1 hz hrl hl1
      generalize txt l = t at *
      go_wp2_with fail
      refine (pick_small 4 b a len cap k sd zs _ (by omega) (by omega) HS.out HR.out (by omega)).mono ?_
      rintro e u ⟨y, seed2, y0, y1, rfl, hs1, ho1⟩
      have HS1 := Lib.hid hs1
      have HR1 := Lib.hid (HR.out.only ho1 HA.out)
      have HO1 := Lib.hid (HO.out.trans ho1)
      clear hs1 ho1 HS HR HO HP
      by_cases z0 : y = 0
      · subst z0
        go_wp2_with fail
        go_ret
        exact ⟨_, rfl, D2.out.1, D2.out.2, HO1.out⟩
      · have d0 : (y == 0) = false := beq_eq_false_iff_ne.2 z0
        by_cases z1 : y = 1
        · subst z1
          go_wp2_with fail
          refine (pick_small 12 b a len cap _ _ zs _ (by omega) (by omega) HS1.out HR1.out (by omega)).mono ?_
          rintro e u5 ⟨n, seed3, n0, n1, rfl, hs2, ho2⟩
          have HO2 := Lib.hid (HO1.out.trans ho2)
          clear hs2 ho2
          obtain ⟨q, hq⟩ : ∃ q : Nat, 1 + n = q := ⟨(1 + n).toNat, by omega⟩
          have hq1 : 1 ≤ q := by omega
          have hq2 : q ≤ 12 := by omega
          have Mq := Lib.hid (M.out q hq1 (by omega))
          have Sq := Lib.hid (And.intro (SM.out q hq1 (by omega)) (show (txt (showL t q)).size ≤ 12 by rw [SZ.out]; exact hq2))
          generalize txt (showL t q) = z at *
          go_wp2_with fail
          refine (Mq.out _).mono ?_
          rintro e u6 ⟨rfl, hb6⟩
          have HO3 := Lib.hid (HO2.out.trans (belowOnly hb6 (Nat.lt_of_lt_of_le hb HO2.out.size)))
          clear hb6
          go_wp2_with fail
          go_ret
          exact ⟨_, rfl, Sq.out.1, Sq.out.2, HO3.out⟩
        · have d1 : (y == 1) = false := beq_eq_false_iff_ne.2 z1
          go_wp2_with fail
          go_ret
          exact ⟨_, rfl, T0.out.1, T0.out.2, HO1.out⟩

/-- spec.A2Motion. -/
theorem A2Motion_any (a : Option Addr) (len cap : Nat) (zs : List Int) (w : World) (hr : Row w a len cap zs) :
    Calls Try.prog 60 #[.slice a len cap] w fun e w' => ∃ x : ByteArray, e = .returned (.string x) ∧ motB x = true ∧ x.size ≤ 12 ∧ Below w.heap.size w w' := by
  have ha : cap ≠ 0 → ∀ x, a = some x → x.block < w.heap.size := by
    intro h0 x hx
    rcases hr with ⟨_, h⟩ | ⟨c, off, h, _, _, _, h4, _⟩
    · exact absurd h h0
    · rw [h] at hx; cases hx; exact h4
  go_enter Try.func60, Try.ntmps60
  go_wp2_with fail
  refine (from_any a len cap _).mono ?_
  rintro e u1 ⟨rfl, hu⟩
  have S1 : Src u1 w.heap.size a len cap 0 0 := by
    subst hu
    show (w.heap.push _)[w.heap.size]? = _
    rw [Array.getElem?_push, if_pos rfl]
    rfl
  have L1 : Below w.heap.size w u1 := by
    subst hu
    exact bAlloc (Below.refl _ _) _
  have R1 := hr.below L1
  clear hu hr
  go_wp2_with fail
  refine (l06Draw_any w.heap.size a len cap 0 zs u1 S1 R1 (fun h0 x hx => by have := ha h0 x hx; omega)).mono ?_
  rintro e u2 ⟨x, rfl, x1, x2, ho⟩
  have B2 := Lib.hid (L1.trans (ho.below (Nat.le_refl _) L1.size))
  clear ho
  go_wp2_with fail
  go_ret
  exact ⟨x, rfl, x1, x2, B2.out⟩

end Go.Proofs.Ytibafngidpmgdaa
