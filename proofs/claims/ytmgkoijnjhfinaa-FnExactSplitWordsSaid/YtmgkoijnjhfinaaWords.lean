/- Words: the program's, by the library's fields, and the model's, by bytes; and the statement's own walk. -/
import Derived.Test.YtmgkoijnjhfinaaProg
import Derived.Test.YtmgkoijnjhfinaaTexts
import Derived.Test.YtmgkoijnjhfinaaWordMath
import Derived.Test.YtmgkoijnjhfinaaShelf
import Derived.Laws.AppendOwn
import Derived.Laws.OwnMore
import Derived.OwnWalk
import Derived.Tactics
import Derived.Tactics2
import Derived.WalkKit
import Derived.LoopTactic
import Derived.BigQuiet
import Derived.RegionTactic
import Derived.Deep.QuietTactic
import Derived.Outline
import Derived.Lib.Hide
import Derived.Below
import Derived.KernelRfl
namespace Go.Proofs.Ytmgkoijnjhfinaa
set_option linter.unusedSimpArgs false
set_option linter.unusedVariables false
open Go.RowKit

/-- impl.isBlank. -/
theorem isBlank_any (x : Nat) (w : World) (hx : x ≤ 1114111) :
    Calls Try.prog 66 #[.int .i32 x] w fun e w' => e = .returned (.bool (isBlankR x)) ∧ ∃ q, w' = w.drewN q := by
  unfold isBlankR
  by_cases h : x = 32
  · have hb : ((x : Int) == 32) = true := by rw [beq_iff_eq]; omega
    have hn : (x == 32) = true := by rw [beq_iff_eq]; exact h
    rw [hn]
    clear h hn
    go_enter Try.func66, Try.ntmps66
    go_wp2
    go_ret
    exact ⟨rfl, 0, rfl⟩
  · have hb : ((x : Int) == 32) = false := by rw [beq_eq_false_iff_ne]; omega
    have hn : (x == 32) = false := by rw [beq_eq_false_iff_ne]; exact h
    rw [hn]
    clear h hn
    go_enter Try.func66, Try.ntmps66
    go_wp2
    go_ret
    exact ⟨rfl, 0, rfl⟩

theorem blank_pays (w : World) : PredAtRunes Try.prog 66 #[] isBlankR w := fun W x hx _ => isBlank_any x W hx

/-- impl.SplitWords. -/
theorem implWords_any (s : ByteArray) (w : World) (hs : s.size ≤ 1048576) :
    Calls Try.prog 32 #[.string s] w fun e w' => ∃ v, e = .returned v ∧ Strs w' w.heap.size v (wordsOf s) ∧ Below w.heap.size w w' := by
  have C := Try.strings_FieldsFunc_runes 66 #[] (enters_of Try.func66 (by kernel_rfl) rfl) isBlankR s w (by omega) (blank_pays w)
  rw [fields_words] at C
  have C := Lib.hid C
  generalize wordsOf s = ws at *
  go_enter Try.func32, Try.ntmps32
  go_wp2_with fail
  refine C.out.mono ?_
  rintro e u ⟨A, rfl, _, hown, hb⟩
  have HO := Lib.hid hown
  clear hown
  go_wp2_with fail
  go_ret
  exact ⟨_, rfl, HO.out, hb⟩

theorem infoStr : (Try.prog.info? 9).map (fun i => (i.zero, i.size, i.bytes)) = some (some (.string ⟨#[]⟩), 1, 16) := by kernel_rfl
theorem one_newS (w : World) (x : ByteArray) (t : TypeId) : ∀ j u, [Value.string x][j]? = some u → (w.alloc (.cells #[.string x] t)).cell? ((⟨w.heap.size, 0, none⟩ : Addr).add j) = some u := by
  intro j u hj
  match j, hj with
  | 0, hj =>
    simp at hj
    subst hj
    simp [Addr.add]
theorem one_cellS (x : ByteArray) : ∀ u ∈ [Value.string x], u.oneCell' = true := by
  intro u hu
  simp at hu
  subst hu
  rfl
theorem get_at (s : ByteArray) (k : Nat) (h : k < s.size) : (s.get! k).toNat = (s[k]'h).toNat := by
  have : s.get! k = s[k]'h := by
    show s.data[k]! = s.data[k]
    exact getElem!_pos s.data k h
  rw [this]

set_option maxHeartbeats 2000000 in
/-- spec.l01Split, between blanks. -/
theorem l01Split_any (s : ByteArray) (w : World) (hs : s.size ≤ 1048576) :
    Calls Try.prog 64 #[.string s, .int .u8 32] w fun e w' => ∃ v, e = .returned v ∧ Strs w' w.heap.size v ((partsOf s).map (part s)) ∧ Below w.heap.size w w' := by
  obtain ⟨i0, hi, hz0, hz1, hz2⟩ := info_parts infoStr
  go_enter Try.func64, Try.ntmps64
  go_wp2
  go_loopw [7, 6, 5] (fun i f v wr => ∃ k a : Nat, k ≤ s.size ∧ i = .int .i64 k ∧ f = .int .i64 a ∧ Hid (a = (cutsAt s k).2) ∧ a ≤ k ∧ Hid (wr.ownsRow w.heap.size 9 1 v (cutsAt s k).1.length (((cutsAt s k).1.map (part s)).map Value.string)) ∧ Hid (Below w.heap.size w wr)) (fun i _ _ _ => s.size - (intOf i).toNat)
  case atStart => exact ⟨0, 0, Nat.zero_le _, rfl, rfl, Lib.hid rfl, Nat.le_refl _, Lib.hid (World.ownsRow_lit w #[] 0 (Nat.le_refl _) (Nat.zero_le _) rfl), Lib.hid (bAlloc (Below.refl _ _) _)⟩
  case round =>
    obtain ⟨k, a, hk, rfl, rfl, HA, hak, HO, HB⟩ := hrel
    have hbz := HB.out.size
    have hcl := cutsAt_length s k
    by_cases hlt : k < s.size
    · have hget := get_at s k hlt
      by_cases h32 : (s.get! k).toNat = 32
      · have HC := Lib.hid (cutsAt_blank h32)
        have hb : (((s[k]'hlt).toNat : Int) == 32) = true := by rw [beq_iff_eq, ← hget]; omega
        clear h32 hget
        go_wp2_with (first | (at_builtin; refine wpList_append_own _ rfl _ _ 44 rfl w.heap.size 9 i0 (.string ⟨#[]⟩) 1 16 Try.underlying44 hi hz0 hz1 hz2 rfl (by decide) _ _ _ rfl (HO.out.alloc _) ⟨wr.heap.size, 0, none⟩ 1 1 [.string (s.extract a k)] rfl rfl (one_newS _ _ _) (one_cellS _) (by unfold maxLen; omega) (by omega) (by simp; omega) ?_; intro v' w1 hown' hgrow hnil))
        have HO' := Lib.hid hown'
        have HB' := Lib.hid (Below.grown (bAlloc HB.out _) hgrow (by simp; omega) (fun j hj => (World.ownsRow.lt HO.out j hj).1))
        clear hown' hgrow hnil
        go_wp2
        go_roundw
        case rel => exact ⟨k + 1, k + 1, by omega, by go_num, by go_num, Lib.hid (by rw [HC.out]), Nat.le_refl _, Lib.hid (by rw [HC.out, List.map_append, List.map_append, List.length_append, ← HA.out]; exact HO'.out), HB'⟩
        case measure => simp [intOf]; omega
      · have HC := Lib.hid (cutsAt_letter h32)
        have hb : (((s[k]'hlt).toNat : Int) == 32) = false := by rw [beq_eq_false_iff_ne, ← hget]; omega
        clear h32 hget
        go_wp2
        go_roundw
        case rel => exact ⟨k + 1, a, by omega, by go_num, rfl, Lib.hid (by rw [HC.out]; exact HA.out), by omega, Lib.hid (by rw [HC.out]; exact HO.out), HB⟩
        case measure => simp [intOf]; omega
    · have : k = s.size := by omega
      subst this
      go_wp2_with (first | (at_builtin; refine wpList_append_own _ rfl _ _ 44 rfl w.heap.size 9 i0 (.string ⟨#[]⟩) 1 16 Try.underlying44 hi hz0 hz1 hz2 rfl (by decide) _ _ _ rfl (HO.out.alloc _) ⟨wr.heap.size, 0, none⟩ 1 1 [.string (s.extract a s.size)] rfl rfl (one_newS _ _ _) (one_cellS _) (by unfold maxLen; omega) (by omega) (by simp; omega) ?_; intro v' w1 hown' hgrow hnil))
      have HO' := Lib.hid hown'
      have HB' := Lib.hid (Below.grown (bAlloc HB.out _) hgrow (by simp; omega) (fun j hj => (World.ownsRow.lt HO.out j hj).1))
      clear hown' hgrow hnil
      go_wp2
      go_ret
      refine ⟨_, rfl, ?_, HB'.out⟩
      unfold Strs partsOf
      rw [List.length_map, List.length_append, List.map_append, List.map_append, ← HA.out]
      exact HO'.out

/-- The texts of a list that are not empty. -/
def fullOf (l : List ByteArray) : List ByteArray := l.filter fun t => !decide (t.size = 0)
theorem fullOf_take (l : List ByteArray) (k : Nat) (h : k < l.length) : fullOf (l.take (k + 1)) = if (l.getD k ByteArray.empty).size = 0 then fullOf (l.take k) else fullOf (l.take k) ++ [l.getD k ByteArray.empty] := by
  unfold fullOf
  rw [List.take_add_one, List.getElem?_eq_getElem h, List.filter_append, List.getD_eq_getElem?_getD, List.getElem?_eq_getElem h]
  by_cases hz : (l[k]).size = 0
  · have h1 : decide ((l[k]).size = 0) = true := decide_eq_true hz
    simp only [Option.toList, List.filter_cons, List.filter_nil, h1, Option.getD_some, hz, if_true, decide_true, Bool.not_true, Bool.false_eq_true, if_false, List.append_nil]
  · have h1 : decide ((l[k]).size = 0) = false := decide_eq_false hz
    simp only [Option.toList, List.filter_cons, List.filter_nil, h1, Option.getD_some, hz, if_true, decide_false, Bool.not_false, if_false]
theorem fullOf_length (l : List ByteArray) (k : Nat) : (fullOf (l.take k)).length ≤ k := by
  unfold fullOf
  refine Nat.le_trans (List.length_filter_le _ _) ?_
  rw [List.length_take]
  omega
theorem text_empty {t : ByteArray} (h : t.size = 0) : t.toList = [] := by rw [ByteArray.toList_eq]; exact List.eq_nil_of_length_eq_zero (by simpa using h)
theorem text_full {t : ByteArray} (h : ¬ t.size = 0) : t.toList.isEmpty = false := by
  rw [ByteArray.toList_eq]
  cases hl : t.data.toList with
  | nil => exact absurd (by simpa using congrArg List.length hl) h
  | cons => rfl

set_option maxHeartbeats 2000000 in
/-- spec.SplitWords. -/
theorem specWords_any (s : ByteArray) (w : World) (hs : s.size ≤ 1048576) :
    Calls Try.prog 31 #[.string s] w fun e w' => ∃ v, e = .returned v ∧ Strs w' w.heap.size v (wordsOf s) ∧ Below w.heap.size w w' := by
  obtain ⟨i0, hi, hz0, hz1, hz2⟩ := info_parts infoStr
  have C := Lib.hid (fun w => l01Split_any s w hs)
  have hW : wordsOf s = fullOf ((partsOf s).map (part s)) := rfl
  have hLen : ((partsOf s).map (part s)).length ≤ 1048577 := by
    have := cutsAt_length s s.size
    unfold partsOf
    rw [List.length_map, List.length_append, List.length_singleton]
    omega
  rw [hW]
  clear hW
  generalize (partsOf s).map (part s) = L at *
  go_enter Try.func31, Try.ntmps31
  go_wp2_with fail
  refine (C.out _).mono ?_
  rintro e u1 ⟨v, rfl, io, hb1⟩
  have HB1 := Lib.hid hb1
  have hz := hb1.size
  have hV := io.view
  clear io hb1
  obtain ⟨ad, cp, rfl, hc⟩ : ∃ ad cp, v = .slice ad L.length cp ∧ ∀ j, j < L.length → ∃ g, ad = some ⟨g, 0, none⟩ ∧ g < u1.heap.size ∧ u1.cell? ⟨g, j, none⟩ = some (.string (L.getD j ByteArray.empty)) := by
    rcases hV with ⟨rfl, rfl⟩ | ⟨g, cap, rfl, _, hg, _, hcc, _⟩
    · exact ⟨none, 0, rfl, fun j hj => absurd hj (Nat.not_lt_zero j)⟩
    · exact ⟨_, _, rfl, fun j hj => ⟨g, rfl, hg, hcc j hj⟩⟩
  have HC := Lib.hid hc
  clear hc hV
  go_wp2
  go_loopw [5, 4] (fun i v wr => ∃ k : Nat, k ≤ L.length ∧ i = .int .i64 k ∧ Hid (wr.ownsRow u1.heap.size 9 1 v (fullOf (L.take k)).length ((fullOf (L.take k)).map Value.string)) ∧ Hid (Below u1.heap.size u1 wr)) (fun i _ _ => L.length - (intOf i).toNat)
  case atStart => exact ⟨0, Nat.zero_le _, rfl, Lib.hid (World.ownsRow_lit u1 #[] 0 (Nat.le_refl _) (Nat.zero_le _) rfl), Lib.hid (bAlloc (Below.refl _ _) _)⟩
  case round =>
    obtain ⟨k, hk, rfl, HO, HB⟩ := hrel
    have hbz := HB.out.size
    have hfl := fullOf_length L k
    by_cases hlt : k < L.length
    · obtain ⟨g, rfl, hg, hcell⟩ := HC.out k hlt
      have c1 : wr.cell? ⟨g, k, none⟩ = some (.string (L.getD k ByteArray.empty)) := (HB.out.cell (by exact hg)).trans hcell
      have hstep := fullOf_take L k hlt
      have lg : g < wr.heap.size := by omega
      clear hcell
      generalize L.getD k ByteArray.empty = t at *
      by_cases h0 : t.size = 0
      · rw [if_pos h0] at hstep
        have HS := Lib.hid hstep
        have hE := text_empty h0
        clear hstep h0
        go_wp2
        go_roundw
        case rel => exact ⟨k + 1, by omega, by go_num, Lib.hid (by rw [HS.out]; exact HO.out), HB⟩
        case measure => simp [intOf]; omega
      · rw [if_neg h0] at hstep
        have HS := Lib.hid hstep
        have hE := text_full h0
        clear hstep h0
        go_wp2_with (first | (at_builtin; refine wpList_append_own _ rfl _ _ 44 rfl u1.heap.size 9 i0 (.string ⟨#[]⟩) 1 16 Try.underlying44 hi hz0 hz1 hz2 rfl (by decide) _ _ _ rfl (HO.out.alloc _) ⟨wr.heap.size, 0, none⟩ 1 1 [.string t] rfl rfl (one_newS _ _ _) (one_cellS _) (by unfold maxLen; omega) (by omega) (by simp; omega) ?_; intro v' w1 hown' hgrow hnil))
        have HO' := Lib.hid hown'
        have HB' := Lib.hid (Below.grown (bAlloc HB.out _) hgrow (by simp; omega) (fun j hj => (World.ownsRow.lt HO.out j hj).1))
        clear hown' hgrow hnil
        go_wp2
        go_roundw
        case rel => exact ⟨k + 1, by omega, by go_num, Lib.hid (by rw [HS.out, List.map_append, List.length_append]; exact HO'.out), HB'⟩
        case measure => simp [intOf]; omega
    · have : k = L.length := by omega
      subst this
      have h1 := HO.out
      rw [List.take_length] at h1
      have H1 := Lib.hid h1
      clear h1
      go_wp2
      go_ret
      exact ⟨_, rfl, ⟨H1.out.1, H1.out.2.imp id (fun ⟨a, b, c, d, e, f⟩ => ⟨a, b, c, d, Nat.le_trans hz e, f⟩)⟩, HB1.out.trans (HB.out.mono hz)⟩

theorem markS1 (B : Nat) (v : Value) (zs : List ByteArray) (w : World) (hv : Strs w B v zs) (hl : zs.length ≤ 100000000) :
    Calls Try.prog 34 #[v, .int .i64 1] w fun e w' => e = .returned (.int .i64 ((1 + zs.length : Nat) : Int)) ∧ Strs w' B v (marksS 1 zs.length) ∧ w.grownBy w' v.ownBlock := markStringS_any B 1 v zs w hv (Nat.le_refl _) (by omega) hl
theorem heldS1 (B n : Nat) (v : Value) (w : World) (hv : Strs w B v (marksS 1 n)) (hl : n ≤ 100000000) :
    Calls Try.prog 35 #[v, .int .i64 1] w fun e w' => e = .returned (.int .i64 ((1 + n : Nat) : Int)) ∧ Below w.heap.size w w' := heldStringS_any B 1 n v w hv (Nat.le_refl _) (by omega) hl

set_option maxRecDepth 20000 in
theorem lawWords_of (s : ByteArray) (zs : List ByteArray) (w : World) (hs0 : s.size ≤ 1048576) (hl : zs.length ≤ 2000000)
    (hs : ∀ w : World, Calls Try.prog 31 #[.string s] w fun e w' => ∃ v, e = .returned v ∧ Strs w' w.heap.size v zs ∧ Below w.heap.size w w')
    (hi : ∀ w : World, Calls Try.prog 32 #[.string s] w fun e w' => ∃ v, e = .returned v ∧ Strs w' w.heap.size v zs ∧ Below w.heap.size w w') :
    Calls Try.prog 5 #[.string s] w fun e w' => e = .returned (.bool true) ∧ Below w.heap.size w w' := by
  have S := Lib.hid hs
  have I := Lib.hid hi
  clear hs hi
  go_enter Try.func5, Try.ntmps5
  go_wp2_with fail
  refine (S.out _).mono ?_
  rintro e u1 ⟨v1, rfl, i1, hb1⟩
  have L1 := hb1
  have I1 := Lib.hid i1
  clear i1
  go_wp2_with fail
  refine (I.out _).mono ?_
  rintro e u2 ⟨v2, rfl, i2, hb2⟩
  have J1 : Hid (Strs u2 w.heap.size v1 zs) := Lib.hid (ownsBelow I1.out hb2)
  have I2 := Lib.hid i2
  have L2 : Below w.heap.size w u2 := bTrans L1 hb2
  clear i2
  go_wp2_with fail
  refine (eqStringS_same _ _ v2 v1 zs _ I2.out J1.out).mono ?_
  rintro e u ⟨rfl, n, rfl⟩
  go_wp2_with fail
  refine (markS1 _ v2 zs _ (I2.out.drewN n) (by omega)).mono ?_
  rintro e u4 ⟨rfl, m4, g4⟩
  have L4 : Below w.heap.size w u4 := Below.grown (bDrewN L2 n) g4 (bDrewN L2 n).size (fun k hk => by have := (World.ownsRow.lt I2.out k hk).1; have := L1.size; omega)
  have K1 : Hid (Strs u4 w.heap.size v1 zs) := Lib.hid (World.ownsRow.kept (J1.out.drewN n) g4 (by
    cases h1 : v1.ownBlock with
    | none => exact .inl rfl
    | some k =>
      refine .inr (fun e => ?_)
      have q1 := (World.ownsRow.lt I1.out k h1).2
      have q2 := (World.ownsRow.lt I2.out k e.symm).1
      omega))
  have M4 := Lib.hid m4
  clear m4 g4
  go_wp2_with fail
  refine (heldS1 _ zs.length v2 _ M4.out (by omega)).mono ?_
  rintro e u5 ⟨rfl, hb5⟩
  have K5 : Hid (Strs u5 w.heap.size v1 zs) := Lib.hid (ownsBelow K1.out hb5)
  have M5 : Hid (Strs u5 u1.heap.size v2 (marksS 1 zs.length)) := Lib.hid (ownsBelow M4.out hb5)
  have L5 := bTrans L4 hb5
  clear hb5
  go_wp2_with fail
  refine (I.out _).mono ?_
  rintro e u6 ⟨v3, rfl, i6, hb6⟩
  have N1 : Hid (Strs u6 w.heap.size v1 zs) := Lib.hid (ownsBelow K5.out hb6)
  have N2 : Hid (Strs u6 u1.heap.size v2 (marksS 1 zs.length)) := Lib.hid (ownsBelow M5.out hb6)
  have I6 := Lib.hid i6
  clear i6
  go_wp2_with fail
  refine (eqStringS_same _ _ v3 v1 zs _ I6.out N1.out).mono ?_
  rintro e u ⟨rfl, n2, rfl⟩
  go_wp2_with fail
  refine (heldS1 _ zs.length v2 _ (N2.out.drewN n2) (by omega)).mono ?_
  rintro e u7 ⟨rfl, hb7⟩
  go_wp2_with fail
  go_ret
  exact ⟨rfl, bTrans (bDrewN (bTrans L5 hb6) n2) hb7⟩

theorem lawWords_long (s : ByteArray) (w : World) (hs : 1048576 < s.size) (hm : s.size ≤ maxLen) :
    Calls Try.prog 5 #[.string s] w fun e w' => e = .returned (.bool true) ∧ Below w.heap.size w w' := by
  unfold maxLen at hm
  go_enter Try.func5, Try.ntmps5
  go_wp2_with fail
  go_ret
  exact ⟨rfl, Below.refl _ _⟩

/-- laws.FnExactSplitWords. -/
theorem law_SplitWords (s : ByteArray) (w : World) (hm : s.size ≤ maxLen) :
    Calls Try.prog 5 #[.string s] w fun e w' => e = .returned (.bool true) ∧ Below w.heap.size w w' := by
  by_cases hs : s.size ≤ 1048576
  · have hl : (wordsOf s).length ≤ 1048577 := by
      have := cutsAt_length s s.size
      unfold wordsOf
      refine Nat.le_trans (List.length_filter_le _ _) ?_
      unfold partsOf
      rw [List.length_map, List.length_append, List.length_singleton]
      omega
    exact lawWords_of s (wordsOf s) w hs (by omega) (fun w => specWords_any s w hs) (fun w => implWords_any s w hs)
  · exact lawWords_long s w (by omega) hm

end Go.Proofs.Ytmgkoijnjhfinaa
