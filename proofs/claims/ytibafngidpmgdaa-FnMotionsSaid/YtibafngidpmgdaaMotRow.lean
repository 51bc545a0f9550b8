/- What a disc shows: in the program and in the model; MotionOf's statement. -/
import Derived.Test.YtibafngidpmgdaaMotOk
import Derived.Test.YtibafngidpmgdaaOrder
import Derived.Test.YtibafngidpmgdaaLists
import Derived.Laws.AppendOwn
import Derived.Laws.OwnMore
import Derived.Laws.BytesString
import Derived.Laws.Cells
import Derived.Lib.RuneBytes
import Derived.OwnWalk
import Derived.RangeFuncBox
import Derived.Tactics
import Derived.Tactics2
import Derived.WalkKit
import Derived.LoopTactic
import Derived.BigQuiet
import Derived.RegionTactic
import Derived.Deep.QuietTactic
import Derived.Outline
import Derived.Lib.Hide
import Derived.Below
import Derived.KernelRfl
namespace Go.Proofs.Ytibafngidpmgdaa
set_option linter.unusedSimpArgs false
set_option linter.unusedVariables false
open Go.RowKit

theorem infoU8 : (Try.prog.info? 5).map (fun i => (i.zero, i.size, i.bytes)) = some (some (.int .u8 0), 1, 1) := by kernel_rfl
theorem ret_text {a b : ByteArray} (h : a = b) : Ending.returned (.string a) = .returned (.string b) := by rw [h]

/-- Letters of the call's own: nil, or a row in a block from B on. -/
abbrev Byts (w : World) (B : Nat) (v : Value) (l : List UInt8) : Prop := w.ownsRow B 5 1 v l.length (Lib.byteCells l)
theorem Byts.below {w u : World} {B : Nat} {v : Value} {l : List UInt8} (h : Byts w B v l) (hb : Below w.heap.size w u) : Byts u B v l := by
  cases hv : v.ownBlock with
  | none => exact World.ownsRow.kept h (grownNone hb none) (.inl hv)
  | some k => exact World.ownsRow.kept h (grownNone hb none) (.inr (by rw [hv]; simp))

theorem bytePush (l : List UInt8) : ∀ s : ByteArray, (l.map fun c => (c.toNat : Int)).foldl (fun r n => r.push (UInt8.ofNat n.toNat)) s = ⟨s.data ++ l.toArray⟩ := by
  induction l with
  | nil => intro s; simp
  | cons c l ih =>
    intro s
    simp only [List.map_cons, List.foldl_cons]
    rw [ih]
    have e : UInt8.ofNat ((c.toNat : Int)).toNat = c := by simp
    rw [e]
    simp [ByteArray.push, ← Array.toList_inj]
/-- string(b) of letters that the call made. -/
theorem textOwn (B g n : Nat) (l : List UInt8) (cap : Nat) (w : World) (hl : l.length = n) (hown : w.ownsRow B 5 1 (.slice (some ⟨g, 0, none⟩) n cap) n (Lib.byteCells l)) :
    (convert 40 9 (.slice (some ⟨g, 0, none⟩) n cap)).run Try.prog w = .ok (.string (txt l)) w := by
  subst hl
  rw [run_convert_bytes_string w _ _ _ _ _ _ Try.underlying40 Try.underlying5 Try.underlying9]
  have hc := hown.cells (g := g) rfl
  have hl := run_loadCells_list (P := Try.prog) (w := w) (⟨g, 0, none⟩ : Addr) (Lib.byteCells l) hc
  have e : (Lib.byteCells l) = (l.map fun c => (c.toNat : Int)).map (Value.int .u8) := by simp [Lib.byteCells]
  rw [Lib.byteCells_length] at hl
  rw [e] at hl
  rw [run_bytesToString w _ l.length cap _ hl, bytePush]
  have e2 : ByteArray.empty.data ++ l.toArray = l.toArray := by
    show (#[] : Array UInt8) ++ l.toArray = l.toArray
    simp
  rw [e2]
  rfl
theorem byteSet (l : List UInt8) (k : Nat) (c : UInt8) : (Lib.byteCells l).set k (.int .u8 c.toNat) = Lib.byteCells (l.set k c) := by
  simp [Lib.byteCells, List.map_set]
theorem byteOne (c : UInt8) : Lib.byteCells [c] = [.int .u8 c.toNat] := rfl
theorem byteGet (l : List UInt8) {k : Nat} (h : k < l.length) : (Lib.byteCells l)[k]? = some (.int .u8 (l.getD k 0).toNat) := by
  rw [Lib.byteCells, List.getElem?_map, List.getElem?_eq_getElem h, List.getD_eq_getElem?_getD, List.getElem?_eq_getElem h]
  rfl
/-- One new cell: what an append reads. -/
theorem newByte (w : World) (x : Int) (t : TypeId) : ∀ j u, [Value.int .u8 x][j]? = some u → (w.alloc (.cells #[.int .u8 x] t)).cell? ((⟨w.heap.size, 0, none⟩ : Addr).add j) = some u := by
  intro j u hj
  match j, hj with
  | 0, hj =>
    simp at hj
    subst hj
    simp [Addr.add]
theorem byteZeros (n : Nat) : (madeCells (Value.int .u8 0).cells (n * 1)).toList = Lib.byteCells (rowL (fun _ => 0) n) := by
  rw [Nat.mul_one, rowL_zero]
  have h1 : (madeCells (Value.int .u8 0).cells n).toList = List.replicate n (Value.int .u8 0) := toList_madeCells_one _ _
  rw [h1]
  simp [Lib.byteCells]
theorem oneByte (c : Int) : ∀ u ∈ [Value.int .u8 c], u.oneCell' = true := by
  intro u hu
  simp at hu
  subst hu
  rfl

theorem seen_eq {p : Nat} (s k : Nat) (h : 1 ≤ p) : seenN p s ((k : Int) * p) = ((seenK p s k : Nat) : Int) := by
  unfold seenN seenK
  have h1 := Int.emod_nonneg (near ((k : Int) * p) s) (show (p : Int) ≠ 0 by omega)
  omega
theorem disc_of {p s : Nat} (p1 : 1 ≤ p) (p2 : p ≤ 48) (s1 : 1 ≤ s) (s2 : s ≤ 48) : discB p s = true := by
  simp only [discB, Bool.and_eq_true, inB_iff]
  omega
/-- spec.l03Seen. -/
theorem seenK_any (p s k : Nat) (w : World) (p1 : 1 ≤ p) (p2 : p ≤ 48) (s1 : 1 ≤ s) (s2 : s ≤ 48) (hk : k < s) :
    Calls Try.prog 155 #[.int .i64 p, .int .i64 s, .int .i64 k] w fun e w' => e = .returned (.int .i64 (seenK p s k : Nat)) ∧ w = w' := by
  have h := disc_of p1 p2 s1 s2
  obtain ⟨x0, x1⟩ := turn_bd h k (by omega)
  rw [← seen_eq s k p1]
  exact l03Seen_any p s k _ w h rfl x0 x1
theorem order_get {p s k : Nat} (h : 1 ≤ p) (hk : k < s) : (orderTo p s s).getD k 0 = ((seenK p s k : Nat) : Int) := by
  rw [orderTo_get _ _ _ _ hk]
  exact seen_eq s k h

set_option maxHeartbeats 1000000 in
/-- spec.l06Motion. -/
theorem l06Motion_any (s : ByteArray) (n : Nat) (w : World) (s1 : 1 ≤ s.size) (s2 : s.size ≤ 24) (n1 : 1 ≤ n) (n2 : n ≤ 24) :
    Calls Try.prog 137 #[.string s, .int .i64 n] w fun e w' => e = .returned (.string (txt (showL s n))) ∧ Below w.heap.size w w' := by
  obtain ⟨i0, hi, hz0, hz1, hz2⟩ := info_parts infoU8
  have Q := Lib.hid (fun k => seenK_lt (p := s.size) n k s1)
  have K := Lib.hid (fun k w (hk : k < n) => seenK_any s.size n k w s1 (by omega) n1 (by omega) hk)
  go_enter Try.func137, Try.ntmps137
  go_wp2
  go_loopw [6, 5] (fun i v wr => ∃ k : Nat, k ≤ n ∧ i = .int .i64 k ∧ Hid (wr.ownsRow w.heap.size 5 1 v k (Lib.byteCells (rowL (fun j => letter s (seenK s.size n j)) k))) ∧ Hid (Below w.heap.size w wr)) (fun i _ _ => n - (intOf i).toNat)
  case atStart => exact ⟨0, Nat.zero_le _, rfl, Lib.hid (World.ownsRow_lit w #[] 0 (Nat.le_refl _) (Nat.zero_le _) rfl), Lib.hid (bAlloc (Below.refl _ _) _)⟩
  case round =>
    obtain ⟨k, hk, rfl, HO, HB⟩ := hrel
    by_cases hlt : k < n
    · have hq := Q.out k
      have hl := letter_of hq
      have HR := Lib.hid (rowL_succ (fun j => letter s (seenK s.size n j)) k)
      have Kk := Lib.hid (fun w => K.out k w hlt)
      have hbz := HB.out.size
      generalize seenK s.size n k = q at *
      go_wp2_with fail
      refine (Kk.out _).mono ?_
      rintro e u ⟨rfl, rfl⟩
      have HL := Lib.hid hl
      clear hl
      go_wp2_with (at_builtin; refine wpList_append_own _ rfl _ _ 40 rfl w.heap.size 5 i0 (.int .u8 0) 1 1 Try.underlying40 hi hz0 hz1 hz2 rfl (by decide) _ _ _ rfl (HO.out.alloc _) ⟨wr.heap.size, 0, none⟩ 1 1 [.int .u8 ((s[q]'hq).toNat : Int)] rfl rfl (newByte _ _ _) (oneByte _) (by unfold maxLen; omega) (by omega) (by simp; omega) ?_; intro v' w1 hown' hgrow hnil)
      have HO' := Lib.hid hown'
      have HB' := Lib.hid (Below.grown (bAlloc HB.out _) hgrow (by simp; omega) (fun j hj => (World.ownsRow.lt HO.out j hj).1))
      clear hown' hgrow hnil
      go_wp2
      go_roundw
      case rel => exact ⟨k + 1, by omega, by go_num, Lib.hid (by rw [HR.out, Lib.byteCells_append, byteOne, ← HL.out]; exact HO'.out), HB'⟩
      case measure => simp [intOf]; omega
    · have : k = n := by omega
      subst this
      obtain ⟨m, rfl⟩ : ∃ m, k = m + 1 := ⟨k - 1, by omega⟩
      obtain ⟨g, cap, rfl⟩ := ownsRow_succ HO.out
      have hcv := textOwn _ g (m + 1) _ cap wr (rowL_length _ _) HO.out
      go_wp2
      go_ret
      exact ⟨rfl, HB.out⟩

theorem showTo_step (s : ByteArray) (n k : Nat) (h : k < n) : (rowL (fun j => if j < k then letter s (seenK s.size n j) else 0) n).set k (letter s (seenK s.size n k)) = rowL (fun j => if j < k + 1 then letter s (seenK s.size n j) else 0) n := by
  rw [rowL_set _ _ h]
  refine rowL_congr fun j _ => ?_
  by_cases e : j = k
  · rw [if_pos e, if_pos (by omega), e]
  · rw [if_neg e]
    by_cases h2 : j < k
    · rw [if_pos h2, if_pos (by omega)]
    · rw [if_neg h2, if_neg (by omega)]
theorem showTo_end (s : ByteArray) (n : Nat) : rowL (fun j => if j < n then letter s (seenK s.size n j) else 0) n = showL s n := by
  unfold showL
  exact rowL_congr fun j h => if_pos h

set_option maxHeartbeats 2000000 in
/-- impl.motionOf. -/
theorem motionOf_any (s : ByteArray) (n : Nat) (w : World) (s1 : 1 ≤ s.size) (s2 : s.size ≤ 24) (n1 : 1 ≤ n) (n2 : n ≤ 24) :
    Calls Try.prog 119 #[.string s, .int .i64 n] w fun e w' => e = .returned (.string (txt (showL s n))) ∧ Below w.heap.size w w' := by
  obtain ⟨i0, hi, hz0, hz1, hz2⟩ := info_parts infoU8
  have hby : i0.bytes * n ≤ 281474976710656 := by rw [hz2]; omega
  have Q := Lib.hid (fun k => seenK_lt (p := s.size) n k s1)
  have SO := Lib.hid (fun w => seenOrder_any (s.size : Int) n w (disc_of s1 (by omega) n1 (by omega)))
  have OG := Lib.hid (fun k (hk : k < n) => order_get (p := s.size) (s := n) s1 hk)
  have OL := Lib.hid (orderTo_length s.size n n)
  have ST := Lib.hid (fun k h => showTo_step s n k h)
  have SE := Lib.hid (showTo_end s n)
  go_enter Try.func119, Try.ntmps119
  go_wp2_with (at_make; refine wpList_make_full _ rfl _ _ 40 rfl w.heap.size 5 i0 (.int .u8 0) 1 Try.underlying40 hi hz0 hz1 .i64 .i64 (n : Int) (n : Int) n rfl rfl rfl rfl hby (by unfold maxLen; omega) (Nat.le_refl _) ?_; intro w1 hown1 hgrow1)
  have hs1 := hgrow1.size
  have hg1 : w.heap.size < w1.heap.size := (World.ownsRow.lt hown1 _ rfl).2
  have HO1 := Lib.hid hown1
  have HB1 := Lib.hid (Below.grown (Below.refl w.heap.size w) hgrow1 (Nat.le_refl _) (fun k hk => by cases hk))
  clear hown1 hgrow1
  go_wp2_with fail
  refine (SO.out _).mono ?_
  rintro e u ⟨v, rfl, hv, hb⟩
  have HO2 := Lib.hid (World.ownsRow.kept HO1.out (grownNone hb none) (.inr (by simp [Value.ownBlock])))
  have HB2 := Lib.hid (bTrans HB1.out hb)
  obtain ⟨b, cap, rfl, hbg, hbu, hc⟩ : ∃ b cap, v = .slice (some ⟨b, 0, none⟩) n cap ∧ w1.heap.size ≤ b ∧ b < u.heap.size ∧ ∀ j, j < n → u.cell? ⟨b, j, none⟩ = some (.int .i64 ((seenK s.size n j : Nat) : Int)) := by
    rcases hv.view with ⟨_, h0⟩ | ⟨b, cap, rfl, h1, h2, _, h3, _⟩
    · have h4 := OL.out
      rw [h0] at h4
      simp at h4
      omega
    · refine ⟨b, cap, by rw [OL.out], h1, h2, fun j hj => ?_⟩
      rw [← OG.out j hj]
      exact h3 j (by rw [OL.out]; exact hj)
  have HC := Lib.hid hc
  clear hv hb hc HO1 HB1 OG OL
  go_wp2
  go_loopw [15] (fun i wr => ∃ k : Nat, k ≤ n ∧ i = .int .i64 k ∧ Hid (wr.ownsRow w.heap.size 5 1 (.slice (some ⟨w.heap.size, 0, none⟩) n n) n (Lib.byteCells (rowL (fun j => if j < k then letter s (seenK s.size n j) else 0) n))) ∧ Hid (Below w.heap.size w wr) ∧ Hid (∀ j, j < n → wr.cell? ⟨b, j, none⟩ = some (.int .i64 ((seenK s.size n j : Nat) : Int))) ∧ b < wr.heap.size) (fun i _ => n - (intOf i).toNat)
  case atStart =>
    refine ⟨0, Nat.zero_le _, rfl, Lib.hid ?_, HB2, HC, hbu⟩
    have h1 := HO2.out
    rw [byteZeros] at h1
    simpa using h1
  case round =>
    obtain ⟨k, hk, rfl, HO, HB, HCk, hbw⟩ := hrel
    by_cases hlt : k < n
    · have hq := Q.out k
      have hl := letter_of hq
      have hcq := HCk.out k hlt
      have hbz := HB.out.size
      have hf : wr.frozen? ⟨w.heap.size, k, none⟩ = false := World.ownsRow.frozenAt HO.out k
      obtain ⟨z, hc⟩ : ∃ z, wr.cell? ⟨w.heap.size, k, none⟩ = some (.int .u8 z) := by
        refine ⟨((rowL (fun j => if j < k then letter s (seenK s.size n j) else 0) n).getD k 0).toNat, ?_⟩
        rw [World.ownsRow.cellAt HO.out k (by omega), byteGet _ (by rw [rowL_length]; exact hlt)]
      obtain ⟨S1, S2⟩ := World.ownsRow.stored HO.out k (.int .u8 (letter s (seenK s.size n k)).toNat)
      rw [byteSet, ST.out k hlt] at S1
      have H1 := Lib.hid S1
      have H2 := Lib.hid S2
      clear S1 S2
      rw [← hl] at H1 H2
      clear hl
      generalize seenK s.size n k = q at *
      go_wp2
      go_roundw
      case rel => exact ⟨k + 1, by omega, by go_num, Lib.hid H1.out, Lib.hid (Below.grown HB.out H2.out hbz (fun j hj => by injection hj; omega)), Lib.hid (fun j hj => (World.cell?_of_block (H2.out.block b hbw (by simp; omega))).trans (HCk.out j hj)), Nat.lt_of_lt_of_le hbw H2.out.size⟩
      case measure => simp [intOf]; omega
    · have : k = n := by omega
      subst this
      have HO' := Lib.hid (by have h := HO.out; rw [SE.out] at h; exact h)
      have hcv := textOwn _ w.heap.size k _ k wr (showL_length s k) HO'.out
      go_wp2
      go_ret
      exact ⟨rfl, HB.out⟩

end Go.Proofs.Ytibafngidpmgdaa
