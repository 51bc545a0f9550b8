/- The numbers that have a property, one after the other, up to the one at which the caller stops: the fewest blades' iterator. -/
import Derived.RangeFuncBox
import Derived.RangeFuncNested
import Derived.RangeFuncBound
import Derived.RangeFuncCalls
import Derived.RangeFuncLeaves
import Derived.Shelf.Abstract
import Derived.Shelf.RegionOpen
import Derived.WalkKit
import Derived.OwnWalkIn
import Derived.TacticsInMore
import Derived.LoopNIn
import Derived.LoopIn
import Derived.Maps.AppendAt
import Derived.Test.YtflgjohknjgdcaaBldFn2
import Derived.Test.YtflgjohknjgdcaaBldFn3
import Derived.Outline
import Derived.Lib.Hide
import Derived.Below
import Derived.KernelRfl
namespace Go.Proofs.Ytflgjohknjgdcaa
set_option linter.unusedSimpArgs false
set_option linter.unusedVariables false
open Go.RowKit Go.Shelf
attribute [local go_sem] Oper.semAt_some

/-- The numbers from 1 to m that have a property. -/
def numN (P : Nat → Bool) : Nat → List Int
  | 0 => []
  | m + 1 => if P (m + 1) = true then numN P m ++ [((m + 1 : Nat) : Int)] else numN P m
theorem numN_length (P : Nat → Bool) : ∀ m, (numN P m).length ≤ m
  | 0 => Nat.le_refl _
  | m + 1 => by
    have := numN_length P m
    rw [numN]
    split <;> simp <;> omega
theorem numN_yes {P : Nat → Bool} {k : Nat} (h : P (k + 1) = true) : numN P (k + 1) = numN P k ++ [((k + 1 : Nat) : Int)] := by rw [numN, if_pos h]
theorem numN_no {P : Nat → Bool} {k : Nat} (h : P (k + 1) = false) : numN P (k + 1) = numN P k := by rw [numN, if_neg (by rw [h]; simp)]
theorem numN_more (P : Nat → Bool) (k : Nat) : ∀ d, ∃ l, numN P (k + d) = numN P k ++ l
  | 0 => ⟨[], by simp⟩
  | d + 1 => by
    obtain ⟨l, hl⟩ := numN_more P k d
    cases h : P (k + d + 1)
    · exact ⟨l, by rw [← Nat.add_assoc, numN_no h, hl]⟩
    · exact ⟨l ++ [((k + d + 1 : Nat) : Int)], by rw [← Nat.add_assoc, numN_yes h, hl, List.append_assoc]⟩
theorem abide9 {β : Type} {B : Nat} {J : β → World → Prop} (h : AbidesFrom B J) {s : β} {W W' : World} (hs : J s W) (hb : Below W.heap.size W W') : J s W' :=
  h s W W' none hs ⟨hb.os, hb.tape, hb.output, hb.size, fun k hk _ => hb.block k hk⟩ (fun r e => by cases e)
theorem grown9 {w u : World} (h : Below w.heap.size w u) (r : Option Nat) : w.grownBy u r := ⟨h.os, h.tape, h.output, h.size, fun k hk _ => h.block k hk⟩
theorem box9 {w u : World} {B : Nat} {t : TypeId} {v : Value} (h : Boxed w B t v) (hb : Below w.heap.size w u) : Boxed u B t v := h.kept (grown9 hb none) (by simp)

/-- impl.numbersWith. -/
theorem numbersWith9 (m : Int) (f : Nat) (lb : Array Value) (w : World) :
    Calls Try.prog 62 #[.int .i64 m, .func (.func f) #[] lb] w fun e w' => e = .returned (.func (.func 91) #[] #[.pointer (some ⟨w.heap.size, 0, none⟩), .pointer (some ⟨w.heap.size + 1, 0, none⟩)]) ∧ w' = (w.alloc (.cells #[.int .i64 m] 2)).alloc (.cells #[.func (.func f) #[] lb] 75) := by
  have hmf : ∀ (fn : Fn) (first cap : Array Value) (w : World), (Instr.makeFunc fn first cap).run Try.prog w = .ok (.func fn first cap) w := fun _ _ _ _ => rfl
  go_enter Try.func62, Try.ntmps62
  go_wp2
  go_ret
  exact ⟨rfl, rfl⟩

/-- So many blades are enough. -/
def fewP (n d l : Int) (k : Nat) : Bool := countB k && decide (n * k ≥ l * d)

set_option maxHeartbeats 1000000 in
/-- The function that impl.FewestBlades hands on. -/
theorem few9_any (n d l : Int) (k c c2 : Nat) (w : World) (h3 : rateB n d = true) (hl : 1 ≤ l ∧ l ≤ 200) (k1 : 1 ≤ k) (k2 : k ≤ 12) (hc : Bk w c n d) (hc2 : w.cell? ⟨c2, 0, none⟩ = some (.int .i64 l)) :
    Calls Try.prog 63 #[.int .i64 k, .pointer (some ⟨c, 0, none⟩), .pointer (some ⟨c2, 0, none⟩)] w fun e w' => e = .returned (.bool (fewP n d l k)) ∧ Below w.heap.size w w' := by
  obtain ⟨a0, b0, f0, g0, z0⟩ := hc
  have C := Lib.hid (fun w => bladeCount_any (k : Int) w)
  have HE := Lib.hid (show fewP n d l k = (countB k && decide (n * k ≥ l * d)) from rfl)
  cases h : countB (k : Int)
  · rw [h] at C HE
    go_enter Try.func63, Try.ntmps63
    go_wp2_with fail
    refine (C.out _).mono ?_
    rintro e u ⟨rfl, rfl⟩
    go_wp2_with fail
    go_ret
    exact ⟨ret_bool (by rw [HE.out]; rfl), Below.refl _ _⟩
  · rw [h] at C HE
    have S := Lib.hid (fun w => isSteady_any k n d l w h3 (by omega) hl)
    generalize decide (n * (k : Int) ≥ l * d) = t at *
    go_enter Try.func63, Try.ntmps63
    go_wp2_with fail
    refine (C.out _).mono ?_
    rintro e u ⟨rfl, rfl⟩
    go_wp2_with fail
    refine (S.out _).mono ?_
    rintro e u ⟨rfl, hb⟩
    go_wp2_with fail
    go_ret
    exact ⟨ret_bool (by rw [HE.out]; simp), hb⟩

set_option maxRecDepth 100000 in
set_option maxHeartbeats 4000000 in
/-- The closure of impl.numbersWith: for every loop body that keeps what lay when it began. -/
theorem nums1_in9 (d : Nat) (hd : 1 ≤ d) (l bm bh c c2 m : Nat) (P : Nat → Bool) (w0 : World) (m2 : m ≤ 24) (hbm : bm < w0.heap.size) (hbh : bh < w0.heap.size) (hcm : w0.cell? ⟨bm, 0, none⟩ = some (.int .i64 m)) (hch : w0.cell? ⟨bh, 0, none⟩ = some (.func (.func 63) #[] #[.pointer (some ⟨c, 0, none⟩), .pointer (some ⟨c2, 0, none⟩)]))
    (hH : ∀ k W, 1 ≤ k → k ≤ m → Below w0.heap.size w0 W → Calls Try.prog 63 #[.int .i64 (k : Nat), .pointer (some ⟨c, 0, none⟩), .pointer (some ⟨c2, 0, none⟩)] W fun e W' => e = .returned (.bool (P k)) ∧ Below W.heap.size W W')
    (J Jx : List Int → World → Prop)
    (hY : ∀ pre x W1, J pre W1 → pre.length < m → YieldAt Fence.wide (d - 1) Try.prog l #[.int .i64 x] W1 fun e W' =>
      (e = .returned (.bool true) ∧ J (pre ++ [x]) W' ∧ Below w0.heap.size W1 W') ∨ (e = .returned (.bool false) ∧ Jx (pre ++ [x]) W'))
    (W : World) (hW : Below w0.heap.size w0 W) (hJ : AbidesFrom W.heap.size J) (h0 : J [] W) :
    CallsIn Fence.wide d Try.prog 91 (#[.func (.yield l) #[] #[]] ++ #[.pointer (some ⟨bm, 0, none⟩), .pointer (some ⟨bh, 0, none⟩)]) W fun e W' => (∃ v, e = .returned v) ∧
      ((∃ xs, xs = numN P m ∧ J xs W') ∨ (∃ pre, (∃ k, k < m ∧ P (k + 1) = true ∧ pre = numN P (k + 1)) ∧ Jx pre W')) := by
  have HY := Lib.hid hY
  have HJ := Lib.hid hJ
  have H0 := Lib.hid h0
  have HW := Lib.hid hW
  have HH := Lib.hid hH
  have HC := Lib.hid (fun u (h : Below w0.heap.size w0 u) => And.intro ((h.cell (p := ⟨bm, 0, none⟩) hbm).trans hcm) ((h.cell (p := ⟨bh, 0, none⟩) hbh).trans hch))
  have HL := Lib.hid (numN_length P)
  have HR : Hid (Fence.wide.round = none) := Lib.hid rfl
  clear hY hJ h0 hW hcm hch hH
  refine callsIn_of_wp Try.func91 rfl trivial ?_ rfl
  simp only [Try.ntmps91, List.size_toArray, List.length_cons, List.length_nil, Nat.reduceAdd, Nat.reduceSub, Array.replicate_succ, Array.replicate_zero, List.push_toArray, List.append_toArray, List.nil_append, List.cons_append]
  gi_wp2
  gi_loopw [4] (fun i wr => ∃ k : Nat, k ≤ m ∧ i = .int .i64 (k + 1 : Nat) ∧ Hid (J (numN P k) wr) ∧ Hid (Below w0.heap.size w0 wr) ∧ W.heap.size ≤ wr.heap.size) (fun i _ => m + 1 - (intOf i).toNat)
  case atStart => exact ⟨0, Nat.zero_le _, rfl, H0, HW, Nat.le_refl _⟩
  case round =>
    obtain ⟨k, hk, rfl, HJs, HBw, hsz⟩ := hrel
    obtain ⟨k0, k1⟩ := HC.out wr HBw.out
    by_cases hlt : k < m
    · have BG := Lib.hid (HH.out (k + 1) wr (by omega) (by omega) HBw.out)
      have hml := HL.out k
      cases hP : P (k + 1)
      · have HS := Lib.hid (numN_no hP)
        rw [hP] at BG
        obtain ⟨q, hq⟩ : ∃ q, k + 1 = q := ⟨_, rfl⟩
        rw [hq] at BG ⊢
        have hqm : q ≤ m := by omega
        gi_wp2_with (refine ⟨by trivial, ?_⟩; gi_at_call 63; refine (callsIn_wide.2 BG.out).mono ?_; rintro e u ⟨rfl, hb1⟩)
        refine ⟨fun _ h => (by cases h), ?_⟩
        have HJ3 := Lib.hid (abide9 HJ.out HJs.out hb1)
        have HB3 := Lib.hid (HBw.out.trans (hb1.mono HBw.out.size))
        have hz4 := hb1.size
        clear hb1 k0 k1
        gi_wp2
        go_roundw
        case rel => exact ⟨k + 1, by omega, by rw [hq]; go_num, Lib.hid (by rw [HS.out]; exact HJ3.out), HB3, by omega⟩
        case measure => simp [intOf]; omega
      · have HS := Lib.hid (numN_yes hP)
        have HPk := Lib.hid hP
        rw [hP] at BG
        have YY := Lib.hid (fun u (h : J (numN P k) u) => HY.out (numN P k) ((k + 1 : Nat) : Int) u h (by omega))
        obtain ⟨q, hq⟩ : ∃ q, k + 1 = q := ⟨_, rfl⟩
        rw [hq] at BG HS YY ⊢
        have hqm : q ≤ m := by omega
        gi_wp2_with (refine ⟨by trivial, ?_⟩; gi_at_call 63; refine (callsIn_wide.2 BG.out).mono ?_; rintro e u ⟨rfl, hb1⟩; obtain ⟨fn, tmps, assign, body, hy, hR⟩ := YY.out u (abide9 HJ.out HJs.out hb1))
        have HBd := Lib.hid (HBw.out.trans (hb1.mono HBw.out.size))
        have hz3 := hb1.size
        clear hy YY BG hb1 k0 k1
        refine hR.mono ?_
        clear hR
        rintro e W3 (⟨rfl, hJ3, hk3⟩ | ⟨rfl, hJx3⟩)
        · have HJ3 := Lib.hid hJ3
          have HB3 := Lib.hid (HBd.out.trans hk3)
          have hz4 := hk3.size
          clear hJ3 hk3
          gi_wp2
          go_roundw
          case rel => exact ⟨k + 1, by omega, by rw [hq]; go_num, Lib.hid (by rw [hq, HS.out]; exact HJ3.out), HB3, by omega⟩
          case measure => simp [intOf]; omega
        · have HJ3 := Lib.hid hJx3
          clear hJx3
          gi_wp2
          refine bodyPost_ret (results_none rfl _ _ _) rfl ?_
          exact ⟨⟨_, rfl⟩, .inr ⟨_, ⟨k, hlt, HPk.out, by rw [hq]; exact HS.out.symm⟩, HJ3.out⟩⟩
    · have : k = m := by omega
      subst this
      gi_wp2
      go_end0
      exact ⟨⟨_, rfl⟩, .inl ⟨_, rfl, HJs.out⟩⟩

end Go.Proofs.Ytflgjohknjgdcaa
