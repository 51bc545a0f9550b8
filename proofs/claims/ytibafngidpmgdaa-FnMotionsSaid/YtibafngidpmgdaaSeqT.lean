/- The turns of a motion, one after the other: the program's iterator, and what ranges over it. -/
import Derived.RangeFuncBox
import Derived.RangeFuncNested
import Derived.RangeFuncBound
import Derived.RangeFuncCalls
import Derived.RangeFuncLeaves
import Derived.Shelf.Abstract
import Derived.Shelf.RegionOpen
import Derived.WalkKit
import Derived.OwnWalkIn
import Derived.TacticsInMore
import Derived.LoopNIn
import Derived.LoopIn
import Derived.Maps.AppendAt
import Derived.Test.YtibafngidpmgdaaTurnM
import Derived.Outline
import Derived.Lib.Hide
import Derived.Below
import Derived.KernelRfl
namespace Go.Proofs.Ytibafngidpmgdaa
set_option linter.unusedSimpArgs false
set_option linter.unusedVariables false
open Go.RowKit Go.Shelf
attribute [local go_sem] Oper.semAt_some

/-- impl.turnsOf. -/
theorem turnsOf_any (s : ByteArray) (w : World) :
    Calls Try.prog 132 #[.string s] w fun e w' => e = .returned (.func (.func 156) #[] #[.pointer (some ⟨w.heap.size, 0, none⟩)]) ∧ w' = w.alloc (.cells #[.string s] 9) := by
  have hmf : ∀ (fn : Fn) (first cap : Array Value) (w : World), (Instr.makeFunc fn first cap).run Try.prog w = .ok (.func fn first cap) w := fun _ _ _ _ => rfl
  go_enter Try.func132, Try.ntmps132
  go_wp2
  go_ret
  exact ⟨rfl, rfl⟩

theorem bDrewN' {B : Nat} {a w : World} (h : Below B a w) (n : Nat) : Below B a (w.drewN n) := ⟨h.os, h.tape, h.output, h.size, h.block⟩
theorem abideB {β : Type} {B : Nat} {J : β → World → Prop} (h : AbidesFrom B J) {s : β} {W W' : World} (hs : J s W) (hb : Below W.heap.size W W') : J s W' :=
  h s W W' none hs ⟨hb.os, hb.tape, hb.output, hb.size, fun k hk _ => hb.block k hk⟩ (fun r e => by cases e)

set_option maxRecDepth 100000 in
set_option maxHeartbeats 4000000 in
/-- The closure of impl.turnsOf: for every loop body that keeps what lay when it began. -/
theorem turns1_in (d : Nat) (hd : 1 ≤ d) (l b : Nat) (s : ByteArray) (w0 : World) (s2 : s.size ≤ 24) (hb : b < w0.heap.size) (hc : w0.cell? ⟨b, 0, none⟩ = some (.string s)) (J Jx : List ByteArray → World → Prop)
    (hY : ∀ pre x W1, J pre W1 → pre.length < s.size → YieldAt Fence.wide (d - 1) Try.prog l #[.string x] W1 fun e W' =>
      (e = .returned (.bool true) ∧ J (pre ++ [x]) W' ∧ Below w0.heap.size W1 W') ∨ (e = .returned (.bool false) ∧ Jx (pre ++ [x]) W'))
    (W : World) (hW : Below w0.heap.size w0 W) (hJ : AbidesFrom W.heap.size J) (h0 : J [] W) :
    CallsIn Fence.wide d Try.prog 156 (#[.func (.yield l) #[] #[]] ++ #[.pointer (some ⟨b, 0, none⟩)]) W fun e W' => (∃ v, e = .returned v) ∧
      ((∃ xs, xs = turnsT s s.size ∧ J xs W') ∨ (∃ pre, (∃ k, k < s.size ∧ pre = turnsT s (k + 1)) ∧ Jx pre W')) := by
  have HY := Lib.hid hY
  have HJ := Lib.hid hJ
  have H0 := Lib.hid h0
  have HW := Lib.hid hW
  have HC := Lib.hid (fun u (h : Below w0.heap.size w0 u) => (h.cell (p := ⟨b, 0, none⟩) hb).trans hc)
  have HB := Lib.hid (fun k (h : k < s.size) w => begunAt_any s k w (by omega) s2)
  have HT := Lib.hid (turnsT_succ s)
  have HL := Lib.hid (turnsT_length s)
  have HR : Hid (Fence.wide.round = none) := Lib.hid rfl
  clear hY hJ h0 hW hc
  have k0 := HC.out W HW.out
  refine callsIn_of_wp Try.func156 rfl trivial ?_ rfl
  simp only [Try.ntmps156, List.size_toArray, List.length_cons, List.length_nil, Nat.reduceAdd, Nat.reduceSub, Array.replicate_succ, Array.replicate_zero, List.push_toArray, List.append_toArray, List.nil_append, List.cons_append]
  gi_wp2
  clear k0
  gi_loopw [6] (fun i wr => ∃ k : Nat, k ≤ s.size ∧ i = .int .i64 k ∧ Hid (J (turnsT s k) wr) ∧ Hid (Below w0.heap.size w0 wr) ∧ W.heap.size ≤ wr.heap.size) (fun i _ => s.size - (intOf i).toNat)
  case atStart => exact ⟨0, Nat.zero_le _, rfl, Lib.hid (by simpa [turnsT] using H0.out), HW, Nat.le_refl _⟩
  case round =>
    obtain ⟨k, hk, rfl, HJs, HBw, hsz⟩ := hrel
    by_cases hlt : k < s.size
    · have k0 := HC.out wr HBw.out
      have hml := HL.out k
      have HS := Lib.hid (HT.out k)
      have BG := Lib.hid (HB.out k hlt)
      have YY := Lib.hid (fun u (h : J (turnsT s k) u) => HY.out (turnsT s k) (rotB s k) u h (by rw [hml]; exact hlt))
      clear hml
      generalize rotB s k = r at *
      gi_wp2_with (refine ⟨trivial, ?_⟩; gi_at_call 129; refine (callsIn_wide.2 (BG.out _)).mono ?_; rintro e u ⟨rfl, m, rfl⟩; obtain ⟨fn, tmps, assign, body, hy, hR⟩ := YY.out (wr.drewN m) (abideB HJ.out HJs.out (bDrewN (Below.refl _ _) m)))
      have HBd := Lib.hid (bDrewN' HBw.out m)
      clear hy YY BG
      refine hR.mono ?_
      clear hR
      rintro e W3 (⟨rfl, hJ3, hk3⟩ | ⟨rfl, hJx3⟩)
      · have HJ3 := Lib.hid hJ3
        have HB3 := Lib.hid (HBd.out.trans hk3)
        have hz4 : wr.heap.size ≤ W3.heap.size := hk3.size
        clear hJ3 hk3
        gi_wp2
        go_roundw
        case rel => exact ⟨k + 1, by omega, by go_num, Lib.hid (by rw [HS.out]; exact HJ3.out), HB3, by omega⟩
        case measure => simp [intOf]; omega
      · have HJ3 := Lib.hid hJx3
        clear hJx3
        gi_wp2
        refine bodyPost_ret (results_none rfl _ _ _) rfl ?_
        exact ⟨⟨_, rfl⟩, .inr ⟨_, ⟨k, hlt, HS.out.symm⟩, HJ3.out⟩⟩
    · have : k = s.size := by omega
      subst this
      gi_wp2
      go_end0
      exact ⟨⟨_, rfl⟩, .inl ⟨_, rfl, HJs.out⟩⟩


/-- .. as the law of a range over a function wants it. -/
theorem turns_stops (d : Nat) (hd : 1 ≤ d) (b : Nat) (s : ByteArray) (w0 : World) (s2 : s.size ≤ 24) (hb : b < w0.heap.size) (hc : w0.cell? ⟨b, 0, none⟩ = some (.string s)) :
    SeqStopsK Fence.wide d Try.prog 156 #[.pointer (some ⟨b, 0, none⟩)] (fun x : ByteArray => #[.string x]) (Below w0.heap.size) (fun xs => xs = turnsT s s.size) (fun pre => ∃ k, k < s.size ∧ pre = turnsT s (k + 1)) s.size w0 :=
  fun l J Jx W hW hJ _ hY h0 => turns1_in d hd l b s w0 s2 hb hc J Jx hY W hW hJ h0

end Go.Proofs.Ytibafngidpmgdaa
