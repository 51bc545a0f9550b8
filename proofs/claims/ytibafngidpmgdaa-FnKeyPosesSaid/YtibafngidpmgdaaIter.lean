/- The joints between two poses, one after the other: the program's iterator and what collects it. -/
import Derived.RangeFuncBox
import Derived.RangeFuncNested
import Derived.RangeFuncBound
import Derived.RangeFuncCalls
import Derived.RangeFuncLeaves
import Derived.Shelf.Abstract
import Derived.Shelf.RegionOpen
import Derived.WalkKit
import Derived.OwnWalkIn
import Derived.TacticsInMore
import Derived.LoopNIn
import Derived.LoopIn
import Derived.Maps.AppendAt
import Derived.Test.YtibafngidpmgdaaProg
import Derived.Test.YtibafngidpmgdaaWay
import Derived.Outline
import Derived.Lib.Hide
import Derived.Below
import Derived.KernelRfl
namespace Go.Proofs.Ytibafngidpmgdaa
set_option linter.unusedSimpArgs false
set_option linter.unusedVariables false
open Go.RowKit Go.Shelf
attribute [local go_sem] Oper.semAt_some

/-- What impl.jointsBetween has laid from block s on: the two lists, the part, the parts. -/
def Caps (w : World) (s : Nat) (A : Option Addr) (n c : Nat) (A' : Option Addr) (c' : Nat) (m N : Int) : Prop :=
  w.cell? ⟨s, 0, none⟩ = some (.slice A n c) ∧ w.cell? ⟨s + 1, 0, none⟩ = some (.slice A' n c') ∧ w.cell? ⟨s + 2, 0, none⟩ = some (.int .i64 m) ∧ w.cell? ⟨s + 3, 0, none⟩ = some (.int .i64 N) ∧ s + 3 < w.heap.size
theorem Caps.below {w u : World} {s : Nat} {A : Option Addr} {n c : Nat} {A' : Option Addr} {c' : Nat} {m N : Int} (h : Caps w s A n c A' c' m N) (hb : Below w.heap.size w u) : Caps u s A n c A' c' m N := by
  obtain ⟨h1, h2, h3, h4, h5⟩ := h
  exact ⟨(hb.cell (by simp; omega)).trans h1, (hb.cell (by simp; omega)).trans h2, (hb.cell (by simp; omega)).trans h3, (hb.cell (by simp; omega)).trans h4, Nat.lt_of_lt_of_le h5 hb.size⟩

/-- impl.jointsBetween. -/
theorem jointsBetween_any (A A' : Option Addr) (n c c' : Nat) (m N : Int) (w : World) :
    Calls Try.prog 105 #[.slice A n c, .slice A' n c', .int .i64 m, .int .i64 N] w fun e w' =>
      e = .returned (.func (.func 145) #[] #[.pointer (some ⟨w.heap.size, 0, none⟩), .pointer (some ⟨w.heap.size + 1, 0, none⟩), .pointer (some ⟨w.heap.size + 2, 0, none⟩), .pointer (some ⟨w.heap.size + 3, 0, none⟩)]) ∧ Caps w' w.heap.size A n c A' c' m N ∧ Below w.heap.size w w' := by
  have hmf : ∀ (fn : Fn) (first cap : Array Value) (w : World), (Instr.makeFunc fn first cap).run Try.prog w = .ok (.func fn first cap) w := fun _ _ _ _ => rfl
  go_enter Try.func105, Try.ntmps105
  go_wp2
  go_ret
  refine ⟨rfl, ⟨?_, ?_, ?_, ?_, ?_⟩, ?_⟩
  · go_simp
  · go_simp
  · go_simp
  · go_simp
  · go_simp
  · repeat (first | exact Below.refl _ _ | refine bAlloc ?_ _)

/-- A region that draws: the orders that meet at one place go on as one. -/
theorem wpIn_region_meet {F : Fence} {n : Nat} {P : Program} {id : Nat} {ops : Array Oper} {Q : Exit → Act → World → Prop} {a : Act} {w : World} (k : Nat) (L : Array Bool) (a' : Act) (hm : P.follows .mixedOrders = true)
    (main : wpAnyIn F n P .any ops Q k L a' w.drew → wpAnyIn F n P .any ops Q ops.size (Array.replicate ops.size false) a w.drew) (later : wpAnyIn F n P .any ops Q k L a' w.drew) :
    (Code.region id ops true).wpIn F n P Q a w := wpIn_region_any hm (main later)

theorem regionG {F : Fence} {n : Nat} {P : Program} {md : Region.Mode} {ops : Array Oper} {Q : Exit → Act → World → Prop} {fuel : Nat} {L : Array Bool} {a : Act} {w : World}
    (h : ∀ G, G = wpAnyIn F n P md ops Q → G fuel L a w) : wpAnyIn F n P md ops Q fuel L a w := h _ rfl

theorem abideBelow {β : Type} {B : Nat} {J : β → World → Prop} (h : AbidesFrom B J) {s : β} {W W' : World} (hs : J s W) (hb : Below W.heap.size W W') : J s W' :=
  h s W W' none hs ⟨hb.os, hb.tape, hb.output, hb.size, fun k hk _ => hb.block k hk⟩ (fun r e => by cases e)

set_option maxRecDepth 100000 in
set_option maxHeartbeats 4000000 in
/-- The closure of impl.jointsBetween: for every loop body that keeps what lay when it began. -/
theorem joints1_in (d : Nat) (hd : 1 ≤ d) (l s : Nat) (A A' : Option Addr) (n c c' : Nat) (ps qs : List Pt) (m N : Int) (w0 : World) (hv : Rd w0 A n ps) (hu : Rd w0 A' n qs) (hp : poseB ps = true) (hq : poseB qs = true) (m0 : 0 ≤ m) (m1 : m ≤ N) (n0 : 1 ≤ N) (n1 : N ≤ 10000)
    (hC : Caps w0 s A n c A' c' m N) (J Jx : List Pt → World → Prop)
    (hY : ∀ pre x W1, J pre W1 → pre.length < n → YieldAt Fence.wide (d - 1) Try.prog l #[fr x.1 x.2] W1 fun e W' =>
      (e = .returned (.bool true) ∧ J (pre ++ [x]) W' ∧ Below w0.heap.size W1 W') ∨ (e = .returned (.bool false) ∧ Jx (pre ++ [x]) W'))
    (W : World) (hW : Below w0.heap.size w0 W) (hJ : AbidesFrom W.heap.size J) (h0 : J [] W) :
    CallsIn Fence.wide d Try.prog 145 (#[.func (.yield l) #[] #[]] ++ #[.pointer (some ⟨s, 0, none⟩), .pointer (some ⟨s + 1, 0, none⟩), .pointer (some ⟨s + 2, 0, none⟩), .pointer (some ⟨s + 3, 0, none⟩)]) W fun e W' => (∃ v, e = .returned v) ∧
      ((∃ xs, xs = mixL ps qs m N n ∧ J xs W') ∨ (∃ pre, (∃ k, k ≤ n ∧ pre = mixL ps qs m N k) ∧ Jx pre W')) := by
  have hn := hv.2.1
  have HLn := Lib.hid hv.1
  have HLm := Lib.hid hu.1
  have HV := Lib.hid hv
  have HU := Lib.hid hu
  have HP := Lib.hid (poseB_get hp)
  have HQ := Lib.hid (poseB_get hq)
  have HC := Lib.hid hC
  have HY := Lib.hid hY
  have HJ := Lib.hid hJ
  have H0 := Lib.hid h0
  have HW := Lib.hid hW
  have HR : Hid (Fence.wide.round = none) := Lib.hid rfl
  clear hv hu hp hq hC hY hJ h0 hW
  obtain ⟨k0, k1, k2, k3, kz⟩ := HC.out.below HW.out
  refine callsIn_of_wp Try.func145 rfl trivial ?_ rfl
  simp only [Try.ntmps145, List.size_toArray, List.length_cons, List.length_nil, Nat.reduceAdd, Nat.reduceSub, Array.replicate_succ, Array.replicate_zero, List.push_toArray, List.append_toArray, List.nil_append, List.cons_append]
  gi_wp2
  clear k0 k1 k2 k3 kz
  gi_loopw [10] (fun i wr => ∃ k : Nat, k ≤ n ∧ i = .int .i64 k ∧ Hid (J (mixL ps qs m N k) wr) ∧ Hid (Below w0.heap.size w0 wr) ∧ W.heap.size ≤ wr.heap.size) (fun i _ => n - (intOf i).toNat)
  case atStart => exact ⟨0, Nat.zero_le _, rfl, Lib.hid (by simpa [mixL] using H0.out), HW, Nat.le_refl _⟩
  case round =>
    obtain ⟨k, hk, rfl, HJs, HB, hsz⟩ := hrel
    by_cases hlt : k < n
    · obtain ⟨k0, k1, k2, k3, kz⟩ := HC.out.below HB.out
      obtain ⟨_, _, h3⟩ := HV.out.below HB.out
      obtain ⟨_, _, h4⟩ := HU.out.below HB.out
      rcases h3 with h0 | ⟨g, rfl, hg, h3⟩
      · omega
      rcases h4 with h0 | ⟨b, rfl, hb, h4⟩
      · omega
      obtain ⟨c0, c1⟩ := h3 k hlt
      obtain ⟨c2, c3⟩ := h4 k hlt
      have q1 := HP.out k (by rw [HLn.out]; exact hlt)
      have q2 := HQ.out k (by rw [HLm.out]; exact hlt)
      have HS := Lib.hid (show mixL ps qs m N (k + 1) = mixL ps qs m N k ++ [(mixN (ps.getD k (0, 0)).1 (qs.getD k (0, 0)).1 m N, mixN (ps.getD k (0, 0)).2 (qs.getD k (0, 0)).2 m N)] from mixL_succ ps qs m N k)
      have hml := mixL_length ps qs m N k
      have TW := Lib.hid (fun w => towards_any (ps.getD k (0, 0)).1 (ps.getD k (0, 0)).2 (qs.getD k (0, 0)).1 (qs.getD k (0, 0)).2 m N w q1.1 q1.2.1 q1.2.2.1 q1.2.2.2 q2.1 q2.2.1 q2.2.2.1 q2.2.2.2 m0 m1 n0 n1)
      have YY := Lib.hid (fun u (h : J (mixL ps qs m N k) u) => HY.out (mixL ps qs m N k) (mixN (ps.getD k (0, 0)).1 (qs.getD k (0, 0)).1 m N, mixN (ps.getD k (0, 0)).2 (qs.getD k (0, 0)).2 m N) u h (by rw [hml]; exact hlt))
      clear h3 h4 q1 q2 hml
      generalize (ps.getD k (0, 0)).1 = x at *
      generalize (ps.getD k (0, 0)).2 = y at *
      generalize (qs.getD k (0, 0)).1 = x' at *
      generalize (qs.getD k (0, 0)).2 = y' at *
      have hlz : g < wr.heap.size ∧ b < wr.heap.size ∧ s + 3 < wr.heap.size := ⟨hg, hb, kz⟩
      obtain ⟨z1, z2, z3⟩ := hlz
      gi_wp2
      refine wpIn_region_any (by kernel_rfl) ?_
      change wpAnyIn _ _ _ _ _ _ _ _ _ (World.drew _)
      have f0 : (wr.alloc (.cells #[.int .i64 x, .int .i64 y] 57)).drew.cell? ⟨wr.heap.size, 0, none⟩ = some (.int .i64 x) := by go_simp
      have f1 : (wr.alloc (.cells #[.int .i64 x, .int .i64 y] 57)).drew.cell? ⟨wr.heap.size, 1, none⟩ = some (.int .i64 y) := by go_simp
      have f2 : (wr.alloc (.cells #[.int .i64 x, .int .i64 y] 57)).drew.cell? ⟨s + 1, 0, none⟩ = some (.slice (some ⟨b, 0, none⟩) n c') := (World.cell?_alloc_lt wr _ _ (by simp; omega)).trans k1
      have f3 : (wr.alloc (.cells #[.int .i64 x, .int .i64 y] 57)).drew.cell? ⟨s + 2, 0, none⟩ = some (.int .i64 m) := (World.cell?_alloc_lt wr _ _ (by simp; omega)).trans k2
      have f4 : (wr.alloc (.cells #[.int .i64 x, .int .i64 y] 57)).drew.cell? ⟨s + 3, 0, none⟩ = some (.int .i64 N) := (World.cell?_alloc_lt wr _ _ (by simp; omega)).trans k3
      have f5 : (wr.alloc (.cells #[.int .i64 x, .int .i64 y] 57)).drew.cell? ⟨b, k * 2, none⟩ = some (.int .i64 x') := (World.cell?_alloc_lt wr _ _ (by exact z2)).trans c2
      have f6 : (wr.alloc (.cells #[.int .i64 x, .int .i64 y] 57)).drew.cell? ⟨b, k * 2 + 1, none⟩ = some (.int .i64 y') := (World.cell?_alloc_lt wr _ _ (by exact z2)).trans c3
      have HD := Lib.hid (show Below wr.heap.size wr (wr.alloc (.cells #[.int .i64 x, .int .i64 y] 57)).drew from Below.drew (bAlloc (Below.refl _ _) _))
      clear c0 c1 c2 c3 k0 k1 k2 k3
      generalize (wr.alloc (.cells #[.int .i64 x, .int .i64 y] 57)).drew = WD at *
      have HJD := Lib.hid (abideBelow HJ.out HJs.out HD.out)
      have HBD := Lib.hid (bTrans HB.out HD.out)
      have hzd := HD.out.size
      generalize hZ : wr.heap.size = Z at *
      refine wpAnyIn_take (i := 0) (v := ?_) rfl rfl (by kernel_rfl) (by kernel_rfl) (by kernel_rfl) (fun _ _ _ h => h) ⟨Or.inl ⟨by rfl, ?_⟩, fun _ => rfl⟩ ?_
      rotate_left
      · intro w
        go_simp
        with_reducible rfl
      refine wpAnyIn_take (i := 3) (v := ?_) rfl rfl (by kernel_rfl) (by kernel_rfl) (by kernel_rfl) (fun _ _ _ h => h) ⟨Or.inl ⟨by rfl, ?_⟩, fun _ => rfl⟩ ?_
      rotate_left
      · intro w
        go_simp
        with_reducible rfl
      refine regionG (fun G hG => ?_)
      have HG := Lib.hid hG
      clear hG
      have H1_2_4_5_6_7 : Hid (G 3 #[true, true, true, true, true, true, true, true, false, false, false] { tmps := #[.func (.yield l) #[] #[], .pointer (some ⟨s, 0, none⟩), .pointer (some ⟨s + 1, 0, none⟩), .pointer (some ⟨s + 2, 0, none⟩), .pointer (some ⟨s + 3, 0, none⟩), undef, .int .i64 k, .pointer (some ⟨Z, 0, none⟩), .slice (some ⟨g, 0, none⟩) n c, .int .i64 n, .int .i64 k, .bool true, .int .i64 k, .pointer (some ⟨g, k * 2, none⟩), fr x y, .func (.yield l) #[] #[], fr x y, .slice (some ⟨b, 0, none⟩) n c', .int .i64 k, .pointer (some ⟨b, k * 2, none⟩), fr x' y', .int .i64 m, .int .i64 N, u23, u24, u25, u26], defers := [] } WD) := Lib.hid (by
        rw [HG.out]
        refine wpAnyIn_ready (rs := [8]) (by kernel_rfl) (by simp) ?_
        refine AllReadyIn.cons rfl (fun K hK => ?_) AllReadyIn.nil
        go_simp
        refine ⟨?_, ?_⟩
        · trivial
        refine (callsIn_wide.2 (TW.out _)).mono ?_
        rintro e u ⟨rfl, hb3⟩
        refine hK _ _ ?_
        clear hK K
        have HJu := Lib.hid (abideBelow HJ.out HJD.out hb3)
        obtain ⟨fn, tmps, assign, body, hy, hR⟩ := YY.out u HJu.out
        refine wpAnyIn_ready (rs := [9]) (by kernel_rfl) (by simp) ?_
        refine AllReadyIn.cons rfl (fun K hK => ?_) AllReadyIn.nil
        go_simp
        have HU3 := Lib.hid (bTrans HBD.out hb3)
        have hz3 := hb3.size
        clear hb3 hy YY TW
        refine hR.mono ?_
        clear hR
        rintro e W3 (⟨rfl, hJ3, hk3⟩ | ⟨rfl, hJx3⟩)
        · have HJ3 := Lib.hid hJ3
          have HB3 := Lib.hid (HU3.out.trans hk3)
          have hz4 := hk3.size
          clear hJ3 hk3
          refine hK _ _ ?_
          clear hK K
          refine wpAnyIn_ready (rs := [10]) (by kernel_rfl) (by simp) ?_
          refine AllReadyIn.cons rfl (fun K hK => ?_) AllReadyIn.nil
          go_simp
          refine hK _ _ ?_
          clear hK K
          refine wpAnyIn_done (by kernel_rfl) ?_ _
          clear f0 f1 f2 f3 f4 f5 f6
          gi_wp2
          go_roundw
          case rel => exact ⟨k + 1, by omega, by go_num, Lib.hid (by rw [HS.out]; exact HJ3.out), HB3, by omega⟩
          case measure => simp [intOf]; omega
        · have HJ3 := Lib.hid hJx3
          clear hJx3
          refine hK _ _ ?_
          clear hK K
          refine wpAnyIn_ready (rs := [10]) (by kernel_rfl) (by simp) ?_
          refine AllReadyIn.cons rfl (fun K hK => ?_) AllReadyIn.nil
          go_simp
          refine hK _ _ ?_
          clear hK K
          refine wpAnyIn_done (by kernel_rfl) ?_ _
          clear f0 f1 f2 f3 f4 f5 f6
          gi_wp2
          refine bodyPost_ret (results_none rfl _ _ _) rfl ?_
          exact ⟨⟨_, rfl⟩, .inr ⟨_, ⟨k + 1, by omega, HS.out.symm⟩, HJ3.out⟩⟩)
      have H1_2_4_5_6 : Hid (G 4 #[true, true, true, true, true, true, true, false, false, false, false] { tmps := #[.func (.yield l) #[] #[], .pointer (some ⟨s, 0, none⟩), .pointer (some ⟨s + 1, 0, none⟩), .pointer (some ⟨s + 2, 0, none⟩), .pointer (some ⟨s + 3, 0, none⟩), undef, .int .i64 k, .pointer (some ⟨Z, 0, none⟩), .slice (some ⟨g, 0, none⟩) n c, .int .i64 n, .int .i64 k, .bool true, .int .i64 k, .pointer (some ⟨g, k * 2, none⟩), fr x y, .func (.yield l) #[] #[], fr x y, .slice (some ⟨b, 0, none⟩) n c', .int .i64 k, .pointer (some ⟨b, k * 2, none⟩), fr x' y', .int .i64 m, u22, u23, u24, u25, u26], defers := [] } WD) := Lib.hid (by
        rw [HG.out]
        refine wpAnyIn_ready (rs := [7]) (by kernel_rfl) (by simp) ?_
        refine AllReadyIn.cons rfl (fun K hK => ?_) ?_
        · go_simp
          refine hK _ _ ?_
          rw [← HG.out]
          exact H1_2_4_5_6_7.out
        exact AllReadyIn.nil)
      have H1_2_4_5_7 : Hid (G 4 #[true, true, true, true, true, true, false, true, false, false, false] { tmps := #[.func (.yield l) #[] #[], .pointer (some ⟨s, 0, none⟩), .pointer (some ⟨s + 1, 0, none⟩), .pointer (some ⟨s + 2, 0, none⟩), .pointer (some ⟨s + 3, 0, none⟩), undef, .int .i64 k, .pointer (some ⟨Z, 0, none⟩), .slice (some ⟨g, 0, none⟩) n c, .int .i64 n, .int .i64 k, .bool true, .int .i64 k, .pointer (some ⟨g, k * 2, none⟩), fr x y, .func (.yield l) #[] #[], fr x y, .slice (some ⟨b, 0, none⟩) n c', .int .i64 k, .pointer (some ⟨b, k * 2, none⟩), fr x' y', u21, .int .i64 N, u23, u24, u25, u26], defers := [] } WD) := Lib.hid (by
        rw [HG.out]
        refine wpAnyIn_ready (rs := [6]) (by kernel_rfl) (by simp) ?_
        refine AllReadyIn.cons rfl (fun K hK => ?_) ?_
        · go_simp
          refine hK _ _ ?_
          rw [← HG.out]
          exact H1_2_4_5_6_7.out
        exact AllReadyIn.nil)
      have H1_2_4_6_7 : Hid (G 4 #[true, true, true, true, true, false, true, true, false, false, false] { tmps := #[.func (.yield l) #[] #[], .pointer (some ⟨s, 0, none⟩), .pointer (some ⟨s + 1, 0, none⟩), .pointer (some ⟨s + 2, 0, none⟩), .pointer (some ⟨s + 3, 0, none⟩), undef, .int .i64 k, .pointer (some ⟨Z, 0, none⟩), .slice (some ⟨g, 0, none⟩) n c, .int .i64 n, .int .i64 k, .bool true, .int .i64 k, .pointer (some ⟨g, k * 2, none⟩), fr x y, .func (.yield l) #[] #[], fr x y, .slice (some ⟨b, 0, none⟩) n c', .int .i64 k, .pointer (some ⟨b, k * 2, none⟩), u20, .int .i64 m, .int .i64 N, u23, u24, u25, u26], defers := [] } WD) := Lib.hid (by
        rw [HG.out]
        refine wpAnyIn_ready (rs := [5]) (by kernel_rfl) (by simp) ?_
        refine AllReadyIn.cons rfl (fun K hK => ?_) ?_
        · go_simp
          refine hK _ _ ?_
          rw [← HG.out]
          exact H1_2_4_5_6_7.out
        exact AllReadyIn.nil)
      have H2_4_5_6_7 : Hid (G 4 #[true, false, true, true, true, true, true, true, false, false, false] { tmps := #[.func (.yield l) #[] #[], .pointer (some ⟨s, 0, none⟩), .pointer (some ⟨s + 1, 0, none⟩), .pointer (some ⟨s + 2, 0, none⟩), .pointer (some ⟨s + 3, 0, none⟩), undef, .int .i64 k, .pointer (some ⟨Z, 0, none⟩), .slice (some ⟨g, 0, none⟩) n c, .int .i64 n, .int .i64 k, .bool true, .int .i64 k, .pointer (some ⟨g, k * 2, none⟩), fr x y, .func (.yield l) #[] #[], u16, .slice (some ⟨b, 0, none⟩) n c', .int .i64 k, .pointer (some ⟨b, k * 2, none⟩), fr x' y', .int .i64 m, .int .i64 N, u23, u24, u25, u26], defers := [] } WD) := Lib.hid (by
        rw [HG.out]
        refine wpAnyIn_ready (rs := [1]) (by kernel_rfl) (by simp) ?_
        refine AllReadyIn.cons rfl (fun K hK => ?_) ?_
        · go_simp
          refine hK _ _ ?_
          rw [← HG.out]
          exact H1_2_4_5_6_7.out
        exact AllReadyIn.nil)
      have H1_2_4_5 : Hid (G 5 #[true, true, true, true, true, true, false, false, false, false, false] { tmps := #[.func (.yield l) #[] #[], .pointer (some ⟨s, 0, none⟩), .pointer (some ⟨s + 1, 0, none⟩), .pointer (some ⟨s + 2, 0, none⟩), .pointer (some ⟨s + 3, 0, none⟩), undef, .int .i64 k, .pointer (some ⟨Z, 0, none⟩), .slice (some ⟨g, 0, none⟩) n c, .int .i64 n, .int .i64 k, .bool true, .int .i64 k, .pointer (some ⟨g, k * 2, none⟩), fr x y, .func (.yield l) #[] #[], fr x y, .slice (some ⟨b, 0, none⟩) n c', .int .i64 k, .pointer (some ⟨b, k * 2, none⟩), fr x' y', u21, u22, u23, u24, u25, u26], defers := [] } WD) := Lib.hid (by
        rw [HG.out]
        refine wpAnyIn_ready (rs := [6, 7]) (by kernel_rfl) (by simp) ?_
        refine AllReadyIn.cons rfl (fun K hK => ?_) ?_
        · go_simp
          refine hK _ _ ?_
          rw [← HG.out]
          exact H1_2_4_5_6.out
        refine AllReadyIn.cons rfl (fun K hK => ?_) ?_
        · go_simp
          refine hK _ _ ?_
          rw [← HG.out]
          exact H1_2_4_5_7.out
        exact AllReadyIn.nil)
      have H1_2_4_6 : Hid (G 5 #[true, true, true, true, true, false, true, false, false, false, false] { tmps := #[.func (.yield l) #[] #[], .pointer (some ⟨s, 0, none⟩), .pointer (some ⟨s + 1, 0, none⟩), .pointer (some ⟨s + 2, 0, none⟩), .pointer (some ⟨s + 3, 0, none⟩), undef, .int .i64 k, .pointer (some ⟨Z, 0, none⟩), .slice (some ⟨g, 0, none⟩) n c, .int .i64 n, .int .i64 k, .bool true, .int .i64 k, .pointer (some ⟨g, k * 2, none⟩), fr x y, .func (.yield l) #[] #[], fr x y, .slice (some ⟨b, 0, none⟩) n c', .int .i64 k, .pointer (some ⟨b, k * 2, none⟩), u20, .int .i64 m, u22, u23, u24, u25, u26], defers := [] } WD) := Lib.hid (by
        rw [HG.out]
        refine wpAnyIn_ready (rs := [5, 7]) (by kernel_rfl) (by simp) ?_
        refine AllReadyIn.cons rfl (fun K hK => ?_) ?_
        · go_simp
          refine hK _ _ ?_
          rw [← HG.out]
          exact H1_2_4_5_6.out
        refine AllReadyIn.cons rfl (fun K hK => ?_) ?_
        · go_simp
          refine hK _ _ ?_
          rw [← HG.out]
          exact H1_2_4_6_7.out
        exact AllReadyIn.nil)
      have H1_2_4_7 : Hid (G 5 #[true, true, true, true, true, false, false, true, false, false, false] { tmps := #[.func (.yield l) #[] #[], .pointer (some ⟨s, 0, none⟩), .pointer (some ⟨s + 1, 0, none⟩), .pointer (some ⟨s + 2, 0, none⟩), .pointer (some ⟨s + 3, 0, none⟩), undef, .int .i64 k, .pointer (some ⟨Z, 0, none⟩), .slice (some ⟨g, 0, none⟩) n c, .int .i64 n, .int .i64 k, .bool true, .int .i64 k, .pointer (some ⟨g, k * 2, none⟩), fr x y, .func (.yield l) #[] #[], fr x y, .slice (some ⟨b, 0, none⟩) n c', .int .i64 k, .pointer (some ⟨b, k * 2, none⟩), u20, u21, .int .i64 N, u23, u24, u25, u26], defers := [] } WD) := Lib.hid (by
        rw [HG.out]
        refine wpAnyIn_ready (rs := [5, 6]) (by kernel_rfl) (by simp) ?_
        refine AllReadyIn.cons rfl (fun K hK => ?_) ?_
        · go_simp
          refine hK _ _ ?_
          rw [← HG.out]
          exact H1_2_4_5_7.out
        refine AllReadyIn.cons rfl (fun K hK => ?_) ?_
        · go_simp
          refine hK _ _ ?_
          rw [← HG.out]
          exact H1_2_4_6_7.out
        exact AllReadyIn.nil)
      have H1_2_6_7 : Hid (G 5 #[true, true, true, true, false, false, true, true, false, false, false] { tmps := #[.func (.yield l) #[] #[], .pointer (some ⟨s, 0, none⟩), .pointer (some ⟨s + 1, 0, none⟩), .pointer (some ⟨s + 2, 0, none⟩), .pointer (some ⟨s + 3, 0, none⟩), undef, .int .i64 k, .pointer (some ⟨Z, 0, none⟩), .slice (some ⟨g, 0, none⟩) n c, .int .i64 n, .int .i64 k, .bool true, .int .i64 k, .pointer (some ⟨g, k * 2, none⟩), fr x y, .func (.yield l) #[] #[], fr x y, .slice (some ⟨b, 0, none⟩) n c', .int .i64 k, u19, u20, .int .i64 m, .int .i64 N, u23, u24, u25, u26], defers := [] } WD) := Lib.hid (by
        rw [HG.out]
        refine wpAnyIn_ready (rs := [4]) (by kernel_rfl) (by simp) ?_
        refine AllReadyIn.cons rfl (fun K hK => ?_) ?_
        · go_simp
          refine hK _ _ ?_
          rw [← HG.out]
          exact H1_2_4_6_7.out
        exact AllReadyIn.nil)
      have H2_4_5_6 : Hid (G 5 #[true, false, true, true, true, true, true, false, false, false, false] { tmps := #[.func (.yield l) #[] #[], .pointer (some ⟨s, 0, none⟩), .pointer (some ⟨s + 1, 0, none⟩), .pointer (some ⟨s + 2, 0, none⟩), .pointer (some ⟨s + 3, 0, none⟩), undef, .int .i64 k, .pointer (some ⟨Z, 0, none⟩), .slice (some ⟨g, 0, none⟩) n c, .int .i64 n, .int .i64 k, .bool true, .int .i64 k, .pointer (some ⟨g, k * 2, none⟩), fr x y, .func (.yield l) #[] #[], u16, .slice (some ⟨b, 0, none⟩) n c', .int .i64 k, .pointer (some ⟨b, k * 2, none⟩), fr x' y', .int .i64 m, u22, u23, u24, u25, u26], defers := [] } WD) := Lib.hid (by
        rw [HG.out]
        refine wpAnyIn_ready (rs := [1, 7]) (by kernel_rfl) (by simp) ?_
        refine AllReadyIn.cons rfl (fun K hK => ?_) ?_
        · go_simp
          refine hK _ _ ?_
          rw [← HG.out]
          exact H1_2_4_5_6.out
        refine AllReadyIn.cons rfl (fun K hK => ?_) ?_
        · go_simp
          refine hK _ _ ?_
          rw [← HG.out]
          exact H2_4_5_6_7.out
        exact AllReadyIn.nil)
      have H2_4_5_7 : Hid (G 5 #[true, false, true, true, true, true, false, true, false, false, false] { tmps := #[.func (.yield l) #[] #[], .pointer (some ⟨s, 0, none⟩), .pointer (some ⟨s + 1, 0, none⟩), .pointer (some ⟨s + 2, 0, none⟩), .pointer (some ⟨s + 3, 0, none⟩), undef, .int .i64 k, .pointer (some ⟨Z, 0, none⟩), .slice (some ⟨g, 0, none⟩) n c, .int .i64 n, .int .i64 k, .bool true, .int .i64 k, .pointer (some ⟨g, k * 2, none⟩), fr x y, .func (.yield l) #[] #[], u16, .slice (some ⟨b, 0, none⟩) n c', .int .i64 k, .pointer (some ⟨b, k * 2, none⟩), fr x' y', u21, .int .i64 N, u23, u24, u25, u26], defers := [] } WD) := Lib.hid (by
        rw [HG.out]
        refine wpAnyIn_ready (rs := [1, 6]) (by kernel_rfl) (by simp) ?_
        refine AllReadyIn.cons rfl (fun K hK => ?_) ?_
        · go_simp
          refine hK _ _ ?_
          rw [← HG.out]
          exact H1_2_4_5_7.out
        refine AllReadyIn.cons rfl (fun K hK => ?_) ?_
        · go_simp
          refine hK _ _ ?_
          rw [← HG.out]
          exact H2_4_5_6_7.out
        exact AllReadyIn.nil)
      have H2_4_6_7 : Hid (G 5 #[true, false, true, true, true, false, true, true, false, false, false] { tmps := #[.func (.yield l) #[] #[], .pointer (some ⟨s, 0, none⟩), .pointer (some ⟨s + 1, 0, none⟩), .pointer (some ⟨s + 2, 0, none⟩), .pointer (some ⟨s + 3, 0, none⟩), undef, .int .i64 k, .pointer (some ⟨Z, 0, none⟩), .slice (some ⟨g, 0, none⟩) n c, .int .i64 n, .int .i64 k, .bool true, .int .i64 k, .pointer (some ⟨g, k * 2, none⟩), fr x y, .func (.yield l) #[] #[], u16, .slice (some ⟨b, 0, none⟩) n c', .int .i64 k, .pointer (some ⟨b, k * 2, none⟩), u20, .int .i64 m, .int .i64 N, u23, u24, u25, u26], defers := [] } WD) := Lib.hid (by
        rw [HG.out]
        refine wpAnyIn_ready (rs := [1, 5]) (by kernel_rfl) (by simp) ?_
        refine AllReadyIn.cons rfl (fun K hK => ?_) ?_
        · go_simp
          refine hK _ _ ?_
          rw [← HG.out]
          exact H1_2_4_6_7.out
        refine AllReadyIn.cons rfl (fun K hK => ?_) ?_
        · go_simp
          refine hK _ _ ?_
          rw [← HG.out]
          exact H2_4_5_6_7.out
        exact AllReadyIn.nil)
      have H1_2_4 : Hid (G 6 #[true, true, true, true, true, false, false, false, false, false, false] { tmps := #[.func (.yield l) #[] #[], .pointer (some ⟨s, 0, none⟩), .pointer (some ⟨s + 1, 0, none⟩), .pointer (some ⟨s + 2, 0, none⟩), .pointer (some ⟨s + 3, 0, none⟩), undef, .int .i64 k, .pointer (some ⟨Z, 0, none⟩), .slice (some ⟨g, 0, none⟩) n c, .int .i64 n, .int .i64 k, .bool true, .int .i64 k, .pointer (some ⟨g, k * 2, none⟩), fr x y, .func (.yield l) #[] #[], fr x y, .slice (some ⟨b, 0, none⟩) n c', .int .i64 k, .pointer (some ⟨b, k * 2, none⟩), u20, u21, u22, u23, u24, u25, u26], defers := [] } WD) := Lib.hid (by
        rw [HG.out]
        refine wpAnyIn_ready (rs := [5, 6, 7]) (by kernel_rfl) (by simp) ?_
        refine AllReadyIn.cons rfl (fun K hK => ?_) ?_
        · go_simp
          refine hK _ _ ?_
          rw [← HG.out]
          exact H1_2_4_5.out
        refine AllReadyIn.cons rfl (fun K hK => ?_) ?_
        · go_simp
          refine hK _ _ ?_
          rw [← HG.out]
          exact H1_2_4_6.out
        refine AllReadyIn.cons rfl (fun K hK => ?_) ?_
        · go_simp
          refine hK _ _ ?_
          rw [← HG.out]
          exact H1_2_4_7.out
        exact AllReadyIn.nil)
      have H1_2_6 : Hid (G 6 #[true, true, true, true, false, false, true, false, false, false, false] { tmps := #[.func (.yield l) #[] #[], .pointer (some ⟨s, 0, none⟩), .pointer (some ⟨s + 1, 0, none⟩), .pointer (some ⟨s + 2, 0, none⟩), .pointer (some ⟨s + 3, 0, none⟩), undef, .int .i64 k, .pointer (some ⟨Z, 0, none⟩), .slice (some ⟨g, 0, none⟩) n c, .int .i64 n, .int .i64 k, .bool true, .int .i64 k, .pointer (some ⟨g, k * 2, none⟩), fr x y, .func (.yield l) #[] #[], fr x y, .slice (some ⟨b, 0, none⟩) n c', .int .i64 k, u19, u20, .int .i64 m, u22, u23, u24, u25, u26], defers := [] } WD) := Lib.hid (by
        rw [HG.out]
        refine wpAnyIn_ready (rs := [4, 7]) (by kernel_rfl) (by simp) ?_
        refine AllReadyIn.cons rfl (fun K hK => ?_) ?_
        · go_simp
          refine hK _ _ ?_
          rw [← HG.out]
          exact H1_2_4_6.out
        refine AllReadyIn.cons rfl (fun K hK => ?_) ?_
        · go_simp
          refine hK _ _ ?_
          rw [← HG.out]
          exact H1_2_6_7.out
        exact AllReadyIn.nil)
      have H1_2_7 : Hid (G 6 #[true, true, true, true, false, false, false, true, false, false, false] { tmps := #[.func (.yield l) #[] #[], .pointer (some ⟨s, 0, none⟩), .pointer (some ⟨s + 1, 0, none⟩), .pointer (some ⟨s + 2, 0, none⟩), .pointer (some ⟨s + 3, 0, none⟩), undef, .int .i64 k, .pointer (some ⟨Z, 0, none⟩), .slice (some ⟨g, 0, none⟩) n c, .int .i64 n, .int .i64 k, .bool true, .int .i64 k, .pointer (some ⟨g, k * 2, none⟩), fr x y, .func (.yield l) #[] #[], fr x y, .slice (some ⟨b, 0, none⟩) n c', .int .i64 k, u19, u20, u21, .int .i64 N, u23, u24, u25, u26], defers := [] } WD) := Lib.hid (by
        rw [HG.out]
        refine wpAnyIn_ready (rs := [4, 6]) (by kernel_rfl) (by simp) ?_
        refine AllReadyIn.cons rfl (fun K hK => ?_) ?_
        · go_simp
          refine hK _ _ ?_
          rw [← HG.out]
          exact H1_2_4_7.out
        refine AllReadyIn.cons rfl (fun K hK => ?_) ?_
        · go_simp
          refine hK _ _ ?_
          rw [← HG.out]
          exact H1_2_6_7.out
        exact AllReadyIn.nil)
      have H1_6_7 : Hid (G 6 #[true, true, false, true, false, false, true, true, false, false, false] { tmps := #[.func (.yield l) #[] #[], .pointer (some ⟨s, 0, none⟩), .pointer (some ⟨s + 1, 0, none⟩), .pointer (some ⟨s + 2, 0, none⟩), .pointer (some ⟨s + 3, 0, none⟩), undef, .int .i64 k, .pointer (some ⟨Z, 0, none⟩), .slice (some ⟨g, 0, none⟩) n c, .int .i64 n, .int .i64 k, .bool true, .int .i64 k, .pointer (some ⟨g, k * 2, none⟩), fr x y, .func (.yield l) #[] #[], fr x y, u17, .int .i64 k, u19, u20, .int .i64 m, .int .i64 N, u23, u24, u25, u26], defers := [] } WD) := Lib.hid (by
        rw [HG.out]
        refine wpAnyIn_ready (rs := [2]) (by kernel_rfl) (by simp) ?_
        refine AllReadyIn.cons rfl (fun K hK => ?_) ?_
        · go_simp
          refine hK _ _ ?_
          rw [← HG.out]
          exact H1_2_6_7.out
        exact AllReadyIn.nil)
      have H2_4_5 : Hid (G 6 #[true, false, true, true, true, true, false, false, false, false, false] { tmps := #[.func (.yield l) #[] #[], .pointer (some ⟨s, 0, none⟩), .pointer (some ⟨s + 1, 0, none⟩), .pointer (some ⟨s + 2, 0, none⟩), .pointer (some ⟨s + 3, 0, none⟩), undef, .int .i64 k, .pointer (some ⟨Z, 0, none⟩), .slice (some ⟨g, 0, none⟩) n c, .int .i64 n, .int .i64 k, .bool true, .int .i64 k, .pointer (some ⟨g, k * 2, none⟩), fr x y, .func (.yield l) #[] #[], u16, .slice (some ⟨b, 0, none⟩) n c', .int .i64 k, .pointer (some ⟨b, k * 2, none⟩), fr x' y', u21, u22, u23, u24, u25, u26], defers := [] } WD) := Lib.hid (by
        rw [HG.out]
        refine wpAnyIn_ready (rs := [1, 6, 7]) (by kernel_rfl) (by simp) ?_
        refine AllReadyIn.cons rfl (fun K hK => ?_) ?_
        · go_simp
          refine hK _ _ ?_
          rw [← HG.out]
          exact H1_2_4_5.out
        refine AllReadyIn.cons rfl (fun K hK => ?_) ?_
        · go_simp
          refine hK _ _ ?_
          rw [← HG.out]
          exact H2_4_5_6.out
        refine AllReadyIn.cons rfl (fun K hK => ?_) ?_
        · go_simp
          refine hK _ _ ?_
          rw [← HG.out]
          exact H2_4_5_7.out
        exact AllReadyIn.nil)
      have H2_4_6 : Hid (G 6 #[true, false, true, true, true, false, true, false, false, false, false] { tmps := #[.func (.yield l) #[] #[], .pointer (some ⟨s, 0, none⟩), .pointer (some ⟨s + 1, 0, none⟩), .pointer (some ⟨s + 2, 0, none⟩), .pointer (some ⟨s + 3, 0, none⟩), undef, .int .i64 k, .pointer (some ⟨Z, 0, none⟩), .slice (some ⟨g, 0, none⟩) n c, .int .i64 n, .int .i64 k, .bool true, .int .i64 k, .pointer (some ⟨g, k * 2, none⟩), fr x y, .func (.yield l) #[] #[], u16, .slice (some ⟨b, 0, none⟩) n c', .int .i64 k, .pointer (some ⟨b, k * 2, none⟩), u20, .int .i64 m, u22, u23, u24, u25, u26], defers := [] } WD) := Lib.hid (by
        rw [HG.out]
        refine wpAnyIn_ready (rs := [1, 5, 7]) (by kernel_rfl) (by simp) ?_
        refine AllReadyIn.cons rfl (fun K hK => ?_) ?_
        · go_simp
          refine hK _ _ ?_
          rw [← HG.out]
          exact H1_2_4_6.out
        refine AllReadyIn.cons rfl (fun K hK => ?_) ?_
        · go_simp
          refine hK _ _ ?_
          rw [← HG.out]
          exact H2_4_5_6.out
        refine AllReadyIn.cons rfl (fun K hK => ?_) ?_
        · go_simp
          refine hK _ _ ?_
          rw [← HG.out]
          exact H2_4_6_7.out
        exact AllReadyIn.nil)
      have H2_4_7 : Hid (G 6 #[true, false, true, true, true, false, false, true, false, false, false] { tmps := #[.func (.yield l) #[] #[], .pointer (some ⟨s, 0, none⟩), .pointer (some ⟨s + 1, 0, none⟩), .pointer (some ⟨s + 2, 0, none⟩), .pointer (some ⟨s + 3, 0, none⟩), undef, .int .i64 k, .pointer (some ⟨Z, 0, none⟩), .slice (some ⟨g, 0, none⟩) n c, .int .i64 n, .int .i64 k, .bool true, .int .i64 k, .pointer (some ⟨g, k * 2, none⟩), fr x y, .func (.yield l) #[] #[], u16, .slice (some ⟨b, 0, none⟩) n c', .int .i64 k, .pointer (some ⟨b, k * 2, none⟩), u20, u21, .int .i64 N, u23, u24, u25, u26], defers := [] } WD) := Lib.hid (by
        rw [HG.out]
        refine wpAnyIn_ready (rs := [1, 5, 6]) (by kernel_rfl) (by simp) ?_
        refine AllReadyIn.cons rfl (fun K hK => ?_) ?_
        · go_simp
          refine hK _ _ ?_
          rw [← HG.out]
          exact H1_2_4_7.out
        refine AllReadyIn.cons rfl (fun K hK => ?_) ?_
        · go_simp
          refine hK _ _ ?_
          rw [← HG.out]
          exact H2_4_5_7.out
        refine AllReadyIn.cons rfl (fun K hK => ?_) ?_
        · go_simp
          refine hK _ _ ?_
          rw [← HG.out]
          exact H2_4_6_7.out
        exact AllReadyIn.nil)
      have H2_6_7 : Hid (G 6 #[true, false, true, true, false, false, true, true, false, false, false] { tmps := #[.func (.yield l) #[] #[], .pointer (some ⟨s, 0, none⟩), .pointer (some ⟨s + 1, 0, none⟩), .pointer (some ⟨s + 2, 0, none⟩), .pointer (some ⟨s + 3, 0, none⟩), undef, .int .i64 k, .pointer (some ⟨Z, 0, none⟩), .slice (some ⟨g, 0, none⟩) n c, .int .i64 n, .int .i64 k, .bool true, .int .i64 k, .pointer (some ⟨g, k * 2, none⟩), fr x y, .func (.yield l) #[] #[], u16, .slice (some ⟨b, 0, none⟩) n c', .int .i64 k, u19, u20, .int .i64 m, .int .i64 N, u23, u24, u25, u26], defers := [] } WD) := Lib.hid (by
        rw [HG.out]
        refine wpAnyIn_ready (rs := [1, 4]) (by kernel_rfl) (by simp) ?_
        refine AllReadyIn.cons rfl (fun K hK => ?_) ?_
        · go_simp
          refine hK _ _ ?_
          rw [← HG.out]
          exact H1_2_6_7.out
        refine AllReadyIn.cons rfl (fun K hK => ?_) ?_
        · go_simp
          refine hK _ _ ?_
          rw [← HG.out]
          exact H2_4_6_7.out
        exact AllReadyIn.nil)
      have H1_2 : Hid (G 7 #[true, true, true, true, false, false, false, false, false, false, false] { tmps := #[.func (.yield l) #[] #[], .pointer (some ⟨s, 0, none⟩), .pointer (some ⟨s + 1, 0, none⟩), .pointer (some ⟨s + 2, 0, none⟩), .pointer (some ⟨s + 3, 0, none⟩), undef, .int .i64 k, .pointer (some ⟨Z, 0, none⟩), .slice (some ⟨g, 0, none⟩) n c, .int .i64 n, .int .i64 k, .bool true, .int .i64 k, .pointer (some ⟨g, k * 2, none⟩), fr x y, .func (.yield l) #[] #[], fr x y, .slice (some ⟨b, 0, none⟩) n c', .int .i64 k, u19, u20, u21, u22, u23, u24, u25, u26], defers := [] } WD) := Lib.hid (by
        rw [HG.out]
        refine wpAnyIn_ready (rs := [4, 6, 7]) (by kernel_rfl) (by simp) ?_
        refine AllReadyIn.cons rfl (fun K hK => ?_) ?_
        · go_simp
          refine hK _ _ ?_
          rw [← HG.out]
          exact H1_2_4.out
        refine AllReadyIn.cons rfl (fun K hK => ?_) ?_
        · go_simp
          refine hK _ _ ?_
          rw [← HG.out]
          exact H1_2_6.out
        refine AllReadyIn.cons rfl (fun K hK => ?_) ?_
        · go_simp
          refine hK _ _ ?_
          rw [← HG.out]
          exact H1_2_7.out
        exact AllReadyIn.nil)
      have H1_6 : Hid (G 7 #[true, true, false, true, false, false, true, false, false, false, false] { tmps := #[.func (.yield l) #[] #[], .pointer (some ⟨s, 0, none⟩), .pointer (some ⟨s + 1, 0, none⟩), .pointer (some ⟨s + 2, 0, none⟩), .pointer (some ⟨s + 3, 0, none⟩), undef, .int .i64 k, .pointer (some ⟨Z, 0, none⟩), .slice (some ⟨g, 0, none⟩) n c, .int .i64 n, .int .i64 k, .bool true, .int .i64 k, .pointer (some ⟨g, k * 2, none⟩), fr x y, .func (.yield l) #[] #[], fr x y, u17, .int .i64 k, u19, u20, .int .i64 m, u22, u23, u24, u25, u26], defers := [] } WD) := Lib.hid (by
        rw [HG.out]
        refine wpAnyIn_ready (rs := [2, 7]) (by kernel_rfl) (by simp) ?_
        refine AllReadyIn.cons rfl (fun K hK => ?_) ?_
        · go_simp
          refine hK _ _ ?_
          rw [← HG.out]
          exact H1_2_6.out
        refine AllReadyIn.cons rfl (fun K hK => ?_) ?_
        · go_simp
          refine hK _ _ ?_
          rw [← HG.out]
          exact H1_6_7.out
        exact AllReadyIn.nil)
      have H1_7 : Hid (G 7 #[true, true, false, true, false, false, false, true, false, false, false] { tmps := #[.func (.yield l) #[] #[], .pointer (some ⟨s, 0, none⟩), .pointer (some ⟨s + 1, 0, none⟩), .pointer (some ⟨s + 2, 0, none⟩), .pointer (some ⟨s + 3, 0, none⟩), undef, .int .i64 k, .pointer (some ⟨Z, 0, none⟩), .slice (some ⟨g, 0, none⟩) n c, .int .i64 n, .int .i64 k, .bool true, .int .i64 k, .pointer (some ⟨g, k * 2, none⟩), fr x y, .func (.yield l) #[] #[], fr x y, u17, .int .i64 k, u19, u20, u21, .int .i64 N, u23, u24, u25, u26], defers := [] } WD) := Lib.hid (by
        rw [HG.out]
        refine wpAnyIn_ready (rs := [2, 6]) (by kernel_rfl) (by simp) ?_
        refine AllReadyIn.cons rfl (fun K hK => ?_) ?_
        · go_simp
          refine hK _ _ ?_
          rw [← HG.out]
          exact H1_2_7.out
        refine AllReadyIn.cons rfl (fun K hK => ?_) ?_
        · go_simp
          refine hK _ _ ?_
          rw [← HG.out]
          exact H1_6_7.out
        exact AllReadyIn.nil)
      have H2_4 : Hid (G 7 #[true, false, true, true, true, false, false, false, false, false, false] { tmps := #[.func (.yield l) #[] #[], .pointer (some ⟨s, 0, none⟩), .pointer (some ⟨s + 1, 0, none⟩), .pointer (some ⟨s + 2, 0, none⟩), .pointer (some ⟨s + 3, 0, none⟩), undef, .int .i64 k, .pointer (some ⟨Z, 0, none⟩), .slice (some ⟨g, 0, none⟩) n c, .int .i64 n, .int .i64 k, .bool true, .int .i64 k, .pointer (some ⟨g, k * 2, none⟩), fr x y, .func (.yield l) #[] #[], u16, .slice (some ⟨b, 0, none⟩) n c', .int .i64 k, .pointer (some ⟨b, k * 2, none⟩), u20, u21, u22, u23, u24, u25, u26], defers := [] } WD) := Lib.hid (by
        rw [HG.out]
        refine wpAnyIn_ready (rs := [1, 5, 6, 7]) (by kernel_rfl) (by simp) ?_
        refine AllReadyIn.cons rfl (fun K hK => ?_) ?_
        · go_simp
          refine hK _ _ ?_
          rw [← HG.out]
          exact H1_2_4.out
        refine AllReadyIn.cons rfl (fun K hK => ?_) ?_
        · go_simp
          refine hK _ _ ?_
          rw [← HG.out]
          exact H2_4_5.out
        refine AllReadyIn.cons rfl (fun K hK => ?_) ?_
        · go_simp
          refine hK _ _ ?_
          rw [← HG.out]
          exact H2_4_6.out
        refine AllReadyIn.cons rfl (fun K hK => ?_) ?_
        · go_simp
          refine hK _ _ ?_
          rw [← HG.out]
          exact H2_4_7.out
        exact AllReadyIn.nil)
      have H2_6 : Hid (G 7 #[true, false, true, true, false, false, true, false, false, false, false] { tmps := #[.func (.yield l) #[] #[], .pointer (some ⟨s, 0, none⟩), .pointer (some ⟨s + 1, 0, none⟩), .pointer (some ⟨s + 2, 0, none⟩), .pointer (some ⟨s + 3, 0, none⟩), undef, .int .i64 k, .pointer (some ⟨Z, 0, none⟩), .slice (some ⟨g, 0, none⟩) n c, .int .i64 n, .int .i64 k, .bool true, .int .i64 k, .pointer (some ⟨g, k * 2, none⟩), fr x y, .func (.yield l) #[] #[], u16, .slice (some ⟨b, 0, none⟩) n c', .int .i64 k, u19, u20, .int .i64 m, u22, u23, u24, u25, u26], defers := [] } WD) := Lib.hid (by
        rw [HG.out]
        refine wpAnyIn_ready (rs := [1, 4, 7]) (by kernel_rfl) (by simp) ?_
        refine AllReadyIn.cons rfl (fun K hK => ?_) ?_
        · go_simp
          refine hK _ _ ?_
          rw [← HG.out]
          exact H1_2_6.out
        refine AllReadyIn.cons rfl (fun K hK => ?_) ?_
        · go_simp
          refine hK _ _ ?_
          rw [← HG.out]
          exact H2_4_6.out
        refine AllReadyIn.cons rfl (fun K hK => ?_) ?_
        · go_simp
          refine hK _ _ ?_
          rw [← HG.out]
          exact H2_6_7.out
        exact AllReadyIn.nil)
      have H2_7 : Hid (G 7 #[true, false, true, true, false, false, false, true, false, false, false] { tmps := #[.func (.yield l) #[] #[], .pointer (some ⟨s, 0, none⟩), .pointer (some ⟨s + 1, 0, none⟩), .pointer (some ⟨s + 2, 0, none⟩), .pointer (some ⟨s + 3, 0, none⟩), undef, .int .i64 k, .pointer (some ⟨Z, 0, none⟩), .slice (some ⟨g, 0, none⟩) n c, .int .i64 n, .int .i64 k, .bool true, .int .i64 k, .pointer (some ⟨g, k * 2, none⟩), fr x y, .func (.yield l) #[] #[], u16, .slice (some ⟨b, 0, none⟩) n c', .int .i64 k, u19, u20, u21, .int .i64 N, u23, u24, u25, u26], defers := [] } WD) := Lib.hid (by
        rw [HG.out]
        refine wpAnyIn_ready (rs := [1, 4, 6]) (by kernel_rfl) (by simp) ?_
        refine AllReadyIn.cons rfl (fun K hK => ?_) ?_
        · go_simp
          refine hK _ _ ?_
          rw [← HG.out]
          exact H1_2_7.out
        refine AllReadyIn.cons rfl (fun K hK => ?_) ?_
        · go_simp
          refine hK _ _ ?_
          rw [← HG.out]
          exact H2_4_7.out
        refine AllReadyIn.cons rfl (fun K hK => ?_) ?_
        · go_simp
          refine hK _ _ ?_
          rw [← HG.out]
          exact H2_6_7.out
        exact AllReadyIn.nil)
      have H6_7 : Hid (G 7 #[true, false, false, true, false, false, true, true, false, false, false] { tmps := #[.func (.yield l) #[] #[], .pointer (some ⟨s, 0, none⟩), .pointer (some ⟨s + 1, 0, none⟩), .pointer (some ⟨s + 2, 0, none⟩), .pointer (some ⟨s + 3, 0, none⟩), undef, .int .i64 k, .pointer (some ⟨Z, 0, none⟩), .slice (some ⟨g, 0, none⟩) n c, .int .i64 n, .int .i64 k, .bool true, .int .i64 k, .pointer (some ⟨g, k * 2, none⟩), fr x y, .func (.yield l) #[] #[], u16, u17, .int .i64 k, u19, u20, .int .i64 m, .int .i64 N, u23, u24, u25, u26], defers := [] } WD) := Lib.hid (by
        rw [HG.out]
        refine wpAnyIn_ready (rs := [1, 2]) (by kernel_rfl) (by simp) ?_
        refine AllReadyIn.cons rfl (fun K hK => ?_) ?_
        · go_simp
          refine hK _ _ ?_
          rw [← HG.out]
          exact H1_6_7.out
        refine AllReadyIn.cons rfl (fun K hK => ?_) ?_
        · go_simp
          refine hK _ _ ?_
          rw [← HG.out]
          exact H2_6_7.out
        exact AllReadyIn.nil)
      have H1 : Hid (G 8 #[true, true, false, true, false, false, false, false, false, false, false] { tmps := #[.func (.yield l) #[] #[], .pointer (some ⟨s, 0, none⟩), .pointer (some ⟨s + 1, 0, none⟩), .pointer (some ⟨s + 2, 0, none⟩), .pointer (some ⟨s + 3, 0, none⟩), undef, .int .i64 k, .pointer (some ⟨Z, 0, none⟩), .slice (some ⟨g, 0, none⟩) n c, .int .i64 n, .int .i64 k, .bool true, .int .i64 k, .pointer (some ⟨g, k * 2, none⟩), fr x y, .func (.yield l) #[] #[], fr x y, u17, .int .i64 k, u19, u20, u21, u22, u23, u24, u25, u26], defers := [] } WD) := Lib.hid (by
        rw [HG.out]
        refine wpAnyIn_ready (rs := [2, 6, 7]) (by kernel_rfl) (by simp) ?_
        refine AllReadyIn.cons rfl (fun K hK => ?_) ?_
        · go_simp
          refine hK _ _ ?_
          rw [← HG.out]
          exact H1_2.out
        refine AllReadyIn.cons rfl (fun K hK => ?_) ?_
        · go_simp
          refine hK _ _ ?_
          rw [← HG.out]
          exact H1_6.out
        refine AllReadyIn.cons rfl (fun K hK => ?_) ?_
        · go_simp
          refine hK _ _ ?_
          rw [← HG.out]
          exact H1_7.out
        exact AllReadyIn.nil)
      have H2 : Hid (G 8 #[true, false, true, true, false, false, false, false, false, false, false] { tmps := #[.func (.yield l) #[] #[], .pointer (some ⟨s, 0, none⟩), .pointer (some ⟨s + 1, 0, none⟩), .pointer (some ⟨s + 2, 0, none⟩), .pointer (some ⟨s + 3, 0, none⟩), undef, .int .i64 k, .pointer (some ⟨Z, 0, none⟩), .slice (some ⟨g, 0, none⟩) n c, .int .i64 n, .int .i64 k, .bool true, .int .i64 k, .pointer (some ⟨g, k * 2, none⟩), fr x y, .func (.yield l) #[] #[], u16, .slice (some ⟨b, 0, none⟩) n c', .int .i64 k, u19, u20, u21, u22, u23, u24, u25, u26], defers := [] } WD) := Lib.hid (by
        rw [HG.out]
        refine wpAnyIn_ready (rs := [1, 4, 6, 7]) (by kernel_rfl) (by simp) ?_
        refine AllReadyIn.cons rfl (fun K hK => ?_) ?_
        · go_simp
          refine hK _ _ ?_
          rw [← HG.out]
          exact H1_2.out
        refine AllReadyIn.cons rfl (fun K hK => ?_) ?_
        · go_simp
          refine hK _ _ ?_
          rw [← HG.out]
          exact H2_4.out
        refine AllReadyIn.cons rfl (fun K hK => ?_) ?_
        · go_simp
          refine hK _ _ ?_
          rw [← HG.out]
          exact H2_6.out
        refine AllReadyIn.cons rfl (fun K hK => ?_) ?_
        · go_simp
          refine hK _ _ ?_
          rw [← HG.out]
          exact H2_7.out
        exact AllReadyIn.nil)
      have H6 : Hid (G 8 #[true, false, false, true, false, false, true, false, false, false, false] { tmps := #[.func (.yield l) #[] #[], .pointer (some ⟨s, 0, none⟩), .pointer (some ⟨s + 1, 0, none⟩), .pointer (some ⟨s + 2, 0, none⟩), .pointer (some ⟨s + 3, 0, none⟩), undef, .int .i64 k, .pointer (some ⟨Z, 0, none⟩), .slice (some ⟨g, 0, none⟩) n c, .int .i64 n, .int .i64 k, .bool true, .int .i64 k, .pointer (some ⟨g, k * 2, none⟩), fr x y, .func (.yield l) #[] #[], u16, u17, .int .i64 k, u19, u20, .int .i64 m, u22, u23, u24, u25, u26], defers := [] } WD) := Lib.hid (by
        rw [HG.out]
        refine wpAnyIn_ready (rs := [1, 2, 7]) (by kernel_rfl) (by simp) ?_
        refine AllReadyIn.cons rfl (fun K hK => ?_) ?_
        · go_simp
          refine hK _ _ ?_
          rw [← HG.out]
          exact H1_6.out
        refine AllReadyIn.cons rfl (fun K hK => ?_) ?_
        · go_simp
          refine hK _ _ ?_
          rw [← HG.out]
          exact H2_6.out
        refine AllReadyIn.cons rfl (fun K hK => ?_) ?_
        · go_simp
          refine hK _ _ ?_
          rw [← HG.out]
          exact H6_7.out
        exact AllReadyIn.nil)
      have H7 : Hid (G 8 #[true, false, false, true, false, false, false, true, false, false, false] { tmps := #[.func (.yield l) #[] #[], .pointer (some ⟨s, 0, none⟩), .pointer (some ⟨s + 1, 0, none⟩), .pointer (some ⟨s + 2, 0, none⟩), .pointer (some ⟨s + 3, 0, none⟩), undef, .int .i64 k, .pointer (some ⟨Z, 0, none⟩), .slice (some ⟨g, 0, none⟩) n c, .int .i64 n, .int .i64 k, .bool true, .int .i64 k, .pointer (some ⟨g, k * 2, none⟩), fr x y, .func (.yield l) #[] #[], u16, u17, .int .i64 k, u19, u20, u21, .int .i64 N, u23, u24, u25, u26], defers := [] } WD) := Lib.hid (by
        rw [HG.out]
        refine wpAnyIn_ready (rs := [1, 2, 6]) (by kernel_rfl) (by simp) ?_
        refine AllReadyIn.cons rfl (fun K hK => ?_) ?_
        · go_simp
          refine hK _ _ ?_
          rw [← HG.out]
          exact H1_7.out
        refine AllReadyIn.cons rfl (fun K hK => ?_) ?_
        · go_simp
          refine hK _ _ ?_
          rw [← HG.out]
          exact H2_7.out
        refine AllReadyIn.cons rfl (fun K hK => ?_) ?_
        · go_simp
          refine hK _ _ ?_
          rw [← HG.out]
          exact H6_7.out
        exact AllReadyIn.nil)
      have Hstart : Hid (G 9 #[true, false, false, true, false, false, false, false, false, false, false] { tmps := #[.func (.yield l) #[] #[], .pointer (some ⟨s, 0, none⟩), .pointer (some ⟨s + 1, 0, none⟩), .pointer (some ⟨s + 2, 0, none⟩), .pointer (some ⟨s + 3, 0, none⟩), undef, .int .i64 k, .pointer (some ⟨Z, 0, none⟩), .slice (some ⟨g, 0, none⟩) n c, .int .i64 n, .int .i64 k, .bool true, .int .i64 k, .pointer (some ⟨g, k * 2, none⟩), fr x y, .func (.yield l) #[] #[], u16, u17, .int .i64 k, u19, u20, u21, u22, u23, u24, u25, u26], defers := [] } WD) := Lib.hid (by
        rw [HG.out]
        refine wpAnyIn_ready (rs := [1, 2, 6, 7]) (by kernel_rfl) (by simp) ?_
        refine AllReadyIn.cons rfl (fun K hK => ?_) ?_
        · go_simp
          refine hK _ _ ?_
          rw [← HG.out]
          exact H1.out
        refine AllReadyIn.cons rfl (fun K hK => ?_) ?_
        · go_simp
          refine hK _ _ ?_
          rw [← HG.out]
          exact H2.out
        refine AllReadyIn.cons rfl (fun K hK => ?_) ?_
        · go_simp
          refine hK _ _ ?_
          rw [← HG.out]
          exact H6.out
        refine AllReadyIn.cons rfl (fun K hK => ?_) ?_
        · go_simp
          refine hK _ _ ?_
          rw [← HG.out]
          exact H7.out
        exact AllReadyIn.nil)
      exact Hstart.out
    · have : k = n := by omega
      subst this
      gi_wp2
      go_end0
      exact ⟨⟨_, rfl⟩, .inl ⟨_, rfl, HJs.out⟩⟩

/-- .. as the law of a range over a function wants it. -/
theorem joints_stops (d : Nat) (hd : 1 ≤ d) (s : Nat) (A A' : Option Addr) (n c c' : Nat) (ps qs : List Pt) (m N : Int) (w0 : World) (hv : Rd w0 A n ps) (hu : Rd w0 A' n qs) (hp : poseB ps = true) (hq : poseB qs = true) (m0 : 0 ≤ m) (m1 : m ≤ N) (n0 : 1 ≤ N) (n1 : N ≤ 10000)
    (hC : Caps w0 s A n c A' c' m N) :
    SeqStopsK Fence.wide d Try.prog 145 #[.pointer (some ⟨s, 0, none⟩), .pointer (some ⟨s + 1, 0, none⟩), .pointer (some ⟨s + 2, 0, none⟩), .pointer (some ⟨s + 3, 0, none⟩)] (fun x : Pt => #[fr x.1 x.2]) (Below w0.heap.size) (fun xs => xs = mixL ps qs m N n) (fun pre => ∃ k, k ≤ n ∧ pre = mixL ps qs m N k) n w0 :=
  fun l J Jx W hW hJ _ hY h0 => joints1_in d hd l s A A' n c c' ps qs m N w0 hv hu hp hq m0 m1 n0 n1 hC J Jx hY W hW hJ h0

/-- A variable of two cells. -/
def Box2 (W : World) (B : Nat) (x : Pt) : Prop := W.heap[B]? = some (.cells #[.int .i64 x.1, .int .i64 x.2] 57 (0, 0))
theorem Box2.lt {W : World} {B : Nat} {x : Pt} (h : Box2 W B x) : B < W.heap.size := (Array.getElem?_eq_some_iff.1 h).1
theorem Box2.c0 {W : World} {B : Nat} {x : Pt} (h : Box2 W B x) : W.cell? ⟨B, 0, none⟩ = some (.int .i64 x.1) := by simp [World.cell?, show W.heap[B]? = _ from h]
theorem Box2.c1 {W : World} {B : Nat} {x : Pt} (h : Box2 W B x) : W.cell? ⟨B, 1, none⟩ = some (.int .i64 x.2) := by simp [World.cell?, show W.heap[B]? = _ from h]
theorem Box2.new (W : World) (x : Pt) : Box2 (W.alloc (.cells #[.int .i64 x.1, .int .i64 x.2] 57)) W.heap.size x := World.alloc_heap_new W _
theorem Box2.own {β : Type} (B : Nat) (x : Pt) : Own (fun (_ : β) W => Box2 W B x) := fun s X Y row hs hg hrow =>
  (hg.block B hs.lt (fun e' => by obtain ⟨o, ho, hc⟩ := hrow B e'.symm; rw [show X.heap[B]? = _ from hs] at ho; cases ho; cases hc)).trans hs

set_option maxRecDepth 100000 in
set_option maxHeartbeats 4000000 in
/-- slices.AppendSeq, of an iterator over points: from nothing. -/
theorem appendSeq_any (gf : Nat) (lb : Array Value) (eg : ∀ args w, (callFunc gf args).run Try.prog w = .ok (.enter gf args) w) (Sp : List Pt → Prop) (N : Nat) (xs : List Pt) (hx : xs.length ≤ 1048576) (hN : N ≤ 1048576) (w : World)
    (hseq : SeqStopsK Fence.wide 2 Try.prog gf lb (fun x : Pt => #[fr x.1 x.2]) (Below w.heap.size) (fun ys => ys = xs) Sp N w) :
    Calls Try.prog 144 #[.slice none 0 0, .func (.func gf) #[] lb] w fun e w' => ∃ v, e = .returned v ∧ Pts w' w.heap.size v xs ∧ Below w.heap.size w w' := by
  obtain ⟨i0, hi, hz0, hz1, hz2⟩ := info_parts infoPt
  refine (callsIn_wide (n := 3)).1 ?_
  have h1 : 1 ≤ 3 := by omega
  refine callsIn_of_wp_marks Try.func144 rfl trivial ?_ rfl
  simp only [Try.ntmps144, List.size_toArray, List.length_cons, List.length_nil, Nat.reduceAdd, Nat.reduceSub, Array.replicate_succ, Array.replicate_zero, List.push_toArray, List.append_toArray, List.nil_append, List.cons_append]
  gi_wp2
  have bO := Boxed.new w 24 (.slice none 0 0)
  have hB0 : Below w.heap.size w (w.alloc (.cells #[.slice none 0 0] 24)) := (Below.refl _ w).alloc (Nat.le_refl _) _
  refine wpIn_rangeFunc_ownH rfl h1 (gf := gf) (lb := lb) rfl trivial eg hseq belowK_t (belowK_b (by simp)) hB0 (fun _ => rfl)
    (fun pre W => (∃ v, Boxed W w.heap.size 24 v ∧ W.ownsRow w.heap.size 57 2 v pre.length (flat pre) ∧ True) ∧ Below w.heap.size w W)
    (fun _ _ _ => False)
    (OwnFrom.and (Own.from (holdsRow_own w.heap.size w.heap.size 24 57 2 (fun pre => pre.length) (fun pre => flat pre) (fun _ _ => True)) _) (ownFrom_below (Nat.le_refl _) (by simp)))
    (fun _ _ _ _ _ hs _ _ => hs)
    ⟨⟨_, bO, World.ownsRow_nil _ _ _ _, trivial⟩, hB0⟩
    (fun x a' W => ∃ Bx, w.heap.size < Bx ∧ Box2 W Bx x ∧ a' = { tmps := #[.slice none 0 0, .func (.func gf) #[] lb, .pointer (some ⟨w.heap.size, 0, none⟩), undef, .slice none 0 0, .pointer (some ⟨Bx, 0, none⟩), .func (.func gf) #[] lb, fr x.1 x.2, undef, undef, undef, undef, undef], defers := [] })
    ?hax ?assign ?body ?done ?stop
  case hax =>
    rintro x a' s X Y row ⟨Bx, hB, hb, ha⟩ hg hr
    exact ⟨Bx, hB, Box2.own (β := Unit) Bx x () X Y row hb hg (fun r e => (hr r e).2), ha⟩
  case assign =>
    rintro l pre x W K ⟨⟨v, hv, hrow, _⟩, hB⟩ hK
    have hz := hB.size
    gi_wp2
    exact hK _ _ ((KeepsOthers.alloc _ _).from _) ((Below.refl _ W).alloc hz _) ⟨⟨v, hv.alloc _, hrow.alloc _, trivial⟩, hB.alloc hz _⟩ ⟨W.heap.size, hv.lt, Box2.new W x, rfl⟩
  case body =>
    rintro l pre x a' W hl hr ⟨⟨v, hv, hrow, _⟩, hB⟩ ⟨Bx, hBx, hb, rfl⟩ hlt
    have hz := hB.size
    have hc := hv.cell
    have b0 := hb.c0
    have b1 := hb.c1
    obtain ⟨x, y⟩ := x
    simp only at b0 b1
    gi_wp2_with (gi_at_builtin; refine wpListIn_append_own _ rfl _ _ 24 rfl w.heap.size 57 i0 (fr 0 0) 2 16 Try.underlying24 hi hz0 hz1 hz2 rfl (by decide) _ _ _ rfl (hrow.alloc _) ⟨W.heap.size, 0, none⟩ 1 1 [.int .i64 x, .int .i64 y] rfl rfl (two_new _ _ _ _) (two_oneCell _ _) (by unfold maxLen; omega) (by omega) (by simp; omega) ?_; intro v' w1 hown' hgrow _; obtain ⟨g', cap', rfl⟩ := ownsRow_succ hown'; obtain ⟨hv1, hv2, hr2, hk2, hb2⟩ := hv.appended (by decide) hrow hz (Nat.le_refl _) hown' hgrow; have hc1 := hv1.cell; have hf1 := hv1.frozen)
    have hr3 : (w1.setCell ⟨w.heap.size, 0, none⟩ (.slice (some ⟨g', 0, none⟩) (pre.length + 1) cap')).ownsRow w.heap.size 57 2 (.slice (some ⟨g', 0, none⟩) (pre.length + 1) cap') (pre ++ [(x, y)]).length (flat (pre ++ [(x, y)])) := by
      rw [flat_append, List.length_append]
      exact hr2
    first
      | exact ⟨hk2.from _, hb2, ⟨_, hv2, hr3⟩, hB.trans hb2⟩
      | exact ⟨hk2.from _, hb2, ⟨_, hv2, hr3, trivial⟩, hB.trans hb2⟩
  case done =>
    rintro D ys W hD rfl ⟨⟨v, hv, hrow, _⟩, hB⟩ hK
    have hc := hv.cell
    gi_wp2
    refine ⟨by simp, .inl ⟨_, _, rfl, run_takeDeferred hK, ?_⟩⟩
    exact ⟨_, results_tmp rfl _ _ _, v, rfl, ownsRow_putObj hrow _ hK rfl, hB.trans (belowK_b (w := w) (Nat.le_refl _) W D _ _ (by simp at hD; omega) hK rfl rfl)⟩
  case stop =>
    rintro D c pre W _ _ h _
    exact h.elim

end Go.Proofs.Ytibafngidpmgdaa
