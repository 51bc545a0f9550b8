/- impl.Drum.places in company. (Printed by gen/mkplacese.py.) -/
import Derived.Test.YtibafngidpmgdabListE
namespace Go.Proofs.Ytibafngidpmgdab
open Go.Conc Go.RowKit
set_option linter.unusedSimpArgs false
set_option linter.unusedVariables false

abbrev sPlace1 : List FuncId := [113, 110]
theorem ok_sPlace1 : CodeOk (statCal sPlace1) Try.prog (· ∈ sPlace1) := codeOk_of (by kernel_rfl)

theorem place1_ev (r h s : Int) (n k p q : Nat) (w : World) (B : Bd w p r h s) (c1 : w.cell? ⟨q, 0, none⟩ = some (.int .i64 n)) (r0 : 0 ≤ r) (r1 : r ≤ 10000) (n1 : 1 ≤ n) (n2 : n ≤ 48) (hk : k < n) :
    Callee Try.prog 113 #[.int .i64 k, .pointer (some ⟨p, 0, none⟩), .pointer (some ⟨q, 0, none⟩)] w fun v w' => v = .int .i64 (near ((k : Int) * r) n) ∧ Old w w' :=
  callee_plain ok_sPlace1 (by simp) (fun τ d => (place1_any r h s n k p q (re w τ d) ⟨B.c0, B.c1, B.c2, B.lt⟩ c1 r0 r1 n1 n2 hk).mono fun e w' ⟨h1, h2⟩ => ⟨_, h1, rfl, Old.of h2⟩) fun v w' τ d hh => ⟨hh.1, hh.2.re τ d⟩

noncomputable def pBody : Code := Try.f100.body.getD .skip
def pBase : Frame := base 100

theorem enterP (r h s : Int) (n : Nat) : Frame.enter Try.prog 100 #[dr r h s, .int .i64 n] .normal = pBase.at ⟨#[dr r h s, .int .i64 n, undef, undef, undef, undef, undef, undef], []⟩ [.code pBody] := by
  have hb : Try.f100.body = some pBody := by simp only [pBody, Try.f100, Option.getD_some]
  rw [enter_at (c := pBody) _ Try.func100 hb, Try.ntmps100]
  generalize pBody = q
  simp only [pBase, List.size_toArray, List.length_cons, List.length_nil, Nat.reduceAdd, Nat.reduceSub, Array.replicate_succ, Array.replicate_zero, List.push_toArray, List.append_toArray, List.nil_append, List.cons_append]

theorem resP (v : Value) {a : Array Value} (h4 : a.getD 4 undef = v) (w : World) : (results Try.f100 a).runT Try.prog w #[] = (.ok v w, #[]) := by
  subst h4
  simp [results, Try.results100]

theorem row_of_owns {w : World} {B : Nat} {v : Value} {zs : List Int} (h : Ints w B v zs) (h1 : zs ≠ []) : Row0 w v zs := by
  rcases h.view with ⟨_, e⟩ | ⟨g, cap, e, _, _, _, hc, _⟩
  · exact absurd e h1
  · exact ⟨g, cap, e, hc⟩
theorem row_re {w : World} {v : Value} {zs : List Int} {τ : Tape} {d : Nat} (h : Row0 w v zs) : Row0 (re w τ d) v zs := h

set_option maxHeartbeats 1000000 in
set_option maxRecDepth 100000 in
/-- impl.Drum.places. -/
theorem places_ev (r h s : Int) (n : Nat) (w : World) (r0 : 0 ≤ r) (r1 : r ≤ 10000) (n1 : 1 ≤ n) (n2 : n ≤ 48) :
    Callee Try.prog 100 #[dr r h s, .int .i64 n] w fun v w' => Row0 w' v (placesL r n) ∧ Old w w' := by
  refine ⟨⟨Try.f100, Try.func100, by kernel_rfl, by kernel_rfl⟩, fun main c0 cs Stop next hl => ?_⟩
  have NX := Lib.hid next
  clear next
  generalize hW : (w.alloc (.cells #[.int .i64 r, .int .i64 h, .int .i64 s] 53)).alloc (.cells #[.int .i64 n] 2) = W
  have hb0 : W.heap[w.heap.size]? = some (.cells #[.int .i64 r, .int .i64 h, .int .i64 s] 53) := by
    rw [← hW, (Old.alloc _ _).block _ (by simp)]
    exact heapNew _ _
  have hb1 : W.heap[w.heap.size + 1]? = some (.cells #[.int .i64 n] 2) := by
    have := heapNew (w.alloc (.cells #[.int .i64 r, .int .i64 h, .int .i64 s] 53)) (.cells #[.int .i64 n] 2)
    rw [World.size_alloc] at this
    rw [← hW]
    exact this
  have o0 : Old w W := by rw [← hW]; exact (Old.alloc _ _).trans (Old.alloc _ _)
  have lt0 : w.heap.size < W.heap.size := by rw [← hW]; simp only [World.size_alloc]; omega
  have lt1 : w.heap.size + 1 < W.heap.size := by rw [← hW]; simp only [World.size_alloc]; omega
  have L := Lib.hid (listOf_ev (.pointer (some ⟨w.heap.size, 0, none⟩)) (.pointer (some ⟨w.heap.size + 1, 0, none⟩)) n (by omega) (fun k => near ((k : Int) * r) n) W fun k hk u hu _ =>
    place1_ev r h s n k w.heap.size (w.heap.size + 1) u (bdBlock ((hu.block _ lt0).trans hb0)) (by simp [World.cell?, (hu.block _ lt1).trans hb1]) r0 r1 n1 n2 hk)
  have HE : genL (fun k => near ((k : Int) * r) n) n = placesL r n := rfl
  have u0 : Outer w W := by rw [← hW]; exact ⟨rfl, rfl, rfl⟩
  have HW := Lib.hid hW
  clear hW hb0 hb1
  rw [enterP]
  simp only [pBody, Try.f100, Option.getD_some]
  repeat (first | (first | refine Ev.seq hl ?_ | refine Ev.regionEnd hl ?_ | refine Ev.skip hl ?_ | refine Ev.block hl ?_ | refine Ev.loop hl ?_ | refine Ev.inLoop hl ?_ | refine Ev.inBlock hl ?_ | refine Ev.label hl ?_ | (refine Ev.region hl ?_; simp only [List.size_toArray, List.length_cons, List.length_nil, Nat.reduceAdd, Nat.zero_add, List.range, List.range.loop])) | (refine Ev.oper_k rfl rfl (by decide) (by kernel_rfl) hl (fun K hV hS => ?_); go_simp; (first | refine hV _ _ ⟨rfl, fun hl' => ?_⟩ | refine hS _ ⟨rfl, fun hl' => ?_⟩); clear K hV hS; replace hl := hl'; clear hl'; try walk_nrm))
  rw [HW.out] at hl ⊢
  refine Ev.call (R := fun v w' => w'.ownsRow W.heap.size 2 1 v n ((genL (fun k => near ((k : Int) * r) n) n).map (Value.int .i64)) ∧ Old W w') rfl rfl rfl (by decide) hl ?_ (fun v w1 hh hl1 u1 => ?_)
  · walk_nrm
    exact L.out
  obtain ⟨io, o1⟩ := hh
  clear hl
  have hl := hl1
  clear hl1
  walk_nrm
  repeat (first | (first | refine Ev.seq hl ?_ | refine Ev.regionEnd hl ?_ | refine Ev.skip hl ?_ | refine Ev.block hl ?_ | refine Ev.loop hl ?_ | refine Ev.inLoop hl ?_ | refine Ev.inBlock hl ?_ | refine Ev.label hl ?_ | (refine Ev.region hl ?_; simp only [List.size_toArray, List.length_cons, List.length_nil, Nat.reduceAdd, Nat.zero_add, List.range, List.range.loop])) | (refine Ev.oper_k rfl rfl (by decide) (by kernel_rfl) hl (fun K hV hS => ?_); go_simp; (first | refine hV _ _ ⟨rfl, fun hl' => ?_⟩ | refine hS _ ⟨rfl, fun hl' => ?_⟩); clear K hV hS; replace hl := hl'; clear hl'; try walk_nrm))
  refine Ev.retn hl ?_
  have hr : Row0 w1 v (placesL r n) := by
    refine row_of_owns (B := W.heap.size) ?_ (fun e => ?_)
    · rw [HE] at io
      unfold Ints
      rw [placesL_length]
      exact io
    · have := placesL_length r n
      rw [e] at this
      simp at this
      omega
  refine Ev.leave (v := v) hl rfl rfl rfl Try.func100 (fun x => ?_) (NX.out v w1 ⟨hr, o0.trans o1⟩ hl (Outer.trans u0 u1))
  refine resP v ?_ x
  walk_nrm
end Go.Proofs.Ytibafngidpmgdab
