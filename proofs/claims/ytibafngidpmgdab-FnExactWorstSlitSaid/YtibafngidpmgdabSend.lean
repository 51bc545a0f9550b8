/- impl.Drum.sendDistances in company. (Printed by gen/mksend.py.) -/
import Derived.Test.YtibafngidpmgdabWorst2
import Derived.Test.YtibafngidpmgdabPlaces
import Derived.Conc.EventLaws
import Derived.Lib.Hide
namespace Go.Proofs.Ytibafngidpmgdab
open Go.Conc Go.RowKit
set_option linter.unusedSimpArgs false
set_option linter.unusedVariables false

noncomputable def sBody : Code := Try.f82.body.getD .skip
noncomputable def sLoop : Code := match sBody with | .seq _ (.seq _ (.seq (.seq _ (.block _ (.loop c))) _)) => c | _ => .skip
noncomputable def sTail : Code := match sBody with | .seq _ (.seq _ (.seq _ c)) => c | _ => .skip
noncomputable def sOps : Array Oper := match sLoop with | .seq _ (.seq _ (.seq (.block _ (.seq _ (.region _ ops _))) _)) => ops | _ => #[]
noncomputable def sNext : Code := match sLoop with | .seq _ (.seq _ (.seq _ c)) => c | _ => .skip
noncomputable def cOps : Array Oper := match sTail with | .region _ ops _ => ops | _ => #[]
def sBase : Frame := { (default : Frame) with fn := 82, kind := .deferred }
noncomputable def sBot : Frame := { (default : Frame) with fn := Try.prog.funcs.size, defers := [], mode := .panicking [goexitEntry] }

/-- A row of numbers, as it is read. -/
def Row0 (w : World) (v : Value) (zs : List Int) : Prop :=
  ∃ g cap, v = .slice (some ⟨g, 0, none⟩) zs.length cap ∧ ∀ j, j < zs.length → w.cell? ⟨g, j, none⟩ = some (.int .i64 (zs.getD j 0))

/-- What stood in the memory stands there still, but for the channel. -/
structure Keep (c : Nat) (w w' : World) : Prop where
  size : w.heap.size ≤ w'.heap.size
  block : ∀ k, k < w.heap.size → k ≠ c → w'.heap[k]? = w.heap[k]?
theorem Old.keep {c : Nat} {w w' : World} (h : Old w w') : Keep c w w' := ⟨h.size, fun k hk _ => h.block k hk⟩

/-- What the sender knows. -/
structure SF (c b : Nat) (r h s : Int) (tv sv : Value) (ts zs : List Int) (w : World) : Prop where
  bd : Bd w b r h s
  nb : b ≠ c
  ch : ∃ s r tm, Chan0 c w s r tm
  row : Row0 w sv zs
  tab : Row0 w tv ts
  loops : NoLoops w

theorem cell_chan {c : Nat} {w : World} {s r : Nat} {tm : Bool} {a : Addr} {v : Value} (h : Chan0 c w s r tm) (hc : w.cell? a = some v) : a.block ≠ c ∧ a.block < w.heap.size := by
  have h' : w.heap[c]? = some (.chan 0 #[] false s r tm) := h
  refine ⟨fun e => ?_, ?_⟩
  · obtain ⟨bl, off, sp⟩ := a
    simp only at e
    subst e
    simp [World.cell?, h'] at hc
  · rcases Nat.lt_or_ge a.block w.heap.size with h1 | h1
    · exact h1
    · simp [World.cell?, Array.getElem?_eq_none h1] at hc

theorem Keep.cell {c : Nat} {w w' : World} {s r : Nat} {tm : Bool} (k : Keep c w w') (h : Chan0 c w s r tm) {a : Addr} {v : Value} (hc : w.cell? a = some v) : w'.cell? a = some v := by
  obtain ⟨h1, h2⟩ := cell_chan h hc
  rw [World.cell?_of_block (k.block a.block h2 h1)]
  exact hc
theorem Keep.row {c : Nat} {w w' : World} {s r : Nat} {tm : Bool} (k : Keep c w w') (h : Chan0 c w s r tm) {v : Value} {zs : List Int} (hr : Row0 w v zs) : Row0 w' v zs := by
  obtain ⟨g, cap, e, hc⟩ := hr
  exact ⟨g, cap, e, fun j hj => k.cell h (hc j hj)⟩
theorem SF.keep {c b : Nat} {r h s : Int} {tv sv : Value} {ts zs : List Int} {w w' : World} (x : SF c b r h s tv sv ts zs w) (k : Keep c w w') (hl : NoLoops w') (hch : ∃ s r tm, Chan0 c w' s r tm) : SF c b r h s tv sv ts zs w' := by
  obtain ⟨s0, r0, tm, h0⟩ := x.ch
  exact ⟨⟨k.cell h0 x.bd.c0, k.cell h0 x.bd.c1, k.cell h0 x.bd.c2, Nat.lt_of_lt_of_le x.bd.lt k.size⟩, x.nb, hch, k.row h0 x.row, k.row h0 x.tab, hl⟩

section
variable (c b : Nat) (r h s : Int) (tv sv : Value) (ts zs : List Int) (Stop : Goroutine → World → Prop)

/-- The loop's head, k distances sent. -/
noncomputable def headS (n k : Int) (u0 u2 u4 u5 u7 u8 u9 u10 u11 u12 u13 u14 u18 u19 u20 u21 u22 u23 u24 u25 u26 u27 : Value) : Goroutine :=
  G (sBase.at ⟨#[u0, .chan (some c), u2, .pointer (some ⟨b, 0, none⟩), u4, u5, tv, u7, u8, u9, u10, u11, u12, u13, u14, sv, .int .i64 n, .int .i64 k, u18, u19, u20, u21, u22, u23, u24, u25, u26, u27], []⟩ [.code sLoop, .inLoop sLoop, .inBlock 0, .code sTail]) [sBot]
noncomputable def atSendS (n k x y : Int) (u0 u2 u4 u5 u7 u9 u10 u11 u12 u13 u14 u18 u19 u20 u22 u23 u24 u26 u27 : Value) (rest : List Nat) : Goroutine :=
  G (sBase.at ⟨#[u0, .chan (some c), u2, .pointer (some ⟨b, 0, none⟩), u4, u5, tv, u7, .int .i64 x, u9, u10, u11, u12, u13, u14, sv, .int .i64 n, .int .i64 k, u18, u19, u20, .chan (some c), u22, u23, u24, .int .i64 y, u26, u27], []⟩ [.inRegion sOps rest, .inBlock 1, .code sNext, .inLoop sLoop, .inBlock 0, .code sTail]) [sBot]
noncomputable def atCloseS (n k : Int) (u0 u2 u4 u5 u7 u8 u9 u10 u11 u12 u13 u14 u18 u19 u20 u21 u22 u23 u24 u25 u26 : Value) (rest : List Nat) : Goroutine :=
  G (sBase.at ⟨#[u0, .chan (some c), u2, .pointer (some ⟨b, 0, none⟩), u4, u5, tv, u7, u8, u9, u10, u11, u12, u13, u14, sv, .int .i64 n, .int .i64 k, u18, u19, u20, u21, u22, u23, u24, u25, u26, .chan (some c)], []⟩ [.inRegion cOps rest]) [sBot]

set_option maxHeartbeats 1000000 in
set_option maxRecDepth 100000 in
/-- From the head to the send. -/
theorem seg_send (k : Nat) (hk : k < zs.length) (hz : zs.length ≤ 1000) (y : Int) (u0 u2 u4 u5 u7 u8 u9 u10 u11 u12 u13 u14 u18 u19 u20 u21 u22 u23 u24 u25 u26 u27 : Value) (w : World) (x : SF c b r h s tv sv ts zs w)
    (hN : ∀ w, SF c b r h s tv sv ts zs w → Callee Try.prog 101 #[dr r h s, tv, .int .i64 (zs.getD k 0)] w fun v w' => v = .int .i64 y ∧ Old w w')
    (next : ∀ (v0 v2 v4 v5 v7 v9 v10 v11 v12 v13 v14 v18 v19 v20 v22 v23 v24 v26 v27 : Value) (w' : World), SF c b r h s tv sv ts zs w' → Old w w' → Outer w w' → Ev Try.prog KeptD Stop false (atSendS c b tv sv zs.length k (zs.getD k 0) y v0 v2 v4 v5 v7 v9 v10 v11 v12 v13 v14 v18 v19 v20 v22 v23 v24 v26 v27 [5]) w') :
    Ev Try.prog KeptD Stop false (headS c b tv sv zs.length k u0 u2 u4 u5 u7 u8 u9 u10 u11 u12 u13 u14 u18 u19 u20 u21 u22 u23 u24 u25 u26 u27) w := by
  have hl := x.loops
  obtain ⟨x0, x1, x2, x3⟩ := x.bd
  obtain ⟨g, cap, e, hc⟩ := x.row
  have hck := hc k hk
  have hlt : decide (k < zs.length) = true := by simpa using hk
  have N := Lib.hid (hN w x)
  have X := Lib.hid x
  have nx := Lib.hid next
  clear hN next x hz
  clear hc
  generalize hzl : zs.length = n at *
  generalize zs.getD k 0 = p at *
  subst e
  simp only [headS, sLoop, sTail, sBody, Try.f82, Option.getD_some]
  repeat (first | (first | refine Ev.seq hl ?_ | refine Ev.regionEnd hl ?_ | refine Ev.skip hl ?_ | refine Ev.block hl ?_ | refine Ev.loop hl ?_ | refine Ev.inLoop hl ?_ | refine Ev.inBlock hl ?_ | refine Ev.label hl ?_ | (refine Ev.region hl ?_; simp only [List.size_toArray, List.length_cons, List.length_nil, Nat.reduceAdd, Nat.zero_add, List.range, List.range.loop])) | (refine Ev.oper_k rfl rfl (by decide) (by kernel_rfl) hl (fun K hV hS => ?_); go_simp; (first | refine hV _ _ ⟨rfl, fun hl' => ?_⟩ | refine hS _ ⟨rfl, fun hl' => ?_⟩); clear K hV hS; replace hl := hl'; clear hl'; try walk_nrm))
  (refine Ev.cond true hl rfl ?_; simp only [if_true, if_false, Bool.false_eq_true, ↓reduceIte])
  repeat (first | (first | refine Ev.seq hl ?_ | refine Ev.regionEnd hl ?_ | refine Ev.skip hl ?_ | refine Ev.block hl ?_ | refine Ev.loop hl ?_ | refine Ev.inLoop hl ?_ | refine Ev.inBlock hl ?_ | refine Ev.label hl ?_ | (refine Ev.region hl ?_; simp only [List.size_toArray, List.length_cons, List.length_nil, Nat.reduceAdd, Nat.zero_add, List.range, List.range.loop])) | (refine Ev.oper_k rfl rfl (by decide) (by kernel_rfl) hl (fun K hV hS => ?_); go_simp; (first | refine hV _ _ ⟨rfl, fun hl' => ?_⟩ | refine hS _ ⟨rfl, fun hl' => ?_⟩); clear K hV hS; replace hl := hl'; clear hl'; try walk_nrm))
  refine Ev.call (R := fun v w' => v = .int .i64 y ∧ Old w w') rfl rfl rfl (by decide) hl ?_ (fun v w1 hh hl1 u1 => ?_)
  · walk_nrm
    exact N.out
  obtain ⟨hv, o1⟩ := hh
  cases hv
  walk_nrm
  have nx' := nx.out
  simp only [atSendS, sOps, sNext, sLoop, sTail, sBody, Try.f82, Option.getD_some] at nx'
  obtain ⟨s0, r0, tm, h0⟩ := X.out.ch
  exact nx' _ _ _ _ _ _ _ _ _ _ _ _ _ _ _ _ _ _ _ w1 (X.out.keep o1.keep hl1 ⟨s0, r0, tm, (o1.block c h0.lt).trans h0⟩) o1 u1

set_option maxRecDepth 100000 in
/-- From behind the send to the head. -/
theorem seg_next (n k : Nat) (hk : k ≤ 1000) (x y : Int) (u0 u2 u4 u5 u7 u9 u10 u11 u12 u13 u14 u18 u19 u20 u22 u23 u24 u26 u27 : Value) (w : World) (hl : NoLoops w) (next : ∀ (v0 v2 v4 v5 v7 v8 v9 v10 v11 v12 v13 v14 v18 v19 v20 v21 v22 v23 v24 v25 v26 v27 : Value), Ev Try.prog KeptD Stop false (headS c b tv sv n (k + 1 : Nat) v0 v2 v4 v5 v7 v8 v9 v10 v11 v12 v13 v14 v18 v19 v20 v21 v22 v23 v24 v25 v26 v27) w) :
    Ev Try.prog KeptD Stop false (Conc.served (atSendS c b tv sv n k x y u0 u2 u4 u5 u7 u9 u10 u11 u12 u13 u14 u18 u19 u20 u22 u23 u24 u26 u27 [5]) undef) w := by
  have hw : IntKind.i64.wrap ((k : Int) + 1) = ((k + 1 : Nat) : Int) := by rw [IntKind.wrap_i64]; omega
  have nx := Lib.hid next
  clear next
  simp only [atSendS, Conc.served_G]
  simp only [sOps, sNext, sLoop, sTail, sBody, Try.f82, Option.getD_some]
  walk_nrm
  (first | refine Ev.seq hl ?_ | refine Ev.regionEnd hl ?_ | refine Ev.skip hl ?_ | refine Ev.block hl ?_ | refine Ev.loop hl ?_ | refine Ev.inLoop hl ?_ | refine Ev.inBlock hl ?_ | refine Ev.label hl ?_ | (refine Ev.region hl ?_; simp only [List.size_toArray, List.length_cons, List.length_nil, Nat.reduceAdd, Nat.zero_add, List.range, List.range.loop]))
  (first | refine Ev.seq hl ?_ | refine Ev.regionEnd hl ?_ | refine Ev.skip hl ?_ | refine Ev.block hl ?_ | refine Ev.loop hl ?_ | refine Ev.inLoop hl ?_ | refine Ev.inBlock hl ?_ | refine Ev.label hl ?_ | (refine Ev.region hl ?_; simp only [List.size_toArray, List.length_cons, List.length_nil, Nat.reduceAdd, Nat.zero_add, List.range, List.range.loop]))
  (first | refine Ev.seq hl ?_ | refine Ev.regionEnd hl ?_ | refine Ev.skip hl ?_ | refine Ev.block hl ?_ | refine Ev.loop hl ?_ | refine Ev.inLoop hl ?_ | refine Ev.inBlock hl ?_ | refine Ev.label hl ?_ | (refine Ev.region hl ?_; simp only [List.size_toArray, List.length_cons, List.length_nil, Nat.reduceAdd, Nat.zero_add, List.range, List.range.loop]))
  (refine Ev.oper_k rfl rfl (by decide) (by kernel_rfl) hl (fun K hV hS => ?_); go_simp; (first | refine hV _ _ ⟨rfl, fun hl' => ?_⟩ | refine hS _ ⟨rfl, fun hl' => ?_⟩); clear K hV hS; replace hl := hl'; clear hl'; try walk_nrm)
  (refine Ev.oper_k rfl rfl (by decide) (by kernel_rfl) hl (fun K hV hS => ?_); go_simp; (first | refine hV _ _ ⟨rfl, fun hl' => ?_⟩ | refine hS _ ⟨rfl, fun hl' => ?_⟩); clear K hV hS; replace hl := hl'; clear hl'; try walk_nrm)
  (first | refine Ev.seq hl ?_ | refine Ev.regionEnd hl ?_ | refine Ev.skip hl ?_ | refine Ev.block hl ?_ | refine Ev.loop hl ?_ | refine Ev.inLoop hl ?_ | refine Ev.inBlock hl ?_ | refine Ev.label hl ?_ | (refine Ev.region hl ?_; simp only [List.size_toArray, List.length_cons, List.length_nil, Nat.reduceAdd, Nat.zero_add, List.range, List.range.loop]))
  (first | refine Ev.seq hl ?_ | refine Ev.regionEnd hl ?_ | refine Ev.skip hl ?_ | refine Ev.block hl ?_ | refine Ev.loop hl ?_ | refine Ev.inLoop hl ?_ | refine Ev.inBlock hl ?_ | refine Ev.label hl ?_ | (refine Ev.region hl ?_; simp only [List.size_toArray, List.length_cons, List.length_nil, Nat.reduceAdd, Nat.zero_add, List.range, List.range.loop]))
  have nx' := nx.out
  have e1 : ((k + 1 : Nat) : Int) = (k : Int) + 1 := by omega
  rw [e1] at nx'
  simp only [headS, sLoop, sTail, sBody, Try.f82, Option.getD_some] at nx'
  exact nx' _ _ _ _ _ _ _ _ _ _ _ _ _ _ _ _ _ _ _ _ _ _

set_option maxRecDepth 100000 in
/-- From the head, all sent, to the close. -/
theorem seg_close (n : Nat) (u0 u2 u4 u5 u7 u8 u9 u10 u11 u12 u13 u14 u18 u19 u20 u21 u22 u23 u24 u25 u26 u27 : Value) (w : World) (hl : NoLoops w) (next : ∀ (v0 v2 v4 v5 v7 v8 v9 v10 v11 v12 v13 v14 v18 v19 v20 v21 v22 v23 v24 v25 v26 : Value), Ev Try.prog KeptD Stop false (atCloseS c b tv sv n n v0 v2 v4 v5 v7 v8 v9 v10 v11 v12 v13 v14 v18 v19 v20 v21 v22 v23 v24 v25 v26 [1]) w) : Ev Try.prog KeptD Stop false (headS c b tv sv n n u0 u2 u4 u5 u7 u8 u9 u10 u11 u12 u13 u14 u18 u19 u20 u21 u22 u23 u24 u25 u26 u27) w := by
  have hlt : decide (n < n) = false := by simp
  have nx := Lib.hid next
  clear next
  simp only [headS, sLoop, sTail, sBody, Try.f82, Option.getD_some]
  repeat (first | (first | refine Ev.seq hl ?_ | refine Ev.regionEnd hl ?_ | refine Ev.skip hl ?_ | refine Ev.block hl ?_ | refine Ev.loop hl ?_ | refine Ev.inLoop hl ?_ | refine Ev.inBlock hl ?_ | refine Ev.label hl ?_ | (refine Ev.region hl ?_; simp only [List.size_toArray, List.length_cons, List.length_nil, Nat.reduceAdd, Nat.zero_add, List.range, List.range.loop])) | (refine Ev.oper_k rfl rfl (by decide) (by kernel_rfl) hl (fun K hV hS => ?_); go_simp; (first | refine hV _ _ ⟨rfl, fun hl' => ?_⟩ | refine hS _ ⟨rfl, fun hl' => ?_⟩); clear K hV hS; replace hl := hl'; clear hl'; try walk_nrm))
  (refine Ev.cond false hl rfl ?_; simp only [if_true, if_false, Bool.false_eq_true, ↓reduceIte])
  (apply Ev.exit hl; rfl)
  repeat (first | refine Ev.seq hl ?_ | refine Ev.regionEnd hl ?_ | refine Ev.skip hl ?_ | refine Ev.block hl ?_ | refine Ev.loop hl ?_ | refine Ev.inLoop hl ?_ | refine Ev.inBlock hl ?_ | refine Ev.label hl ?_ | (refine Ev.region hl ?_; simp only [List.size_toArray, List.length_cons, List.length_nil, Nat.reduceAdd, Nat.zero_add, List.range, List.range.loop]))
  (refine Ev.oper_k rfl rfl (by decide) (by kernel_rfl) hl (fun K hV hS => ?_); go_simp; (first | refine hV _ _ ⟨rfl, fun hl' => ?_⟩ | refine hS _ ⟨rfl, fun hl' => ?_⟩); clear K hV hS; replace hl := hl'; clear hl'; try walk_nrm)
  have nx' := nx.out
  simp only [atCloseS, cOps, sTail, sBody, Try.f82, Option.getD_some] at nx'
  exact nx' _ _ _ _ _ _ _ _ _ _ _ _ _ _ _ _ _ _ _ _ _

/-- At the send. -/
theorem atSend_at (Next : Goroutine → World → Prop) (n k x y : Int) (u0 u2 u4 u5 u7 u9 u10 u11 u12 u13 u14 u18 u19 u20 u22 u23 u24 u26 u27 : Value) (w : World) (s r : Nat) (tm : Bool) (hch : Chan0 c w s r tm) (next : Next (Conc.served (atSendS c b tv sv n k x y u0 u2 u4 u5 u7 u9 u10 u11 u12 u13 u14 u18 u19 u20 u22 u23 u24 u26 u27 [5]) undef) (w.passed c s r tm)) :
    AtS Try.prog c (.int .i64 y) Next (atSendS c b tv sv n k x y u0 u2 u4 u5 u7 u9 u10 u11 u12 u13 u14 u18 u19 u20 u22 u23 u24 u26 u27 [5]) w := by
  refine ⟨rfl, s, r, tm, hch, atSendS c b tv sv n k x y u0 u2 u4 u5 u7 u9 u10 u11 u12 u13 u14 u18 u19 u20 u22 u23 u24 u26 u27 [5], .tuple #[], #[], ?_, by simp, next⟩
  simp only [atSendS, sOps, sLoop, sBody, Try.f82, Option.getD_some]
  rw [stepG_comm (cases := #[scase c (.int .i64 y) (.tuple #[])]) (blocking := true) (shape := .send) (w' := w) rfl rfl (by decide) (by simp [execOp, scase, Act.eval])]
  rw [listed_nil (by simp [execOp])]

/-- Behind the close it only leaves. -/
theorem quitsS (n k : Int) (u0 u2 u4 u5 u7 u8 u9 u10 u11 u12 u13 u14 u18 u19 u20 u21 u22 u23 u24 u25 u26 : Value) : QuitsIn Try.prog 4 (atCloseS c b tv sv n k u0 u2 u4 u5 u7 u8 u9 u10 u11 u12 u13 u14 u18 u19 u20 u21 u22 u23 u24 u25 u26 []) := by
  simp only [atCloseS]
  refine .inr ⟨rfl, _, fun w => stepG_region_end, ?_⟩
  refine .inr ⟨rfl, _, fun w => stepG_end, ?_⟩
  refine .inr ⟨rfl, G sBot [], fun w => ?_, ?_⟩
  · simp [G, stepG, unwind, doReturn, results, Frame.at, sBase, sBot, Try.func82, Try.results82, seen, GStep.after, goexitEntry]
  refine .inr ⟨rfl, { G sBot [] with status := .finished }, fun w => ?_, rfl⟩
  simp [G, stepG, unwind, sBot, goexitEntry, Frame.catches]
  rfl

/-- At the close. -/
theorem atClose_at (Last : World → Prop) (n k : Int) (u0 u2 u4 u5 u7 u8 u9 u10 u11 u12 u13 u14 u18 u19 u20 u21 u22 u23 u24 u25 u26 : Value) (w : World) (s r : Nat) (tm : Bool) (hch : Chan0 c w s r tm) (hlast : Last (w.shut c s r tm)) : AtC Try.prog c Last (atCloseS c b tv sv n k u0 u2 u4 u5 u7 u8 u9 u10 u11 u12 u13 u14 u18 u19 u20 u21 u22 u23 u24 u25 u26 [1]) w := by
  refine ⟨rfl, ?_, s, r, tm, hch, atCloseS c b tv sv n k u0 u2 u4 u5 u7 u8 u9 u10 u11 u12 u13 u14 u18 u19 u20 u21 u22 u23 u24 u25 u26 [], #[⟨.obj c, false, true⟩], 4, ?_, ?_, quitsS c b tv sv n k u0 u2 u4 u5 u7 u8 u9 u10 u11 u12 u13 u14 u18 u19 u20 u21 u22 u23 u24 u25 u26, hlast⟩
  · simp [mayWake, atCloseS, cOps, sTail, sBody, Try.f82, G, Frame.at]
  · simp only [atCloseS, cOps, sTail, sBody, Try.f82, Option.getD_some]
    have hch' : w.heap[c]? = some (.chan 0 #[] false s r tm) := hch
    have hr := run_close_open (P := Try.prog) #[117] 0 hch'
    have he := events_close_open (P := Try.prog) (es := #[]) #[117] 0 hch'
    rw [stepG_value (v := .tuple #[]) (w' := w.shut c s r tm) rfl rfl (by decide) (by simp [go_sem, hr, World.shut])]
    have hlst : ∀ a o, (execOp a.eval o).events Try.prog w #[] = #[⟨.obj c, false, true⟩, ⟨.obj c, true, true⟩] → listed Try.prog sBase.fn a o w = #[⟨.obj c, false, true⟩, ⟨.obj c, true, true⟩] := by
      intro a o hh
      unfold listed
      rw [hh]
      exact seen_eq (by simp [sBase, Try.func82, Try.f82]) (by simp)
    rw [hlst _ _ (by simp [go_sem, he])]
    rfl
  · intro e he
    simp at he
    subst he
    exact fun hh => by cases hh
end
end Go.Proofs.Ytibafngidpmgdab
