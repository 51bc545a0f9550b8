/- impl.Drum.sendDistances in company: the script, from its birth. (Printed by gen/mksend2.py.) -/
import Derived.Test.YtibafngidpmgdabSend
namespace Go.Proofs.Ytibafngidpmgdab
open Go.Conc Go.RowKit
set_option linter.unusedSimpArgs false
set_option linter.unusedVariables false

theorem belowStep {N : Nat} {W w w' : World} (h : Below N W w) (hN : N ≤ w.heap.size) (o : Old w w') (u : Outer w w') : Below N W w' :=
  ⟨u.2.1.trans h.os, u.1.trans h.tape, u.2.2.trans h.output, Nat.le_trans h.size o.size, fun k hk => (o.block k (Nat.lt_of_lt_of_le hk hN)).trans (h.block k hk)⟩
theorem belowDrawn {N : Nat} {W w : World} (h : Below N W w) (d : Nat) : Below N W (re w w.tape d) := ⟨h.os, h.tape, h.output, h.size, h.block⟩
theorem belowChan {N c : Nat} {W w : World} (h : Below N W w) (hc : N ≤ c) (o : Obj) : Below N W { w with heap := w.heap.setIfInBounds c o } :=
  ⟨h.os, h.tape, h.output, by simpa using h.size, fun k hk => by
    have hne : c ≠ k := by omega
    simp only [Array.getElem?_setIfInBounds, if_neg hne]
    exact h.block k hk⟩
theorem keep_chan {c : Nat} {w : World} (o : Obj) : Keep c w { w with heap := w.heap.setIfInBounds c o } :=
  ⟨by simp, fun k hk hne => by simp only [Array.getElem?_setIfInBounds, if_neg (Ne.symm hne)]⟩

/-- What is left at the end. -/
def LastS (N : Nat) (W : World) (w : World) : Prop := NoLoops w ∧ Below N W w
theorem lastS_draw {N : Nat} {W : World} (w : World) (d : Nat) (h : LastS N W w) : LastS N W (re w w.tape d) := ⟨h.1, belowDrawn h.2 d⟩

section
variable (c b : Nat) (r h s : Int) (tv sv : Value) (ts zs : List Int)

theorem drop_at {zs : List Int} {k : Nat} (hk : k < zs.length) : zs.drop k = zs.getD k 0 :: zs.drop (k + 1) := by
  rw [List.drop_eq_getElem_cons hk]
  simp [hk]

theorem SF.redraw {w : World} (x : SF c b r h s tv sv ts zs w) (d : Nat) : SF c b r h s tv sv ts zs (re w w.tape d) :=
  x.keep ⟨Nat.le_refl _, fun _ _ _ => rfl⟩ x.loops x.ch

/-- The script, k sent, m to send. -/
theorem sends_from (N : Nat) (W : World) (hN : N ≤ c) (D : Int → Int) (hz : zs.length ≤ 1000)
    (hD : ∀ k, k < zs.length → ∀ w, SF c b r h s tv sv ts zs w → Callee Try.prog 101 #[dr r h s, tv, .int .i64 (zs.getD k 0)] w fun v w' => v = .int .i64 (D (zs.getD k 0)) ∧ Old w w') :
    ∀ (m k : Nat), k + m = zs.length → ∀ (u0 u2 u4 u5 u7 u8 u9 u10 u11 u12 u13 u14 u18 u19 u20 u21 u22 u23 u24 u25 u26 u27 : Value) (w : World), SF c b r h s tv sv ts zs w → Below N W w →
      Ev Try.prog KeptD (StopS Try.prog c (LastS N W) (((zs.drop k).map D).map fun v => Value.int .i64 v)) false (headS c b tv sv zs.length k u0 u2 u4 u5 u7 u8 u9 u10 u11 u12 u13 u14 u18 u19 u20 u21 u22 u23 u24 u25 u26 u27) w := by
  intro m
  induction m with
  | zero =>
    intro k hk u0 u2 u4 u5 u7 u8 u9 u10 u11 u12 u13 u14 u18 u19 u20 u21 u22 u23 u24 u25 u26 u27 w x hb
    obtain rfl : k = zs.length := by omega
    rw [List.drop_length]
    refine seg_close c b tv sv _ zs.length u0 u2 u4 u5 u7 u8 u9 u10 u11 u12 u13 u14 u18 u19 u20 u21 u22 u23 u24 u25 u26 u27 w x.loops fun v0 v2 v4 v5 v7 v8 v9 v10 v11 v12 v13 v14 v18 v19 v20 v21 v22 v23 v24 v25 v26 => .stop fun d => ?_
    obtain ⟨s0, r0, tm, h0⟩ := x.ch
    exact atClose_at c b tv sv (LastS N W) _ _ v0 v2 v4 v5 v7 v8 v9 v10 v11 v12 v13 v14 v18 v19 v20 v21 v22 v23 v24 v25 v26 _ s0 r0 tm h0 ⟨NoLoops.set (w := re w w.tape d) x.loops trivial, belowChan (belowDrawn hb d) hN _⟩
  | succ m ih =>
    intro k hk u0 u2 u4 u5 u7 u8 u9 u10 u11 u12 u13 u14 u18 u19 u20 u21 u22 u23 u24 u25 u26 u27 w x hb
    have hlt : k < zs.length := by omega
    rw [drop_at hlt, List.map_cons, List.map_cons]
    refine seg_send c b r h s tv sv ts zs _ k hlt hz (D (zs.getD k 0)) u0 u2 u4 u5 u7 u8 u9 u10 u11 u12 u13 u14 u18 u19 u20 u21 u22 u23 u24 u25 u26 u27 w x (hD k hlt) fun v0 v2 v4 v5 v7 v9 v10 v11 v12 v13 v14 v18 v19 v20 v22 v23 v24 v26 v27 w' x' o u => .stop fun d => ?_
    have xd := SF.redraw c b r h s tv sv ts zs x' d
    obtain ⟨s0, r0, tm, h0⟩ := xd.ch
    have hlt2 : N ≤ w.heap.size := by
      obtain ⟨s1, r1, tm1, h1⟩ := x.ch
      exact Nat.le_of_lt (Nat.lt_of_le_of_lt hN h1.lt)
    have hb' : Below N W (re w' w'.tape d) := belowDrawn (belowStep hb hlt2 o u) d
    refine atSend_at c b tv sv _ _ _ _ _ v0 v2 v4 v5 v7 v9 v10 v11 v12 v13 v14 v18 v19 v20 v22 v23 v24 v26 v27 _ s0 r0 tm h0 ?_
    have x2 : SF c b r h s tv sv ts zs ((re w' w'.tape d).passed c s0 r0 tm) := xd.keep (keep_chan _) (NoLoops.set xd.loops trivial) ⟨_, _, _, heap_put h0⟩
    refine (sendE_iff ..).2 (seg_next c b tv sv _ zs.length k (by omega) _ _ v0 v2 v4 v5 v7 v9 v10 v11 v12 v13 v14 v18 v19 v20 v22 v23 v24 v26 v27 _ x2.loops fun v0 v2 v4 v5 v7 v8 v9 v10 v11 v12 v13 v14 v18 v19 v20 v21 v22 v23 v24 v25 v26 v27 => ?_)
    exact ih (k + 1) (by omega) v0 v2 v4 v5 v7 v8 v9 v10 v11 v12 v13 v14 v18 v19 v20 v21 v22 v23 v24 v25 v26 v27 _ x2 (belowChan hb' hN _)

theorem enterS (p : Int) : Frame.enter Try.prog 82 #[dr r h s, .chan (some c), .int .i64 p] .deferred = sBase.at ⟨#[dr r h s, .chan (some c), .int .i64 p, undef, undef, undef, undef, undef, undef, undef, undef, undef, undef, undef, undef, undef, undef, undef, undef, undef, undef, undef, undef, undef, undef, undef, undef, undef], []⟩ [.code sBody] := by
  have hb : Try.f82.body = some sBody := by simp only [sBody, Try.f82, Option.getD_some]
  simp only [Frame.enter, Try.func82, Option.bind_some, hb, Option.getD_some, Try.ntmps82, Frame.at, sBase]
  generalize sBody = q
  simp only [List.size_toArray, List.length_cons, List.length_nil, Nat.reduceAdd, Nat.reduceSub, Array.replicate_succ, Array.replicate_zero, List.push_toArray, List.append_toArray, List.nil_append, List.cons_append, Option.map_some, Option.getD_some, Try.ntmps82]

/-- The call that the go statement holds. -/
def callS (p : Int) : Deferred := { target := .fn (.func 82) #[], args := #[dr r h s, .chan (some c), .int .i64 p] }

/-- The child's first step. -/
theorem born_step (p : Int) (w : World) : stepG Try.prog false (born Try.prog (callS c r h s p)) w =
    .go (G (sBase.at ⟨#[dr r h s, .chan (some c), .int .i64 p, undef, undef, undef, undef, undef, undef, undef, undef, undef, undef, undef, undef, undef, undef, undef, undef, undef, undef, undef, undef, undef, undef, undef, undef, undef], []⟩ [.code sBody]) [sBot]) w #[] := by
  rw [← enterS]
  have hb : Try.f82.body = some sBody := by simp only [sBody, Try.f82, Option.getD_some]
  have hn0 : (Try.f82.name == "runtime.NumGoroutine") = false := by kernel_rfl
  have hn : ¬ Try.f82.name = "runtime.NumGoroutine" := by simpa using hn0
  simp [hn, born, callS, stepG, unwind, callDeferred, invoke, callFunc, Try.func82, hb, seen, GStep.after, G, sBot]

set_option maxHeartbeats 1000000 in
set_option maxRecDepth 100000 in
/-- From its birth to the loop's head. -/
theorem send_pre (Stop : Goroutine → World → Prop) (n p : Nat) (N : Nat) (W : World) (w : World) (hl : NoLoops w) (hb : Below N W w) (hN : N ≤ c) (s0 r0 : Nat) (tm : Bool) (hch : Chan0 c w s0 r0 tm) (ts zs : List Int) (hs : s = n) (hz : zs.length ≤ 1000)
    (hP : ∀ w, NoLoops w → Callee Try.prog 100 #[dr r h s, .int .i64 p] w fun v w' => Row0 w' v ts ∧ Old w w')
    (hS : ∀ w, NoLoops w → Callee Try.prog 100 #[dr r h s, .int .i64 n] w fun v w' => Row0 w' v zs ∧ Old w w')
    (next : ∀ (b : Nat) (tv sv : Value) (u0 u2 u4 u5 u7 u8 u9 u10 u11 u12 u13 u14 u18 u19 u20 u21 u22 u23 u24 u25 u26 u27 : Value) (w' : World), SF c b r h s tv sv ts zs w' → Below N W w' → Ev Try.prog KeptD Stop false (headS c b tv sv zs.length 0 u0 u2 u4 u5 u7 u8 u9 u10 u11 u12 u13 u14 u18 u19 u20 u21 u22 u23 u24 u25 u26 u27) w') :
    Ev Try.prog KeptD Stop false (born Try.prog (callS c r h s p)) w := by
  refine Ev.ctl rfl hl (fun x => born_step c r h s p x) ?_
  have nx := Lib.hid next
  have P1 := Lib.hid hP
  have P2 := Lib.hid hS
  clear next hP hS
  simp only [sBody, Try.f82, Option.getD_some]
  subst hs
  repeat (first | (first | refine Ev.seq hl ?_ | refine Ev.regionEnd hl ?_ | refine Ev.skip hl ?_ | refine Ev.block hl ?_ | refine Ev.loop hl ?_ | refine Ev.inLoop hl ?_ | refine Ev.inBlock hl ?_ | refine Ev.label hl ?_ | (refine Ev.region hl ?_; simp only [List.size_toArray, List.length_cons, List.length_nil, Nat.reduceAdd, Nat.zero_add, List.range, List.range.loop])) | (refine Ev.oper_k rfl rfl (by decide) (by kernel_rfl) hl (fun K hV hS => ?_); go_simp; (first | refine hV _ _ ⟨rfl, fun hl' => ?_⟩ | refine hS _ ⟨rfl, fun hl' => ?_⟩); clear K hV hS; replace hl := hl'; clear hl'; try walk_nrm))
  have o0 : Old w (w.alloc (.cells #[.int .i64 r, .int .i64 h, .int .i64 n] 53)) := Old.alloc _ _
  refine Ev.call (R := fun v w' => Row0 w' v ts ∧ Old (w.alloc (.cells #[.int .i64 r, .int .i64 h, .int .i64 n] 53)) w') rfl rfl rfl (by decide) hl ?_ (fun tv w1 hh hl1 u1 => ?_)
  · walk_nrm
    exact P1.out _ hl
  obtain ⟨r1, o1⟩ := hh
  clear hl
  have hl := hl1
  clear hl1
  walk_nrm
  have e0 : w.heap.size < (w.alloc (.cells #[.int .i64 r, .int .i64 h, .int .i64 n] 53)).heap.size := by simp
  have hd1 : w1.heap[w.heap.size]? = some (.cells #[.int .i64 r, .int .i64 h, .int .i64 n] 53) := by
    rw [o1.block _ e0]
    exact heapNew _ _
  obtain ⟨x0, x1, x2, x3⟩ : Bd w1 w.heap.size r h n := bdBlock hd1
  repeat (first | (first | refine Ev.seq hl ?_ | refine Ev.regionEnd hl ?_ | refine Ev.skip hl ?_ | refine Ev.block hl ?_ | refine Ev.loop hl ?_ | refine Ev.inLoop hl ?_ | refine Ev.inBlock hl ?_ | refine Ev.label hl ?_ | (refine Ev.region hl ?_; simp only [List.size_toArray, List.length_cons, List.length_nil, Nat.reduceAdd, Nat.zero_add, List.range, List.range.loop])) | (refine Ev.oper_k rfl rfl (by decide) (by kernel_rfl) hl (fun K hV hS => ?_); go_simp; (first | refine hV _ _ ⟨rfl, fun hl' => ?_⟩ | refine hS _ ⟨rfl, fun hl' => ?_⟩); clear K hV hS; replace hl := hl'; clear hl'; try walk_nrm))
  refine Ev.call (R := fun v w' => Row0 w' v zs ∧ Old w1 w') rfl rfl rfl (by decide) hl ?_ (fun sv w2 hh hl2 u2 => ?_)
  · walk_nrm
    exact P2.out _ hl
  obtain ⟨r2, o2⟩ := hh
  clear hl
  have hl := hl2
  clear hl2
  walk_nrm
  obtain ⟨g, cap, e, hc⟩ := r2
  subst e
  clear x0 x1 x2 x3
  (refine Ev.oper_k rfl rfl (by decide) (by kernel_rfl) hl (fun K hV hS => ?_); go_simp; (first | refine hV _ _ ⟨rfl, fun hl' => ?_⟩ | refine hS _ ⟨rfl, fun hl' => ?_⟩); clear K hV hS; replace hl := hl'; clear hl'; try walk_nrm)
  (refine Ev.oper_k rfl rfl (by decide) (by kernel_rfl) hl (fun K hV hS => ?_); go_simp; (first | refine hV _ _ ⟨rfl, fun hl' => ?_⟩ | refine hS _ ⟨rfl, fun hl' => ?_⟩); clear K hV hS; replace hl := hl'; clear hl'; try walk_nrm)
  (first | refine Ev.seq hl ?_ | refine Ev.regionEnd hl ?_ | refine Ev.skip hl ?_ | refine Ev.block hl ?_ | refine Ev.loop hl ?_ | refine Ev.inLoop hl ?_ | refine Ev.inBlock hl ?_ | refine Ev.label hl ?_ | (refine Ev.region hl ?_; simp only [List.size_toArray, List.length_cons, List.length_nil, Nat.reduceAdd, Nat.zero_add, List.range, List.range.loop]))
  (first | refine Ev.seq hl ?_ | refine Ev.regionEnd hl ?_ | refine Ev.skip hl ?_ | refine Ev.block hl ?_ | refine Ev.loop hl ?_ | refine Ev.inLoop hl ?_ | refine Ev.inBlock hl ?_ | refine Ev.label hl ?_ | (refine Ev.region hl ?_; simp only [List.size_toArray, List.length_cons, List.length_nil, Nat.reduceAdd, Nat.zero_add, List.range, List.range.loop]))
  (first | refine Ev.seq hl ?_ | refine Ev.regionEnd hl ?_ | refine Ev.skip hl ?_ | refine Ev.block hl ?_ | refine Ev.loop hl ?_ | refine Ev.inLoop hl ?_ | refine Ev.inBlock hl ?_ | refine Ev.label hl ?_ | (refine Ev.region hl ?_; simp only [List.size_toArray, List.length_cons, List.length_nil, Nat.reduceAdd, Nat.zero_add, List.range, List.range.loop]))
  have hch0 : Chan0 c w s0 r0 tm := hch
  have c1 : Chan0 c w1 s0 r0 tm := ((o0.trans o1).block c hch.lt).trans hch
  have c2 : Chan0 c w2 s0 r0 tm := (o2.block c c1.lt).trans c1
  have hNw : N ≤ w.heap.size := Nat.le_of_lt (Nat.lt_of_le_of_lt hN hch.lt)
  have x : SF c w.heap.size r h n tv (.slice (some ⟨g, 0, none⟩) zs.length cap) ts zs w2 :=
    ⟨bdBlock ((o2.block _ (o1.lt e0)).trans hd1), by have := hch.lt; omega, ⟨_, _, _, c2⟩, ⟨g, cap, rfl, hc⟩, (o2.keep (c := c)).row c1 r1, hl⟩
  have hb2 : Below N W w2 := belowStep hb hNw (o0.trans (o1.trans o2)) (Outer.trans (Outer.trans ⟨rfl, rfl, rfl⟩ u1) u2)
  have nx' := nx.out
  simp only [headS, sLoop, sTail, sBody, Try.f82, Option.getD_some, Int.natCast_zero] at nx'
  exact nx' w.heap.size tv (.slice (some ⟨g, 0, none⟩) zs.length cap) _ _ _ _ _ _ _ _ _ _ _ _ _ _ _ _ _ _ _ _ _ _ w2 x hb2
end
end Go.Proofs.Ytibafngidpmgdab
