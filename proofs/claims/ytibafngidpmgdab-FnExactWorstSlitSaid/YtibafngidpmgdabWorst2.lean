/- impl.WorstSlit in company: from its entry to the go statement; from the closed channel to its return. (Printed by gen/mkworst2.py.) -/
import Derived.Test.YtibafngidpmgdabWorst
import Derived.Test.YtibafngidpmgdabOkAll
import Derived.Below
import Derived.Conc.SmallLaws
namespace Go.Proofs.Ytibafngidpmgdab
open Go.Conc Go.RowKit
set_option linter.unusedSimpArgs false
set_option linter.unusedVariables false

/-- What stood in the memory stands there still. -/
structure Old (w w' : World) : Prop where
  size : w.heap.size ≤ w'.heap.size
  block : ∀ k, k < w.heap.size → w'.heap[k]? = w.heap[k]?
theorem Old.refl (w : World) : Old w w := ⟨Nat.le_refl _, fun _ _ => rfl⟩
theorem Old.trans {a b c : World} (h : Old a b) (h' : Old b c) : Old a c := ⟨Nat.le_trans h.size h'.size, fun k hk => (h'.block k (Nat.lt_of_lt_of_le hk h.size)).trans (h.block k hk)⟩
theorem Old.alloc (w : World) (o : Obj) : Old w (w.alloc o) := ⟨by simp, fun k hk => Below.heap_alloc _ _ _ hk⟩
theorem Old.re {w w' : World} (h : Old w w') (τ : Tape) (d : Nat) : Old w (re w' τ d) := ⟨h.size, h.block⟩
theorem Old.of {w w' : World} {τ : Tape} {d : Nat} (h : Below (Go.Proofs.Ytibafngidpmgdab.re w τ d).heap.size (Go.Proofs.Ytibafngidpmgdab.re w τ d) w') : Old w w' := ⟨h.size, h.block⟩
theorem Old.lt {w w' : World} (h : Old w w') {k : Nat} (hk : k < w.heap.size) : k < w'.heap.size := Nat.lt_of_lt_of_le hk h.size
theorem Outer.trans {a b c : World} (h : Outer a b) (h' : Outer b c) : Outer a c := ⟨h'.1.trans h.1, h'.2.1.trans h.2.1, h'.2.2.trans h.2.2⟩
theorem NoLoops.alloc {w : World} {o : Obj} (h : NoLoops w) (ho : notLoop o) : NoLoops (w.alloc o) := h.push ho

theorem Ev.exit {P : Program} [EarlyOk P] {Stop : Goroutine → World → Prop} {main : Bool} {w : World} {b : Frame} {a : Act} {k k' : List Item} {cs : List Frame} {id : Nat} (hl : NoLoops w) (h : exitTo id k = some k') (hE : Ev P KeptD Stop main (G (b.at a k') cs) w) :
    Ev P KeptD Stop main (G (b.at a (.code (.exit id) :: k)) cs) w := Ev.ctl rfl hl (fun x => stepG_exit h) hE

section
variable {P : Program} [EarlyOk P] {Stop : Goroutine → World → Prop} {main : Bool} {w : World} {b : Frame} {a : Act} {k : List Item} {cs : List Frame}
theorem Ev.skip  (hl : NoLoops w) (h : Ev P KeptD Stop main (G (b.at a (k)) cs) w) : Ev P KeptD Stop main (G (b.at a (.code .skip :: k)) cs) w := .ctl rfl hl (fun _ => stepG_skip) h
theorem Ev.label {l : Nat} (hl : NoLoops w) (h : Ev P KeptD Stop main (G (b.at a (k)) cs) w) : Ev P KeptD Stop main (G (b.at a (.code (.label l) :: k)) cs) w := .ctl rfl hl (fun _ => stepG_label) h
theorem Ev.inBlock {id : Nat} (hl : NoLoops w) (h : Ev P KeptD Stop main (G (b.at a (k)) cs) w) : Ev P KeptD Stop main (G (b.at a (.inBlock id :: k)) cs) w := .ctl rfl hl (fun _ => stepG_inBlock) h
theorem Ev.seq {x y : Code} (hl : NoLoops w) (h : Ev P KeptD Stop main (G (b.at a (.code x :: .code y :: k)) cs) w) : Ev P KeptD Stop main (G (b.at a (.code (.seq x y) :: k)) cs) w := .ctl rfl hl (fun _ => stepG_seq) h
theorem Ev.block {id : Nat} {x : Code} (hl : NoLoops w) (h : Ev P KeptD Stop main (G (b.at a (.code x :: .inBlock id :: k)) cs) w) : Ev P KeptD Stop main (G (b.at a (.code (.block id x) :: k)) cs) w := .ctl rfl hl (fun _ => stepG_block) h
theorem Ev.loop {x : Code} (hl : NoLoops w) (h : Ev P KeptD Stop main (G (b.at a (.code x :: .inLoop x :: k)) cs) w) : Ev P KeptD Stop main (G (b.at a (.code (.loop x) :: k)) cs) w := .ctl rfl hl (fun _ => stepG_loop) h
theorem Ev.inLoop {x : Code} (hl : NoLoops w) (h : Ev P KeptD Stop main (G (b.at a (.code x :: .inLoop x :: k)) cs) w) : Ev P KeptD Stop main (G (b.at a (.inLoop x :: k)) cs) w := .ctl rfl hl (fun _ => stepG_inLoop) h
theorem Ev.regionEnd {ops : Array Oper} (hl : NoLoops w) (h : Ev P KeptD Stop main (G (b.at a (k)) cs) w) : Ev P KeptD Stop main (G (b.at a (.inRegion ops [] :: k)) cs) w := .ctl rfl hl (fun _ => stepG_region_end) h
theorem Ev.region {id : Nat} {ops : Array Oper} (hl : NoLoops w) (h : Ev P KeptD Stop main (G (b.at a (.inRegion ops (List.range ops.size) :: k)) cs) w) : Ev P KeptD Stop main (G (b.at a (.code (.region id ops false) :: k)) cs) w := .ctl rfl hl (fun _ => stepG_region) h
theorem Ev.cond {x y : Code} {o : Operand} (t : Bool) (hl : NoLoops w) (he : a.eval o = .bool t) (h : Ev P KeptD Stop main (G (b.at a (.code (if t then x else y) :: k)) cs) w) : Ev P KeptD Stop main (G (b.at a (.code (.cond o x y) :: k)) cs) w := .ctl rfl hl (fun _ => stepG_cond he) h
theorem Ev.retn (hl : NoLoops w) (h : Ev P KeptD Stop main (G { b.at a (.code .ret :: k) with mode := .returning } cs) w) : Ev P KeptD Stop main (G (b.at a (.code .ret :: k)) cs) w := .ctl rfl hl (fun _ => stepG_ret') h
theorem Ev.fin (hl : NoLoops w) (h : Ev P KeptD Stop main (G { b.at a [] with mode := .returning } cs) w) : Ev P KeptD Stop main (G (b.at a []) cs) w := .ctl rfl hl (fun _ => stepG_end) h
end

theorem bdBlock {w : World} {b : Nat} {r h s : Int} (hb : w.heap[b]? = some (.cells #[.int .i64 r, .int .i64 h, .int .i64 s] 53)) : Bd w b r h s := by
  have hlt : b < w.heap.size := by
    rcases Nat.lt_or_ge b w.heap.size with h' | h'
    · exact h'
    · rw [Array.getElem?_eq_none h'] at hb; cases hb
  exact ⟨by simp [World.cell?, hb], by simp [World.cell?, hb], by simp [World.cell?, hb], hlt⟩

theorem heapNew (w : World) (o : Obj) : (w.alloc o).heap[w.heap.size]? = some o := by
  show (w.heap.push o)[w.heap.size]? = some o
  simp

theorem validDrum_ev (r h s : Int) (w : World) : Callee Try.prog 80 #[dr r h s] w fun v w' => v = .bool (drumB r h s) ∧ Old w w' :=
  callee_plain ok_sDrum (by simp) (fun τ d => (validDrum_any r h s _).mono fun e w' ⟨h1, h2⟩ => ⟨_, h1, rfl, Old.of h2⟩) fun v w' τ d hh => ⟨hh.1, hh.2.re τ d⟩
theorem onDisc_ev (p : Int) (w : World) : Callee Try.prog 81 #[.int .i64 p] w fun v w' => v = .bool (inB p 1 48) ∧ Old w w' :=
  callee_plain ok_sDrum (by simp) (fun τ d => (onDisc_any p _).mono fun e w' ⟨h1, h2⟩ => ⟨_, h1, rfl, by subst h2; exact ⟨Nat.le_refl _, fun _ _ => rfl⟩⟩) fun v w' τ d hh => ⟨hh.1, hh.2.re τ d⟩

/-- A frame that returns, its results lying in slots. -/
theorem Ev.leave {P : Program} [EarlyOk P] {Stop : Goroutine → World → Prop} {main : Bool} {w : World} {b : Frame} {a : Act} {todo : List Item} {c : Frame} {cs : List Frame} {fn : Func} {v : Value} {n : FuncId} (hl : NoLoops w) (hk : b.kind = .normal) (hd : a.defers = []) (hn : b.fn = n) (hf : P.funcs[n]? = some fn)
    (hr : ∀ x, (results fn a.tmps).runT P x #[] = (.ok v x, #[])) (h : Ev P KeptD Stop main (G (c.finish v) cs) w) : Ev P KeptD Stop main (G { b.at a todo with mode := .returning } (c :: cs)) w := by
  refine Ev.still (es := seen P b.fn #[]) rfl hl (still_seen _ (by simp)) (fun d => ?_) h
  subst hn
  simp [-Sem.runT_eq, stepG, unwind, doReturn, G, Frame.at, hk, hd, hf, hr, GStep.after]

/-- One operation, told outright. -/
theorem Ev.value {P : Program} [EarlyOk P] {Stop : Goroutine → World → Prop} {main : Bool} {w w' : World} {b : Frame} {a : Act} {k : List Item} {cs : List Frame} {ops : Array Oper} {i : Nat} {rest : List Nat} {o : Oper} {v : Value} (ho : ops[i]? = some o) (hw : Region.wanted o (yielded ops a.tmps) = true) (hk : b.kind ≠ .early)
    (hr : ∀ d, (execOp a.eval o).run P (re w w.tape d) = .ok (.value v) (re w' w'.tape d)) (he : ∀ d, (execOp a.eval o).events P (re w w.tape d) #[] = #[]) (hs : Kept w w' #[] 0) (h : NoLoops w' → Ev P KeptD Stop main (G (b.at (a.put o.dst v) (.inRegion ops rest :: k)) cs) w') :
    Ev P KeptD Stop main (G (b.at a (.inRegion ops (i :: rest) :: k)) cs) w := by
  refine .step rfl (fun _ => G (b.at (a.put o.dst v) (.inRegion ops rest :: k)) cs) (fun d => re w' w'.tape d) (fun _ => #[]) (fun d => ⟨?_, 0, ⟨hs.tape, hs.os, hs.output, ⟨hs.grows.size, hs.grows.chans⟩, hs.loops, rfl, by simp⟩⟩) fun d => (h hs.loops).redraw d
  rw [stepG_value ho hw hk (hr d), listed_nil (he d)]


section
variable (c : Nat) (c0 : Frame) (cs : List Frame) (Stop : Goroutine → World → Prop)

theorem res3 (x y z : Value) {a : Array Value} (h4 : a.getD 4 undef = x) (h5 : a.getD 5 undef = y) (h6 : a.getD 6 undef = z) (w : World) : (results Try.f43 a).runT Try.prog w #[] = (.ok (.tuple #[x, y, z]) w, #[]) := by
  subst h4; subst h5; subst h6
  simp [results, Try.results43]

set_option maxRecDepth 100000 in
/-- Behind the closed channel: it returns. -/
theorem worst_end (k a g : Int) (u0 u1 u2 u3 u4 u5 u6 u11 u12 u13 u14 u15 u16 u17 u18 u19 u20 u21 u23 u24 u25 u26 u27 u28 u29 u30 u31 u32 u33 u34 : Value) (w : World) (hl : NoLoops w) (next : Ev Try.prog KeptD Stop true (G (c0.finish (.tuple #[.int .i64 a, .int .i64 g, .int .i64 0])) cs) w) :
    Ev Try.prog KeptD Stop true (Conc.served (atR c (c0 :: cs) k a g u0 u1 u2 u3 u4 u5 u6 u11 u12 u13 u14 u15 u16 u17 u18 u19 u20 u21 u23 u24 u25 u26 u27 u28 u29 u30 u31 u32 u33 u34 [0, 1]) (.tuple #[.int .i64 0, .bool false])) w := by
  simp only [atR, Conc.served_G]
  simp only [wOps, wRest, wTail, wLoop, wBody, Try.f43, Option.getD_some]
  repeat (first | (first | refine Ev.seq hl ?_ | refine Ev.regionEnd hl ?_ | refine Ev.skip hl ?_ | refine Ev.block hl ?_ | refine Ev.loop hl ?_ | refine Ev.inLoop hl ?_ | refine Ev.inBlock hl ?_ | refine Ev.label hl ?_ | (refine Ev.region hl ?_; simp only [List.size_toArray, List.length_cons, List.length_nil, Nat.reduceAdd, Nat.zero_add, List.range, List.range.loop])) | (refine Ev.oper_k rfl rfl (by decide) (by kernel_rfl) hl (fun K hV hS => ?_); go_simp; (first | refine hV _ _ ⟨rfl, fun hl' => ?_⟩ | refine hS _ ⟨rfl, fun hl' => ?_⟩); clear K hV hS; replace hl := hl'; clear hl'; try walk_nrm))
  (refine Ev.cond false hl rfl ?_; simp only [if_true, if_false, Bool.false_eq_true, ↓reduceIte])
  (apply Ev.exit hl; rfl)
  repeat (first | (first | refine Ev.seq hl ?_ | refine Ev.regionEnd hl ?_ | refine Ev.skip hl ?_ | refine Ev.block hl ?_ | refine Ev.loop hl ?_ | refine Ev.inLoop hl ?_ | refine Ev.inBlock hl ?_ | refine Ev.label hl ?_ | (refine Ev.region hl ?_; simp only [List.size_toArray, List.length_cons, List.length_nil, Nat.reduceAdd, Nat.zero_add, List.range, List.range.loop])) | (refine Ev.oper_k rfl rfl (by decide) (by kernel_rfl) hl (fun K hV hS => ?_); go_simp; (first | refine hV _ _ ⟨rfl, fun hl' => ?_⟩ | refine hS _ ⟨rfl, fun hl' => ?_⟩); clear K hV hS; replace hl := hl'; clear hl'; try walk_nrm))
  refine Ev.retn hl ?_
  refine Ev.leave (v := .tuple #[.int .i64 a, .int .i64 g, .int .i64 0]) hl rfl rfl rfl Try.func43 (fun x => ?_) next
  refine res3 (.int .i64 a) (.int .i64 g) (.int .i64 0) ?_ ?_ ?_ x
  · walk_nrm
  · walk_nrm
  · walk_nrm

noncomputable def gRest : Code := match wBody with | .seq _ (.seq _ (.seq _ (.seq _ (.seq (.region _ _ _) c)))) => c | _ => .skip
noncomputable def gOps : Array Oper := match wBody with | .seq _ (.seq _ (.seq _ (.seq _ (.seq (.region _ ops _) _)))) => ops | _ => #[]
/-- At the go statement. -/
noncomputable def atGo (r h s p : Int) (u0 u1 u2 u3 u4 u5 u6 u8 u9 u10 u11 u12 u13 u14 u15 u16 u17 u18 u22 u23 u24 u25 u26 u27 u28 u29 u30 u31 u32 u33 u34 : Value) (rest : List Nat) : Goroutine :=
  G (wBase.at ⟨#[u0, u1, u2, u3, u4, u5, u6, .chan (some c), u8, u9, u10, u11, u12, u13, u14, u15, u16, u17, u18, dr r h s, .chan (some c), .int .i64 p, u22, u23, u24, u25, u26, u27, u28, u29, u30, u31, u32, u33, u34], []⟩ [.inRegion gOps rest, .code gRest]) (c0 :: cs)

theorem enterW (r h s p : Int) : Frame.enter Try.prog 43 #[dr r h s, .int .i64 p] .normal = wBase.at ⟨#[dr r h s, .int .i64 p, undef, undef, undef, undef, undef, undef, undef, undef, undef, undef, undef, undef, undef, undef, undef, undef, undef, undef, undef, undef, undef, undef, undef, undef, undef, undef, undef, undef, undef, undef, undef, undef, undef], []⟩ [.code wBody] := by
  have hb : Try.f43.body = some wBody := by simp only [wBody, Try.f43, Option.getD_some]
  rw [enter_at (c := wBody) _ Try.func43 hb, Try.ntmps43]
  generalize wBody = q
  simp only [wBase, List.size_toArray, List.length_cons, List.length_nil, Nat.reduceAdd, Nat.reduceSub, Array.replicate_succ, Array.replicate_zero, List.push_toArray, List.append_toArray, List.nil_append, List.cons_append]

set_option maxHeartbeats 1000000 in
set_option maxRecDepth 100000 in
/-- From the entry to the go statement, or to the return. -/
theorem worst_pre (r h s p : Int) (w : World) (hl : NoLoops w)
    (n1 : drumB r h s = false → ∀ w', NoLoops w' → Old w w' → Outer w w' → Ev Try.prog KeptD Stop true (G (c0.finish (.tuple #[.int .i64 0, .int .i64 0, .int .i64 1])) cs) w')
    (n2 : drumB r h s = true → inB p 1 48 = false → ∀ w', NoLoops w' → Old w w' → Outer w w' → Ev Try.prog KeptD Stop true (G (c0.finish (.tuple #[.int .i64 0, .int .i64 0, .int .i64 2])) cs) w')
    (n3 : drumB r h s = true → inB p 1 48 = true → ∀ (c : Nat) (u0 u1 u2 u3 u4 u5 u6 u8 u9 u10 u11 u12 u13 u14 u15 u16 u17 u18 u22 u23 u24 u25 u26 u27 u28 u29 u30 u31 u32 u33 u34 : Value) (w' : World), NoLoops w' → Old w w' → Outer w w' → w.heap.size ≤ c → Chan0 c w' 0 0 false → Ev Try.prog KeptD Stop true (atGo c c0 cs r h s p u0 u1 u2 u3 u4 u5 u6 u8 u9 u10 u11 u12 u13 u14 u15 u16 u17 u18 u22 u23 u24 u25 u26 u27 u28 u29 u30 u31 u32 u33 u34 [3]) w') :
    Ev Try.prog KeptD Stop true (G (Frame.enter Try.prog 43 #[dr r h s, .int .i64 p] .normal) (c0 :: cs)) w := by
  rw [enterW]
  simp only [wBody, Try.f43, Option.getD_some]
  repeat (first | (first | refine Ev.seq hl ?_ | refine Ev.regionEnd hl ?_ | refine Ev.skip hl ?_ | refine Ev.block hl ?_ | refine Ev.loop hl ?_ | refine Ev.inLoop hl ?_ | refine Ev.inBlock hl ?_ | refine Ev.label hl ?_ | (refine Ev.region hl ?_; simp only [List.size_toArray, List.length_cons, List.length_nil, Nat.reduceAdd, Nat.zero_add, List.range, List.range.loop])) | (refine Ev.oper_k rfl rfl (by decide) (by kernel_rfl) hl (fun K hV hS => ?_); go_simp; (first | refine hV _ _ ⟨rfl, fun hl' => ?_⟩ | refine hS _ ⟨rfl, fun hl' => ?_⟩); clear K hV hS; replace hl := hl'; clear hl'; try walk_nrm))
  refine Ev.call (R := fun v w' => v = .bool (drumB r h s) ∧ Old (w.alloc (.cells #[.int .i64 r, .int .i64 h, .int .i64 s] 53)) w') rfl rfl rfl (by decide) hl ?_ (fun v w1 hh hl1 u1 => ?_)
  · walk_nrm
    exact validDrum_ev r h s _
  obtain ⟨hv, o1⟩ := hh
  cases hv
  walk_nrm
  clear hl
  have hl := hl1
  clear hl1
  cases h1 : drumB r h s with
  | false =>
    repeat (first | (first | refine Ev.seq hl ?_ | refine Ev.regionEnd hl ?_ | refine Ev.skip hl ?_ | refine Ev.block hl ?_ | refine Ev.loop hl ?_ | refine Ev.inLoop hl ?_ | refine Ev.inBlock hl ?_ | refine Ev.label hl ?_ | (refine Ev.region hl ?_; simp only [List.size_toArray, List.length_cons, List.length_nil, Nat.reduceAdd, Nat.zero_add, List.range, List.range.loop])) | (refine Ev.oper_k rfl rfl (by decide) (by kernel_rfl) hl (fun K hV hS => ?_); go_simp; (first | refine hV _ _ ⟨rfl, fun hl' => ?_⟩ | refine hS _ ⟨rfl, fun hl' => ?_⟩); clear K hV hS; replace hl := hl'; clear hl'; try walk_nrm))
    (refine Ev.cond true hl rfl ?_; simp only [if_true, if_false, Bool.false_eq_true, ↓reduceIte])
    repeat (first | (first | refine Ev.seq hl ?_ | refine Ev.regionEnd hl ?_ | refine Ev.skip hl ?_ | refine Ev.block hl ?_ | refine Ev.loop hl ?_ | refine Ev.inLoop hl ?_ | refine Ev.inBlock hl ?_ | refine Ev.label hl ?_ | (refine Ev.region hl ?_; simp only [List.size_toArray, List.length_cons, List.length_nil, Nat.reduceAdd, Nat.zero_add, List.range, List.range.loop])) | (refine Ev.oper_k rfl rfl (by decide) (by kernel_rfl) hl (fun K hV hS => ?_); go_simp; (first | refine hV _ _ ⟨rfl, fun hl' => ?_⟩ | refine hS _ ⟨rfl, fun hl' => ?_⟩); clear K hV hS; replace hl := hl'; clear hl'; try walk_nrm))
    refine Ev.retn hl ?_
    refine Ev.leave (v := .tuple #[.int .i64 0, .int .i64 0, .int .i64 1]) hl rfl rfl rfl Try.func43 (fun x => ?_) (n1 h1 _ hl ((Old.alloc _ _).trans o1) u1)
    refine res3 (.int .i64 0) (.int .i64 0) (.int .i64 1) ?_ ?_ ?_ x <;> walk_nrm
  | true =>
    repeat (first | (first | refine Ev.seq hl ?_ | refine Ev.regionEnd hl ?_ | refine Ev.skip hl ?_ | refine Ev.block hl ?_ | refine Ev.loop hl ?_ | refine Ev.inLoop hl ?_ | refine Ev.inBlock hl ?_ | refine Ev.label hl ?_ | (refine Ev.region hl ?_; simp only [List.size_toArray, List.length_cons, List.length_nil, Nat.reduceAdd, Nat.zero_add, List.range, List.range.loop])) | (refine Ev.oper_k rfl rfl (by decide) (by kernel_rfl) hl (fun K hV hS => ?_); go_simp; (first | refine hV _ _ ⟨rfl, fun hl' => ?_⟩ | refine hS _ ⟨rfl, fun hl' => ?_⟩); clear K hV hS; replace hl := hl'; clear hl'; try walk_nrm))
    (refine Ev.cond false hl rfl ?_; simp only [if_true, if_false, Bool.false_eq_true, ↓reduceIte])
    repeat (first | (first | refine Ev.seq hl ?_ | refine Ev.regionEnd hl ?_ | refine Ev.skip hl ?_ | refine Ev.block hl ?_ | refine Ev.loop hl ?_ | refine Ev.inLoop hl ?_ | refine Ev.inBlock hl ?_ | refine Ev.label hl ?_ | (refine Ev.region hl ?_; simp only [List.size_toArray, List.length_cons, List.length_nil, Nat.reduceAdd, Nat.zero_add, List.range, List.range.loop])) | (refine Ev.oper_k rfl rfl (by decide) (by kernel_rfl) hl (fun K hV hS => ?_); go_simp; (first | refine hV _ _ ⟨rfl, fun hl' => ?_⟩ | refine hS _ ⟨rfl, fun hl' => ?_⟩); clear K hV hS; replace hl := hl'; clear hl'; try walk_nrm))
    refine Ev.call (R := fun v w' => v = .bool (inB p 1 48) ∧ Old w1 w') rfl rfl rfl (by decide) hl ?_ (fun v w2 hh hl2 u2 => ?_)
    · walk_nrm
      exact onDisc_ev p _
    obtain ⟨hv, o2⟩ := hh
    cases hv
    walk_nrm
    clear hl
    have hl := hl2
    clear hl2
    cases h2 : inB p 1 48 with
    | false =>
      repeat (first | (first | refine Ev.seq hl ?_ | refine Ev.regionEnd hl ?_ | refine Ev.skip hl ?_ | refine Ev.block hl ?_ | refine Ev.loop hl ?_ | refine Ev.inLoop hl ?_ | refine Ev.inBlock hl ?_ | refine Ev.label hl ?_ | (refine Ev.region hl ?_; simp only [List.size_toArray, List.length_cons, List.length_nil, Nat.reduceAdd, Nat.zero_add, List.range, List.range.loop])) | (refine Ev.oper_k rfl rfl (by decide) (by kernel_rfl) hl (fun K hV hS => ?_); go_simp; (first | refine hV _ _ ⟨rfl, fun hl' => ?_⟩ | refine hS _ ⟨rfl, fun hl' => ?_⟩); clear K hV hS; replace hl := hl'; clear hl'; try walk_nrm))
      (refine Ev.cond true hl rfl ?_; simp only [if_true, if_false, Bool.false_eq_true, ↓reduceIte])
      repeat (first | (first | refine Ev.seq hl ?_ | refine Ev.regionEnd hl ?_ | refine Ev.skip hl ?_ | refine Ev.block hl ?_ | refine Ev.loop hl ?_ | refine Ev.inLoop hl ?_ | refine Ev.inBlock hl ?_ | refine Ev.label hl ?_ | (refine Ev.region hl ?_; simp only [List.size_toArray, List.length_cons, List.length_nil, Nat.reduceAdd, Nat.zero_add, List.range, List.range.loop])) | (refine Ev.oper_k rfl rfl (by decide) (by kernel_rfl) hl (fun K hV hS => ?_); go_simp; (first | refine hV _ _ ⟨rfl, fun hl' => ?_⟩ | refine hS _ ⟨rfl, fun hl' => ?_⟩); clear K hV hS; replace hl := hl'; clear hl'; try walk_nrm))
      refine Ev.retn hl ?_
      refine Ev.leave (v := .tuple #[.int .i64 0, .int .i64 0, .int .i64 2]) hl rfl rfl rfl Try.func43 (fun x => ?_) (n2 h1 h2 _ hl ((Old.alloc _ _).trans (o1.trans o2)) (u1.trans u2))
      refine res3 (.int .i64 0) (.int .i64 0) (.int .i64 2) ?_ ?_ ?_ x <;> walk_nrm
    | true =>
      repeat (first | (first | refine Ev.seq hl ?_ | refine Ev.regionEnd hl ?_ | refine Ev.skip hl ?_ | refine Ev.block hl ?_ | refine Ev.loop hl ?_ | refine Ev.inLoop hl ?_ | refine Ev.inBlock hl ?_ | refine Ev.label hl ?_ | (refine Ev.region hl ?_; simp only [List.size_toArray, List.length_cons, List.length_nil, Nat.reduceAdd, Nat.zero_add, List.range, List.range.loop])) | (refine Ev.oper_k rfl rfl (by decide) (by kernel_rfl) hl (fun K hV hS => ?_); go_simp; (first | refine hV _ _ ⟨rfl, fun hl' => ?_⟩ | refine hS _ ⟨rfl, fun hl' => ?_⟩); clear K hV hS; replace hl := hl'; clear hl'; try walk_nrm))
      (refine Ev.cond false hl rfl ?_; simp only [if_true, if_false, Bool.false_eq_true, ↓reduceIte])
      repeat (first | refine Ev.seq hl ?_ | refine Ev.regionEnd hl ?_ | refine Ev.skip hl ?_ | refine Ev.block hl ?_ | refine Ev.loop hl ?_ | refine Ev.inLoop hl ?_ | refine Ev.inBlock hl ?_ | refine Ev.label hl ?_ | (refine Ev.region hl ?_; simp only [List.size_toArray, List.length_cons, List.length_nil, Nat.reduceAdd, Nat.zero_add, List.range, List.range.loop]))
      obtain ⟨ti, hti, htb⟩ : ∃ i, Try.prog.info? 2 = some i ∧ i.bytes = 8 := Option.map_eq_some_iff.1 (show (Try.prog.info? 2).map (·.bytes) = some 8 by kernel_rfl)
      have hmr : ∀ x : World, (Instr.makeChan 98 (.int .i64 0)).run Try.prog x = .ok (.chan (some x.heap.size)) (x.alloc (.chan 0 #[] false 0 0 false)) := fun x =>
        run_makeChan (dir := .both) (by kernel_rfl) hti .i64 0 (by omega) (by omega)
      have hme : ∀ x : World, (Instr.makeChan 98 (.int .i64 0)).events Try.prog x #[] = #[] := fun x =>
        events_makeChan (dir := .both) (by kernel_rfl) hti .i64 0 (by omega) (by omega) #[]
      refine Ev.value (v := .chan (some w2.heap.size)) (w' := w2.alloc (.chan 0 #[] false 0 0 false)) rfl rfl (by decide) (fun d => ?_) (fun d => ?_) ⟨rfl, rfl, rfl, Grows.push _ _, hl.alloc trivial, rfl, by simp⟩ (fun hl3 => ?_)
      · simp [go_sem, hmr]
        rfl
      · simp [go_sem, hme]
      clear hl
      have hl := hl3
      clear hl3
      walk_nrm
      obtain ⟨x0, x1, x2, x3⟩ : Bd (w2.alloc (.chan 0 #[] false 0 0 false)) w.heap.size r h s := by
        refine bdBlock ?_
        have e0 : w.heap.size < (w.alloc (.cells #[.int .i64 r, .int .i64 h, .int .i64 s] 53)).heap.size := by simp
        rw [(Old.alloc w2 _).block _ (o2.lt (o1.lt e0)), o2.block _ (o1.lt e0), o1.block _ e0]
        exact heapNew _ _
      repeat (first | (first | refine Ev.seq hl ?_ | refine Ev.regionEnd hl ?_ | refine Ev.skip hl ?_ | refine Ev.block hl ?_ | refine Ev.loop hl ?_ | refine Ev.inLoop hl ?_ | refine Ev.inBlock hl ?_ | refine Ev.label hl ?_ | (refine Ev.region hl ?_; simp only [List.size_toArray, List.length_cons, List.length_nil, Nat.reduceAdd, Nat.zero_add, List.range, List.range.loop])) | (refine Ev.oper_k rfl rfl (by decide) (by kernel_rfl) hl (fun K hV hS => ?_); go_simp; (first | refine hV _ _ ⟨rfl, fun hl' => ?_⟩ | refine hS _ ⟨rfl, fun hl' => ?_⟩); clear K hV hS; replace hl := hl'; clear hl'; try walk_nrm))
      simp only [atGo, gOps, gRest, wBody, Try.f43, Option.getD_some] at n3
      refine n3 h1 h2 _ _ _ _ _ _ _ _ _ _ _ _ _ _ _ _ _ _ _ _ _ _ _ _ _ _ _ _ _ _ _ _ _ hl ((Old.alloc _ _).trans (o1.trans (o2.trans (Old.alloc _ _)))) (u1.trans u2) (Nat.le_trans (Nat.le_trans (by simp) o1.size) o2.size) ?_
      exact heapNew _ _
end
end Go.Proofs.Ytibafngidpmgdab
