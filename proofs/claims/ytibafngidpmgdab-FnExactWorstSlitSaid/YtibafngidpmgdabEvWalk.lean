/- The walk in company, step by step: control, operations, calls by their contracts. -/
import Derived.Test.YtibafngidpmgdabStat
import Derived.Test.YtibafngidpmgdabPipe4
import Derived.Conc.Walk
import Derived.Conc.PipeWords
namespace Go.Proofs.Ytibafngidpmgdab
variable [GlobSize]
set_option linter.unusedSectionVars false
open Go.Conc
set_option linter.unusedSimpArgs false
set_option linter.unusedVariables false

section
variable {P : Program} [EarlyOk P] {Stop : Goroutine → World → Prop} {main : Bool} {w : World}

theorem Kept.same {w' : World} {k : Nat} (hl : NoLoops w) (h : w' = { w with drawn := w.drawn + k }) {es : Array Event} (he : ∀ e ∈ es, Still e) : Kept w w' es k := by
  subst h
  exact ⟨rfl, rfl, rfl, Grows.same rfl, hl, rfl, he⟩

/-- A step that leaves the world as it is. -/
theorem Ev.still {g g' : Goroutine} {es : Array Event} (hr : g.status = .running) (hl : NoLoops w) (he : ∀ e ∈ es, Still e) (hs : ∀ d, stepG P main g (re w w.tape d) = .go g' (re w w.tape d) es) (h : Ev P KeptD Stop main g' w) : Ev P KeptD Stop main g w :=
  .step hr (fun _ => g') (fun d => re w w.tape d) (fun _ => es) (fun d => ⟨hs d, 0, Kept.same (w := re w w.tape d) (k := 0) hl rfl he⟩) fun d => h.redraw d

theorem Ev.ctl {g g' : Goroutine} (hr : g.status = .running) (hl : NoLoops w) (hs : ∀ x, stepG P main g x = .go g' x #[]) (h : Ev P KeptD Stop main g' w) : Ev P KeptD Stop main g w :=
  .still hr hl (by simp) (fun d => hs _) h

/-- An operation of the plain kinds. -/
theorem Ev.oper_k {b : Frame} {a : Act} {k : List Item} {cs : List Frame} {ops : Array Oper} {i : Nat} {rest : List Nat} {o : Oper} (ho : ops[i]? = some o) (hw : Region.wanted o (yielded ops a.tmps) = true) (hk : b.kind ≠ .early)
    (hok : opOk P o = true) (hl : NoLoops w)
    (h : ∀ K : Result Next → Prop, (∀ v w', (w'.drawn = w.drawn ∧ (NoLoops w' → Ev P KeptD Stop main (G (b.at (a.put o.dst v) (.inRegion ops rest :: k)) cs) w')) → K (.ok (.value v) w')) →
      (∀ w', (w'.drawn = w.drawn ∧ (NoLoops w' → Ev P KeptD Stop main (G (b.at (a.put o.dst undef) (.inRegion ops rest :: k)) cs) w')) → K (.ok .skip w')) → K ((execOp a.eval o).run P w)) :
    Ev P KeptD Stop main (G (b.at a (.inRegion ops (i :: rest) :: k)) cs) w := by
  have hkd : (b.kind == CallKind.early) = false := by simpa using hk
  obtain ⟨⟨h1, h2, h3, h4, h5, h6, h7⟩, kk, hd, hloc⟩ := tame_local (execOp_tame (P := P) hok a.eval) w hl #[]
  have hq : ∀ e ∈ ((execOp a.eval o).runT P w #[]).2, Quiet e := fun e he => (h7 e he).elim (fun x => by simp at x) id
  have hfst : ((execOp a.eval o).runT P w #[]).1 = (execOp a.eval o).run P w := Sem.runT_fst P _ w _
  have hfin : ∀ v, (b.at a (.inRegion ops (i :: rest) :: k)).finish v = b.at (a.put o.dst v) (.inRegion ops rest :: k) := fun v => by rw [Frame.finish_at, ho]; rfl
  have hK := h (fun r => match r with
    | .ok (.value v) w' => w'.drawn = w.drawn ∧ (NoLoops w' → Ev P KeptD Stop main (G (b.at (a.put o.dst v) (.inRegion ops rest :: k)) cs) w')
    | .ok .skip w' => w'.drawn = w.drawn ∧ (NoLoops w' → Ev P KeptD Stop main (G (b.at (a.put o.dst undef) (.inRegion ops rest :: k)) cs) w')
    | _ => False) (fun v w' x => x) (fun w' x => x)
  rcases hr : (execOp a.eval o).runT P w #[] with ⟨r, es⟩
  rw [hr] at h1 h2 h3 h4 h5 h6 hd hloc hq hfst
  rw [← hfst] at hK
  cases r with
  | halt x w' => exact hK.elim
  | ok n w' =>
    simp only [rworld] at h1 h2 h3 h4 h5 hd
    have step : ∀ (v : Value), (stepG.apply P true (b.at a (.inRegion ops (i :: rest) :: k)) cs none (execOp a.eval o) (re w w.tape w.drawn) = stepG.apply P true (b.at a (.inRegion ops (i :: rest) :: k)) cs none (execOp a.eval o) w) := fun _ => rfl
    cases n with
    | value v =>
      obtain ⟨hdr, hev⟩ := hK
      have k0 : kk = 0 := by omega
      subst k0
      refine .step rfl (fun _ => G (b.at (a.put o.dst v) (.inRegion ops rest :: k)) cs) (fun d => re w' w'.tape d) (fun _ => seen P b.fn es) (fun d => ⟨?_, 0, ⟨h1, h2, h3, ⟨h4.size, h4.chans⟩, h5, rfl, still_seen _ hq⟩⟩) fun d => (hev h5).redraw d
      rw [stepG_oper ho hw, ← hfin, h1]
      simp [-Sem.runT_eq, stepG.apply, hloc w.tape d (fun j hj => absurd hj (Nat.not_lt_zero _)), rre, G, hkd, GStep.after, Frame.at]
    | skip =>
      obtain ⟨hdr, hev⟩ := hK
      have k0 : kk = 0 := by omega
      subst k0
      refine .step rfl (fun _ => G (b.at (a.put o.dst undef) (.inRegion ops rest :: k)) cs) (fun d => re w' w'.tape d) (fun _ => seen P b.fn es) (fun d => ⟨?_, 0, ⟨h1, h2, h3, ⟨h4.size, h4.chans⟩, h5, rfl, still_seen _ hq⟩⟩) fun d => (hev h5).redraw d
      rw [stepG_oper ho hw, ← hfin, h1]
      simp [-Sem.runT_eq, stepG.apply, hloc w.tape d (fun j hj => absurd hj (Nat.not_lt_zero _)), rre, G, hkd, GStep.after, Frame.at]
    | _ => exact hK.elim

/-- The tape, the outside and what was printed stand along the walk. -/
def Outer (w w' : World) : Prop := w'.tape = w.tape ∧ w'.os = w.os ∧ w'.output = w.output
theorem Ev.same {g : Goroutine} (h : Ev P KeptD Stop main g w) : Ev P KeptD (fun g w' => Stop g w' ∧ Outer w w') main g w := by
  induction h with
  | stop h => exact .stop fun d => ⟨h d, rfl, rfl, rfl⟩
  | @step g w hr ng nw ne hs _ ih =>
    refine .step hr ng nw ne hs fun d => (ih d).mono fun g w' ⟨h1, h2, h3, h4⟩ => ?_
    obtain ⟨k, hk⟩ := (hs d).2
    exact ⟨h1, h2.trans hk.tape, h3.trans hk.os, h4.trans hk.output⟩

/-- What a checked frame that returns hands to its caller. -/
theorem Ev.ret {cal : Oper → Bool} {F : FuncId → Prop} (hC : CodeOk cal P F) {c : Frame} {cs : List Frame} {R : Ending → World → Prop} {g : Goroutine} (h : Ev P KeptD (StopZ cal P F (c :: cs) (CallPost P R)) main g w)
    (hno : ∀ e w, R e w → ∃ v, e = .returned v) (hk : ∀ v w', R (.returned v) w' → NoLoops w' → Outer w w' → Ev P KeptD Stop main (G (c.finish v) cs) w') : Ev P KeptD Stop main g w := by
  refine h.same.join fun g w1 hst => ?_
  have hs := hst w1.drawn
  rw [re_self] at hs
  obtain ⟨⟨fr, rfl, hfr, hm, hl, _, e, hR, hlv⟩, hout⟩ := hs
  obtain ⟨v, rfl⟩ := hno _ _ hR
  obtain ⟨fn, code, hf, _⟩ := hfr.fn
  obtain ⟨l1, l2, l3, fn', l4, l5⟩ := hlv
  rw [hf] at l4
  cases l4
  obtain ⟨⟨h1, h2, h3, h4, h5, h6, h7⟩, kk, hd, hloc⟩ := tame_local (t_results (P := P) fn fr.tmps) w1 hl #[]
  have hq : ∀ e ∈ ((results fn fr.tmps).runT P w1 #[]).2, Quiet e := fun e he => (h7 e he).elim (fun x => by simp at x) id
  have hfst : ((results fn fr.tmps).runT P w1 #[]).1 = .ok v w1 := (Sem.runT_fst P _ w1 _).trans l5
  rcases hr : (results fn fr.tmps).runT P w1 #[] with ⟨r, es⟩
  rw [hr] at hd hloc hq hfst
  simp only at hfst
  subst hfst
  simp only [rworld] at hd
  have k0 : kk = 0 := by omega
  subst k0
  refine Ev.still (es := seen P fr.fn es) rfl hl (still_seen _ hq) (fun d => ?_) (hk v w1 hR hl hout)
  simp [-Sem.runT_eq, stepG, unwind, doReturn, G, l1, l2, l3, hf, hloc w1.tape d (fun j hj => absurd hj (Nat.not_lt_zero _)), rre, GStep.after]

/-- A call in company: wherever it stands it comes back, in 'R'. -/
def Callee (P : Program) (f : FuncId) (args : Array Value) (w : World) (R : Value → World → Prop) : Prop :=
  (∃ fn, P.funcs[f]? = some fn ∧ (fn.name == "runtime.NumGoroutine") = false ∧ fn.body.isSome = true) ∧
  ∀ (main : Bool) (c : Frame) (cs : List Frame) (Stop : Goroutine → World → Prop), (∀ v w', R v w' → NoLoops w' → Outer w w' → Ev P KeptD Stop main (G (c.finish v) cs) w') → NoLoops w → Ev P KeptD Stop main (G (Frame.enter P f args .normal) (c :: cs)) w

theorem CodeOk.named {cal : Oper → Bool} {F : FuncId → Prop} (hC : CodeOk cal P F) {f : FuncId} (hf : F f) : ∃ fn, P.funcs[f]? = some fn ∧ (fn.name == "runtime.NumGoroutine") = false ∧ fn.body.isSome = true := by
  obtain ⟨fn, c, h1, h2, h3, _⟩ := hC f hf
  exact ⟨fn, h1, h2, by rw [h3]; rfl⟩

/-- .. by a plain contract that holds on every tape .. -/
theorem callee_plain {L : List FuncId} (hC : CodeOk (statCal L) P (· ∈ L)) {f : FuncId} (hf : f ∈ L) {args : Array Value} {R : Value → World → Prop}
    (hcall : ∀ τ d, Calls P f args (re w τ d) fun e w' => ∃ v, e = .returned v ∧ R v w') (hR : ∀ v w' τ d, R v w' → R v (re w' τ d)) : Callee P f args w R :=
  ⟨hC.named hf, fun main c cs Stop h hl => Ev.ret hC (ev_of_plain (R := fun e w' => ∃ v, e = .returned v ∧ R v w') hf hC hcall (fun e w' τ d ⟨v, h1, h2⟩ => ⟨v, h1, hR v w' τ d h2⟩) (fun w' ⟨v, h1, _⟩ => by cases h1) hl)
    (fun e w ⟨v, h1, _⟩ => ⟨v, h1⟩) fun v w' ⟨v', h1, h2⟩ hl' ho => h v w' (by cases h1; exact h2) hl' ho⟩

/-- .. by a fenced one. -/
theorem callee_fenced {Fe : Fence} (hC : CodeOk (fun _ => true) P Fe.fn) (hd : Fe.depth = none) {n : Nat} {f : FuncId} (hf : Fe.fn f) {args : Array Value} {R : Value → World → Prop}
    (hcall : ∀ τ d, CallsIn Fe n P f args (re w τ d) fun e w' => ∃ v, e = .returned v ∧ R v w') (hR : ∀ v w' τ d, R v w' → R v (re w' τ d)) : Callee P f args w R :=
  ⟨hC.named hf, fun main c cs Stop h hl => Ev.ret hC (ev_of_calls (R := fun e w' => ∃ v, e = .returned v ∧ R v w') hC hd hcall (fun e w' τ d ⟨v, h1, h2⟩ => ⟨v, h1, hR v w' τ d h2⟩) (fun w' ⟨v, h1, _⟩ => by cases h1) hl)
    (fun e w ⟨v, h1, _⟩ => ⟨v, h1⟩) fun v w' ⟨v', h1, h2⟩ hl' ho => h v w' (by cases h1; exact h2) hl' ho⟩

theorem runT_call {a : Act} {o : Oper} {f : FuncId} {as : Array Operand} {ts : Array TypeId} {fn : Func} (ho : o.op = .call ⟨.value (.func f), as, ts⟩) (h1 : P.funcs[f]? = some fn) (h2 : (fn.name == "runtime.NumGoroutine") = false) (h3 : fn.body.isSome = true) (x : World) :
    (execOp a.eval o).runT P x #[] = (.ok (.enter f (as.map a.eval)) x, #[]) := by
  obtain ⟨dst, op, type, pos, after, guard⟩ := o
  simp only at ho
  subst ho
  have e : execOp a.eval ⟨dst, .call ⟨.value (.func f), as, ts⟩, type, pos, after, guard⟩ = callFunc f (#[] ++ as.map a.eval) := rfl
  have hn : fn.body.isNone = false := by cases hb : fn.body <;> rw [hb] at h3 <;> first | rfl | cases h3
  rw [e, Array.empty_append]
  have e2 : Sem.runT P (program : Sem Program) x #[] = (.ok P x, #[]) := rfl
  unfold callFunc
  refine (Sem.runT_bind' P program _ x #[]).trans ?_
  rw [e2]
  simp only [h1, h2, hn, if_false, Bool.false_eq_true]
  rfl

/-- A call. -/
theorem Ev.call {b : Frame} {a : Act} {k : List Item} {cs : List Frame} {ops : Array Oper} {i : Nat} {rest : List Nat} {o : Oper} {f : FuncId} {as : Array Operand} {ts : Array TypeId} {R : Value → World → Prop}
    (ho : ops[i]? = some o) (hop : o.op = .call ⟨.value (.func f), as, ts⟩) (hw : Region.wanted o (yielded ops a.tmps) = true) (hk : b.kind ≠ .early) (hl : NoLoops w) (hc : Callee P f (as.map a.eval) w R)
    (h : ∀ v w', R v w' → NoLoops w' → Outer w w' → Ev P KeptD Stop main (G (b.at (a.put o.dst v) (.inRegion ops rest :: k)) cs) w') :
    Ev P KeptD Stop main (G (b.at a (.inRegion ops (i :: rest) :: k)) cs) w := by
  have hkd : (b.kind == CallKind.early) = false := by simpa using hk
  obtain ⟨⟨fn, h1, h2, h3⟩, hcc⟩ := hc
  have hfin : ∀ v, (b.at a (.inRegion ops (i :: rest) :: k)).finish v = b.at (a.put o.dst v) (.inRegion ops rest :: k) := fun v => by rw [Frame.finish_at, ho]; rfl
  refine Ev.still (g' := G (Frame.enter P f (as.map a.eval) .normal) (b.at a (.inRegion ops (i :: rest) :: k) :: cs)) (es := seen P b.fn #[]) rfl hl (still_seen _ (by simp)) (fun d => ?_) ?_
  · rw [stepG_oper ho hw]
    simp [-Sem.runT_eq, stepG.apply, runT_call hop h1 h2 h3, G, hkd, GStep.after, Frame.at]
  · refine hcc main _ cs Stop (fun v w' hv hl' ho' => ?_) hl
    rw [hfin]
    exact h v w' hv hl' ho'
end
end Go.Proofs.Ytibafngidpmgdab
