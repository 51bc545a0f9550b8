/- A step of a goroutine whose frames run checked code: it goes on (or ends the run); it is local in the tape; what it lists is quiet; the frames stay checked. -/
import Derived.Test.YtibafngidpmgdabLocAt
import Derived.Conc.Own
namespace Go.Proofs.Ytibafngidpmgdab
variable [GlobSize]
set_option linter.unusedSectionVars false
open Go.Conc
set_option linter.unusedSimpArgs false
set_option linter.unusedVariables false

def callOk (o : Oper) : Bool :=
  match o.op with
  | .call c => match c.callee with | .value (.func _) => true | _ => false
  | _ => false
def okOp (cal : Oper → Bool) (P : Program) (o : Oper) : Bool := opOk P o || (callOk o && cal o)
def codeOk (cal : Oper → Bool) (P : Program) : Code → Bool
  | .skip | .label _ | .ret | .exit _ => true
  | .region _ ops _ => ops.all (okOp cal P)
  | .seq a b | .cond _ a b => codeOk cal P a && codeOk cal P b
  | .block _ b | .loop b => codeOk cal P b
  | _ => false
def itemOk (cal : Oper → Bool) (P : Program) : Item → Bool
  | .code c => codeOk cal P c
  | .inRegion ops _ => ops.all (okOp cal P)
  | .inBlock _ => true
  | .inLoop b => codeOk cal P b
  | _ => false

structure FrameOk (cal : Oper → Bool) (P : Program) (F : FuncId → Prop) (fr : Frame) : Prop where
  fn : Bodied P fr.fn
  kind : fr.kind = .normal
  round : fr.roundOf = none
  defers : fr.defers = []
  todo : ∀ i ∈ fr.todo, itemOk cal P i = true

/-- A place that is no package-level variable has no step of its own that could be taken early: the run ends there. -/
class EarlyOk (P : Program) : Prop where
  ended : ∀ fr callers dying g w, gsz ≤ g → ∃ o w', early P fr callers dying g w = .ended o w'

/-- The functions' code is checked. -/
def CodeOk (cal : Oper → Bool) (P : Program) (F : FuncId → Prop) : Prop := ∀ f, F f → ∃ fn c, P.funcs[f]? = some fn ∧ (fn.name == "runtime.NumGoroutine") = false ∧ fn.body = some c ∧ codeOk cal P c = true
theorem CodeOk.bodied {cal : Oper → Bool} {P : Program} {F : FuncId → Prop} (h : CodeOk cal P F) : ∀ f, F f → Bodied P f := fun f hf =>
  let ⟨fn, c, h1, h2, h3, _⟩ := h f hf; ⟨fn, c, h1, h2, h3⟩

/-- What a step may list: memory, or 'noRoom'; a channel is not changed. -/
def Still (e : Event) : Prop :=
  match e.loc with
  | .cell _ => True
  | .obj _ => e.write = true → e.sync = false
  | .mark .noRoom => True
  | _ => False

/-- What a step leaves of the world. -/
structure Kept (w w' : World) (es : Array Event) (k : Nat) : Prop where
  tape : w'.tape = w.tape
  os : w'.os = w.os
  output : w'.output = w.output
  grows : Grows w w'
  loops : NoLoops w'
  drawn : w'.drawn = w.drawn + k
  quiet : ∀ e ∈ es, Still e

section
variable {cal : Oper → Bool} {P : Program} [EarlyOk P] {F : FuncId → Prop} {main : Bool} {fr : Frame} {cs : List Frame} {w : World}

theorem quiet_seen (fn : FuncId) {es : Array Event} (h : ∀ e ∈ es, Quiet e) : ∀ e ∈ seen P fn es, Quiet e := by
  have key : ∀ (l : List Event) (f : Bool × Array Event → Event → Bool × Array Event) (x : Bool × Array Event), (∀ x e, ∀ y ∈ (f x e).2, y ∈ x.2 ∨ y = e) → (∀ e ∈ x.2, Quiet e) → (∀ e ∈ l, Quiet e) → ∀ e ∈ (l.foldl f x).2, Quiet e := by
    intro l f
    induction l with
    | nil => exact fun x _ hx _ => hx
    | cons a l ih =>
      intro x hf hx hl
      exact ih (f x a) hf (fun e he => (hf x a e he).elim (hx e) fun q => q ▸ hl a (by simp)) fun e he => hl e (by simp [he])
  dsimp only [seen]
  rw [← Array.foldl_toList]
  refine key _ _ _ ?_ (by simp) fun e he => h e (Array.mem_toList_iff.1 he)
  rintro ⟨q, kept⟩ e y hy
  dsimp only at hy ⊢
  split at hy
  · exact .inl hy
  · dsimp only at hy
    split at hy
    · exact .inl hy
    · exact (Array.mem_push.1 hy)

theorem noExtern_seen (fn : FuncId) (es : Array Event) : ∀ e ∈ seen P fn es, ∀ f, e.loc ≠ .mark (.extern f) := by
  have key : ∀ (l : List Event) (f : Bool × Array Event → Event → Bool × Array Event) (x : Bool × Array Event), (∀ x e, ∀ y ∈ (f x e).2, y ∈ x.2 ∨ ∀ g, y.loc ≠ .mark (.extern g)) → (∀ e ∈ x.2, ∀ g, e.loc ≠ .mark (.extern g)) → ∀ e ∈ (l.foldl f x).2, ∀ g, e.loc ≠ .mark (.extern g) := by
    intro l f
    induction l with
    | nil => exact fun x _ hx => hx
    | cons a l ih =>
      intro x hf hx
      exact ih (f x a) hf (fun e he => (hf x a e he).elim (hx e) id)
  dsimp only [seen]
  rw [← Array.foldl_toList]
  refine key _ _ _ ?_ (by simp)
  rintro ⟨q, kept⟩ e y hy
  dsimp only at hy ⊢
  split at hy
  · exact .inl hy
  · rename_i hne
    dsimp only at hy
    split at hy
    · exact .inl hy
    · rcases Array.mem_push.1 hy with h | rfl
      · exact .inl h
      · exact .inr fun g hg => hne g hg
theorem still_seen (fn : FuncId) {es : Array Event} (h : ∀ e ∈ es, Quiet e) : ∀ e ∈ seen P fn es, Still e := by
  intro e he
  have h1 := quiet_seen (P := P) fn h e he
  have h2 := noExtern_seen (P := P) fn es e he
  obtain ⟨loc, wr, sy⟩ := e
  cases loc with
  | mark m => cases m <;> first | exact h1 | exact absurd rfl (h2 _)
  | _ => exact h1

theorem loc_oper (hF : ∀ f, F f → Bodied P f) (hw : NoLoops w) {o : Oper} (h : okOp cal P o = true) (ρ : Operand → Value) (hρ : ∀ g, ρ (.func g) = .func (.func g) #[] #[]) (hab : ∀ f, o.about P w ρ = some f → F f) : LocAt P (NextC F) (execOp ρ o) w := by
  cases ho : opOk P o with
  | true => exact (LocAt.of (execOp_tame ho ρ) hw).mono fun _ => NextV.c
  | false =>
    have hc : callOk o = true := by
      have h2 : callOk o = true ∧ cal o = true := by simpa [okOp, ho] using h
      exact h2.1
    obtain ⟨dst, op, type, pos, after, guard⟩ := o
    cases op with
    | call c =>
      obtain ⟨callee, args, ts⟩ := c
      cases callee with
      | value f =>
        cases f with
        | func g =>
          have e : execOp ρ ⟨dst, .call ⟨.value (.func g), args, ts⟩, type, pos, after, guard⟩ = (Deferred.ofValue (ρ (.func g)) (args.map ρ) >>= fun d => invoke d.target d.args) := rfl
          rw [hρ] at e
          have e1 : execOp ρ ⟨dst, .call ⟨.value (.func g), args, ts⟩, type, pos, after, guard⟩ = invoke (.fn (.func g) #[]) (#[] ++ args.map ρ) := e.trans rfl
          rw [e1]
          refine loc_invoke hF hw (.func g) (fun l hl => by cases hl) #[] _ fun g' hg => hab g' ?_
          have e2 : (resolve ρ ⟨.value (.func g), args, ts⟩ type).run P w = .ok ⟨.fn (.func g) #[], #[] ++ args.map ρ⟩ w := by
            show (Deferred.ofValue (ρ (.func g)) (args.map ρ)).run P w = _
            rw [hρ]; rfl
          simp only [Oper.about, e2]
          exact hg
        | _ => cases hc
      | _ => cases hc
    | _ => cases hc

theorem finish_ok {ops : Array Oper} {i : Nat} {rest : List Nat} {k : List Item} (h : FrameOk cal P F fr) (ht : fr.todo = .inRegion ops (i :: rest) :: k) (v : Value) : FrameOk cal P F (fr.finish v) ∧ (fr.finish v).mode = fr.mode := by
  have hk := h.todo
  rw [ht] at hk
  refine ⟨⟨?_, ?_, ?_, ?_, ?_⟩, ?_⟩ <;> simp only [Frame.finish, ht]
  · exact h.fn
  · exact h.kind
  · exact h.round
  · exact h.defers
  · intro x hx
    rcases List.mem_cons.1 hx with rfl | hx
    · exact hk (.inRegion ops (i :: rest)) (by simp)
    · exact hk _ (by simp [hx])

theorem raise_ok (h : FrameOk cal P F fr) (ch : List PanicEntry) : FrameOk cal P F (fr.raise ch) := by
  unfold Frame.raise
  split <;> exact ⟨h.fn, h.kind, h.round, h.defers, h.todo⟩
theorem enter_ok (hC : CodeOk cal P F) {f : FuncId} (hf : F f) (args : Array Value) : FrameOk cal P F (Frame.enter P f args .normal) ∧ (Frame.enter P f args .normal).mode = .run := by
  obtain ⟨fn, c, h1, h2, h3, h4⟩ := hC f hf
  refine ⟨⟨⟨fn, c, h1, h2, h3⟩, rfl, rfl, rfl, fun i hi => ?_⟩, rfl⟩
  simp only [Frame.enter, h1, Option.bind_some, h3, Option.getD_some, List.mem_singleton] at hi
  subst hi
  exact h4

/-- What is said of a step: the run ends, or it goes on; so for goroutine 0 and for any other, on every tape that gives the same answers. -/
def StepFine (cal : Oper → Bool) (P : Program) (F : FuncId → Prop) (pre : List Frame) (N : List Frame → Prop) (fr : Frame) (w : World) : Prop :=
  (∃ k, ∀ cs main τ d, same k τ d w.tape w.drawn → ∃ o w' es, stepG P main (G fr (pre ++ cs)) (re w τ d) = .ended o w' es) ∨
  ∃ fr' post w' es k, FrameOk cal P F fr' ∧ N post ∧ Kept w w' es k ∧
    ∀ cs main τ d, same k τ d w.tape w.drawn → stepG P main (G fr (pre ++ cs)) (re w τ d) = .go (G fr' (post ++ cs)) (re w' τ (d + k)) es

theorem StepFine.still {fr' : Frame} (hw : NoLoops w) (h : FrameOk cal P F fr') (hs : ∀ cs main x, stepG P main (G fr cs) x = .go (G fr' cs) x #[]) : StepFine cal P F [] (fun x => x = [] ∨ x = [fr]) fr w :=
  .inr ⟨fr', [], w, #[], 0, h, .inl rfl, ⟨rfl, rfl, rfl, Grows.same rfl, hw, rfl, by simp⟩, fun cs main τ d _ => hs cs main _⟩
theorem StepFine.ends (hs : ∀ cs main x, ∃ o w' es, stepG P main (G fr cs) x = .ended o w' es) : StepFine cal P F [] (fun x => x = [] ∨ x = [fr]) fr w := .inl ⟨0, fun cs main τ d _ => hs cs main _⟩

/-- An operation's step. -/
theorem step_apply (hC : CodeOk cal P F) (h : FrameOk cal P F fr) {ops : Array Oper} {i : Nat} {rest : List Nat} {k : List Item} (ht : fr.todo = .inRegion ops (i :: rest) :: k) {s : Sem Next} (hl : LocAt P (NextC F) s w)
    (hs : ∀ cs main x, stepG P main (G fr cs) x = stepG.apply P true fr cs none s x) : StepFine cal P F [] (fun x => x = [] ∨ x = [fr]) fr w := by
  obtain ⟨⟨h1, h2, h3, h4, h5, h6, h7⟩, kk, hk, hl⟩ := hl #[]
  have hkd : (fr.kind == CallKind.early) = false := by rw [h.kind]; rfl
  have hq : ∀ e ∈ (s.runT P w #[]).2, Quiet e := fun e he => (h7 e he).elim (fun x => by simp at x) id
  rcases hr : s.runT P w #[] with ⟨r, es⟩
  rw [hr] at h1 h2 h3 h4 h5 h6 hk hl hq
  have hkept : ∀ w', rworld r = w' → Kept w w' (seen P fr.fn es) kk := fun w' e => by
    subst e; exact ⟨h1, h2, h3, h4, h5, hk, still_seen _ hq⟩
  cases r with
  | ok n w' =>
    cases n with
    | value v =>
      refine .inr ⟨fr.finish v, [], w', seen P fr.fn es, kk, (finish_ok h ht v).1, .inl rfl, hkept _ rfl, fun cs main τ d hsm => ?_⟩
      · rw [hs]; simp [-Sem.runT_eq, stepG.apply, hl τ d hsm, rre, G, hkd, GStep.after]
    | skip =>
      refine .inr ⟨fr.finish undef, [], w', seen P fr.fn es, kk, (finish_ok h ht undef).1, .inl rfl, hkept _ rfl, fun cs main τ d hsm => ?_⟩
      · rw [hs]; simp [-Sem.runT_eq, stepG.apply, hl τ d hsm, rre, G, hkd, GStep.after]
    | enter f args =>
      refine .inr ⟨Frame.enter P f args .normal, [fr], w', seen P fr.fn es, kk, (enter_ok hC h6 args).1, .inr rfl, hkept _ rfl, fun cs main τ d hsm => ?_⟩
      · rw [hs]; simp [-Sem.runT_eq, stepG.apply, hl τ d hsm, rre, G, hkd, GStep.after, ht]
    | _ => exact (show False from h6).elim
  | halt x w' =>
    cases x with
    | panic v =>
      refine .inr ⟨fr.raise [{ v, recovered := false }], [], w', seen P fr.fn es, kk, raise_ok h _, .inl rfl, hkept _ rfl, fun cs main τ d hsm => ?_⟩
      · rw [hs]; simp [-Sem.runT_eq, stepG.apply, hl τ d hsm, rre, G, hkd, GStep.after]
    | stuck m => exact .inl ⟨kk, fun cs main τ d hsm => ⟨_, _, _, by rw [hs]; simp [-Sem.runT_eq, stepG.apply, hl τ d hsm, rre, hkd, GStep.after]; exact ⟨rfl, rfl, rfl⟩⟩⟩
    | unsupported u =>
      cases u with
      | initOrder g =>
        refine .inl ⟨kk, fun cs main τ d hsm => ?_⟩
        obtain ⟨o, w2, he⟩ := EarlyOk.ended (P := P) fr cs none g (re w' τ (d + kk)) h6
        exact ⟨_, _, _, by rw [hs]; simp [-Sem.runT_eq, stepG.apply, hl τ d hsm, rre, hkd, GStep.after, he]; exact ⟨rfl, rfl, rfl⟩⟩
      | _ => exact .inl ⟨kk, fun cs main τ d hsm => ⟨_, _, _, by rw [hs]; simp [-Sem.runT_eq, stepG.apply, hl τ d hsm, rre, hkd, GStep.after]; exact ⟨rfl, rfl, rfl⟩⟩⟩
    | _ => exact (show False from h6).elim

theorem exitTo_sub {id : Nat} : ∀ {k k' : List Item}, exitTo id k = some k' → ∀ i ∈ k', i ∈ k
  | [], _, h => by simp [exitTo] at h
  | x :: k, k', h => by
    have hrec : exitTo id k = some k' → ∀ i ∈ k', i ∈ x :: k := fun h i hi => by simp [exitTo_sub h i hi]
    cases x with
    | inBlock id' =>
      simp only [exitTo] at h
      split at h
      · cases h; exact fun i hi => by simp [hi]
      · exact hrec h
    | _ => exact hrec h

theorem move_ok (h : FrameOk cal P F fr) (hw : NoLoops w) (hm : fr.mode = .run) {todo : List Item} (ht : ∀ i ∈ todo, itemOk cal P i = true)
    (hs : ∀ cs main x, stepG P main (G fr cs) x = .go (G { fr with todo := todo } cs) x #[]) : StepFine cal P F [] (fun x => x = [] ∨ x = [fr]) fr w :=
  .still (fr' := { fr with todo := todo }) hw ⟨h.fn, h.kind, h.round, h.defers, ht⟩ hs

/-- A step of a frame that runs. -/
theorem step_run (hC : CodeOk cal P F) (h : FrameOk cal P F fr) (hm : fr.mode = .run) (hw : NoLoops w) (hab : ∀ f, fr.about P w = some f → F f) : StepFine cal P F [] (fun x => x = [] ∨ x = [fr]) fr w := by
  have htodo := h.todo
  rcases ht : fr.todo with _ | ⟨it, k⟩
  · refine .still hw (fr' := { fr with mode := .returning }) ⟨h.fn, h.kind, h.round, h.defers, h.todo⟩ fun cs main x => ?_
    simp [stepG, stepG.exec, G, hm, ht, h.round]
  rw [ht] at htodo
  have hk : ∀ i ∈ k, itemOk cal P i = true := fun i hi => htodo i (by simp [hi])
  have h0 : itemOk cal P it = true := htodo it (by simp)
  cases it with
  | inBlock id => exact move_ok h hw hm hk fun cs main x => by simp [stepG, stepG.exec, G, hm, ht]
  | inLoop b =>
    refine move_ok h hw hm (todo := .code b :: .inLoop b :: k) (fun i hi => ?_) fun cs main x => by simp [stepG, stepG.exec, G, hm, ht]
    rcases List.mem_cons.1 hi with rfl | hi
    · exact h0
    · exact htodo i hi
  | inRegion ops l =>
    cases l with
    | nil => exact move_ok h hw hm hk fun cs main x => by simp [stepG, stepG.exec, G, hm, ht]
    | cons i rest =>
      cases hwt : ((ops[i]?).map (Region.wanted · (yielded ops fr.tmps))).getD false with
      | false => exact .still hw (finish_ok h ht undef).1 fun cs main x => by simp [stepG, stepG.exec, G, hm, ht, hwt]
      | true =>
        cases ho : ops[i]? with
        | none => rw [ho] at hwt; cases hwt
        | some o =>
          have hok : okOp cal P o = true := by
            have : ops.all (okOp cal P) = true := h0
            rw [Array.all_eq_true_iff_forall_mem] at this
            exact this o (Array.mem_of_getElem? ho)
          refine step_apply hC h ht (loc_oper hC.bodied hw hok fr.eval (fun g => rfl) fun f hf => hab f ?_) fun cs main x => ?_
          · simp only [Frame.about, hm, ht, ho]
            simp only [Oper.about] at hf
            cases hop : o.op <;> rw [hop] at hf <;> first | exact hf | cases hf
          · rw [ho] at hwt
            simp only [Option.map_some, Option.getD_some] at hwt
            simp [stepG, stepG.exec, stepG.oper, Frame.oper?, G, hm, ht, ho, hwt, h.round]
  | code c =>
    cases c with
    | skip => exact move_ok h hw hm hk fun cs main x => by simp [stepG, stepG.exec, G, hm, ht]
    | label l => exact move_ok h hw hm hk fun cs main x => by simp [stepG, stepG.exec, G, hm, ht]
    | ret =>
      refine .still hw (fr' := { fr with mode := .returning }) ⟨h.fn, h.kind, h.round, h.defers, h.todo⟩ fun cs main x => ?_
      simp [stepG, stepG.exec, G, hm, ht, h.round]
    | exit id =>
      cases he : exitTo id k with
      | none => exact .ends fun cs main x => ⟨_, _, _, by simp [stepG, stepG.exec, G, hm, ht, he, h.round]; exact ⟨rfl, rfl, rfl⟩⟩
      | some k' => exact move_ok h hw hm (fun i hi => hk i (exitTo_sub he i hi)) fun cs main x => by simp [stepG, stepG.exec, G, hm, ht, he]
    | seq a b =>
      have hab' : codeOk cal P a = true ∧ codeOk cal P b = true := by simpa [itemOk, codeOk] using h0
      refine move_ok h hw hm (todo := .code a :: .code b :: k) (fun i hi => ?_) fun cs main x => by simp [stepG, stepG.exec, G, hm, ht]
      simp only [List.mem_cons] at hi
      rcases hi with rfl | rfl | hi
      · exact hab'.1
      · exact hab'.2
      · exact hk i hi
    | cond c a b =>
      have hab' : codeOk cal P a = true ∧ codeOk cal P b = true := by simpa [itemOk, codeOk] using h0
      cases hv : fr.eval c with
      | bool t =>
        refine move_ok h hw hm (todo := .code (if t then a else b) :: k) (fun i hi => ?_) fun cs main x => by simp [stepG, stepG.exec, G, hm, ht, hv]
        rcases List.mem_cons.1 hi with rfl | hi
        · cases t
          · exact hab'.2
          · exact hab'.1
        · exact hk i hi
      | _ => exact .ends fun cs main x => ⟨_, _, _, by simp [stepG, stepG.exec, G, hm, ht, hv]; exact ⟨rfl, rfl, rfl⟩⟩
    | block id b =>
      refine move_ok h hw hm (todo := .code b :: .inBlock id :: k) (fun i hi => ?_) fun cs main x => by simp [stepG, stepG.exec, G, hm, ht]
      simp only [List.mem_cons] at hi
      rcases hi with rfl | rfl | hi
      · exact h0
      · rfl
      · exact hk i hi
    | loop b =>
      refine move_ok h hw hm (todo := .code b :: .inLoop b :: k) (fun i hi => ?_) fun cs main x => by simp [stepG, stepG.exec, G, hm, ht]
      simp only [List.mem_cons] at hi
      rcases hi with rfl | rfl | hi
      · exact h0
      · exact h0
      · exact hk i hi
    | region id ops draw =>
      have hi' : ∀ l, ∀ i ∈ Item.inRegion ops l :: k, itemOk cal P i = true := fun l i hi => by
        rcases List.mem_cons.1 hi with rfl | hi
        · exact h0
        · exact hk i hi
      cases draw with
      | false => exact move_ok h hw hm (hi' (List.range ops.size)) fun cs main x => by simp [stepG, stepG.exec, G, hm, ht]
      | true =>
        refine .inr ⟨{ fr with todo := .inRegion ops (Region.schedule (P.follows .mixedOrders) ops (w.tape w.drawn (.order fr.fn id))) :: k }, [], { w with drawn := w.drawn + 1 }, #[], 1, ⟨h.fn, h.kind, h.round, h.defers, hi' _⟩, .inl rfl,
          ⟨rfl, rfl, rfl, Grows.same rfl, hw, rfl, by simp⟩, fun cs main τ d hs => ?_⟩
        · have e : τ d = w.tape w.drawn := by have := hs 0 (by omega); simpa using this
          simp [stepG, stepG.exec, G, hm, ht, choose, Sem.run, Question.forced, Question.cut, re, e]
    | _ => cases h0
  | _ => cases h0
end
end Go.Proofs.Ytibafngidpmgdab
