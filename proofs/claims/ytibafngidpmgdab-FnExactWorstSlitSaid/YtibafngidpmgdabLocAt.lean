/- A computation at one world: what it does there is fine and local in the tape; calls of function values. -/
import Derived.Test.YtibafngidpmgdabLocal
import Derived.Test.YtibafngidpmgdabTameX
import Derived.Conc.Events
import Derived.RunT
import Derived.Fence
namespace Go.Proofs.Ytibafngidpmgdab
variable [GlobSize]
set_option linter.unusedSectionVars false
set_option linter.unusedSimpArgs false
set_option linter.unusedVariables false

/-- Fine and local, at this world. -/
def LocAt (P : Program) {α : Type} (Q : α → Prop) (s : Sem α) (w : World) : Prop :=
  ∀ es, Fine Q w (s.runT P w es) es ∧ ∃ k, (rworld (s.runT P w es).1).drawn = w.drawn + k ∧ ∀ τ d, same k τ d w.tape w.drawn → s.runT P (re w τ d) es = (rre (s.runT P w es).1 τ (d + k), (s.runT P w es).2)

section
variable {P : Program} {α β : Type}

theorem LocAt.of {Q : α → Prop} {s : Sem α} (h : Tm P Q s) {w : World} (hw : NoLoops w) : LocAt P Q s w := tame_local h w hw

theorem LocAt.mono {Q Q' : α → Prop} {s : Sem α} {w : World} (h : LocAt P Q s w) (hq : ∀ a, Q a → Q' a) : LocAt P Q' s w := fun es => by
  obtain ⟨⟨h1, h2, h3, h4, h5, h6, h7⟩, hk⟩ := h es
  refine ⟨⟨h1, h2, h3, h4, h5, ?_, h7⟩, hk⟩
  revert h6
  cases (s.runT P w es).1 with
  | ok a w' => exact hq a
  | halt x w' => exact id

theorem LocAt.bind {Q : α → Prop} {R : β → Prop} {s : Sem α} {f : α → Sem β} {w : World} (h : LocAt P Q s w)
    (hf : ∀ a w', s.run P w = .ok a w' → Q a → NoLoops w' → LocAt P R (f a) w') : LocAt P R (s >>= f) w := by
  intro es
  obtain ⟨⟨h1, h2, h3, h4, h5, h6, h7⟩, k, hk, hl⟩ := h es
  have hb : ∀ x, (s >>= f).runT P x es = match s.runT P x es with
      | (.ok a w', es') => (f a).runT P w' es'
      | (.halt y w', es') => (.halt y w', es') := fun x => Sem.runT_bind' P s f x es
  have hfst : (s.runT P w es).1 = s.run P w := Sem.runT_fst P s w es
  rcases hr : s.runT P w es with ⟨r, es1⟩
  rw [hr] at h1 h2 h3 h4 h5 h6 h7 hk hl hfst
  cases r with
  | ok a w' =>
    simp only at hfst h6
    obtain ⟨i1, m, im, il⟩ := hf a w' hfst.symm h6 h5 es1
    have e0 : (s >>= f).runT P w es = (f a).runT P w' es1 := by rw [hb, hr]
    rw [e0]
    simp only [rworld] at h1 h2 h3 h4 hk
    refine ⟨i1.of h1 h2 h3 h4 h7, k + m, by rw [im, hk]; omega, fun τ d hs => ?_⟩
    rw [hb, hl τ d hs.left]
    show (f a).runT P (re w' τ (d + k)) es1 = _
    rw [il τ (d + k) (by rw [h1, hk]; exact hs.right), Nat.add_assoc]
  | halt y w' =>
    have e0 : (s >>= f).runT P w es = (.halt y w', es1) := by rw [hb, hr]
    rw [e0]
    refine ⟨⟨h1, h2, h3, h4, h5, h6, h7⟩, k, hk, fun τ d hs => ?_⟩
    rw [hb, hl τ d hs]
    rfl

/-- What a call may yield: a value, nothing, or that a function of these is entered. -/
def NextC (F : FuncId → Prop) : Next → Prop
  | .value _ | .skip => True
  | .enter f _ => F f
  | _ => False
theorem NextV.c {F : FuncId → Prop} : ∀ {n : Next}, NextV n → NextC F n
  | .value _, _ => trivial
  | .skip, _ => trivial

/-- A Go function with a body. -/
def Bodied (P : Program) (f : FuncId) : Prop := ∃ fn c, P.funcs[f]? = some fn ∧ (fn.name == "runtime.NumGoroutine") = false ∧ fn.body = some c

theorem tm_callFunc {F : FuncId → Prop} {f : FuncId} (hb : Bodied P f) (hF : F f) (args : Array Value) : Tm P (NextC F) (callFunc f args) := by
  obtain ⟨fn, c, h1, h2, h3⟩ := hb
  unfold callFunc
  refine tm_prog ?_
  rw [h1]
  simp only [h2, h3, Option.isNone_some, if_false, Bool.false_eq_true]
  exact hF

theorem loc_callMethod {F : FuncId → Prop} (hF : ∀ f, F f → Bodied P f) {w : World} (hw : NoLoops w) (recv : Value) (name : String) (args : Array Value)
    (h : ∀ u v f x w', recv = .iface u v → (method (P.types.size + Made.depth) u v name).run P w = .ok (f, x) w' → F f) : LocAt P (NextC F) (callMethod recv name args) w := by
  have hp : ∀ e, Tm P (NextC F) (runtimePanic e : Sem Next) := fun e => by
    unfold runtimePanic
    refine tm_prog ?_
    cases e <;> first | exact tm_goPanic _ | exact tm_bind (t_elemOf _) fun _ => tm_bind (t_newVar _ _) fun _ => tm_goPanic _
  cases recv with
  | iface u v =>
    have e : callMethod (.iface u v) name args = (program >>= fun p => method (p.types.size + Made.depth) u v name >>= fun x => callFunc x.1 (#[x.2] ++ args)) := rfl
    rw [e]
    refine LocAt.bind (Q := fun p => p = P) (LocAt.of (s := program) (Q := fun p => p = P) rfl hw) fun p w1 hr hp hw1 => ?_
    subst hp
    have : w1 = w := by cases hr; rfl
    subst this
    refine LocAt.bind (LocAt.of (t_method _ _ _ _) hw1) fun a w' hrun _ hw' => ?_
    have hf := h u v a.1 a.2 w' rfl hrun
    exact LocAt.of (tm_callFunc (hF _ hf) hf _) hw'
  | nilIface => exact LocAt.of (s := runtimePanic .nilDeref) (hp .nilDeref) hw
  | _ => exact LocAt.of (tm_stuck _) hw

/-- A call of a function value: what it may enter is what the call is about. -/
theorem loc_invoke {F : FuncId → Prop} (hF : ∀ f, F f → Bodied P f) {w : World} (hw : NoLoops w) (t : Fn) (hy : ∀ l, t ≠ .yield l) (cs args : Array Value)
    (h : ∀ f, (Target.fn t cs).leads P w args = some f → F f) : LocAt P (NextC F) (invoke (.fn t cs) args) w := by
  cases t with
  | func f => exact LocAt.of (tm_callFunc (hF _ (h f rfl)) (h f rfl) _) hw
  | method name =>
    cases ha : args[0]? with
    | none =>
      have e : invoke (.fn (.method name) cs) args = stuck "call: a method without a receiver" := by simp only [invoke, ha]
      rw [e]; exact LocAt.of (tm_stuck _) hw
    | some recv =>
      have e : invoke (.fn (.method name) cs) args = callMethod recv name (args.extract 1 args.size) := by simp only [invoke, ha]
      rw [e]
      refine loc_callMethod hF hw _ _ _ fun u v f x w' hr hrun => h f ?_
      subst hr
      simp only [Target.leads, ha, hrun]
  | methodOf u name =>
    cases ha : args[0]? with
    | none =>
      have e : invoke (.fn (.methodOf u name) cs) args = stuck "call: a method expression without a receiver" := by simp only [invoke, ha]
      rw [e]; exact LocAt.of (tm_stuck _) hw
    | some recv =>
      have e : invoke (.fn (.methodOf u name) cs) args = (program >>= fun p => (match p.underlying u with | some d => pure d | none => stuck "no such type") >>= fun d =>
          callMethod (match d with | .interface _ => recv | _ => .iface u recv) name (args.extract 1 args.size)) := by
        simp only [invoke, ha]
        rfl
      rw [e]
      refine LocAt.bind (Q := fun p => p = P) (LocAt.of (s := program) (Q := fun p => p = P) rfl hw) fun p w1 hr hp hw1 => ?_
      subst hp
      have : w1 = w := by cases hr; rfl
      subst this
      cases hu : p.underlying u with
      | none => exact LocAt.bind (LocAt.of (t_stuck _) hw1) fun a w' hrun => by cases hrun
      | some d =>
        refine LocAt.bind (Q := fun x => x = d) (LocAt.of (s := pure d) (Q := fun x => x = d) rfl hw1) fun a w' hrun hq hw' => ?_
        subst hq
        have : w' = w1 := by cases hrun; rfl
        subst this
        refine loc_callMethod hF hw' _ _ _ fun u' v f x w2 hr2 hrun2 => h f ?_
        simp only [Target.leads, ha, hu, Option.map_some]
        cases a <;> (simp only at hr2; first | (subst hr2; simp only [hrun2]) | (cases hr2; simp only [hrun2]))
  | via t path f p =>
    cases ha : args[0]? with
    | none =>
      have e : invoke (.fn (.via t path f p) cs) args = stuck "call: a method expression without a receiver" := by simp only [invoke, ha]
      rw [e]; exact LocAt.of (tm_stuck _) hw
    | some recv =>
      have e : invoke (.fn (.via t path f p) cs) args = (receiverVia t recv path p >>= fun x => callFunc f (#[x] ++ args.extract 1 args.size)) := by simp only [invoke, ha]
      rw [e]
      exact LocAt.of (tm_bind (t_receiverVia _ _ _ _) fun _ => tm_callFunc (hF _ (h f rfl)) (h f rfl) _) hw
  | yield l => exact absurd rfl (hy l)
end
end Go.Proofs.Ytibafngidpmgdab
