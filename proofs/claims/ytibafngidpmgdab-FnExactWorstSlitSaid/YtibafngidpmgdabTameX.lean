/- Whatever operation of the plain kinds is carried out: it is tame, and yields a value or nothing. -/
import Derived.Test.YtibafngidpmgdabTameOp
namespace Go.Proofs.Ytibafngidpmgdab
variable [GlobSize]
set_option linter.unusedSectionVars false
set_option linter.unusedSimpArgs false
set_option linter.unusedVariables false

def tameBuiltin : Builtin → Bool
  | .len | .min | .max | .append => true
  | _ => false
/-- An operation of the plain kinds that calls no Go function. -/
def opOk (P : Program) (o : Oper) : Bool :=
  match o.op with
  | .move _ | .assign _ | .pick _ _ _ | .alloc _ | .box _ _ | .build _ _ | .buildSlice _ _ _ | .load _ _ | .store _ _ _ | .nilCheck _ | .unOp _ _ _ | .makeFunc _ _ _ | .makeSlice _ _ _
  | .fieldAddr _ _ _ | .field _ _ _ | .indexAddr _ _ _ | .index _ _ _ | .extract _ _ => true
  | .binOp op t _ _ _ => !cmpEq op || intType P t
  | .convert s d _ => intType P s && intType P d
  | .call c => match c.callee with | .builtin b => tameBuiltin b | _ => false
  | _ => false

section
variable {P : Program} {α β : Type}
theorem tm_goPanic {Q : α → Prop} (v : Value) : Tm P Q (goPanic v : Sem α) := True.intro
theorem t_builtin {b : Builtin} (h : tameBuiltin b = true) (ts : Array TypeId) (t : TypeId) (cs : Array Bool) (as : Array Value) : Tm P NextV (builtin b ts t cs as) := by
  cases b <;> first | (exfalso; cases h; done) | exact tm_v (t_len _ _ _) | exact tm_v (t_min _ _ _) | exact tm_v (t_max _ _ _) | exact tm_v (t_append _ _ _)
theorem t_nilCheck (x : Value) : Tm P NextV (match x with
    | .pointer none | .nilIface | .nilFunc => runtimePanic .nilDeref
    | .func (.method name) first captured =>
      match (first[0]? : Option Value) with
      | some .nilIface => runtimePanic .nilDeref
      | some (.iface t w) => do
        if (← nilAhead ((← program).types.size + Made.depth) t w name) != some false then
          unsupported (.noEntry "op/nilCheck.the method's receiver behind this interface value is a nil pointer, or cannot be seen to be none, and the arguments act or may panic (ledger 612)")
        pure (.value (.func (.method name) first captured))
      | _ => pure (.value (.func (.method name) first captured))
    | x => pure (.value x)) := by
  have hp : ∀ e, Tm P NextV (runtimePanic e : Sem Next) := fun e => by
    unfold runtimePanic
    refine tm_prog ?_
    cases e <;> first | exact tm_goPanic _ | exact tm_bind (t_elemOf _) fun _ => tm_bind (t_newVar _ _) fun _ => tm_goPanic _
  split
  · exact hp _
  · exact hp _
  · exact hp _
  · split
    · exact hp _
    · refine tm_prog ?_
      refine tm_bind (t_nilAhead _ _ _ _) fun a => ?_
      dsimp +zetaHave only
      split
      · exact tm_bind (t_unsupported _) fun _ => trivial
      · exact trivial
    · exact trivial
  · exact trivial

theorem execOp_tame {o : Oper} (h : opOk P o = true) (ρ : Operand → Value) : Tm P NextV (execOp ρ o) := by
  obtain ⟨dst, op, type, pos, after, guard⟩ := o
  cases op with
  | move x => exact trivial
  | assign x => exact trivial
  | pick c a b => exact tm_bind (t_asBool _) fun _ => trivial
  | alloc e => exact tm_v (t_alloc _ _ _)
  | box e x => exact tm_v (t_box _ _)
  | build t ps => exact tm_v (t_build _ _)
  | buildSlice t n ps => exact tm_v (t_buildSlice _ _ _)
  | load t a => exact tm_v (t_loadAt _ _)
  | store t a x => exact tm_u (t_storeAt _ _ _)
  | nilCheck x => exact t_nilCheck (ρ x)
  | unOp op t x => exact tm_v (t_unary _ _)
  | makeFunc fn a b => exact tm_v (t_makeFunc _ _ _)
  | makeSlice t l c => exact tm_v (t_makeSlice _ _ _)
  | fieldAddr s x f => exact tm_v (t_fieldAt _ _ _)
  | field t x f => exact tm_v (t_field _ _ _)
  | indexAddr t x i => exact tm_v (t_indexAt _ _ _)
  | index t x i => exact tm_v (t_index _ _ _)
  | extract t i => exact tm_v (t_extract _ _)
  | binOp op t x y yt =>
    have hi : cmpEq op = true → intType P t = true := fun hc => by simpa [opOk, hc] using h
    exact tm_v (T.seq (t_eqGuard hi _ _ _ _) (t_binOp hi _ _))
  | convert s d x =>
    have hi : intType P s = true ∧ intType P d = true := by simpa [opOk] using h
    exact tm_v (t_convert hi.1 hi.2 _)
  | call c =>
    obtain ⟨callee, args, ts⟩ := c
    cases callee with
    | builtin b => exact t_builtin h _ _ _ _
    | value f => cases h
    | invoke r m => cases h
  | _ => cases h
end
end Go.Proofs.Ytibafngidpmgdab
