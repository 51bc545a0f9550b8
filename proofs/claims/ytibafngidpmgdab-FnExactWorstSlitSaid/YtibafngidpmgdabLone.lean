/- The lone run of a zone, told step by step; which function a call is about does not hang on the tape. -/
import Derived.Test.YtibafngidpmgdabZone
namespace Go.Proofs.Ytibafngidpmgdab
variable [GlobSize]
set_option linter.unusedSectionVars false
open Go.Conc
set_option linter.unusedSimpArgs false
set_option linter.unusedVariables false

section
variable {cal : Oper → Bool} {P : Program} [EarlyOk P] {F : FuncId → Prop} {fr : Frame} {ks cs : List Frame} {w : World}

/-- Two tapes give the same answers for ever. -/
def sameAll (τ : Tape) (d : Nat) (τ' : Tape) (d' : Nat) : Prop := ∀ k, same k τ d τ' d'

theorem run_re {α : Type} {s : Sem α} (h : T P s) (hw : NoLoops w) {τ : Tape} {d : Nat} (hs : sameAll τ d w.tape w.drawn) : ∃ k, s.run P (re w τ d) = rre (s.run P w) τ (d + k) := by
  obtain ⟨_, k, _, hl⟩ := tame_local h w hw #[]
  refine ⟨k, ?_⟩
  have := congrArg Prod.fst (hl τ d (hs k))
  rw [Sem.runT_fst, Sem.runT_fst] at this
  exact this

theorem byName_re (hw : NoLoops w) {τ : Tape} {d : Nat} (hs : sameAll τ d w.tape w.drawn) (n : Nat) (u : TypeId) (v : Value) (name : String) :
    (match (method n u v name).run P (re w τ d) with | .ok (f, _) _ => some f | .halt _ _ => none) = (match (method n u v name).run P w with | .ok (f, _) _ => some f | .halt _ _ => (none : Option FuncId)) := by
  obtain ⟨k, hk⟩ := run_re (P := P) (t_method n u v name) hw hs
  rw [hk]
  cases (method n u v name).run P w <;> rfl

theorem leads_re (hw : NoLoops w) {τ : Tape} {d : Nat} (hs : sameAll τ d w.tape w.drawn) (t : Target) (args : Array Value) : t.leads P (re w τ d) args = t.leads P w args := by
  unfold Target.leads
  dsimp only
  split <;> try rfl
  · split
    · exact byName_re hw hs _ _ _ _
    · rfl
  · split
    · exact byName_re hw hs _ _ _ _
    · rfl

theorem about_re (hf : FrameOk cal P F fr) (hm : fr.mode = .run) (hw : NoLoops w) {τ : Tape} {d : Nat} (hs : sameAll τ d w.tape w.drawn) : fr.about P (re w τ d) = fr.about P w := by
  simp only [Frame.about, hm]
  rcases ht : fr.todo with _ | ⟨it, k⟩
  · rfl
  have h0 : itemOk cal P it = true := hf.todo it (by simp [ht])
  have hres : ∀ (c : Call) (t : TypeId), (match (resolve fr.eval c t).run P (re w τ d) with | .ok d w' => d.target.leads P w' d.args | .halt _ _ => none) = (match (resolve fr.eval c t).run P w with | .ok d w' => d.target.leads P w' d.args | .halt _ _ => (none : Option FuncId)) := by
    intro c t
    obtain ⟨callee, args, ts⟩ := c
    cases callee with
    | builtin b => exact leads_re hw hs _ _
    | invoke r m => exact leads_re hw hs _ _
    | value f =>
      show (match (Deferred.ofValue (fr.eval f) (args.map fr.eval)).run P (re w τ d) with | .ok d w' => d.target.leads P w' d.args | .halt _ _ => none) = (match (Deferred.ofValue (fr.eval f) (args.map fr.eval)).run P w with | .ok d w' => d.target.leads P w' d.args | .halt _ _ => none)
      cases fr.eval f <;> first | rfl | exact leads_re hw hs _ _
  cases it with
  | inRegion ops l =>
    cases l with
    | nil => rfl
    | cons i rest =>
      dsimp only
      cases ops[i]? with
      | none => rfl
      | some o =>
        dsimp only
        cases o.op <;> first | rfl | exact hres _ _
  | code c => cases c <;> first | rfl | (cases h0; done)
  | call d a b c => cases h0
  | _ => rfl

/-- The lone run of the zone: it comes to the lowest frame's leaving, and 'Post' holds there; every call on the way is about one of the functions. -/
inductive Lone (P : Program) (F : FuncId → Prop) (Post : Frame → World → Prop) : Frame → List Frame → World → Prop
  | done {fr : Frame} {ks : List Frame} {w : World} (h : Leaves fr ks) (hp : Post fr w) : Lone P F Post fr ks w
  | step {fr fr' : Frame} {ks ks' : List Frame} {w w' : World} {es : Array Event} (hn : ¬ Leaves fr ks) (hab : ∀ f, fr.about P w = some f → F f)
      (hs : stepG P true (G fr (ks ++ [])) w = .go (G fr' (ks' ++ [])) w' es) (h : Lone P F Post fr' ks' w') : Lone P F Post fr ks w


theorem about_still (hf : FrameOk cal P F fr) (hm : fr.mode ≠ .run) : fr.about P w = none := by
  unfold Frame.about
  cases hmd : fr.mode with
  | run => exact absurd hmd hm
  | _ => simp [hf.defers]
theorem about_any (hf : FrameOk cal P F fr) (hw : NoLoops w) {τ : Tape} {d : Nat} (hs : sameAll τ d w.tape w.drawn) : fr.about P (re w τ d) = fr.about P w := by
  by_cases hm : fr.mode = .run
  · exact about_re hf hm hw hs
  · rw [about_still hf hm, about_still hf hm]

theorem go_inj {P : Program} {fr fr' : Frame} {ks ks' cs : List Frame} {w w' : World} {es es' : Array Event} (h : GStep.go (G fr (ks ++ cs)) w es = .go (G fr' (ks' ++ cs)) w' es') : fr = fr' ∧ ks = ks' ∧ w = w' := by
  simp only [GStep.go.injEq, G, Goroutine.mk.injEq] at h
  obtain ⟨⟨h1, h2, _⟩, h3, _⟩ := h
  exact ⟨h1, List.append_cancel_right h2, h3⟩

/-- A step of the lone run, and what it is on every tape that gives the same answers. -/
theorem Lone.takes {Post : Frame → World → Prop} (hC : CodeOk cal P F) (hz : Zone cal P F fr ks) (hw : NoLoops w) (h : Lone P F Post fr ks w) (hn : ¬ Leaves fr ks) :
    ∃ fr' ks' w' es k, Zone cal P F fr' ks' ∧ Kept w w' es k ∧ Lone P F Post fr' ks' w' ∧ (∀ f, fr.about P w = some f → F f) ∧
      ∀ cs main τ d, same k τ d w.tape w.drawn → stepG P main (G fr (ks ++ cs)) (re w τ d) = .go (G fr' (ks' ++ cs)) (re w' τ (d + k)) es := by
  cases h with
  | done hl => exact absurd hl hn
  | step _ hab hs hrest =>
    rcases zone_step hC hz hn hw hab with ⟨k, he⟩ | ⟨fr', ks', w', es, k, h1, h2, h3⟩
    · obtain ⟨o, w', es, he⟩ := he [] true w.tape w.drawn fun _ _ => rfl
      rw [re_self] at he
      rw [he] at hs
      cases hs
    · have e := h3 [] true w.tape w.drawn fun _ _ => rfl
      rw [re_self, hs] at e
      obtain ⟨e1, e2, e3⟩ := go_inj (P := P) e
      have e4 : re w' w.tape (w.drawn + k) = w' := by rw [← h2.tape, ← h2.drawn, re_self]
      rw [e4] at e3
      subst e1; subst e2; subst e3
      exact ⟨_, _, _, es, k, h1, h2, hrest, hab, h3⟩

/-- The same answers for ever: the same run. -/
theorem Lone.shift {Post : Frame → World → Prop} (hC : CodeOk cal P F) (hP : ∀ fr w τ d, Post fr w → Post fr (re w τ d)) (h : Lone P F Post fr ks w) :
    Zone cal P F fr ks → NoLoops w → ∀ τ d, sameAll τ d w.tape w.drawn → Lone P F Post fr ks (re w τ d) := by
  induction h with
  | done hl hp => exact fun _ _ τ d _ => .done hl (hP _ _ _ _ hp)
  | @step fr fr1 ks ks1 w w1 es hn hab hs hrest ih =>
    intro hz hw τ d hsm
    obtain ⟨fr', ks', w', es', k, h1, h2, h3, _, h4⟩ := Lone.takes hC hz hw (.step hn hab hs hrest) hn
    have e := h4 [] true w.tape w.drawn fun _ _ => rfl
    rw [re_self, hs] at e
    obtain ⟨e1, e2, e3⟩ := go_inj (P := P) e
    have e4 : re w' w.tape (w.drawn + k) = w' := by rw [← h2.tape, ← h2.drawn, re_self]
    rw [e4] at e3
    subst e1; subst e2; subst e3
    refine .step hn (fun f hf => hab f ?_) (h4 [] true τ d (hsm k)) (ih h1 h2.loops τ (d + k) fun K j hj => ?_)
    · rw [about_any hz.top hw hsm] at hf; exact hf
    · rw [h2.tape, h2.drawn]
      exact (same.right (hsm (k + K))) j hj

/-- On every tape. -/
def Every (P : Program) (F : FuncId → Prop) (Post : Frame → World → Prop) (fr : Frame) (ks : List Frame) (w : World) : Prop := ∀ τ d, Lone P F Post fr ks (re w τ d)

theorem Every.takes {Post : Frame → World → Prop} (hC : CodeOk cal P F) (hP : ∀ fr w τ d, Post fr w → Post fr (re w τ d)) (hz : Zone cal P F fr ks) (hw : NoLoops w) (h : Every P F Post fr ks w) (hn : ¬ Leaves fr ks) (d : Nat) :
    ∃ fr' ks' w' es k, Zone cal P F fr' ks' ∧ Kept (re w w.tape d) w' es k ∧ Every P F Post fr' ks' w' ∧
      ∀ cs main τ d', same k τ d' w.tape d → stepG P main (G fr (ks ++ cs)) (re w τ d') = .go (G fr' (ks' ++ cs)) (re w' τ (d' + k)) es := by
  obtain ⟨fr', ks', w', es, k, h1, h2, h3, _, h4⟩ := Lone.takes hC hz (w := re w w.tape d) hw (h w.tape d) hn
  refine ⟨fr', ks', w', es, k, h1, h2, fun τ' d' => ?_, fun cs main τ d' hs => h4 cs main τ d' hs⟩
  let τ2 : Tape := fun m => if m < k then w.tape (d + m) else τ' (d' + (m - k))
  have hs2 : same k τ2 0 w.tape d := fun j hj => by simp [τ2, hj]
  obtain ⟨fr2, ks2, w2, es2, k2, i1, i2, i3, _, i4⟩ := Lone.takes hC hz (w := re w τ2 0) hw (h τ2 0) hn
  have e := i4 [] true τ2 0 fun _ _ => rfl
  have e' := h4 [] true τ2 0 hs2
  simp only [re_re] at e e'
  rw [e'] at e
  obtain ⟨e1, e2, e3⟩ := go_inj (P := P) e
  have e4 : re w2 τ2 (0 + k2) = w2 := by
    have t1 : w2.tape = τ2 := i2.tape
    have t2 : w2.drawn = 0 + k2 := i2.drawn
    rw [← t1, ← t2, re_self]
  rw [e4] at e3
  subst e1; subst e2; subst e3
  have := i3.shift hC hP i1 i2.loops τ' d' fun K j hj => by
    show τ' (d' + j) = τ2 (0 + k + j)
    have hlt : ¬ (0 + k + j < k) := by omega
    simp only [τ2, hlt, if_false]
    congr 1
    omega
  simpa only [re_re] using this

end
end Go.Proofs.Ytibafngidpmgdab
