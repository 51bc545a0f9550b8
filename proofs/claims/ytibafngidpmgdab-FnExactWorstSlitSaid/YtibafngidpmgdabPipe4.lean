/- Part 4: from the call's entry: one goroutine walks alone to its return, or to a go statement. -/
import Derived.Test.YtibafngidpmgdabPipe3
import Derived.Conc.Fork
namespace Go.Proofs.Ytibafngidpmgdab
variable [GlobSize]
set_option linter.unusedSectionVars false
open Go.Conc
set_option linter.unusedSimpArgs false
set_option linter.unusedVariables false

section
variable {P : Program} {Post : Value → World → Prop}

variable (P Post) in
/-- It stands at a go statement; behind it the two scripts. -/
def AtGoE (a : Goroutine) (w : World) : Prop :=
  a.status = .running ∧ ∃ (a' child : Goroutine) (w' : World) (es : Array Event) (c : Nat) (z : Value) (vs : List Value) (Last : World → Prop),
    stepG P true a w = .spawn a' child w' es ∧ (∀ e ∈ es, Still e) ∧ (∀ w d, Last w → Last (re w w.tape d)) ∧ c < w'.heap.size ∧ RecvE P c z (FinOk P Post Last) vs a' ∧ SendE P c Last vs child w'

theorem trO_new {u : Trace} {x y : MemOp} (hw : Wordless u) (h0 : ∀ op ∈ u, op.g = 0) (hx : x.g = 0 ∧ x.act = .go 1) (hy : y.g = 1 ∧ y.act = .start) : TrO ((u.push x).push y) u.size := by
  have e : (u.push x).push y = u ++ #[x, y] := by
    rw [Array.push_eq_append, Array.push_eq_append, Array.append_assoc]; rfl
  refine ⟨fun op hop => ?_, ⟨x, ?_, hx.1, hx.2⟩, ⟨y, ?_, hy.1, hy.2⟩, fun i op hi hlt => ?_, fun i op hi hlt => ?_⟩
  · simp only [Array.mem_push] at hop
    rcases hop with (h | rfl) | rfl
    · exact hw op h
    · intro m; rw [hx.2]; simp
    · intro m; rw [hy.2]; simp
  · rw [e, Array.getElem?_append_right (Nat.le_refl _)]; simp
  · rw [e, Array.getElem?_append_right (Nat.le_succ _)]; simp
  · rw [e, getElem?_append_old hlt] at hi
    exact h0 op (mem_of_getElem? hi)
  · have := lt_size_of_getElem? hi
    simp at this
    omega

theorem good_alone {a : Goroutine} {w₁ w : World} {t : Trace} {v : Value} (h0 : ∀ op ∈ t, op.g = 0) (hp : Post v w) : Good P Post (solo a w₁) (.done v) w t := by
  refine ⟨v, rfl, hp, fun said => ?_, ?_, ⟨by simp [solo], rfl⟩, ?_⟩
  · rintro ⟨i, j, hij, ⟨x, y, hx, hy, _⟩, hn, _⟩
    obtain ⟨oi, hoi, _⟩ := touch_of hx
    obtain ⟨oj, hoj, _⟩ := touch_of hy
    exact hn (hb_po hij hoi hoj (by rw [h0 _ (mem_of_getElem? hoi), h0 _ (mem_of_getElem? hoj)]))
  · intro i g hg hne _
    unfold Trace.g? at hg
    obtain ⟨op, ho, rfl⟩ := Option.map_eq_some_iff.1 hg
    exact absurd (h0 _ (mem_of_getElem? ho)) hne
  · intro i g hg hne
    have : i < 1 := by
      have := (Array.getElem?_eq_some_iff.1 hg).1
      simpa [solo] using this
    omega

theorem runT_solo_ended {a : Goroutine} {w w' : World} {o : Outcome} {es : Array Event} (h : stepG P true a w = .ended o w' es) :
    runT P (solo a w) 0 = (.ended o w', MemOp.ofEvents 0 a.frame.fn a.frame.place es) := by
  simp [runT, solo, Array.swapAt!, Array.swapAt, h, GStep.es]

/-- ████ FROM THE ENTRY TO THE END: ALONE, OR WITH A GOROUTINE THAT SENDS AND CLOSES. ████ -/
theorem solo_ends {a : Goroutine} {w : World} (h : Ev P KeptD (fun g w => AtGoE P Post g w ∨ AtRet P Post g w) true a w) : ∀ t : Trace, Wordless t → (∀ op ∈ t, op.g = 0) → Ends P Post t (solo a w) := by
  induction h with
  | @stop a w h =>
    intro t hw h0
    rcases (h w.drawn) with ⟨hs, a', child, w', es, c, z, vs, Last, hsp, hes, hLd, hc, hA, hB⟩ | ⟨hs, v, es, hend, hes, hp⟩
    · have hstep := (stepT_solo (P := P) (w := w) hs).trans (runT_solo_spawn hsp)
      refine Ends.step hstep (pipe_ends hLd vs _ _ _ none _ (t ++ MemOp.ofEvents 0 a.frame.fn a.frame.place es).size hc hA hB ?_)
      rw [Array.append_push, Array.append_push]
      exact trO_new (hw.append (still_ops hes).1) (fun op hop => (Array.mem_append.1 hop).elim (h0 op) ((still_ops hes).2 op)) ⟨rfl, rfl⟩ ⟨rfl, rfl⟩
    · exact Ends.done ((stepT_solo (P := P) (w := w) hs).trans (runT_solo_ended hend)) (good_alone (fun op hop => (Array.mem_append.1 hop).elim (h0 op) ((still_ops hes).2 op)) hp)
  | @step a w hr ng nw ne hs _ ih =>
    intro t hw h0
    obtain ⟨hgo, k, hk⟩ := hs w.drawn
    exact Ends.step ((stepT_solo (P := P) (w := w) hr).trans (runT_solo_go hgo)) (ih w.drawn _ (hw.append (still_ops hk.quiet).1) fun op hop => (Array.mem_append.1 hop).elim (h0 op) ((still_ops hk.quiet).2 op))
end
end Go.Proofs.Ytibafngidpmgdab
