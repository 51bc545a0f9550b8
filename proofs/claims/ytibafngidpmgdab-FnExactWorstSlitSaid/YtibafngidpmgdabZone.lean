/- A goroutine in the zone: checked frames over whatever called them. Its steps, till the lowest of them leaves. -/
import Derived.Test.YtibafngidpmgdabStepBack
namespace Go.Proofs.Ytibafngidpmgdab
variable [GlobSize]
set_option linter.unusedSectionVars false
open Go.Conc
set_option linter.unusedSimpArgs false
set_option linter.unusedVariables false

structure Zone (cal : Oper → Bool) (P : Program) (F : FuncId → Prop) (fr : Frame) (ks : List Frame) : Prop where
  top : FrameOk cal P F fr
  rest : ∀ x ∈ ks, FrameOk cal P F x ∧ x.mode = .run
/-- The lowest frame of the zone leaves. -/
def Leaves (fr : Frame) (ks : List Frame) : Prop := ks = [] ∧ fr.mode ≠ .run

section
variable {cal : Oper → Bool} {P : Program} [EarlyOk P] {F : FuncId → Prop} {fr : Frame} {ks cs : List Frame} {w : World}

theorem zone_step (hC : CodeOk cal P F) (hz : Zone cal P F fr ks) (hn : ¬ Leaves fr ks) (hw : NoLoops w) (hab : ∀ f, fr.about P w = some f → F f) :
    (∃ k, ∀ cs main τ d, same k τ d w.tape w.drawn → ∃ o w' es, stepG P main (G fr (ks ++ cs)) (re w τ d) = .ended o w' es) ∨
    ∃ fr' ks' w' es k, Zone cal P F fr' ks' ∧ Kept w w' es k ∧ ∀ cs main τ d, same k τ d w.tape w.drawn → stepG P main (G fr (ks ++ cs)) (re w τ d) = .go (G fr' (ks' ++ cs)) (re w' τ (d + k)) es := by
  by_cases hm : fr.mode = .run
  · rcases step_run hC hz.top hm hw hab with ⟨k, h⟩ | ⟨fr', post, w', es, k, h1, h2, h3, h4⟩
    · exact .inl ⟨k, fun cs => h (ks ++ cs)⟩
    · rcases h2 with rfl | rfl
      · exact .inr ⟨fr', ks, w', es, k, ⟨h1, hz.rest⟩, h3, fun cs => h4 (ks ++ cs)⟩
      · refine .inr ⟨fr', fr :: ks, w', es, k, ⟨h1, fun x hx => ?_⟩, h3, fun cs => h4 (ks ++ cs)⟩
        rcases List.mem_cons.1 hx with rfl | hx
        · exact ⟨hz.top, hm⟩
        · exact hz.rest x hx
  · cases ks with
    | nil => exact absurd ⟨rfl, hm⟩ hn
    | cons c ks =>
      have hc := hz.rest c (by simp)
      rcases step_back hC hz.top hm hc.1 hw with ⟨k, h⟩ | ⟨fr', post, w', es, k, h1, h2, h3, h4⟩
      · exact .inl ⟨k, fun cs => h (ks ++ cs)⟩
      · subst h2
        exact .inr ⟨fr', ks, w', es, k, ⟨h1, fun x hx => hz.rest x (by simp [hx])⟩, h3, fun cs => h4 (ks ++ cs)⟩

end
end Go.Proofs.Ytibafngidpmgdab
