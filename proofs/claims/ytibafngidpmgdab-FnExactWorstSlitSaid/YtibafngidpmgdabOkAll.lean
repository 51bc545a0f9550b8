/- Which functions of this program are checked. -/
import Derived.Test.YtibafngidpmgdabEvWalk
import Derived.Test.YtibafngidpmgdabProg
import Derived.KernelRfl
namespace Go.Proofs.Ytibafngidpmgdab
open Go.Conc

noncomputable instance : GlobSize := ⟨Try.prog.globals.size⟩
theorem follows_ahead : Try.prog.follows .staticDataAhead = true := by kernel_rfl
theorem readies_low : (Try.prog.funcs.all fun f => ((f.body.map readies).getD []).all fun g => decide (g < Try.prog.globals.size)) = true := by kernel_rfl
theorem stepOf_none {g : Nat} (h : gsz ≤ g) : Try.prog.stepOf g = none := by
  unfold Program.stepOf
  rw [Array.findIdx?_eq_none_iff]
  intro f hf
  have h1 := Array.all_eq_true_iff_forall_mem.1 readies_low f hf
  cases hb : f.body.map readies with
  | none => rfl
  | some l =>
    rw [hb] at h1
    simp only [Option.getD_some, List.all_eq_true, decide_eq_true_eq] at h1
    simp only [Option.any_some]
    rw [Bool.eq_false_iff]
    intro hc
    have := h1 g (by simpa using hc)
    exact absurd this (Nat.not_lt.2 h)
instance : EarlyOk Try.prog := ⟨fun fr callers dying g w h => by
  have e : early Try.prog fr callers dying g w = .ended (.unsupported (.initOrder g) (fr.pos Try.prog)) w := by
    unfold early
    simp only [follows_ahead, Bool.not_true, Bool.false_eq_true, if_false, stepOf_none h]
  exact ⟨_, _, e⟩⟩

def okFn (cal : Oper → Bool) (P : Program) (f : FuncId) : Bool :=
  match P.funcs[f]? with
  | some fn => !(fn.name == "runtime.NumGoroutine") && (match fn.body with | some c => codeOk cal P c | none => false)
  | none => false

theorem codeOk_of {cal : Oper → Bool} {P : Program} {L : List FuncId} (h : L.all (okFn cal P) = true) : CodeOk cal P (· ∈ L) := by
  intro f hf
  have := List.all_eq_true.1 h f hf
  unfold okFn at this
  split at this
  · rename_i fn hfn
    rw [Bool.and_eq_true] at this
    obtain ⟨h1, h2⟩ := this
    split at h2
    · rename_i c hc
      exact ⟨fn, c, hfn, by simpa using h1, hc, h2⟩
    · cases h2
  · cases this

/-- spec.WorstSlit and what it calls. -/
abbrev sWorst : List FuncId := [41, 70, 72, 77, 78, 79, 97, 98, 99, 111]
theorem ok_sWorst : CodeOk (statCal sWorst) Try.prog (· ∈ sWorst) := codeOk_of (by kernel_rfl)
abbrev sDrum : List FuncId := [42, 80, 58, 81]
theorem ok_sDrum : CodeOk (statCal sDrum) Try.prog (· ∈ sDrum) := codeOk_of (by kernel_rfl)
end Go.Proofs.Ytibafngidpmgdab
