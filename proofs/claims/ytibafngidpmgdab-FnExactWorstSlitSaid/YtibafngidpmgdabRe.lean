/- A goroutine's step and the tape: two worlds that differ in their tape and in the count of draws alone take the same step, as long as the answers that the step draws are the same. -/
import Derived.Calls
import Derived.Conc.Own
import Derived.Conc.Machine
namespace Go.Proofs.Ytibafngidpmgdab
set_option linter.unusedSimpArgs false
set_option linter.unusedVariables false

/-- The world with another tape and another count of draws. -/
def re (w : World) (τ : Tape) (d : Nat) : World := { w with tape := τ, drawn := d }
@[simp] theorem re_heap (w : World) (τ : Tape) (d : Nat) : (re w τ d).heap = w.heap := rfl
@[simp] theorem re_re (w : World) (τ τ' : Tape) (d d' : Nat) : re (re w τ d) τ' d' = re w τ' d' := rfl
@[simp] theorem re_self (w : World) : re w w.tape w.drawn = w := rfl

def rworld {α : Type} : Result α → World
  | .ok _ w => w
  | .halt _ w => w
def rre {α : Type} : Result α → Tape → Nat → Result α
  | .ok a w, τ, d => .ok a (re w τ d)
  | .halt h w, τ, d => .halt h (re w τ d)

/-- Two tapes give the same k answers. -/
def same (k : Nat) (τ : Tape) (d : Nat) (τ' : Tape) (d' : Nat) : Prop := ∀ j, j < k → τ (d + j) = τ' (d' + j)
theorem same.left {k m : Nat} {τ τ' : Tape} {d d' : Nat} (h : same (k + m) τ d τ' d') : same k τ d τ' d' := fun j hj => h j (by omega)
theorem same.right {k m : Nat} {τ τ' : Tape} {d d' : Nat} (h : same (k + m) τ d τ' d') : same m τ (d + k) τ' (d' + k) := fun j hj => by
  have := h (k + j) (by omega)
  rwa [← Nat.add_assoc, ← Nat.add_assoc] at this

/-- A step of a computation is local in the tape. -/
def Local {α : Type} (f : World → Result α) : Prop :=
  ∀ w, ∃ k, (rworld (f w)).tape = w.tape ∧ (rworld (f w)).drawn = w.drawn + k ∧ ∀ τ d, same k τ d w.tape w.drawn → f (re w τ d) = rre (f w) τ (d + k)

theorem local_ask {α : Type} : ∀ (a : Ask α) (w : World), ∃ k, (w.ask a).2.tape = w.tape ∧ (w.ask a).2.drawn = w.drawn + k ∧ (w.ask a).2.heap = w.heap ∧ (w.ask a).2.os = w.os ∧ (w.ask a).2.output = w.output ∧
    ∀ τ d, same k τ d w.tape w.drawn → (re w τ d).ask a = ((w.ask a).1, re (w.ask a).2 τ (d + k))
  | .done a, w => ⟨0, rfl, rfl, rfl, rfl, rfl, fun τ d _ => rfl⟩
  | .ask what range k, w => by
    unfold World.ask
    by_cases hf : (Question.extern what range).forced = true
    · simp only [hf, if_true]
      exact local_ask (k 0) w
    · simp only [hf, if_false, Bool.false_eq_true]
      obtain ⟨n, h1, h2, h3, h4, h5, h6⟩ := local_ask (k ((Question.extern what range).cut (w.tape w.drawn (Question.extern what range)))) { w with drawn := w.drawn + 1 }
      refine ⟨1 + n, h1, by rw [h2]; simp only; omega, h3, h4, h5, fun τ d hs => ?_⟩
      have h0 : τ d = w.tape w.drawn := by have := hs 0 (by omega); simpa using this
      have := h6 τ (d + 1) (same.right hs)
      simp only [re] at this ⊢
      rw [h0, this]
      simp only [Nat.add_assoc]

end Go.Proofs.Ytibafngidpmgdab
