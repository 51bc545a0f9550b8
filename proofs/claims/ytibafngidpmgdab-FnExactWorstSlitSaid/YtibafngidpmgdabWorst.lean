/- impl.WorstSlit's receiver. (Printed by gen/mkworst.py.) -/
import Derived.Test.YtibafngidpmgdabEvWalk
import Derived.Test.YtibafngidpmgdabOkAll
import Derived.Test.YtibafngidpmgdabDrum
import Derived.IntWalk
import Derived.KernelRfl
namespace Go.Proofs.Ytibafngidpmgdab
open Go.Conc
set_option linter.unusedSimpArgs false
set_option linter.unusedVariables false

noncomputable def wBody : Code := Try.f43.body.getD .skip
noncomputable def wLoop : Code := match wBody with | .seq _ (.seq _ (.seq _ (.seq _ (.seq _ (.seq _ (.seq (.seq _ (.block _ (.loop c))) _)))))) => c | _ => .skip
noncomputable def wTail : Code := match wBody with | .seq _ (.seq _ (.seq _ (.seq _ (.seq _ (.seq _ (.seq _ c)))))) => c | _ => .skip
noncomputable def wOps : Array Oper := match wLoop with | .seq (.region _ ops _) _ => ops | _ => #[]
noncomputable def wRest : Code := match wLoop with | .seq _ c => c | _ => .skip
def wBase : Frame := base 43

theorem listed_nil {P : Program} {fn : FuncId} {a : Act} {o : Oper} {w : World} (h : (execOp a.eval o).events P w #[] = #[]) : listed P fn a o w = #[] := by
  unfold listed; rw [h]; exact seen_none P fn

theorem goes_le {P : Program} {main : Bool} {R : World → World → Prop} {D : World → World → Array Event → Prop} {Stop : Goroutine → World → Prop} {g : Goroutine} {w : World} {n m : Nat} (h : n ≤ m) (hg : Goes P main R D Stop n g w) : Goes P main R D Stop m g w := by
  induction h with
  | refl => exact hg
  | step _ ih => exact ih.more


section
variable (c : Nat) (cs : List Frame)

/-- At the receive: k distances have come, the greatest, g, at slit a. -/
noncomputable def atR (k a g : Int) (u0 u1 u2 u3 u4 u5 u6 u11 u12 u13 u14 u15 u16 u17 u18 u19 u20 u21 u23 u24 u25 u26 u27 u28 u29 u30 u31 u32 u33 u34 : Value) (rest : List Nat) : Goroutine :=
  G (wBase.at ⟨#[u0, u1, u2, u3, u4, u5, u6, .chan (some c), .int .i64 k, .int .i64 a, .int .i64 g, u11, u12, u13, u14, u15, u16, u17, u18, u19, u20, u21, .chan (some c), u23, u24, u25, u26, u27, u28, u29, u30, u31, u32, u33, u34], []⟩ [.inRegion wOps rest, .code wRest, .inLoop wLoop, .inBlock 0, .code wTail]) cs

theorem atR_comm (k a g : Int) (u0 u1 u2 u3 u4 u5 u6 u11 u12 u13 u14 u15 u16 u17 u18 u19 u20 u21 u23 u24 u25 u26 u27 u28 u29 u30 u31 u32 u33 u34 : Value) (w : World) : stepG Try.prog true (atR c cs k a g u0 u1 u2 u3 u4 u5 u6 u11 u12 u13 u14 u15 u16 u17 u18 u19 u20 u21 u23 u24 u25 u26 u27 u28 u29 u30 u31 u32 u33 u34 [0, 1]) w = .comm (core (atR c cs k a g u0 u1 u2 u3 u4 u5 u6 u11 u12 u13 u14 u15 u16 u17 u18 u19 u20 u21 u23 u24 u25 u26 u27 u28 u29 u30 u31 u32 u33 u34 [0, 1])) #[rcase c (.int .i64 0)] true (.recv true) w #[] := by
  simp only [atR, wOps, wLoop, wBody, Try.f43, Option.getD_some]
  have hz : (zeroValue 2).run Try.prog w = .ok (.int .i64 0) w := by go_simp
  rw [stepG_comm (cases := #[rcase c (.int .i64 0)]) (blocking := true) (shape := .recv true) (w' := w) rfl rfl (by decide) (by go_simp; rfl)]
  rw [listed_nil (by simp [go_sem, *])]
  rfl

set_option maxRecDepth 100000 in
/-- A distance that is greater. -/
theorem seg_more (Stop : Goroutine → World → Prop) (n₀ : Nat) (k a g v : Int) (hv : g < v) (hk : IntKind.i64.wrap (k + 1) = k + 1) (u0 u1 u2 u3 u4 u5 u6 u11 u12 u13 u14 u15 u16 u17 u18 u19 u20 u21 u23 u24 u25 u26 u27 u28 u29 u30 u31 u32 u33 u34 : Value)
    (next : ∀ (v0 v1 v2 v3 v4 v5 v6 v11 v12 v13 v14 v15 v16 v17 v18 v19 v20 v21 v23 v24 v25 v26 v27 v28 v29 v30 v31 v32 v33 v34 : Value) (w' : World), Goes Try.prog true (fun _ _ => True) DR Stop n₀ (atR c cs (k + 1) k v v0 v1 v2 v3 v4 v5 v6 v11 v12 v13 v14 v15 v16 v17 v18 v19 v20 v21 v23 v24 v25 v26 v27 v28 v29 v30 v31 v32 v33 v34 [0, 1]) w') : ∃ n, Goes Try.prog true (fun _ _ => True) DR Stop n (Conc.served (atR c cs k a g u0 u1 u2 u3 u4 u5 u6 u11 u12 u13 u14 u15 u16 u17 u18 u19 u20 u21 u23 u24 u25 u26 u27 u28 u29 u30 u31 u32 u33 u34 [0, 1]) (.tuple #[.int .i64 v, .bool true])) default := by
  have hd : decide (v > g) = true := by simpa using hv
  simp only [atR, Conc.served_G] at next ⊢
  refine ⟨n₀ + 60, ?_⟩
  simp only [wOps, wRest, wTail, wLoop, wBody, Try.f43, Option.getD_some] at next ⊢
  repeat (first | (refine Goes.step rfl (fun _ _ => ?_); own_rw; refine ⟨⟨rfl, rfl⟩, ?_⟩) | (refine Goes.step rfl (fun w₁ h₁ => ?_); refine goes_oper_k rfl rfl (by decide) (fun K hK => ?_); go_simp; refine hK _ _ ⟨⟨rfl, ?_⟩, ?_⟩; (focus exact listed_nil (by simp [go_sem, *])); clear hK K h₁))
  (refine Goes.step rfl (fun _ _ => ?_); rw [stepG_cond (t := true) rfl]; simp only [goes_go, if_true, if_false, Bool.false_eq_true, ↓reduceIte]; refine ⟨⟨rfl, rfl⟩, ?_⟩)
  repeat (first | (refine Goes.step rfl (fun _ _ => ?_); own_rw; refine ⟨⟨rfl, rfl⟩, ?_⟩) | (refine Goes.step rfl (fun w₁ h₁ => ?_); refine goes_oper_k rfl rfl (by decide) (fun K hK => ?_); go_simp; refine hK _ _ ⟨⟨rfl, ?_⟩, ?_⟩; (focus exact listed_nil (by simp [go_sem, *])); clear hK K h₁))
  (refine Goes.step rfl (fun _ _ => ?_); rw [stepG_cond (t := true) rfl]; simp only [goes_go, if_true, if_false, Bool.false_eq_true, ↓reduceIte]; refine ⟨⟨rfl, rfl⟩, ?_⟩)
  repeat (first | (refine Goes.step rfl (fun _ _ => ?_); own_rw; refine ⟨⟨rfl, rfl⟩, ?_⟩) | (refine Goes.step rfl (fun w₁ h₁ => ?_); refine goes_oper_k rfl rfl (by decide) (fun K hK => ?_); go_simp; refine hK _ _ ⟨⟨rfl, ?_⟩, ?_⟩; (focus exact listed_nil (by simp [go_sem, *])); clear hK K h₁))
  exact goes_le (n := n₀) (by omega) (next ..)

set_option maxRecDepth 100000 in
/-- One that is not. -/
theorem seg_less (Stop : Goroutine → World → Prop) (n₀ : Nat) (k a g v : Int) (hv : ¬ g < v) (hk : IntKind.i64.wrap (k + 1) = k + 1) (u0 u1 u2 u3 u4 u5 u6 u11 u12 u13 u14 u15 u16 u17 u18 u19 u20 u21 u23 u24 u25 u26 u27 u28 u29 u30 u31 u32 u33 u34 : Value)
    (next : ∀ (v0 v1 v2 v3 v4 v5 v6 v11 v12 v13 v14 v15 v16 v17 v18 v19 v20 v21 v23 v24 v25 v26 v27 v28 v29 v30 v31 v32 v33 v34 : Value) (w' : World), Goes Try.prog true (fun _ _ => True) DR Stop n₀ (atR c cs (k + 1) a g v0 v1 v2 v3 v4 v5 v6 v11 v12 v13 v14 v15 v16 v17 v18 v19 v20 v21 v23 v24 v25 v26 v27 v28 v29 v30 v31 v32 v33 v34 [0, 1]) w') : ∃ n, Goes Try.prog true (fun _ _ => True) DR Stop n (Conc.served (atR c cs k a g u0 u1 u2 u3 u4 u5 u6 u11 u12 u13 u14 u15 u16 u17 u18 u19 u20 u21 u23 u24 u25 u26 u27 u28 u29 u30 u31 u32 u33 u34 [0, 1]) (.tuple #[.int .i64 v, .bool true])) default := by
  have hd : decide (v > g) = false := by simpa using hv
  simp only [atR, Conc.served_G] at next ⊢
  refine ⟨n₀ + 60, ?_⟩
  simp only [wOps, wRest, wTail, wLoop, wBody, Try.f43, Option.getD_some] at next ⊢
  repeat (first | (refine Goes.step rfl (fun _ _ => ?_); own_rw; refine ⟨⟨rfl, rfl⟩, ?_⟩) | (refine Goes.step rfl (fun w₁ h₁ => ?_); refine goes_oper_k rfl rfl (by decide) (fun K hK => ?_); go_simp; refine hK _ _ ⟨⟨rfl, ?_⟩, ?_⟩; (focus exact listed_nil (by simp [go_sem, *])); clear hK K h₁))
  (refine Goes.step rfl (fun _ _ => ?_); rw [stepG_cond (t := true) rfl]; simp only [goes_go, if_true, if_false, Bool.false_eq_true, ↓reduceIte]; refine ⟨⟨rfl, rfl⟩, ?_⟩)
  repeat (first | (refine Goes.step rfl (fun _ _ => ?_); own_rw; refine ⟨⟨rfl, rfl⟩, ?_⟩) | (refine Goes.step rfl (fun w₁ h₁ => ?_); refine goes_oper_k rfl rfl (by decide) (fun K hK => ?_); go_simp; refine hK _ _ ⟨⟨rfl, ?_⟩, ?_⟩; (focus exact listed_nil (by simp [go_sem, *])); clear hK K h₁))
  (refine Goes.step rfl (fun _ _ => ?_); rw [stepG_cond (t := false) rfl]; simp only [goes_go, if_true, if_false, Bool.false_eq_true, ↓reduceIte]; refine ⟨⟨rfl, rfl⟩, ?_⟩)
  repeat (first | (refine Goes.step rfl (fun _ _ => ?_); own_rw; refine ⟨⟨rfl, rfl⟩, ?_⟩) | (refine Goes.step rfl (fun w₁ h₁ => ?_); refine goes_oper_k rfl rfl (by decide) (fun K hK => ?_); go_simp; refine hK _ _ ⟨⟨rfl, ?_⟩, ?_⟩; (focus exact listed_nil (by simp [go_sem, *])); clear hK K h₁))
  exact goes_le (n := n₀) (by omega) (next ..)

/-- The greatest distance and its slit. -/
def worstF : List Int → Int → Int → Int → Int × Int
  | [], _, a, g => (a, g)
  | v :: vs, k, a, g => if g < v then worstF vs (k + 1) k v else worstF vs (k + 1) a g

/-- The receiver's script. -/
theorem recv_from (Fin : Goroutine → Prop) : ∀ (vs : List Int) (k a g : Int), 0 ≤ k → k + vs.length ≤ 1000 →
    (∀ (v0 v1 v2 v3 v4 v5 v6 v11 v12 v13 v14 v15 v16 v17 v18 v19 v20 v21 v23 v24 v25 v26 v27 v28 v29 v30 v31 v32 v33 v34 : Value), Fin (Conc.served (atR c cs (k + vs.length) (worstF vs k a g).1 (worstF vs k a g).2 v0 v1 v2 v3 v4 v5 v6 v11 v12 v13 v14 v15 v16 v17 v18 v19 v20 v21 v23 v24 v25 v26 v27 v28 v29 v30 v31 v32 v33 v34 [0, 1]) (.tuple #[.int .i64 0, .bool false]))) →
    ∀ (u0 u1 u2 u3 u4 u5 u6 u11 u12 u13 u14 u15 u16 u17 u18 u19 u20 u21 u23 u24 u25 u26 u27 u28 u29 u30 u31 u32 u33 u34 : Value) (w : World), StopR Try.prog c (.int .i64 0) Fin (vs.map fun v => .int .i64 v) (atR c cs k a g u0 u1 u2 u3 u4 u5 u6 u11 u12 u13 u14 u15 u16 u17 u18 u19 u20 u21 u23 u24 u25 u26 u27 u28 u29 u30 u31 u32 u33 u34 [0, 1]) w := by
  intro vs
  induction vs with
  | nil =>
    intro k a g k0 kl hf u0 u1 u2 u3 u4 u5 u6 u11 u12 u13 u14 u15 u16 u17 u18 u19 u20 u21 u23 u24 u25 u26 u27 u28 u29 u30 u31 u32 u33 u34 w
    have h0 := hf u0 u1 u2 u3 u4 u5 u6 u11 u12 u13 u14 u15 u16 u17 u18 u19 u20 u21 u23 u24 u25 u26 u27 u28 u29 u30 u31 u32 u33 u34
    simp only [List.length_nil, Int.natCast_zero, Int.add_zero, worstF] at h0
    exact ⟨rfl, fun w => atR_comm c cs k a g u0 u1 u2 u3 u4 u5 u6 u11 u12 u13 u14 u15 u16 u17 u18 u19 u20 u21 u23 u24 u25 u26 u27 u28 u29 u30 u31 u32 u33 u34 w, h0⟩
  | cons v vs ih =>
    intro k a g k0 kl hf u0 u1 u2 u3 u4 u5 u6 u11 u12 u13 u14 u15 u16 u17 u18 u19 u20 u21 u23 u24 u25 u26 u27 u28 u29 u30 u31 u32 u33 u34 w
    have hk : IntKind.i64.wrap (k + 1) = k + 1 := by rw [IntKind.wrap_i64]; simp only [List.length_cons] at kl; omega
    simp only [List.length_cons] at kl hf
    have hlen : k + ((vs.length + 1 : Nat) : Int) = (k + 1) + (vs.length : Int) := by omega
    rw [hlen] at hf
    refine ⟨rfl, fun w => atR_comm c cs k a g u0 u1 u2 u3 u4 u5 u6 u11 u12 u13 u14 u15 u16 u17 u18 u19 u20 u21 u23 u24 u25 u26 u27 u28 u29 u30 u31 u32 u33 u34 w, (recvE_iff ..).2 ?_⟩
    by_cases hv : g < v
    · simp only [worstF, hv, if_true] at hf
      exact seg_more c cs _ 0 k a g v hv hk u0 u1 u2 u3 u4 u5 u6 u11 u12 u13 u14 u15 u16 u17 u18 u19 u20 u21 u23 u24 u25 u26 u27 u28 u29 u30 u31 u32 u33 u34 fun v0 v1 v2 v3 v4 v5 v6 v11 v12 v13 v14 v15 v16 v17 v18 v19 v20 v21 v23 v24 v25 v26 v27 v28 v29 v30 v31 v32 v33 v34 _ => Goes.stop fun w₁ _ => ih (k + 1) k v (by omega) (by omega) hf v0 v1 v2 v3 v4 v5 v6 v11 v12 v13 v14 v15 v16 v17 v18 v19 v20 v21 v23 v24 v25 v26 v27 v28 v29 v30 v31 v32 v33 v34 w₁
    · simp only [worstF, hv, if_false] at hf
      exact seg_less c cs _ 0 k a g v hv hk u0 u1 u2 u3 u4 u5 u6 u11 u12 u13 u14 u15 u16 u17 u18 u19 u20 u21 u23 u24 u25 u26 u27 u28 u29 u30 u31 u32 u33 u34 fun v0 v1 v2 v3 v4 v5 v6 v11 v12 v13 v14 v15 v16 v17 v18 v19 v20 v21 v23 v24 v25 v26 v27 v28 v29 v30 v31 v32 v33 v34 _ => Goes.stop fun w₁ _ => ih (k + 1) a g (by omega) (by omega) hf v0 v1 v2 v3 v4 v5 v6 v11 v12 v13 v14 v15 v16 v17 v18 v19 v20 v21 v23 v24 v25 v26 v27 v28 v29 v30 v31 v32 v33 v34 w₁
end
end Go.Proofs.Ytibafngidpmgdab
