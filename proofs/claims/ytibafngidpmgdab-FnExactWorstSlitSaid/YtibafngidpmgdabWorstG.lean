/- impl.WorstSlit's go statement. (Printed by gen/mkworstg.py.) -/
import Derived.Test.YtibafngidpmgdabNearL
import Derived.Test.YtibafngidpmgdabSend2
import Derived.Test.YtibafngidpmgdabPlacesE
namespace Go.Proofs.Ytibafngidpmgdab
open Go.Conc Go.RowKit
set_option linter.unusedSimpArgs false
set_option linter.unusedVariables false

section
variable (c : Nat) (c0 : Frame) (cs : List Frame)

set_option maxRecDepth 100000 in
/-- From the go statement to the first receive. -/
theorem seg_start (Stop : Goroutine → World → Prop) (r h s p : Int) (u0 u1 u2 u3 u4 u5 u6 u8 u9 u10 u11 u12 u13 u14 u15 u16 u17 u18 u22 u23 u24 u25 u26 u27 u28 u29 u30 u31 u32 u33 u34 : Value) (next : ∀ (v0 v1 v2 v3 v4 v5 v6 v11 v12 v13 v14 v15 v16 v17 v18 v19 v20 v21 v23 v24 v25 v26 v27 v28 v29 v30 v31 v32 v33 v34 : Value) (w' : World), Goes Try.prog true (fun _ _ => True) DR Stop 0 (atR c (c0 :: cs) 0 0 0 v0 v1 v2 v3 v4 v5 v6 v11 v12 v13 v14 v15 v16 v17 v18 v19 v20 v21 v23 v24 v25 v26 v27 v28 v29 v30 v31 v32 v33 v34 [0, 1]) w') : Goes Try.prog true (fun _ _ => True) DR Stop 60 (atGo c c0 cs r h s p u0 u1 u2 u3 u4 u5 u6 u8 u9 u10 u11 u12 u13 u14 u15 u16 u17 u18 u22 u23 u24 u25 u26 u27 u28 u29 u30 u31 u32 u33 u34 []) default := by
  have NX := Lib.hid next
  clear next
  simp only [atGo, gOps, gRest, wBody, Try.f43, Option.getD_some]
  repeat (first | (refine Goes.step rfl (fun _ _ => ?_); own_rw; refine ⟨⟨rfl, rfl⟩, ?_⟩) | (refine Goes.step rfl (fun w₁ h₁ => ?_); refine goes_oper_k rfl rfl (by decide) (fun K hK => ?_); go_simp; refine hK _ _ ⟨⟨rfl, ?_⟩, ?_⟩; (focus exact listed_nil (by simp [go_sem, *])); clear hK K h₁))
  have nx := NX.out
  simp only [atR, wOps, wRest, wTail, wLoop, wBody, Try.f43, Option.getD_some] at nx
  exact goes_le (n := 0) (by omega) (nx _ _ _ _ _ _ _ _ _ _ _ _ _ _ _ _ _ _ _ _ _ _ _ _ _ _ _ _ _ _ _)
end

set_option maxRecDepth 100000 in
/-- The go statement: both scripts. -/
theorem worst_go (Post : Value → World → Prop) (r h : Int) (n p : Nat) (hd : drumB r h n = true) (hp : inB p 1 48 = true) (c : Nat) (c0 : Frame) (cs : List Frame) (N : Nat) (W w : World) (hl : NoLoops w) (hb : Below N W w) (hN : N ≤ c) (hch : Chan0 c w 0 0 false)
    (fin : ∀ w', LastS N W w' → Ev Try.prog KeptD (AtRet Try.prog Post) true (G (c0.finish (.tuple #[.int .i64 (worstF (distsL r (placesL r n) (placesL r p)) 0 0 0).1, .int .i64 (worstF (distsL r (placesL r n) (placesL r p)) 0 0 0).2, .int .i64 0])) cs) w') (u0 u1 u2 u3 u4 u5 u6 u8 u9 u10 u11 u12 u13 u14 u15 u16 u17 u18 u22 u23 u24 u25 u26 u27 u28 u29 u30 u31 u32 u33 u34 : Value) :
    Ev Try.prog KeptD (fun g w => AtGoE Try.prog Post g w ∨ AtRet Try.prog Post g w) true (atGo c c0 cs r h n p u0 u1 u2 u3 u4 u5 u6 u8 u9 u10 u11 u12 u13 u14 u15 u16 u17 u18 u22 u23 u24 u25 u26 u27 u28 u29 u30 u31 u32 u33 u34 [3]) w := by
  obtain ⟨⟨ra, rb⟩, _, n1, n2⟩ := drumB_yes hd
  have hp' := inB_iff.1 hp
  refine .stop fun d => .inl ⟨rfl, atGo c c0 cs r h n p u0 u1 u2 u3 u4 u5 u6 u8 u9 u10 u11 u12 u13 u14 u15 u16 u17 u18 u22 u23 u24 u25 u26 u27 u28 u29 u30 u31 u32 u33 u34 [], born Try.prog (callS c r h n p), re w w.tape d, #[], c, .int .i64 0, (distsL r (placesL r n) (placesL r p)).map (fun v => Value.int .i64 v), LastS N W, ?_, by simp, lastS_draw, hch.lt, ?_, ?_⟩
  · simp only [atGo, gOps, wBody, Try.f43, Option.getD_some]
    rw [stepG_spawn (d := callS c r h n p) (w' := re w w.tape d) (f := .func 82) (c := #[]) rfl rfl (by decide) (by simp [go_sem, callS, Deferred.ofValue]) rfl]
    rw [listed_nil (by simp [go_sem, Deferred.ofValue])]
    rfl
  · refine (recvE_iff ..).2 ⟨60, seg_start c c0 cs _ r h n p u0 u1 u2 u3 u4 u5 u6 u8 u9 u10 u11 u12 u13 u14 u15 u16 u17 u18 u22 u23 u24 u25 u26 u27 u28 u29 u30 u31 u32 u33 u34 fun v0 v1 v2 v3 v4 v5 v6 v11 v12 v13 v14 v15 v16 v17 v18 v19 v20 v21 v23 v24 v25 v26 v27 v28 v29 v30 v31 v32 v33 v34 w' => Goes.stop fun w₁ _ => recv_from c (c0 :: cs) (FinOk Try.prog Post (LastS N W)) (distsL r (placesL r n) (placesL r p)) 0 0 0 (Int.le_refl _) (by simp [distsL, placesL_length]; omega) ?_ v0 v1 v2 v3 v4 v5 v6 v11 v12 v13 v14 v15 v16 v17 v18 v19 v20 v21 v23 v24 v25 v26 v27 v28 v29 v30 v31 v32 v33 v34 w₁⟩
    intro v0 v1 v2 v3 v4 v5 v6 v11 v12 v13 v14 v15 v16 v17 v18 v19 v20 v21 v23 v24 v25 v26 v27 v28 v29 v30 v31 v32 v33 v34 w2 hL
    exact worst_end c c0 cs _ _ _ _ v0 v1 v2 v3 v4 v5 v6 v11 v12 v13 v14 v15 v16 v17 v18 v19 v20 v21 v23 v24 v25 v26 v27 v28 v29 v30 v31 v32 v33 v34 w2 hL.1 (fin w2 hL)
  · refine (sendE_iff ..).2 ?_
    refine send_pre c r h n _ n p N W (re w w.tape d) hl (belowDrawn hb d) hN 0 0 false hch (placesL r p) (placesL r n) rfl (by rw [placesL_length]; omega)
      (fun u _ => places_ev r h n p u (by omega) (by omega) (by omega) (by omega)) (fun u _ => places_ev r h n n u (by omega) (by omega) (by omega) (by omega)) fun b tv sv v0 v2 v4 v5 v7 v8 v9 v10 v11 v12 v13 v14 v18 v19 v20 v21 v22 v23 v24 v25 v26 v27 w' x hb' => ?_
    exact sends_from c b r h n tv sv (placesL r p) (placesL r n) N W hN (fun x => leastD r x (placesL r p) r) (by rw [placesL_length]; omega)
      (fun k hk u xu => nearestD_ev r h n _ tv p u xu.tab (by omega) (by omega) (placesL_bd r n ra (by omega) k (by rw [placesL_length] at hk; exact hk))) (placesL r n).length 0 (by omega) v0 v2 v4 v5 v7 v8 v9 v10 v11 v12 v13 v14 v18 v19 v20 v21 v22 v23 v24 v25 v26 v27 w' x hb'
end Go.Proofs.Ytibafngidpmgdab
