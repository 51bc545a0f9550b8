/- laws.FnExactWorstSlit in company: the beginning. -/
import Derived.Test.YtibafngidpmgdabWorstG
namespace Go.Proofs.Ytibafngidpmgdab
open Go.Conc Go.RowKit
set_option linter.unusedSimpArgs false
set_option linter.unusedVariables false

theorem toDrum_ev (r h s : Int) (w : World) : Callee Try.prog 42 #[dr r h s] w fun v w' => v = dr r h s ∧ Old w w' :=
  callee_plain ok_sDrum (by simp) (fun τ d => (toDrum_any r h s _).mono fun e w' ⟨h1, h2⟩ => ⟨_, h1, rfl, Old.of h2⟩) fun v w' τ d hh => ⟨hh.1, hh.2.re τ d⟩

/-- What spec.WorstSlit says. -/
def specW (r h s p : Int) : Int × Int × Int :=
  if code2 r h s (inB p 1 48) = 0 then ((worstF (distsL r (placesL r s.toNat) (placesL r p.toNat)) 0 0 0).1, (worstF (distsL r (placesL r s.toNat) (placesL r p.toNat)) 0 0 0).2, 0) else (0, 0, code2 r h s (inB p 1 48))

theorem worst_start (ds : List Int) (h : ds ≠ []) (hd : ∀ d ∈ ds, 0 ≤ d) : worstF ds 0 0 (-1) = worstF ds 0 0 0 := by
  cases ds with
  | nil => exact absurd rfl h
  | cons d ds =>
    have h0 := hd d (by simp)
    rw [worstF_first d ds h0]
    have : (-1 : Int) < d := by omega
    simp [worstF, this]

theorem dists_ok (r : Int) (n p : Nat) (hr : 100 ≤ r) (hn : 1 ≤ n ∧ n ≤ 48) (hp : 1 ≤ p ∧ p ≤ 48) : distsL r (placesL r n) (placesL r p) ≠ [] ∧ ∀ d ∈ distsL r (placesL r n) (placesL r p), 0 ≤ d := by
  have l1 := placesL_length r n
  have l2 := placesL_length r p
  refine ⟨fun e => ?_, fun d hd => ?_⟩
  · have := congrArg List.length e
    simp [distsL, l1] at this
    omega
  · obtain ⟨x, hx, rfl⟩ := List.mem_map.1 hd
    obtain ⟨i, hi, rfl⟩ := List.mem_iff_getElem.1 hx
    have ei : (placesL r n)[i] = (placesL r n).getD i 0 := by simp [hi]
    have b1 := placesL_bd r n hr hn.2 i (by omega)
    refine leastD_ge _ _ _ _ _ (by omega) fun q hq => ?_
    obtain ⟨j, hj, rfl⟩ := List.mem_iff_getElem.1 hq
    have ej : (placesL r p)[j] = (placesL r p).getD j 0 := by simp [hj]
    have b2 := placesL_bd r p hr hp.2 j (by omega)
    rw [ei, ej]
    exact circ_nonneg b1 b2

theorem specW_ev (r h s p : Int) (w : World) : Callee Try.prog 41 #[dr r h s, .int .i64 p] w fun v w' => v = .tuple #[.int .i64 (specW r h s p).1, .int .i64 (specW r h s p).2.1, .int .i64 (specW r h s p).2.2] ∧ Old w w' := by
  by_cases hc : code2 r h s (inB p 1 48) = 0
  · have hd : drumB r h s = true := by
      cases hh : drumB r h s with
      | true => rfl
      | false => simp [code2, hh] at hc
    have hp : inB p 1 48 = true := by
      cases hh : inB p 1 48 with
      | true => rfl
      | false => simp [code2, hd, hh] at hc
    obtain ⟨⟨ra, rb⟩, _, s1, s2⟩ := drumB_yes hd
    have hp' := inB_iff.1 hp
    obtain ⟨n, rfl⟩ : ∃ n : Nat, s = n := ⟨s.toNat, by omega⟩
    obtain ⟨m, rfl⟩ : ∃ m : Nat, p = m := ⟨p.toNat, by omega⟩
    obtain ⟨d1, d2⟩ := dists_ok r n m ra (by omega) (by omega)
    refine callee_plain ok_sWorst (by simp) (fun τ d => (specWorst_ok r h n m _ hd hp (fun j hj => placesL_bd r n ra (by omega) j hj) (fun j hj => placesL_bd r m ra (by omega) j hj)).mono fun e w' ⟨h1, h2⟩ => ⟨_, h1, ?_, Old.of h2⟩) fun v w' τ d hh => ⟨hh.1, hh.2.re τ d⟩
    simp only [specW, hc, if_true, Int.toNat_natCast, worst_start _ d1 d2]
  · refine callee_plain ok_sWorst (by simp) (fun τ d => (specWorst_bad r h s p _ _ rfl hc).mono fun e w' ⟨h1, h2⟩ => ⟨_, h1, ?_, Old.of h2⟩) fun v w' τ d hh => ⟨hh.1, hh.2.re τ d⟩
    simp only [specW, hc, if_false]
end Go.Proofs.Ytibafngidpmgdab

namespace Go.Proofs.Ytibafngidpmgdab
open Go.Conc Go.RowKit
set_option linter.unusedSimpArgs false
set_option linter.unusedVariables false
set_option linter.unusedSectionVars false

section
variable {P : Program} [EarlyOk P] {Stop : Goroutine → World → Prop} {main : Bool} {w : World}
/-- Into a call. -/
theorem Ev.into {b : Frame} {a : Act} {k : List Item} {cs : List Frame} {ops : Array Oper} {i : Nat} {rest : List Nat} {o : Oper} {f : FuncId} {ars : Array Operand} {ts : Array TypeId} {fn : Func}
    (ho : ops[i]? = some o) (hop : o.op = .call ⟨.value (.func f), ars, ts⟩) (hw : Region.wanted o (yielded ops a.tmps) = true) (hk : b.kind ≠ .early) (hl : NoLoops w) (h1 : P.funcs[f]? = some fn) (h2 : (fn.name == "runtime.NumGoroutine") = false) (h3 : fn.body.isSome = true)
    (h : Ev P KeptD Stop main (G (Frame.enter P f (ars.map a.eval) .normal) (b.at a (.inRegion ops (i :: rest) :: k) :: cs)) w) : Ev P KeptD Stop main (G (b.at a (.inRegion ops (i :: rest) :: k)) cs) w := by
  have hkd : (b.kind == CallKind.early) = false := by simpa using hk
  refine Ev.still (g' := G (Frame.enter P f (ars.map a.eval) .normal) (b.at a (.inRegion ops (i :: rest) :: k) :: cs)) (es := seen P b.fn #[]) rfl hl (still_seen _ (by simp)) (fun d => ?_) h
  rw [stepG_oper ho hw]
  simp [-Sem.runT_eq, stepG.apply, runT_call hop h1 h2 h3, G, hkd, GStep.after, Frame.at]

/-- The outermost function returns. -/
theorem Ev.last {Post : Value → World → Prop} {b : Frame} {a : Act} {todo : List Item} {fn : Func} {v : Value} {n : FuncId} (hk : b.kind = .normal) (hd : a.defers = []) (hn : b.fn = n) (hf : P.funcs[n]? = some fn) (hi : P.inits.idxOf? n = none)
    (hr : ∀ x, (results fn a.tmps).runT P x #[] = (.ok v x, #[])) (hp : ∀ d, Post v (re w w.tape d)) : Ev P KeptD (AtRet P Post) true (G { b.at a todo with mode := .returning } []) w := by
  subst hn
  refine .stop fun d => ⟨rfl, v, seen P b.fn #[], ?_, still_seen _ (by simp), hp d⟩
  simp [-Sem.runT_eq, stepG, unwind, doReturn, G, Frame.at, hk, hd, hf, hr, hi, GStep.after]
end

noncomputable def wlBody : Code := Try.f14.body.getD .skip
noncomputable def wlRest : Code := match wlBody with | .seq _ (.seq _ (.seq _ c)) => c | _ => .skip
noncomputable def wlOps : Array Oper := match wlBody with | .seq _ (.seq _ (.seq (.region _ ops _) _)) => ops | _ => #[]
def wlBase : Frame := base 14

theorem resLaw (v : Value) {a : Array Value} (h4 : a.getD 4 undef = v) (w : World) : (results Try.f14 a).runT Try.prog w #[] = (.ok v w, #[]) := by
  subst h4
  simp [results, Try.results14]

/-- The law's frame at the call of impl.WorstSlit. -/
noncomputable def lawAt (x y z : Int) (u0 u1 u2 u3 u4 u8 u9 u10 u11 u12 u13 u14 u15 u16 u17 u18 u19 u20 u21 u22 u23 u24 u25 u26 u27 u28 u29 u30 u31 u32 u33 u34 u35 u36 u37 u38 u39 : Value) (rest : List Nat) : Frame := wlBase.at ⟨#[u0, u1, u2, u3, u4, .int .i64 x, .int .i64 y, .int .i64 z, u8, u9, u10, u11, u12, u13, u14, u15, u16, u17, u18, u19, u20, u21, u22, u23, u24, u25, u26, u27, u28, u29, u30, u31, u32, u33, u34, u35, u36, u37, u38, u39], []⟩ [.inRegion wlOps rest, .code wlRest]

set_option maxHeartbeats 1000000 in
set_option maxRecDepth 100000 in
/-- From impl.WorstSlit's return to the law's. -/
theorem law_end (Post : Value → World → Prop) (x y z : Int) (u0 u1 u2 u3 u4 u8 u9 u10 u11 u12 u13 u14 u15 u16 u17 u18 u19 u20 u21 u22 u23 u24 u25 u26 u27 u28 u29 u30 u31 u32 u33 u34 u35 u36 u37 u38 u39 : Value) (w : World) (hl : NoLoops w) (hp : ∀ d, Post (.bool true) (re w w.tape d)) :
    Ev Try.prog KeptD (AtRet Try.prog Post) true (G ((lawAt x y z u0 u1 u2 u3 u4 u8 u9 u10 u11 u12 u13 u14 u15 u16 u17 u18 u19 u20 u21 u22 u23 u24 u25 u26 u27 u28 u29 u30 u31 u32 u33 u34 u35 u36 u37 u38 u39 [3, 4, 5, 6, 7, 8, 9, 10]).finish (.tuple #[.int .i64 x, .int .i64 y, .int .i64 z])) []) w := by
  have HP := Lib.hid hp
  clear hp
  simp only [lawAt, Frame.finish_at]
  simp only [wlOps, wlRest, wlBody, Try.f14, Option.getD_some]
  walk_nrm
  repeat (first | (first | refine Ev.seq hl ?_ | refine Ev.regionEnd hl ?_ | refine Ev.skip hl ?_ | refine Ev.block hl ?_ | refine Ev.loop hl ?_ | refine Ev.inLoop hl ?_ | refine Ev.inBlock hl ?_ | refine Ev.label hl ?_ | (refine Ev.region hl ?_; simp only [List.size_toArray, List.length_cons, List.length_nil, Nat.reduceAdd, Nat.zero_add, List.range, List.range.loop])) | (refine Ev.oper_k rfl rfl (by decide) (by kernel_rfl) hl (fun K hV hS => ?_); go_simp; (first | refine hV _ _ ⟨rfl, fun hl' => ?_⟩ | refine hS _ ⟨rfl, fun hl' => ?_⟩); clear K hV hS; replace hl := hl'; clear hl'; try walk_nrm))
  (refine Ev.cond false hl rfl ?_; simp only [if_true, if_false, Bool.false_eq_true, ↓reduceIte])
  repeat (first | (first | refine Ev.seq hl ?_ | refine Ev.regionEnd hl ?_ | refine Ev.skip hl ?_ | refine Ev.block hl ?_ | refine Ev.loop hl ?_ | refine Ev.inLoop hl ?_ | refine Ev.inBlock hl ?_ | refine Ev.label hl ?_ | (refine Ev.region hl ?_; simp only [List.size_toArray, List.length_cons, List.length_nil, Nat.reduceAdd, Nat.zero_add, List.range, List.range.loop])) | (refine Ev.oper_k rfl rfl (by decide) (by kernel_rfl) hl (fun K hV hS => ?_); go_simp; (first | refine hV _ _ ⟨rfl, fun hl' => ?_⟩ | refine hS _ ⟨rfl, fun hl' => ?_⟩); clear K hV hS; replace hl := hl'; clear hl'; try walk_nrm))
  refine Ev.retn hl ?_
  refine Ev.last (v := .bool true) rfl rfl rfl Try.func14 (by kernel_rfl) (fun x => ?_) HP.out
  refine resLaw (.bool true) ?_ x
  walk_nrm

theorem enterLaw (r h s p : Int) : Frame.enter Try.prog 14 #[dr r h s, .int .i64 p] .normal = wlBase.at ⟨#[.agg #[.int .i64 r, .int .i64 h, .int .i64 s], .int .i64 p, undef, undef, undef, undef, undef, undef, undef, undef, undef, undef, undef, undef, undef, undef, undef, undef, undef, undef, undef, undef, undef, undef, undef, undef, undef, undef, undef, undef, undef, undef, undef, undef, undef, undef, undef, undef, undef, undef], []⟩ [.code wlBody] := by
  have hb : Try.f14.body = some wlBody := by simp only [wlBody, Try.f14, Option.getD_some]
  rw [enter_at (c := wlBody) _ Try.func14 hb, Try.ntmps14]
  generalize wlBody = q
  simp only [wlBase, List.size_toArray, List.length_cons, List.length_nil, Nat.reduceAdd, Nat.reduceSub, Array.replicate_succ, Array.replicate_zero, List.push_toArray, List.append_toArray, List.nil_append, List.cons_append]

/-- From the call of impl.WorstSlit on. -/
theorem law_mid (Post : Value → World → Prop) (r h s p : Int) (W w : World) (hl : NoLoops w) (hb : Below W.heap.size W w) (hp : ∀ w', LastS W.heap.size W w' → Post (.bool true) w') (u0 u1 u2 u3 u4 u8 u9 u10 u11 u12 u13 u14 u15 u16 u17 u18 u19 u20 u21 u22 u23 u24 u25 u26 u27 u28 u29 u30 u31 u32 u33 u34 u35 u36 u37 u38 u39 : Value) :
    Ev Try.prog KeptD (fun g w => AtGoE Try.prog Post g w ∨ AtRet Try.prog Post g w) true (G (Frame.enter Try.prog 43 #[dr r h s, .int .i64 p] .normal) [lawAt (specW r h s p).1 (specW r h s p).2.1 (specW r h s p).2.2 u0 u1 u2 u3 u4 u8 u9 u10 u11 u12 u13 u14 u15 u16 u17 u18 u19 u20 u21 u22 u23 u24 u25 u26 u27 u28 u29 u30 u31 u32 u33 u34 u35 u36 u37 u38 u39 [3, 4, 5, 6, 7, 8, 9, 10]]) w := by
  have hB : ∀ w', NoLoops w' → Old w w' → Outer w w' → LastS W.heap.size W w' := fun w' h1 h2 h3 => ⟨h1, belowStep hb hb.size h2 h3⟩
  refine worst_pre _ [] _ r h s p w hl (fun hd w' h1 h2 h3 => ?_) (fun hd hq w' h1 h2 h3 => ?_) (fun hd hq c g0 g1 g2 g3 g4 g5 g6 g8 g9 g10 g11 g12 g13 g14 g15 g16 g17 g18 g22 g23 g24 g25 g26 g27 g28 g29 g30 g31 g32 g33 g34 w' h1 h2 h3 hc hch => ?_)
  · have e : specW r h s p = (0, 0, 1) := by simp [specW, code2, hd]
    rw [e]
    exact (law_end Post 0 0 1 u0 u1 u2 u3 u4 u8 u9 u10 u11 u12 u13 u14 u15 u16 u17 u18 u19 u20 u21 u22 u23 u24 u25 u26 u27 u28 u29 u30 u31 u32 u33 u34 u35 u36 u37 u38 u39 w' h1 fun d => hp _ (lastS_draw _ d (hB w' h1 h2 h3))).mono fun _ _ x => .inr x
  · have e : specW r h s p = (0, 0, 2) := by simp [specW, code2, hd, hq]
    rw [e]
    exact (law_end Post 0 0 2 u0 u1 u2 u3 u4 u8 u9 u10 u11 u12 u13 u14 u15 u16 u17 u18 u19 u20 u21 u22 u23 u24 u25 u26 u27 u28 u29 u30 u31 u32 u33 u34 u35 u36 u37 u38 u39 w' h1 fun d => hp _ (lastS_draw _ d (hB w' h1 h2 h3))).mono fun _ _ x => .inr x
  · obtain ⟨⟨ra, rb⟩, _, s1, s2⟩ := drumB_yes hd
    have hp' := inB_iff.1 hq
    obtain ⟨n, rfl⟩ : ∃ n : Nat, s = n := ⟨s.toNat, by omega⟩
    obtain ⟨m, rfl⟩ : ∃ m : Nat, p = m := ⟨p.toNat, by omega⟩
    have e : specW r h n m = ((worstF (distsL r (placesL r n) (placesL r m)) 0 0 0).1, (worstF (distsL r (placesL r n) (placesL r m)) 0 0 0).2, 0) := by simp [specW, code2, hd, hq]
    rw [e]
    exact worst_go Post r h n m hd hq c _ [] W.heap.size W w' h1 (hB w' h1 h2 h3).2 (Nat.le_trans hb.size hc) hch (fun w2 hL => law_end Post _ _ 0 u0 u1 u2 u3 u4 u8 u9 u10 u11 u12 u13 u14 u15 u16 u17 u18 u19 u20 u21 u22 u23 u24 u25 u26 u27 u28 u29 u30 u31 u32 u33 u34 u35 u36 u37 u38 u39 w2 hL.1 fun d => hp _ (lastS_draw _ d hL)) g0 g1 g2 g3 g4 g5 g6 g8 g9 g10 g11 g12 g13 g14 g15 g16 g17 g18 g22 g23 g24 g25 g26 g27 g28 g29 g30 g31 g32 g33 g34

set_option maxHeartbeats 1000000 in
set_option maxRecDepth 100000 in
/-- The law, whole. -/
theorem law_run (Post : Value → World → Prop) (r h s p : Int) (w : World) (hl : NoLoops w) (hp : ∀ w', LastS w.heap.size w w' → Post (.bool true) w') :
    Ev Try.prog KeptD (fun g w => AtGoE Try.prog Post g w ∨ AtRet Try.prog Post g w) true (G (Frame.enter Try.prog 14 #[dr r h s, .int .i64 p] .normal) []) w := by
  have LM := Lib.hid (fun w1 h1 h2 => law_mid Post r h s p w w1 h1 h2 hp)
  have SW := Lib.hid (specW_ev r h s p)
  clear hp
  generalize specW r h s p = T at *
  obtain ⟨x, y, z⟩ := T
  rw [enterLaw]
  simp only [wlBody, Try.f14, Option.getD_some]
  repeat (first | (first | refine Ev.seq hl ?_ | refine Ev.regionEnd hl ?_ | refine Ev.skip hl ?_ | refine Ev.block hl ?_ | refine Ev.loop hl ?_ | refine Ev.inLoop hl ?_ | refine Ev.inBlock hl ?_ | refine Ev.label hl ?_ | (refine Ev.region hl ?_; simp only [List.size_toArray, List.length_cons, List.length_nil, Nat.reduceAdd, Nat.zero_add, List.range, List.range.loop])) | (refine Ev.oper_k rfl rfl (by decide) (by kernel_rfl) hl (fun K hV hS => ?_); go_simp; (first | refine hV _ _ ⟨rfl, fun hl' => ?_⟩ | refine hS _ ⟨rfl, fun hl' => ?_⟩); clear K hV hS; replace hl := hl'; clear hl'; try walk_nrm))
  have o0 : Old w (w.alloc (.cells #[.int .i64 r, .int .i64 h, .int .i64 s] 51)) := Old.alloc _ _
  refine Ev.call (R := fun v w' => v = dr r h s ∧ Old (w.alloc (.cells #[.int .i64 r, .int .i64 h, .int .i64 s] 51)) w') rfl rfl rfl (by decide) hl ?_ (fun v w1 hh hl1 u1 => ?_)
  · walk_nrm
    exact toDrum_ev r h s _
  obtain ⟨rfl, o1⟩ := hh
  clear hl
  have hl := hl1
  clear hl1
  walk_nrm
  (refine Ev.oper_k rfl rfl (by decide) (by kernel_rfl) hl (fun K hV hS => ?_); go_simp; (first | refine hV _ _ ⟨rfl, fun hl' => ?_⟩ | refine hS _ ⟨rfl, fun hl' => ?_⟩); clear K hV hS; replace hl := hl'; clear hl'; try walk_nrm)
  refine Ev.call (R := fun v w' => v = .tuple #[.int .i64 x, .int .i64 y, .int .i64 z] ∧ Old w1 w') rfl rfl rfl (by decide) hl ?_ (fun v w2 hh hl2 u2 => ?_)
  · walk_nrm
    exact SW.out w1
  obtain ⟨rfl, o2⟩ := hh
  clear hl
  have hl := hl2
  clear hl2
  walk_nrm
  have hb2 : w2.heap[w.heap.size]? = some (.cells #[.int .i64 r, .int .i64 h, .int .i64 s] 51) := by
    have e0 : w.heap.size < (w.alloc (.cells #[.int .i64 r, .int .i64 h, .int .i64 s] 51)).heap.size := by simp
    rw [o2.block _ (o1.lt e0), o1.block _ e0]
    exact heapNew _ _
  have q0 : w2.cell? ⟨w.heap.size, 0, none⟩ = some (.int .i64 r) := by simp [World.cell?, hb2]
  have q1 : w2.cell? ⟨w.heap.size, 1, none⟩ = some (.int .i64 h) := by simp [World.cell?, hb2]
  have q2 : w2.cell? ⟨w.heap.size, 2, none⟩ = some (.int .i64 s) := by simp [World.cell?, hb2]
  clear hb2
  repeat (first | (first | refine Ev.seq hl ?_ | refine Ev.regionEnd hl ?_ | refine Ev.skip hl ?_ | refine Ev.block hl ?_ | refine Ev.loop hl ?_ | refine Ev.inLoop hl ?_ | refine Ev.inBlock hl ?_ | refine Ev.label hl ?_ | (refine Ev.region hl ?_; simp only [List.size_toArray, List.length_cons, List.length_nil, Nat.reduceAdd, Nat.zero_add, List.range, List.range.loop])) | (refine Ev.oper_k rfl rfl (by decide) (by kernel_rfl) hl (fun K hV hS => ?_); go_simp; (first | refine hV _ _ ⟨rfl, fun hl' => ?_⟩ | refine hS _ ⟨rfl, fun hl' => ?_⟩); clear K hV hS; replace hl := hl'; clear hl'; try walk_nrm))
  refine Ev.call (R := fun v w' => v = dr r h s ∧ Old w2 w') rfl rfl rfl (by decide) hl ?_ (fun v w3 hh hl3 u3 => ?_)
  · walk_nrm
    exact toDrum_ev r h s _
  obtain ⟨rfl, o3⟩ := hh
  clear hl q0 q1 q2
  have hl := hl3
  clear hl3
  walk_nrm
  (refine Ev.oper_k rfl rfl (by decide) (by kernel_rfl) hl (fun K hV hS => ?_); go_simp; (first | refine hV _ _ ⟨rfl, fun hl' => ?_⟩ | refine hS _ ⟨rfl, fun hl' => ?_⟩); clear K hV hS; replace hl := hl'; clear hl'; try walk_nrm)
  refine Ev.into rfl rfl rfl (by decide) hl Try.func43 (by kernel_rfl) (by kernel_rfl) ?_
  walk_nrm
  have hbl : Below w.heap.size w w3 := belowStep (Below.refl _ _) (Nat.le_refl _) (o0.trans (o1.trans (o2.trans o3))) ((Outer.trans (Outer.trans ⟨rfl, rfl, rfl⟩ u1) u2).trans u3)
  have E := LM.out w3 hl hbl
  simp only [lawAt, wlOps, wlRest, wlBody, Try.f14, Option.getD_some] at E
  exact E _ _ _ _ _ _ _ _ _ _ _ _ _ _ _ _ _ _ _ _ _ _ _ _ _ _ _ _ _ _ _ _ _ _ _ _ _
end Go.Proofs.Ytibafngidpmgdab
