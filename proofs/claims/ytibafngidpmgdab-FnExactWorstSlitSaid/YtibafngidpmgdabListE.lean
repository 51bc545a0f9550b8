/- impl.listOf and impl.Drum.places in company. (Printed by gen/mkliste.py.) -/
import Derived.Test.YtibafngidpmgdabSend
import Derived.Laws.OwnMore
namespace Go.Proofs.Ytibafngidpmgdab
open Go.Conc Go.RowKit
set_option linter.unusedSimpArgs false
set_option linter.unusedVariables false
set_option linter.unusedSectionVars false

section
variable {P : Program} [EarlyOk P] {Stop : Goroutine → World → Prop} {main : Bool} {w : World}
theorem runT_callv {a : Act} {o : Oper} {t : Tmp} {g : FuncId} {cap : Array Value} {ars : Array Operand} {ts : Array TypeId} {fn : Func} (ho : o.op = .call ⟨.value (.tmp t), ars, ts⟩) (hv : a.eval (.tmp t) = .func (.func g) #[] cap)
    (h1 : P.funcs[g]? = some fn) (h2 : (fn.name == "runtime.NumGoroutine") = false) (h3 : fn.body.isSome = true) (x : World) : (execOp a.eval o).runT P x #[] = (.ok (.enter g (ars.map a.eval ++ cap)) x, #[]) := by
  obtain ⟨dst, op, type, pos, after, guard⟩ := o
  simp only at ho
  subst ho
  have e : execOp a.eval ⟨dst, .call ⟨.value (.tmp t), ars, ts⟩, type, pos, after, guard⟩ = (Deferred.ofValue (a.eval (.tmp t)) (ars.map a.eval) >>= fun d => invoke d.target d.args) := rfl
  rw [hv] at e
  have e1 : execOp a.eval ⟨dst, .call ⟨.value (.tmp t), ars, ts⟩, type, pos, after, guard⟩ = callFunc g ((#[] ++ ars.map a.eval) ++ cap) := e.trans rfl
  have hn : fn.body.isNone = false := by cases hb : fn.body <;> rw [hb] at h3 <;> first | rfl | cases h3
  rw [e1, Array.empty_append]
  have e2 : Sem.runT P (program : Sem Program) x #[] = (.ok P x, #[]) := rfl
  unfold callFunc
  refine (Sem.runT_bind' P program _ x #[]).trans ?_
  rw [e2]
  simp only [h1, h2, hn, if_false, Bool.false_eq_true]
  rfl

/-- A call of a closure. -/
theorem Ev.callv {b : Frame} {a : Act} {k : List Item} {cs : List Frame} {ops : Array Oper} {i : Nat} {rest : List Nat} {o : Oper} {t : Tmp} {f : FuncId} {cap : Array Value} {ars : Array Operand} {ts : Array TypeId} {R : Value → World → Prop}
    (ho : ops[i]? = some o) (hop : o.op = .call ⟨.value (.tmp t), ars, ts⟩) (hv : a.eval (.tmp t) = .func (.func f) #[] cap) (hw : Region.wanted o (yielded ops a.tmps) = true) (hk : b.kind ≠ .early) (hl : NoLoops w) (hc : Callee P f (ars.map a.eval ++ cap) w R)
    (h : ∀ v w', R v w' → NoLoops w' → Outer w w' → Ev P KeptD Stop main (G (b.at (a.put o.dst v) (.inRegion ops rest :: k)) cs) w') :
    Ev P KeptD Stop main (G (b.at a (.inRegion ops (i :: rest) :: k)) cs) w := by
  have hkd : (b.kind == CallKind.early) = false := by simpa using hk
  obtain ⟨⟨fn, h1, h2, h3⟩, hcc⟩ := hc
  have hfin : ∀ v, (b.at a (.inRegion ops (i :: rest) :: k)).finish v = b.at (a.put o.dst v) (.inRegion ops rest :: k) := fun v => by rw [Frame.finish_at, ho]; rfl
  refine Ev.still (g' := G (Frame.enter P f (ars.map a.eval ++ cap) .normal) (b.at a (.inRegion ops (i :: rest) :: k) :: cs)) (es := seen P b.fn #[]) rfl hl (still_seen _ (by simp)) (fun d => ?_) ?_
  · rw [stepG_oper ho hw]
    simp [-Sem.runT_eq, stepG.apply, runT_callv hop hv h1 h2 h3, G, hkd, GStep.after, Frame.at]
  · refine hcc main _ cs Stop (fun v w' hv hl' ho' => ?_) hl
    rw [hfin]
    exact h v w' hv hl' ho'
end

theorem Old.owns {w w' : World} (h : Old w w') {B : Nat} {e : TypeId} {z : Nat} {v : Value} {n : Nat} {xs : List Value} (hr : w.ownsRow B e z v n xs) : w'.ownsRow B e z v n xs := by
  refine ⟨hr.1, ?_⟩
  rcases hr.2 with h0 | ⟨g, cp, cur, e, hg, hh, r⟩
  · exact .inl h0
  · have hlt : g < w.heap.size := by
      rcases Nat.lt_or_ge g w.heap.size with h' | h'
      · exact h'
      · rw [Array.getElem?_eq_none h'] at hh; cases hh
    exact .inr ⟨g, cp, cur, e, hg, (h.block g hlt).trans hh, r⟩

noncomputable def lBody : Code := Try.f112.body.getD .skip
noncomputable def lLoop : Code := match lBody with | .seq _ (.seq _ (.seq (.seq _ (.block _ (.loop c))) _)) => c | _ => .skip
noncomputable def lTail : Code := match lBody with | .seq _ (.seq _ (.seq _ c)) => c | _ => .skip
def lBase : Frame := base 112

section
variable (x y : Value) (n g : Nat) (c0 : Frame) (cs : List Frame) (Stop : Goroutine → World → Prop) (main : Bool)

noncomputable def headL (k : Int) (u2 u3 u4 u6 u7 u8 u11 u12 u13 u14 u15 u16 u17 u18 u19 u20 : Value) : Goroutine := G (lBase.at ⟨#[.int .i64 n, .func (.func 113) #[] #[x, y], u2, u3, u4, .slice (some ⟨g, 0, none⟩) n n, u6, u7, u8, .int .i64 n, .int .i64 k, u11, u12, u13, u14, u15, u16, u17, u18, u19, u20], []⟩ [.code lLoop, .inLoop lLoop, .inBlock 0, .code lTail]) (c0 :: cs)

set_option maxHeartbeats 1000000 in
set_option maxRecDepth 100000 in
/-- A round. -/
theorem seg_list (k : Nat) (hk : k < n) (hn : n ≤ 1000) (z : Int) (u2 u3 u4 u6 u7 u8 u11 u12 u13 u14 u15 u16 u17 u18 u19 u20 : Value) (w : World) (hl : NoLoops w) (f : Nat → Int)
    (hO : w.ownsRow g 2 1 (.slice (some ⟨g, 0, none⟩) n n) n ((genL f k ++ (List.replicate n (0 : Int)).drop k).map (Value.int .i64)))
    (hC : Callee Try.prog 113 #[.int .i64 k, x, y] w fun v w' => v = .int .i64 (f k) ∧ Old w w')
    (next : ∀ (v2 v3 v4 v6 v7 v8 v11 v12 v13 v14 v15 v16 v17 v18 v19 v20 : Value) (w1 : World), NoLoops (w1.setCell ⟨g, k, none⟩ (.int .i64 (f k))) → Old w w1 → Outer w w1 → (w1.setCell ⟨g, k, none⟩ (.int .i64 (f k))).ownsRow g 2 1 (.slice (some ⟨g, 0, none⟩) n n) n ((genL f (k + 1) ++ (List.replicate n (0 : Int)).drop (k + 1)).map (Value.int .i64)) →
      Ev Try.prog KeptD Stop main (headL x y n g c0 cs (k + 1 : Nat) v2 v3 v4 v6 v7 v8 v11 v12 v13 v14 v15 v16 v17 v18 v19 v20) (w1.setCell ⟨g, k, none⟩ (.int .i64 (f k)))) :
    Ev Try.prog KeptD Stop main (headL x y n g c0 cs k u2 u3 u4 u6 u7 u8 u11 u12 u13 u14 u15 u16 u17 u18 u19 u20) w := by
  have hlt : decide (k < n) = true := by simpa using hk
  have hw : IntKind.i64.wrap ((k : Int) + 1) = (k : Int) + 1 := by rw [IntKind.wrap_i64]; omega
  have NX := Lib.hid next
  have C := Lib.hid hC
  have HO := Lib.hid hO
  have HS := Lib.hid (genL_put f k n hk)
  clear next hC hO
  simp only [headL, lLoop, lTail, lBody, Try.f112, Option.getD_some]
  repeat (first | (first | refine Ev.seq hl ?_ | refine Ev.regionEnd hl ?_ | refine Ev.skip hl ?_ | refine Ev.block hl ?_ | refine Ev.loop hl ?_ | refine Ev.inLoop hl ?_ | refine Ev.inBlock hl ?_ | refine Ev.label hl ?_ | (refine Ev.region hl ?_; simp only [List.size_toArray, List.length_cons, List.length_nil, Nat.reduceAdd, Nat.zero_add, List.range, List.range.loop])) | (refine Ev.oper_k rfl rfl (by decide) (by kernel_rfl) hl (fun K hV hS => ?_); go_simp; (first | refine hV _ _ ⟨rfl, fun hl' => ?_⟩ | refine hS _ ⟨rfl, fun hl' => ?_⟩); clear K hV hS; replace hl := hl'; clear hl'; try walk_nrm))
  (refine Ev.cond true hl rfl ?_; simp only [if_true, if_false, Bool.false_eq_true, ↓reduceIte])
  repeat (first | refine Ev.seq hl ?_ | refine Ev.regionEnd hl ?_ | refine Ev.skip hl ?_ | refine Ev.block hl ?_ | refine Ev.loop hl ?_ | refine Ev.inLoop hl ?_ | refine Ev.inBlock hl ?_ | refine Ev.label hl ?_ | (refine Ev.region hl ?_; simp only [List.size_toArray, List.length_cons, List.length_nil, Nat.reduceAdd, Nat.zero_add, List.range, List.range.loop]))
  (refine Ev.oper_k rfl rfl (by decide) (by kernel_rfl) hl (fun K hV hS => ?_); go_simp; (first | refine hV _ _ ⟨rfl, fun hl' => ?_⟩ | refine hS _ ⟨rfl, fun hl' => ?_⟩); clear K hV hS; replace hl := hl'; clear hl'; try walk_nrm)
  (refine Ev.oper_k rfl rfl (by decide) (by kernel_rfl) hl (fun K hV hS => ?_); go_simp; (first | refine hV _ _ ⟨rfl, fun hl' => ?_⟩ | refine hS _ ⟨rfl, fun hl' => ?_⟩); clear K hV hS; replace hl := hl'; clear hl'; try walk_nrm)
  repeat (first | refine Ev.seq hl ?_ | refine Ev.regionEnd hl ?_ | refine Ev.skip hl ?_ | refine Ev.block hl ?_ | refine Ev.loop hl ?_ | refine Ev.inLoop hl ?_ | refine Ev.inBlock hl ?_ | refine Ev.label hl ?_ | (refine Ev.region hl ?_; simp only [List.size_toArray, List.length_cons, List.length_nil, Nat.reduceAdd, Nat.zero_add, List.range, List.range.loop]))
  (refine Ev.oper_k rfl rfl (by decide) (by kernel_rfl) hl (fun K hV hS => ?_); go_simp; (first | refine hV _ _ ⟨rfl, fun hl' => ?_⟩ | refine hS _ ⟨rfl, fun hl' => ?_⟩); clear K hV hS; replace hl := hl'; clear hl'; try walk_nrm)
  (refine Ev.oper_k rfl rfl (by decide) (by kernel_rfl) hl (fun K hV hS => ?_); go_simp; (first | refine hV _ _ ⟨rfl, fun hl' => ?_⟩ | refine hS _ ⟨rfl, fun hl' => ?_⟩); clear K hV hS; replace hl := hl'; clear hl'; try walk_nrm)
  (refine Ev.oper_k rfl rfl (by decide) (by kernel_rfl) hl (fun K hV hS => ?_); go_simp; (first | refine hV _ _ ⟨rfl, fun hl' => ?_⟩ | refine hS _ ⟨rfl, fun hl' => ?_⟩); clear K hV hS; replace hl := hl'; clear hl'; try walk_nrm)
  (refine Ev.oper_k rfl rfl (by decide) (by kernel_rfl) hl (fun K hV hS => ?_); go_simp; (first | refine hV _ _ ⟨rfl, fun hl' => ?_⟩ | refine hS _ ⟨rfl, fun hl' => ?_⟩); clear K hV hS; replace hl := hl'; clear hl'; try walk_nrm)
  refine Ev.callv (R := fun v w' => v = .int .i64 (f k) ∧ Old w w') rfl rfl rfl rfl (by decide) hl ?_ (fun v w1 hh hl1 u1 => ?_)
  · walk_nrm
    exact C.out
  obtain ⟨hv, o1⟩ := hh
  subst hv
  clear hl
  have hl := hl1
  clear hl1
  walk_nrm
  have HO3 := o1.owns HO.out
  obtain ⟨S1, S2⟩ := World.ownsRow.stored HO3 k (.int .i64 (f k))
  rw [← List.map_set, HS.out] at S1
  have hf0 : w1.frozen? ⟨g, k, none⟩ = false := World.ownsRow.frozenAt HO3 _
  have hc0 : ∃ z, w1.cell? ⟨g, k, none⟩ = some z := by
    rw [World.ownsRow.cellAt HO3 k (by omega)]
    exact ⟨_, List.getElem?_eq_getElem (by rw [HO3.1]; omega)⟩
  obtain ⟨z0, hc0⟩ := hc0
  have H3 := Lib.hid S1
  clear S1 S2 HO3
  generalize hfk : f k = fz at *
  (refine Ev.oper_k rfl rfl (by decide) (by kernel_rfl) hl (fun K hV hS => ?_); go_simp; (first | refine hV _ _ ⟨rfl, fun hl' => ?_⟩ | refine hS _ ⟨rfl, fun hl' => ?_⟩); clear K hV hS; replace hl := hl'; clear hl'; try walk_nrm)
  (refine Ev.oper_k rfl rfl (by decide) (by kernel_rfl) hl (fun K hV hS => ?_); go_simp; (first | refine hV _ _ ⟨rfl, fun hl' => ?_⟩ | refine hS _ ⟨rfl, fun hl' => ?_⟩); clear K hV hS; replace hl := hl'; clear hl'; try walk_nrm)
  (first | refine Ev.seq hl ?_ | refine Ev.regionEnd hl ?_ | refine Ev.skip hl ?_ | refine Ev.block hl ?_ | refine Ev.loop hl ?_ | refine Ev.inLoop hl ?_ | refine Ev.inBlock hl ?_ | refine Ev.label hl ?_ | (refine Ev.region hl ?_; simp only [List.size_toArray, List.length_cons, List.length_nil, Nat.reduceAdd, Nat.zero_add, List.range, List.range.loop]))
  (first | refine Ev.seq hl ?_ | refine Ev.regionEnd hl ?_ | refine Ev.skip hl ?_ | refine Ev.block hl ?_ | refine Ev.loop hl ?_ | refine Ev.inLoop hl ?_ | refine Ev.inBlock hl ?_ | refine Ev.label hl ?_ | (refine Ev.region hl ?_; simp only [List.size_toArray, List.length_cons, List.length_nil, Nat.reduceAdd, Nat.zero_add, List.range, List.range.loop]))
  (first | refine Ev.seq hl ?_ | refine Ev.regionEnd hl ?_ | refine Ev.skip hl ?_ | refine Ev.block hl ?_ | refine Ev.loop hl ?_ | refine Ev.inLoop hl ?_ | refine Ev.inBlock hl ?_ | refine Ev.label hl ?_ | (refine Ev.region hl ?_; simp only [List.size_toArray, List.length_cons, List.length_nil, Nat.reduceAdd, Nat.zero_add, List.range, List.range.loop]))
  (refine Ev.oper_k rfl rfl (by decide) (by kernel_rfl) hl (fun K hV hS => ?_); go_simp; (first | refine hV _ _ ⟨rfl, fun hl' => ?_⟩ | refine hS _ ⟨rfl, fun hl' => ?_⟩); clear K hV hS; replace hl := hl'; clear hl'; try walk_nrm)
  (refine Ev.oper_k rfl rfl (by decide) (by kernel_rfl) hl (fun K hV hS => ?_); go_simp; (first | refine hV _ _ ⟨rfl, fun hl' => ?_⟩ | refine hS _ ⟨rfl, fun hl' => ?_⟩); clear K hV hS; replace hl := hl'; clear hl'; try walk_nrm)
  (first | refine Ev.seq hl ?_ | refine Ev.regionEnd hl ?_ | refine Ev.skip hl ?_ | refine Ev.block hl ?_ | refine Ev.loop hl ?_ | refine Ev.inLoop hl ?_ | refine Ev.inBlock hl ?_ | refine Ev.label hl ?_ | (refine Ev.region hl ?_; simp only [List.size_toArray, List.length_cons, List.length_nil, Nat.reduceAdd, Nat.zero_add, List.range, List.range.loop]))
  (first | refine Ev.seq hl ?_ | refine Ev.regionEnd hl ?_ | refine Ev.skip hl ?_ | refine Ev.block hl ?_ | refine Ev.loop hl ?_ | refine Ev.inLoop hl ?_ | refine Ev.inBlock hl ?_ | refine Ev.label hl ?_ | (refine Ev.region hl ?_; simp only [List.size_toArray, List.length_cons, List.length_nil, Nat.reduceAdd, Nat.zero_add, List.range, List.range.loop]))
  have nx := NX.out
  have e1 : ((k + 1 : Nat) : Int) = (k : Int) + 1 := by omega
  rw [e1] at nx
  simp only [headL, lLoop, lTail, lBody, Try.f112, Option.getD_some] at nx
  exact nx _ _ _ _ _ _ _ _ _ _ _ _ _ _ _ _ w1 hl o1 u1 H3.out

theorem resL (v : Value) {a : Array Value} (h4 : a.getD 4 undef = v) (w : World) : (results Try.f112 a).runT Try.prog w #[] = (.ok v w, #[]) := by
  subst h4
  simp [results, Try.results112]

set_option maxRecDepth 100000 in
/-- The list is full. -/
theorem list_end (u2 u3 u4 u6 u7 u8 u11 u12 u13 u14 u15 u16 u17 u18 u19 u20 : Value) (w : World) (hl : NoLoops w) (next : Ev Try.prog KeptD Stop main (G (c0.finish (.slice (some ⟨g, 0, none⟩) n n)) cs) w) : Ev Try.prog KeptD Stop main (headL x y n g c0 cs n u2 u3 u4 u6 u7 u8 u11 u12 u13 u14 u15 u16 u17 u18 u19 u20) w := by
  have hlt : decide (n < n) = false := by simp
  have NX := Lib.hid next
  clear next
  simp only [headL, lLoop, lTail, lBody, Try.f112, Option.getD_some]
  repeat (first | (first | refine Ev.seq hl ?_ | refine Ev.regionEnd hl ?_ | refine Ev.skip hl ?_ | refine Ev.block hl ?_ | refine Ev.loop hl ?_ | refine Ev.inLoop hl ?_ | refine Ev.inBlock hl ?_ | refine Ev.label hl ?_ | (refine Ev.region hl ?_; simp only [List.size_toArray, List.length_cons, List.length_nil, Nat.reduceAdd, Nat.zero_add, List.range, List.range.loop])) | (refine Ev.oper_k rfl rfl (by decide) (by kernel_rfl) hl (fun K hV hS => ?_); go_simp; (first | refine hV _ _ ⟨rfl, fun hl' => ?_⟩ | refine hS _ ⟨rfl, fun hl' => ?_⟩); clear K hV hS; replace hl := hl'; clear hl'; try walk_nrm))
  (refine Ev.cond false hl rfl ?_; simp only [if_true, if_false, Bool.false_eq_true, ↓reduceIte])
  (apply Ev.exit hl; rfl)
  repeat (first | (first | refine Ev.seq hl ?_ | refine Ev.regionEnd hl ?_ | refine Ev.skip hl ?_ | refine Ev.block hl ?_ | refine Ev.loop hl ?_ | refine Ev.inLoop hl ?_ | refine Ev.inBlock hl ?_ | refine Ev.label hl ?_ | (refine Ev.region hl ?_; simp only [List.size_toArray, List.length_cons, List.length_nil, Nat.reduceAdd, Nat.zero_add, List.range, List.range.loop])) | (refine Ev.oper_k rfl rfl (by decide) (by kernel_rfl) hl (fun K hV hS => ?_); go_simp; (first | refine hV _ _ ⟨rfl, fun hl' => ?_⟩ | refine hS _ ⟨rfl, fun hl' => ?_⟩); clear K hV hS; replace hl := hl'; clear hl'; try walk_nrm))
  refine Ev.retn hl ?_
  refine Ev.leave (v := .slice (some ⟨g, 0, none⟩) n n) hl rfl rfl rfl Try.func112 (fun x => ?_) NX.out
  refine resL (.slice (some ⟨g, 0, none⟩) n n) ?_ x
  walk_nrm

/-- From the head, k elements laid. -/
theorem list_from (hn : n ≤ 1000) (f : Nat → Int) (W : World) (hg : W.heap.size ≤ g)
    (hC : ∀ k, k < n → ∀ w, Old W w → NoLoops w → Callee Try.prog 113 #[.int .i64 k, x, y] w fun v w' => v = .int .i64 (f k) ∧ Old w w')
    (next : ∀ w, NoLoops w → Old W w → Outer W w → w.ownsRow g 2 1 (.slice (some ⟨g, 0, none⟩) n n) n ((genL f n).map (Value.int .i64)) → Ev Try.prog KeptD Stop main (G (c0.finish (.slice (some ⟨g, 0, none⟩) n n)) cs) w) :
    ∀ (m k : Nat), k + m = n → ∀ (u2 u3 u4 u6 u7 u8 u11 u12 u13 u14 u15 u16 u17 u18 u19 u20 : Value) (w : World), NoLoops w → Old W w → Outer W w → w.ownsRow g 2 1 (.slice (some ⟨g, 0, none⟩) n n) n ((genL f k ++ (List.replicate n (0 : Int)).drop k).map (Value.int .i64)) →
      Ev Try.prog KeptD Stop main (headL x y n g c0 cs k u2 u3 u4 u6 u7 u8 u11 u12 u13 u14 u15 u16 u17 u18 u19 u20) w := by
  intro m
  induction m with
  | zero =>
    intro k hk u2 u3 u4 u6 u7 u8 u11 u12 u13 u14 u15 u16 u17 u18 u19 u20 w hl o u hO
    obtain rfl : k = n := by omega
    refine list_end x y k g c0 cs Stop main u2 u3 u4 u6 u7 u8 u11 u12 u13 u14 u15 u16 u17 u18 u19 u20 w hl (next w hl o u ?_)
    rw [List.drop_of_length_le (by simp), List.append_nil] at hO
    exact hO
  | succ m ih =>
    intro k hk u2 u3 u4 u6 u7 u8 u11 u12 u13 u14 u15 u16 u17 u18 u19 u20 w hl o u hO
    refine seg_list x y n g c0 cs Stop main k (by omega) hn 0 u2 u3 u4 u6 u7 u8 u11 u12 u13 u14 u15 u16 u17 u18 u19 u20 w hl f hO (hC k (by omega) w o hl) fun v2 v3 v4 v6 v7 v8 v11 v12 v13 v14 v15 v16 v17 v18 v19 v20 w1 hl1 o1 u1 hO1 => ?_
    refine ih (k + 1) (by omega) v2 v3 v4 v6 v7 v8 v11 v12 v13 v14 v15 v16 v17 v18 v19 v20 _ hl1 ⟨Nat.le_trans o.size (Nat.le_trans o1.size (by simp [World.setCell])), fun j hj => ?_⟩ ((u.trans u1).trans ⟨rfl, rfl, rfl⟩) hO1
    have hne : g ≠ j := by omega
    have e : (w1.setCell ⟨g, k, none⟩ (.int .i64 (f k))).heap[j]? = w1.heap[j]? := by
      simp only [World.setCell, Array.getElem?_modify, if_neg hne]
    rw [e, o1.block j (Nat.lt_of_lt_of_le hj o.size)]
    exact o.block j hj

theorem enterL (v : Value) : Frame.enter Try.prog 112 #[.int .i64 n, v] .normal = lBase.at ⟨#[.int .i64 n, v, undef, undef, undef, undef, undef, undef, undef, undef, undef, undef, undef, undef, undef, undef, undef, undef, undef, undef, undef], []⟩ [.code lBody] := by
  have hb : Try.f112.body = some lBody := by simp only [lBody, Try.f112, Option.getD_some]
  rw [enter_at (c := lBody) _ Try.func112 hb, Try.ntmps112]
  generalize lBody = q
  simp only [lBase, List.size_toArray, List.length_cons, List.length_nil, Nat.reduceAdd, Nat.reduceSub, Array.replicate_succ, Array.replicate_zero, List.push_toArray, List.append_toArray, List.nil_append, List.cons_append]
end

set_option maxHeartbeats 1000000 in
set_option maxRecDepth 100000 in
/-- impl.listOf. -/
theorem listOf_ev (x y : Value) (n : Nat) (hn : n ≤ 1000) (f : Nat → Int) (w : World)
    (hC : ∀ k, k < n → ∀ u, Old w u → NoLoops u → Callee Try.prog 113 #[.int .i64 k, x, y] u fun v w' => v = .int .i64 (f k) ∧ Old u w') :
    Callee Try.prog 112 #[.int .i64 n, .func (.func 113) #[] #[x, y]] w fun v w' => w'.ownsRow w.heap.size 2 1 v n ((genL f n).map (Value.int .i64)) ∧ Old w w' := by
  refine ⟨⟨Try.f112, Try.func112, by kernel_rfl, by kernel_rfl⟩, fun main c0 cs Stop next hl => ?_⟩
  obtain ⟨i0, hi, hz0, hz1, hz2⟩ := info_parts infoI64
  have hby : i0.bytes * n ≤ 281474976710656 := by rw [hz2]; omega
  obtain ⟨w1, hrun, hown, hgrow⟩ := run_make_full (P := Try.prog) w w.heap.size 94 2 i0 (.int .i64 0) 1 Try.underlying94 hi hz0 hz1 .i64 .i64 n hby (by unfold maxLen; omega) (Nat.le_refl _)
  have hby2 : (i0.bytes : Int) * (n : Int) ≤ 281474976710656 := by
    have h : ((i0.bytes * n : Nat) : Int) ≤ 281474976710656 := by omega
    rwa [Int.natCast_mul] at h
  have hw1 := run_make (P := Try.prog) w 94 2 i0 (.int .i64 0) Try.underlying94 hi hz0 .i64 .i64 n n (by omega) (Int.le_refl _) hby2 (by omega)
  simp only [Int.toNat_natCast] at hw1
  rw [hrun] at hw1
  injection hw1 with _ hw1
  have o1 : Old w w1 := by rw [hw1]; exact Old.alloc _ _
  have u1 : Outer w w1 := by rw [hw1]; exact ⟨rfl, rfl, rfl⟩
  have hd1 : w1.drawn = w.drawn := by rw [hw1]; rfl
  clear hw1
  have NX := Lib.hid (fun (u v : Value) => list_from x y n w.heap.size c0 cs Stop main hn f w (Nat.le_refl _) hC fun w' hl' o' u' hO => next _ w' ⟨hO, o'⟩ hl' u')
  have HO := Lib.hid hown
  clear hown next hC
  rw [enterL]
  simp only [lBody, Try.f112, Option.getD_some]
  (first | refine Ev.seq hl ?_ | refine Ev.regionEnd hl ?_ | refine Ev.skip hl ?_ | refine Ev.block hl ?_ | refine Ev.loop hl ?_ | refine Ev.inLoop hl ?_ | refine Ev.inBlock hl ?_ | refine Ev.label hl ?_ | (refine Ev.region hl ?_; simp only [List.size_toArray, List.length_cons, List.length_nil, Nat.reduceAdd, Nat.zero_add, List.range, List.range.loop]))
  (first | refine Ev.seq hl ?_ | refine Ev.regionEnd hl ?_ | refine Ev.skip hl ?_ | refine Ev.block hl ?_ | refine Ev.loop hl ?_ | refine Ev.inLoop hl ?_ | refine Ev.inBlock hl ?_ | refine Ev.label hl ?_ | (refine Ev.region hl ?_; simp only [List.size_toArray, List.length_cons, List.length_nil, Nat.reduceAdd, Nat.zero_add, List.range, List.range.loop]))
  (refine Ev.oper_k rfl rfl (by decide) (by kernel_rfl) hl (fun K hV hS => ?_); go_simp; (first | refine hV _ _ ⟨rfl, fun hl' => ?_⟩ | refine hS _ ⟨rfl, fun hl' => ?_⟩); clear K hV hS; replace hl := hl'; clear hl'; try walk_nrm)
  (first | refine Ev.seq hl ?_ | refine Ev.regionEnd hl ?_ | refine Ev.skip hl ?_ | refine Ev.block hl ?_ | refine Ev.loop hl ?_ | refine Ev.inLoop hl ?_ | refine Ev.inBlock hl ?_ | refine Ev.label hl ?_ | (refine Ev.region hl ?_; simp only [List.size_toArray, List.length_cons, List.length_nil, Nat.reduceAdd, Nat.zero_add, List.range, List.range.loop]))
  (first | refine Ev.seq hl ?_ | refine Ev.regionEnd hl ?_ | refine Ev.skip hl ?_ | refine Ev.block hl ?_ | refine Ev.loop hl ?_ | refine Ev.inLoop hl ?_ | refine Ev.inBlock hl ?_ | refine Ev.label hl ?_ | (refine Ev.region hl ?_; simp only [List.size_toArray, List.length_cons, List.length_nil, Nat.reduceAdd, Nat.zero_add, List.range, List.range.loop]))
  (first | refine Ev.seq hl ?_ | refine Ev.regionEnd hl ?_ | refine Ev.skip hl ?_ | refine Ev.block hl ?_ | refine Ev.loop hl ?_ | refine Ev.inLoop hl ?_ | refine Ev.inBlock hl ?_ | refine Ev.label hl ?_ | (refine Ev.region hl ?_; simp only [List.size_toArray, List.length_cons, List.length_nil, Nat.reduceAdd, Nat.zero_add, List.range, List.range.loop]))
  (refine Ev.oper_k rfl rfl (by decide) (by kernel_rfl) hl (fun K hV hS => ?_); go_simp; (first | refine hV _ _ ⟨rfl, fun hl' => ?_⟩ | refine hS _ ⟨rfl, fun hl' => ?_⟩); clear K hV hS; replace hl := hl'; clear hl'; try walk_nrm)
  refine Ev.oper_k rfl rfl (by decide) (by kernel_rfl) hl (fun K hV hS => ?_)
  go_simp
  refine hV _ _ ⟨hd1, fun hl' => ?_⟩
  clear K hV hS hrun
  replace hl := hl'
  clear hl'
  walk_nrm
  (refine Ev.oper_k rfl rfl (by decide) (by kernel_rfl) hl (fun K hV hS => ?_); go_simp; (first | refine hV _ _ ⟨rfl, fun hl' => ?_⟩ | refine hS _ ⟨rfl, fun hl' => ?_⟩); clear K hV hS; replace hl := hl'; clear hl'; try walk_nrm)
  (first | refine Ev.seq hl ?_ | refine Ev.regionEnd hl ?_ | refine Ev.skip hl ?_ | refine Ev.block hl ?_ | refine Ev.loop hl ?_ | refine Ev.inLoop hl ?_ | refine Ev.inBlock hl ?_ | refine Ev.label hl ?_ | (refine Ev.region hl ?_; simp only [List.size_toArray, List.length_cons, List.length_nil, Nat.reduceAdd, Nat.zero_add, List.range, List.range.loop]))
  (first | refine Ev.seq hl ?_ | refine Ev.regionEnd hl ?_ | refine Ev.skip hl ?_ | refine Ev.block hl ?_ | refine Ev.loop hl ?_ | refine Ev.inLoop hl ?_ | refine Ev.inBlock hl ?_ | refine Ev.label hl ?_ | (refine Ev.region hl ?_; simp only [List.size_toArray, List.length_cons, List.length_nil, Nat.reduceAdd, Nat.zero_add, List.range, List.range.loop]))
  (first | refine Ev.seq hl ?_ | refine Ev.regionEnd hl ?_ | refine Ev.skip hl ?_ | refine Ev.block hl ?_ | refine Ev.loop hl ?_ | refine Ev.inLoop hl ?_ | refine Ev.inBlock hl ?_ | refine Ev.label hl ?_ | (refine Ev.region hl ?_; simp only [List.size_toArray, List.length_cons, List.length_nil, Nat.reduceAdd, Nat.zero_add, List.range, List.range.loop]))
  (first | refine Ev.seq hl ?_ | refine Ev.regionEnd hl ?_ | refine Ev.skip hl ?_ | refine Ev.block hl ?_ | refine Ev.loop hl ?_ | refine Ev.inLoop hl ?_ | refine Ev.inBlock hl ?_ | refine Ev.label hl ?_ | (refine Ev.region hl ?_; simp only [List.size_toArray, List.length_cons, List.length_nil, Nat.reduceAdd, Nat.zero_add, List.range, List.range.loop]))
  (refine Ev.oper_k rfl rfl (by decide) (by kernel_rfl) hl (fun K hV hS => ?_); go_simp; (first | refine hV _ _ ⟨rfl, fun hl' => ?_⟩ | refine hS _ ⟨rfl, fun hl' => ?_⟩); clear K hV hS; replace hl := hl'; clear hl'; try walk_nrm)
  (refine Ev.oper_k rfl rfl (by decide) (by kernel_rfl) hl (fun K hV hS => ?_); go_simp; (first | refine hV _ _ ⟨rfl, fun hl' => ?_⟩ | refine hS _ ⟨rfl, fun hl' => ?_⟩); clear K hV hS; replace hl := hl'; clear hl'; try walk_nrm)
  (first | refine Ev.seq hl ?_ | refine Ev.regionEnd hl ?_ | refine Ev.skip hl ?_ | refine Ev.block hl ?_ | refine Ev.loop hl ?_ | refine Ev.inLoop hl ?_ | refine Ev.inBlock hl ?_ | refine Ev.label hl ?_ | (refine Ev.region hl ?_; simp only [List.size_toArray, List.length_cons, List.length_nil, Nat.reduceAdd, Nat.zero_add, List.range, List.range.loop]))
  (first | refine Ev.seq hl ?_ | refine Ev.regionEnd hl ?_ | refine Ev.skip hl ?_ | refine Ev.block hl ?_ | refine Ev.loop hl ?_ | refine Ev.inLoop hl ?_ | refine Ev.inBlock hl ?_ | refine Ev.label hl ?_ | (refine Ev.region hl ?_; simp only [List.size_toArray, List.length_cons, List.length_nil, Nat.reduceAdd, Nat.zero_add, List.range, List.range.loop]))
  (first | refine Ev.seq hl ?_ | refine Ev.regionEnd hl ?_ | refine Ev.skip hl ?_ | refine Ev.block hl ?_ | refine Ev.loop hl ?_ | refine Ev.inLoop hl ?_ | refine Ev.inBlock hl ?_ | refine Ev.label hl ?_ | (refine Ev.region hl ?_; simp only [List.size_toArray, List.length_cons, List.length_nil, Nat.reduceAdd, Nat.zero_add, List.range, List.range.loop]))
  have h1 := HO.out
  rw [made_int] at h1
  have nx := NX.out undef undef n 0 (by omega)
  simp only [headL, lLoop, lTail, lBody, Try.f112, Option.getD_some, Int.natCast_zero] at nx
  exact nx _ _ _ _ _ _ _ _ _ _ _ _ _ _ _ _ w1 hl o1 u1 (by simpa [genL] using h1)
end Go.Proofs.Ytibafngidpmgdab
