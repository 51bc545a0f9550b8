/- sort.Search in company. (Printed by gen/mksearch.py.) -/
import Derived.Test.YtibafngidpmgdabSearch
namespace Go.Proofs.Ytibafngidpmgdab
open Go.Conc Go.RowKit
set_option linter.unusedSimpArgs false
set_option linter.unusedVariables false

abbrev sSearch1 : List FuncId := [115]
theorem ok_sSearch1 : CodeOk (statCal sSearch1) Try.prog (· ∈ sSearch1) := codeOk_of (by kernel_rfl)

noncomputable def hBody : Code := Try.f114.body.getD .skip
noncomputable def hLoop : Code := match hBody with | .seq _ (.seq _ (.seq (.block _ (.loop c)) _)) => c | _ => .skip
noncomputable def hTail : Code := match hBody with | .seq _ (.seq _ (.seq _ c)) => c | _ => .skip
def hBase : Frame := base 114


section
variable (m p q : Nat) (c0 : Frame) (cs : List Frame) (Stop : Goroutine → World → Prop) (main : Bool)

noncomputable def headH (i j : Int) (u2 u3 u4 u7 u8 u9 u10 u11 u12 u13 u14 u15 u16 u17 u18 u19 u20 u21 u22 u23 u24 u25 : Value) : Goroutine := G (hBase.at ⟨#[.int .i64 m, .func (.func 115) #[] #[.pointer (some ⟨p, 0, none⟩), .pointer (some ⟨q, 0, none⟩)], u2, u3, u4, .int .i64 i, .int .i64 j, u7, u8, u9, u10, u11, u12, u13, u14, u15, u16, u17, u18, u19, u20, u21, u22, u23, u24, u25], []⟩ [.code hLoop, .inLoop hLoop, .inBlock 0, .code hTail]) (c0 :: cs)

set_option maxHeartbeats 1000000 in
set_option maxRecDepth 100000 in
/-- A round. -/
theorem seg_search (i j h : Nat) (hij : i < j) (hj : j ≤ 1000) (hh : h = (i + j) / 2) (B : Bool) (u2 u3 u4 u7 u8 u9 u10 u11 u12 u13 u14 u15 u16 u17 u18 u19 u20 u21 u22 u23 u24 u25 : Value) (w : World) (hl : NoLoops w)
    (hC : Callee Try.prog 115 #[.int .i64 h, .pointer (some ⟨p, 0, none⟩), .pointer (some ⟨q, 0, none⟩)] w fun v w' => v = .bool B ∧ Old w w')
    (next : ∀ (v2 v3 v4 v7 v8 v9 v10 v11 v12 v13 v14 v15 v16 v17 v18 v19 v20 v21 v22 v23 v24 v25 : Value) (w1 : World), NoLoops w1 → Old w w1 → Outer w w1 → Ev Try.prog KeptD Stop main (headH m p q c0 cs (if B then i else (h : Int) + 1) (if B then h else j) v2 v3 v4 v7 v8 v9 v10 v11 v12 v13 v14 v15 v16 v17 v18 v19 v20 v21 v22 v23 v24 v25) w1) :
    Ev Try.prog KeptD Stop main (headH m p q c0 cs i j u2 u3 u4 u7 u8 u9 u10 u11 u12 u13 u14 u15 u16 u17 u18 u19 u20 u21 u22 u23 u24 u25) w := by
  have hlt : decide (i < j) = true := by simpa using hij
  have w1 : IntKind.i64.wrap ((i : Int) + j) = (i : Int) + j := by rw [IntKind.wrap_i64]; omega
  have w2 : IntKind.u64.wrap ((i : Int) + j) = (i : Int) + j := by rw [IntKind.wrap_u64]; omega
  have w4 : ((i : Int) + j) / 2 = (h : Int) := by omega
  have w5 : IntKind.i64.wrap (h : Int) = (h : Int) := by rw [IntKind.wrap_i64]; omega
  have w3 : IntKind.i64.wrap ((h : Int) + 1) = (h : Int) + 1 := by rw [IntKind.wrap_i64]; omega
  have NX := Lib.hid next
  have C := Lib.hid hC
  clear next hC hh
  simp only [headH, hLoop, hTail, hBody, Try.f114, Option.getD_some]
  repeat (first | (first | refine Ev.seq hl ?_ | refine Ev.regionEnd hl ?_ | refine Ev.skip hl ?_ | refine Ev.block hl ?_ | refine Ev.loop hl ?_ | refine Ev.inLoop hl ?_ | refine Ev.inBlock hl ?_ | refine Ev.label hl ?_ | (refine Ev.region hl ?_; simp only [List.size_toArray, List.length_cons, List.length_nil, Nat.reduceAdd, Nat.zero_add, List.range, List.range.loop])) | (refine Ev.oper_k rfl rfl (by decide) (by kernel_rfl) hl (fun K hV hS => ?_); go_simp; (first | refine hV _ _ ⟨rfl, fun hl' => ?_⟩ | refine hS _ ⟨rfl, fun hl' => ?_⟩); clear K hV hS; replace hl := hl'; clear hl'; try walk_nrm))
  (refine Ev.cond true hl rfl ?_; simp only [if_true, if_false, Bool.false_eq_true, ↓reduceIte])
  repeat (first | refine Ev.seq hl ?_ | refine Ev.regionEnd hl ?_ | refine Ev.skip hl ?_ | refine Ev.block hl ?_ | refine Ev.loop hl ?_ | refine Ev.inLoop hl ?_ | refine Ev.inBlock hl ?_ | refine Ev.label hl ?_ | (refine Ev.region hl ?_; simp only [List.size_toArray, List.length_cons, List.length_nil, Nat.reduceAdd, Nat.zero_add, List.range, List.range.loop]))
  (refine Ev.oper_k rfl rfl (by decide) (by kernel_rfl) hl (fun K hV hS => ?_); go_simp; (first | refine hV _ _ ⟨rfl, fun hl' => ?_⟩ | refine hS _ ⟨rfl, fun hl' => ?_⟩); clear K hV hS; replace hl := hl'; clear hl'; try walk_nrm)
  (refine Ev.oper_k rfl rfl (by decide) (by kernel_rfl) hl (fun K hV hS => ?_); go_simp; (first | refine hV _ _ ⟨rfl, fun hl' => ?_⟩ | refine hS _ ⟨rfl, fun hl' => ?_⟩); clear K hV hS; replace hl := hl'; clear hl'; try walk_nrm)
  (refine Ev.oper_k rfl rfl (by decide) (by kernel_rfl) hl (fun K hV hS => ?_); go_simp; (first | refine hV _ _ ⟨rfl, fun hl' => ?_⟩ | refine hS _ ⟨rfl, fun hl' => ?_⟩); clear K hV hS; replace hl := hl'; clear hl'; try walk_nrm)
  (refine Ev.oper_k rfl rfl (by decide) (by kernel_rfl) hl (fun K hV hS => ?_); go_simp; (first | refine hV _ _ ⟨rfl, fun hl' => ?_⟩ | refine hS _ ⟨rfl, fun hl' => ?_⟩); clear K hV hS; replace hl := hl'; clear hl'; try walk_nrm)
  (refine Ev.oper_k rfl rfl (by decide) (by kernel_rfl) hl (fun K hV hS => ?_); go_simp; (first | refine hV _ _ ⟨rfl, fun hl' => ?_⟩ | refine hS _ ⟨rfl, fun hl' => ?_⟩); clear K hV hS; replace hl := hl'; clear hl'; try walk_nrm)
  (refine Ev.oper_k rfl rfl (by decide) (by kernel_rfl) hl (fun K hV hS => ?_); go_simp; (first | refine hV _ _ ⟨rfl, fun hl' => ?_⟩ | refine hS _ ⟨rfl, fun hl' => ?_⟩); clear K hV hS; replace hl := hl'; clear hl'; try walk_nrm)
  (refine Ev.oper_k rfl rfl (by decide) (by kernel_rfl) hl (fun K hV hS => ?_); go_simp; (first | refine hV _ _ ⟨rfl, fun hl' => ?_⟩ | refine hS _ ⟨rfl, fun hl' => ?_⟩); clear K hV hS; replace hl := hl'; clear hl'; try walk_nrm)
  repeat (first | refine Ev.seq hl ?_ | refine Ev.regionEnd hl ?_ | refine Ev.skip hl ?_ | refine Ev.block hl ?_ | refine Ev.loop hl ?_ | refine Ev.inLoop hl ?_ | refine Ev.inBlock hl ?_ | refine Ev.label hl ?_ | (refine Ev.region hl ?_; simp only [List.size_toArray, List.length_cons, List.length_nil, Nat.reduceAdd, Nat.zero_add, List.range, List.range.loop]))
  (refine Ev.oper_k rfl rfl (by decide) (by kernel_rfl) hl (fun K hV hS => ?_); go_simp; (first | refine hV _ _ ⟨rfl, fun hl' => ?_⟩ | refine hS _ ⟨rfl, fun hl' => ?_⟩); clear K hV hS; replace hl := hl'; clear hl'; try walk_nrm)
  (refine Ev.oper_k rfl rfl (by decide) (by kernel_rfl) hl (fun K hV hS => ?_); go_simp; (first | refine hV _ _ ⟨rfl, fun hl' => ?_⟩ | refine hS _ ⟨rfl, fun hl' => ?_⟩); clear K hV hS; replace hl := hl'; clear hl'; try walk_nrm)
  refine Ev.callv (R := fun v w' => v = .bool B ∧ Old w w') rfl rfl rfl rfl (by decide) hl ?_ (fun v w1 hh hl1 u1 => ?_)
  · walk_nrm
    exact C.out
  obtain ⟨hv, o1⟩ := hh
  subst hv
  clear hl
  have hl := hl1
  clear hl1
  walk_nrm
  have nx := NX.out
  clear NX C
  simp only [headH, hLoop, hTail, hBody, Try.f114, Option.getD_some] at nx
  have NX := Lib.hid nx
  clear nx
  cases B with
  | true =>
    have N2 := NX.out
    simp only [if_true] at N2
    have N3 := Lib.hid N2
    clear N2 NX
    (refine Ev.oper_k rfl rfl (by decide) (by kernel_rfl) hl (fun K hV hS => ?_); go_simp; (first | refine hV _ _ ⟨rfl, fun hl' => ?_⟩ | refine hS _ ⟨rfl, fun hl' => ?_⟩); clear K hV hS; replace hl := hl'; clear hl'; try walk_nrm)
    (first | refine Ev.seq hl ?_ | refine Ev.regionEnd hl ?_ | refine Ev.skip hl ?_ | refine Ev.block hl ?_ | refine Ev.loop hl ?_ | refine Ev.inLoop hl ?_ | refine Ev.inBlock hl ?_ | refine Ev.label hl ?_ | (refine Ev.region hl ?_; simp only [List.size_toArray, List.length_cons, List.length_nil, Nat.reduceAdd, Nat.zero_add, List.range, List.range.loop]))
    (refine Ev.cond false hl rfl ?_; simp only [if_true, if_false, Bool.false_eq_true, ↓reduceIte])
    repeat (first | (first | refine Ev.regionEnd hl ?_ | refine Ev.skip hl ?_ | refine Ev.inLoop hl ?_ | refine Ev.inBlock hl ?_ | (refine Ev.region hl ?_; simp only [List.size_toArray, List.length_cons, List.length_nil, Nat.reduceAdd, Nat.zero_add, List.range, List.range.loop])) | (refine Ev.oper_k rfl rfl (by decide) (by kernel_rfl) hl (fun K hV hS => ?_); go_simp; (first | refine hV _ _ ⟨rfl, fun hl' => ?_⟩ | refine hS _ ⟨rfl, fun hl' => ?_⟩); clear K hV hS; replace hl := hl'; clear hl'; try walk_nrm))
    exact N3.out _ _ _ _ _ _ _ _ _ _ _ _ _ _ _ _ _ _ _ _ _ _ w1 hl o1 u1
  | false =>
    have N2 := NX.out
    simp only [Bool.false_eq_true, if_false] at N2
    have N3 := Lib.hid N2
    clear N2 NX
    (refine Ev.oper_k rfl rfl (by decide) (by kernel_rfl) hl (fun K hV hS => ?_); go_simp; (first | refine hV _ _ ⟨rfl, fun hl' => ?_⟩ | refine hS _ ⟨rfl, fun hl' => ?_⟩); clear K hV hS; replace hl := hl'; clear hl'; try walk_nrm)
    (first | refine Ev.seq hl ?_ | refine Ev.regionEnd hl ?_ | refine Ev.skip hl ?_ | refine Ev.block hl ?_ | refine Ev.loop hl ?_ | refine Ev.inLoop hl ?_ | refine Ev.inBlock hl ?_ | refine Ev.label hl ?_ | (refine Ev.region hl ?_; simp only [List.size_toArray, List.length_cons, List.length_nil, Nat.reduceAdd, Nat.zero_add, List.range, List.range.loop]))
    (refine Ev.cond true hl rfl ?_; simp only [if_true, if_false, Bool.false_eq_true, ↓reduceIte])
    repeat (first | (first | refine Ev.regionEnd hl ?_ | refine Ev.skip hl ?_ | refine Ev.inLoop hl ?_ | refine Ev.inBlock hl ?_ | (refine Ev.region hl ?_; simp only [List.size_toArray, List.length_cons, List.length_nil, Nat.reduceAdd, Nat.zero_add, List.range, List.range.loop])) | (refine Ev.oper_k rfl rfl (by decide) (by kernel_rfl) hl (fun K hV hS => ?_); go_simp; (first | refine hV _ _ ⟨rfl, fun hl' => ?_⟩ | refine hS _ ⟨rfl, fun hl' => ?_⟩); clear K hV hS; replace hl := hl'; clear hl'; try walk_nrm))
    exact N3.out _ _ _ _ _ _ _ _ _ _ _ _ _ _ _ _ _ _ _ _ _ _ w1 hl o1 u1

theorem resH (v : Value) {a : Array Value} (h4 : a.getD 4 undef = v) (w : World) : (results Try.f114 a).runT Try.prog w #[] = (.ok v w, #[]) := by
  subst h4
  simp [results, Try.results114]

set_option maxRecDepth 100000 in
/-- It is found. -/
theorem search_end (i : Nat) (u2 u3 u4 u7 u8 u9 u10 u11 u12 u13 u14 u15 u16 u17 u18 u19 u20 u21 u22 u23 u24 u25 : Value) (w : World) (hl : NoLoops w) (next : Ev Try.prog KeptD Stop main (G (c0.finish (.int .i64 i)) cs) w) : Ev Try.prog KeptD Stop main (headH m p q c0 cs i i u2 u3 u4 u7 u8 u9 u10 u11 u12 u13 u14 u15 u16 u17 u18 u19 u20 u21 u22 u23 u24 u25) w := by
  have hlt : decide (i < i) = false := by simp
  have NX := Lib.hid next
  clear next
  simp only [headH, hLoop, hTail, hBody, Try.f114, Option.getD_some]
  repeat (first | (first | refine Ev.seq hl ?_ | refine Ev.regionEnd hl ?_ | refine Ev.skip hl ?_ | refine Ev.block hl ?_ | refine Ev.loop hl ?_ | refine Ev.inLoop hl ?_ | refine Ev.inBlock hl ?_ | refine Ev.label hl ?_ | (refine Ev.region hl ?_; simp only [List.size_toArray, List.length_cons, List.length_nil, Nat.reduceAdd, Nat.zero_add, List.range, List.range.loop])) | (refine Ev.oper_k rfl rfl (by decide) (by kernel_rfl) hl (fun K hV hS => ?_); go_simp; (first | refine hV _ _ ⟨rfl, fun hl' => ?_⟩ | refine hS _ ⟨rfl, fun hl' => ?_⟩); clear K hV hS; replace hl := hl'; clear hl'; try walk_nrm))
  (refine Ev.cond false hl rfl ?_; simp only [if_true, if_false, Bool.false_eq_true, ↓reduceIte])
  (apply Ev.exit hl; rfl)
  repeat (first | (first | refine Ev.seq hl ?_ | refine Ev.regionEnd hl ?_ | refine Ev.skip hl ?_ | refine Ev.block hl ?_ | refine Ev.loop hl ?_ | refine Ev.inLoop hl ?_ | refine Ev.inBlock hl ?_ | refine Ev.label hl ?_ | (refine Ev.region hl ?_; simp only [List.size_toArray, List.length_cons, List.length_nil, Nat.reduceAdd, Nat.zero_add, List.range, List.range.loop])) | (refine Ev.oper_k rfl rfl (by decide) (by kernel_rfl) hl (fun K hV hS => ?_); go_simp; (first | refine hV _ _ ⟨rfl, fun hl' => ?_⟩ | refine hS _ ⟨rfl, fun hl' => ?_⟩); clear K hV hS; replace hl := hl'; clear hl'; try walk_nrm))
  refine Ev.retn hl ?_
  refine Ev.leave (v := .int .i64 i) hl rfl rfl rfl Try.func114 (fun x => ?_) NX.out
  refine resH (.int .i64 i) ?_ x
  walk_nrm

/-- From the head. -/
theorem search_from (hm : m ≤ 1000) (B : Nat → Bool) (W : World)
    (hC : ∀ h, h < m → ∀ w, Old W w → NoLoops w → Callee Try.prog 115 #[.int .i64 h, .pointer (some ⟨p, 0, none⟩), .pointer (some ⟨q, 0, none⟩)] w fun v w' => v = .bool (B h) ∧ Old w w')
    (next : ∀ (k : Nat) (w : World), k ≤ m → (k = 0 ∨ B (k - 1) = false) → (k = m ∨ B k = true) → NoLoops w → Old W w → Outer W w → Ev Try.prog KeptD Stop main (G (c0.finish (.int .i64 k)) cs) w) :
    ∀ (d i j : Nat), j - i ≤ d → i ≤ j → j ≤ m → (i = 0 ∨ B (i - 1) = false) → (j = m ∨ B j = true) → ∀ (u2 u3 u4 u7 u8 u9 u10 u11 u12 u13 u14 u15 u16 u17 u18 u19 u20 u21 u22 u23 u24 u25 : Value) (w : World), NoLoops w → Old W w → Outer W w → Ev Try.prog KeptD Stop main (headH m p q c0 cs i j u2 u3 u4 u7 u8 u9 u10 u11 u12 u13 u14 u15 u16 u17 u18 u19 u20 u21 u22 u23 u24 u25) w := by
  intro d
  induction d with
  | zero =>
    intro i j hd hij hj h1 h2 u2 u3 u4 u7 u8 u9 u10 u11 u12 u13 u14 u15 u16 u17 u18 u19 u20 u21 u22 u23 u24 u25 w hl o u
    obtain rfl : i = j := by omega
    exact search_end m p q c0 cs Stop main i u2 u3 u4 u7 u8 u9 u10 u11 u12 u13 u14 u15 u16 u17 u18 u19 u20 u21 u22 u23 u24 u25 w hl (next i w hj h1 h2 hl o u)
  | succ d ih =>
    intro i j hd hij hj h1 h2 u2 u3 u4 u7 u8 u9 u10 u11 u12 u13 u14 u15 u16 u17 u18 u19 u20 u21 u22 u23 u24 u25 w hl o u
    by_cases he : i = j
    · subst he
      exact search_end m p q c0 cs Stop main i u2 u3 u4 u7 u8 u9 u10 u11 u12 u13 u14 u15 u16 u17 u18 u19 u20 u21 u22 u23 u24 u25 w hl (next i w hj h1 h2 hl o u)
    · refine seg_search m p q c0 cs Stop main i j ((i + j) / 2) (by omega) (by omega) rfl (B ((i + j) / 2)) u2 u3 u4 u7 u8 u9 u10 u11 u12 u13 u14 u15 u16 u17 u18 u19 u20 u21 u22 u23 u24 u25 w hl (hC _ (by omega) w o hl) fun v2 v3 v4 v7 v8 v9 v10 v11 v12 v13 v14 v15 v16 v17 v18 v19 v20 v21 v22 v23 v24 v25 w1 hl1 o1 u1 => ?_
      cases hB : B ((i + j) / 2) with
      | true =>
        simp only [if_true]
        exact ih i ((i + j) / 2) (by omega) (by omega) (by omega) h1 (.inr hB) v2 v3 v4 v7 v8 v9 v10 v11 v12 v13 v14 v15 v16 v17 v18 v19 v20 v21 v22 v23 v24 v25 w1 hl1 (o.trans o1) (u.trans u1)
      | false =>
        simp only [Bool.false_eq_true, if_false]
        have e1 : (((i + j) / 2 : Nat) : Int) + 1 = (((i + j) / 2 + 1 : Nat) : Int) := by omega
        rw [e1]
        exact ih ((i + j) / 2 + 1) j (by omega) (by omega) hj (.inr (by simpa using hB)) h2 v2 v3 v4 v7 v8 v9 v10 v11 v12 v13 v14 v15 v16 v17 v18 v19 v20 v21 v22 v23 v24 v25 w1 hl1 (o.trans o1) (u.trans u1)
end

theorem enterH (n : Nat) (v : Value) : Frame.enter Try.prog 114 #[.int .i64 n, v] .normal = hBase.at ⟨#[.int .i64 n, v, undef, undef, undef, undef, undef, undef, undef, undef, undef, undef, undef, undef, undef, undef, undef, undef, undef, undef, undef, undef, undef, undef, undef, undef], []⟩ [.code hBody] := by
  have hb : Try.f114.body = some hBody := by simp only [hBody, Try.f114, Option.getD_some]
  rw [enter_at (c := hBody) _ Try.func114 hb, Try.ntmps114]
  generalize hBody = q
  simp only [hBase, List.size_toArray, List.length_cons, List.length_nil, Nat.reduceAdd, Nat.reduceSub, Array.replicate_succ, Array.replicate_zero, List.push_toArray, List.append_toArray, List.nil_append, List.cons_append]

set_option maxHeartbeats 1000000 in
set_option maxRecDepth 100000 in
/-- sort.Search with this closure. -/
theorem search_ev (m p q : Nat) (hm : m ≤ 1000) (B : Nat → Bool) (w : World)
    (hC : ∀ h, h < m → ∀ u, Old w u → NoLoops u → Callee Try.prog 115 #[.int .i64 h, .pointer (some ⟨p, 0, none⟩), .pointer (some ⟨q, 0, none⟩)] u fun v w' => v = .bool (B h) ∧ Old u w') :
    Callee Try.prog 114 #[.int .i64 m, .func (.func 115) #[] #[.pointer (some ⟨p, 0, none⟩), .pointer (some ⟨q, 0, none⟩)]] w
      fun v w' => (∃ k : Nat, v = .int .i64 k ∧ k ≤ m ∧ (k = 0 ∨ B (k - 1) = false) ∧ (k = m ∨ B k = true)) ∧ Old w w' := by
  refine ⟨⟨Try.f114, Try.func114, by kernel_rfl, by kernel_rfl⟩, fun main c0 cs Stop next hl => ?_⟩
  have NX := Lib.hid (search_from m p q c0 cs Stop main hm B w hC (fun k w' h1 h2 h3 hl' o' u' => next _ w' ⟨⟨k, rfl, h1, h2, h3⟩, o'⟩ hl' u') m 0 m (by omega) (by omega) (Nat.le_refl _) (.inl rfl) (.inl rfl))
  clear next hC
  rw [enterH]
  simp only [hBody, Try.f114, Option.getD_some]
  (first | refine Ev.seq hl ?_ | refine Ev.regionEnd hl ?_ | refine Ev.skip hl ?_ | refine Ev.block hl ?_ | refine Ev.loop hl ?_ | refine Ev.inLoop hl ?_ | refine Ev.inBlock hl ?_ | refine Ev.label hl ?_ | (refine Ev.region hl ?_; simp only [List.size_toArray, List.length_cons, List.length_nil, Nat.reduceAdd, Nat.zero_add, List.range, List.range.loop]))
  (first | refine Ev.seq hl ?_ | refine Ev.regionEnd hl ?_ | refine Ev.skip hl ?_ | refine Ev.block hl ?_ | refine Ev.loop hl ?_ | refine Ev.inLoop hl ?_ | refine Ev.inBlock hl ?_ | refine Ev.label hl ?_ | (refine Ev.region hl ?_; simp only [List.size_toArray, List.length_cons, List.length_nil, Nat.reduceAdd, Nat.zero_add, List.range, List.range.loop]))
  (refine Ev.oper_k rfl rfl (by decide) (by kernel_rfl) hl (fun K hV hS => ?_); go_simp; (first | refine hV _ _ ⟨rfl, fun hl' => ?_⟩ | refine hS _ ⟨rfl, fun hl' => ?_⟩); clear K hV hS; replace hl := hl'; clear hl'; try walk_nrm)
  (first | refine Ev.seq hl ?_ | refine Ev.regionEnd hl ?_ | refine Ev.skip hl ?_ | refine Ev.block hl ?_ | refine Ev.loop hl ?_ | refine Ev.inLoop hl ?_ | refine Ev.inBlock hl ?_ | refine Ev.label hl ?_ | (refine Ev.region hl ?_; simp only [List.size_toArray, List.length_cons, List.length_nil, Nat.reduceAdd, Nat.zero_add, List.range, List.range.loop]))
  (first | refine Ev.seq hl ?_ | refine Ev.regionEnd hl ?_ | refine Ev.skip hl ?_ | refine Ev.block hl ?_ | refine Ev.loop hl ?_ | refine Ev.inLoop hl ?_ | refine Ev.inBlock hl ?_ | refine Ev.label hl ?_ | (refine Ev.region hl ?_; simp only [List.size_toArray, List.length_cons, List.length_nil, Nat.reduceAdd, Nat.zero_add, List.range, List.range.loop]))
  (first | refine Ev.seq hl ?_ | refine Ev.regionEnd hl ?_ | refine Ev.skip hl ?_ | refine Ev.block hl ?_ | refine Ev.loop hl ?_ | refine Ev.inLoop hl ?_ | refine Ev.inBlock hl ?_ | refine Ev.label hl ?_ | (refine Ev.region hl ?_; simp only [List.size_toArray, List.length_cons, List.length_nil, Nat.reduceAdd, Nat.zero_add, List.range, List.range.loop]))
  (refine Ev.oper_k rfl rfl (by decide) (by kernel_rfl) hl (fun K hV hS => ?_); go_simp; (first | refine hV _ _ ⟨rfl, fun hl' => ?_⟩ | refine hS _ ⟨rfl, fun hl' => ?_⟩); clear K hV hS; replace hl := hl'; clear hl'; try walk_nrm)
  (refine Ev.oper_k rfl rfl (by decide) (by kernel_rfl) hl (fun K hV hS => ?_); go_simp; (first | refine hV _ _ ⟨rfl, fun hl' => ?_⟩ | refine hS _ ⟨rfl, fun hl' => ?_⟩); clear K hV hS; replace hl := hl'; clear hl'; try walk_nrm)
  (refine Ev.oper_k rfl rfl (by decide) (by kernel_rfl) hl (fun K hV hS => ?_); go_simp; (first | refine hV _ _ ⟨rfl, fun hl' => ?_⟩ | refine hS _ ⟨rfl, fun hl' => ?_⟩); clear K hV hS; replace hl := hl'; clear hl'; try walk_nrm)
  (first | refine Ev.seq hl ?_ | refine Ev.regionEnd hl ?_ | refine Ev.skip hl ?_ | refine Ev.block hl ?_ | refine Ev.loop hl ?_ | refine Ev.inLoop hl ?_ | refine Ev.inBlock hl ?_ | refine Ev.label hl ?_ | (refine Ev.region hl ?_; simp only [List.size_toArray, List.length_cons, List.length_nil, Nat.reduceAdd, Nat.zero_add, List.range, List.range.loop]))
  (first | refine Ev.seq hl ?_ | refine Ev.regionEnd hl ?_ | refine Ev.skip hl ?_ | refine Ev.block hl ?_ | refine Ev.loop hl ?_ | refine Ev.inLoop hl ?_ | refine Ev.inBlock hl ?_ | refine Ev.label hl ?_ | (refine Ev.region hl ?_; simp only [List.size_toArray, List.length_cons, List.length_nil, Nat.reduceAdd, Nat.zero_add, List.range, List.range.loop]))
  (first | refine Ev.seq hl ?_ | refine Ev.regionEnd hl ?_ | refine Ev.skip hl ?_ | refine Ev.block hl ?_ | refine Ev.loop hl ?_ | refine Ev.inLoop hl ?_ | refine Ev.inBlock hl ?_ | refine Ev.label hl ?_ | (refine Ev.region hl ?_; simp only [List.size_toArray, List.length_cons, List.length_nil, Nat.reduceAdd, Nat.zero_add, List.range, List.range.loop]))
  (first | refine Ev.seq hl ?_ | refine Ev.regionEnd hl ?_ | refine Ev.skip hl ?_ | refine Ev.block hl ?_ | refine Ev.loop hl ?_ | refine Ev.inLoop hl ?_ | refine Ev.inBlock hl ?_ | refine Ev.label hl ?_ | (refine Ev.region hl ?_; simp only [List.size_toArray, List.length_cons, List.length_nil, Nat.reduceAdd, Nat.zero_add, List.range, List.range.loop]))
  have nx := NX.out
  simp only [headH, hLoop, hTail, hBody, Try.f114, Option.getD_some, Int.natCast_zero] at nx
  exact nx _ _ _ _ _ _ _ _ _ _ _ _ _ _ _ _ _ _ _ _ _ _ w hl (Old.refl _) ⟨rfl, rfl, rfl⟩
end Go.Proofs.Ytibafngidpmgdab
