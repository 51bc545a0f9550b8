/- impl.Drum.nearestDistance in company. (Printed by gen/mknear2.py.) -/
import Derived.Test.YtibafngidpmgdabNearT
namespace Go.Proofs.Ytibafngidpmgdab
open Go.Conc Go.RowKit
set_option linter.unusedSimpArgs false
set_option linter.unusedVariables false

abbrev sNearT : List FuncId := [116, 117, 119, 108]
theorem ok_sNearT : CodeOk (statCal sNearT) Try.prog (· ∈ sNearT) := codeOk_of (by kernel_rfl)
theorem ok_nTail : codeOk (statCal sNearT) Try.prog nTail = true := by kernel_rfl

theorem search1_ev (g p q m cap i : Nat) (t x : Int) (w : World) (c1 : w.cell? ⟨p, 0, none⟩ = some (.slice (some ⟨g, 0, none⟩) m cap)) (c2 : w.cell? ⟨q, 0, none⟩ = some (.int .i64 x)) (hi : i < m) (hc : w.cell? ⟨g, i, none⟩ = some (.int .i64 t)) :
    Callee Try.prog 115 #[.int .i64 i, .pointer (some ⟨p, 0, none⟩), .pointer (some ⟨q, 0, none⟩)] w fun v w' => v = .bool (decide (x ≤ t)) ∧ Old w w' :=
  callee_plain ok_sSearch1 (by simp) (fun τ d => (search1_any g p q m cap i t x (re w τ d) c1 c2 hi hc).mono fun e w' ⟨h1, h2⟩ => ⟨_, h1, rfl, Old.of h2⟩) fun v w' τ d hh => ⟨hh.1, hh.2.re τ d⟩

theorem enterN (r h s x : Int) (g m cap : Nat) : Frame.enter Try.prog 101 #[dr r h s, .slice (some ⟨g, 0, none⟩) m cap, .int .i64 x] .normal = (base 101).at ⟨#[dr r h s, .slice (some ⟨g, 0, none⟩) m cap, .int .i64 x, undef, undef, undef, undef, undef, undef, undef, undef, undef, undef, undef, undef, undef, undef, undef, undef, undef, undef, undef, undef, undef, undef, undef], []⟩ [.code nBody] := by
  have hb : Try.f101.body = some nBody := by simp only [nBody, Try.f101, Option.getD_some]
  rw [enter_at (c := nBody) _ Try.func101 hb, Try.ntmps101]
  generalize nBody = q
  simp only [List.size_toArray, List.length_cons, List.length_nil, Nat.reduceAdd, Nat.reduceSub, Array.replicate_succ, Array.replicate_zero, List.push_toArray, List.append_toArray, List.nil_append, List.cons_append]

theorem Old.cell {w w' : World} (h : Old w w') {a : Addr} {v : Value} (ha : a.block < w.heap.size) (hc : w.cell? a = some v) : w'.cell? a = some v := by
  rw [World.cell?_of_block (h.block a.block ha)]
  exact hc

/-- What nearestDistance hands over. -/
def NearOf (r x : Int) (ts : List Int) (v : Value) : Prop :=
  ∃ k : Nat, k ≤ ts.length ∧ (k = 0 ∨ ts.getD (k - 1) 0 < x) ∧ (k = ts.length ∨ x ≤ ts.getD k 0) ∧ v = .int .i64 (min (circI r x (ringI ts k)) (circI r x (ringI ts ((k : Int) - 1))))

set_option maxHeartbeats 1000000 in
set_option maxRecDepth 100000 in
/-- impl.Drum.nearestDistance. -/
theorem nearest_ev (r h s x : Int) (tv : Value) (ts : List Int) (w : World) (hv : Row0 w tv ts) (h1 : 1 ≤ ts.length) (h2 : ts.length ≤ 1000) (r1 : 0 ≤ r ∧ r ≤ 10000) (x1 : 0 ≤ x ∧ x ≤ 10000) (hb : ∀ k, 0 ≤ ringI ts k ∧ ringI ts k ≤ 10000) :
    Callee Try.prog 101 #[dr r h s, tv, .int .i64 x] w fun v w' => NearOf r x ts v ∧ Old w w' := by
  refine ⟨⟨Try.f101, Try.func101, by kernel_rfl, by kernel_rfl⟩, fun main c0 cs Stop next hl => ?_⟩
  have NX := Lib.hid next
  clear next
  obtain ⟨g, cap, rfl, hc⟩ := hv
  have hg : g < w.heap.size := by
    have := hc 0 (by omega)
    rcases Nat.lt_or_ge g w.heap.size with h' | h'
    · exact h'
    · simp [World.cell?, Array.getElem?_eq_none h'] at this
  generalize hm : ts.length = m at *
  generalize hW : ((w.alloc (.cells #[.int .i64 r, .int .i64 h, .int .i64 s] 53)).alloc (.cells #[.slice (some ⟨g, 0, none⟩) m cap] 131)).alloc (.cells #[.int .i64 x] 2) = W
  have o0 : Old w W := by rw [← hW]; exact (Old.alloc _ _).trans ((Old.alloc _ _).trans (Old.alloc _ _))
  have u0 : Outer w W := by rw [← hW]; exact ⟨rfl, rfl, rfl⟩
  have s0 : W.heap.size = w.heap.size + 3 := by rw [← hW]; simp only [World.size_alloc]
  have b3 : W.heap[w.heap.size]? = some (.cells #[.int .i64 r, .int .i64 h, .int .i64 s] 53) := by
    rw [← hW, (Old.alloc _ _).block _ (by simp only [World.size_alloc]; omega), (Old.alloc _ _).block _ (by simp only [World.size_alloc]; omega)]
    exact heapNew _ _
  have b4 : W.heap[w.heap.size + 1]? = some (.cells #[.slice (some ⟨g, 0, none⟩) m cap] 131) := by
    rw [← hW, (Old.alloc _ _).block _ (by simp only [World.size_alloc]; omega)]
    have := heapNew (w.alloc (.cells #[.int .i64 r, .int .i64 h, .int .i64 s] 53)) (.cells #[.slice (some ⟨g, 0, none⟩) m cap] 131)
    simpa only [World.size_alloc] using this
  have b5 : W.heap[w.heap.size + 1 + 1]? = some (.cells #[.int .i64 x] 2) := by
    rw [← hW]
    have := heapNew ((w.alloc (.cells #[.int .i64 r, .int .i64 h, .int .i64 s] 53)).alloc (.cells #[.slice (some ⟨g, 0, none⟩) m cap] 131)) (.cells #[.int .i64 x] 2)
    simpa only [World.size_alloc] using this
  have c4 : W.cell? ⟨w.heap.size + 1, 0, none⟩ = some (.slice (some ⟨g, 0, none⟩) m cap) := by simp [World.cell?, b4]
  have c5 : W.cell? ⟨w.heap.size + 1 + 1, 0, none⟩ = some (.int .i64 x) := by simp [World.cell?, b5]
  have hcW : ∀ j, j < m → W.cell? ⟨g, j, none⟩ = some (.int .i64 (ts.getD j 0)) := fun j hj => o0.cell hg (hc j hj)
  have SE := Lib.hid (search_ev m (w.heap.size + 1) (w.heap.size + 1 + 1) h2 (fun i => decide (x ≤ ts.getD i 0)) W fun i hi u hu _ =>
    search1_ev g (w.heap.size + 1) (w.heap.size + 1 + 1) m cap i (ts.getD i 0) x u (hu.cell (by simp only; omega) c4) (hu.cell (by simp only; omega) c5) hi (hu.cell (by simp only; omega) (hcW i hi)))
  have FACTS := Lib.hid (And.intro b3 (And.intro c4 (And.intro c5 hcW)))
  have HB := Lib.hid hb
  have HW := Lib.hid hW
  clear hW b3 b4 b5 hcW hc hb
  clear c4 c5
  rw [enterN]
  simp only [nBody, Try.f101, Option.getD_some]
  repeat (first | (first | refine Ev.seq hl ?_ | refine Ev.regionEnd hl ?_ | refine Ev.skip hl ?_ | refine Ev.block hl ?_ | refine Ev.loop hl ?_ | refine Ev.inLoop hl ?_ | refine Ev.inBlock hl ?_ | refine Ev.label hl ?_ | (refine Ev.region hl ?_; simp only [List.size_toArray, List.length_cons, List.length_nil, Nat.reduceAdd, Nat.zero_add, List.range, List.range.loop])) | (refine Ev.oper_k rfl rfl (by decide) (by kernel_rfl) hl (fun K hV hS => ?_); go_simp; (first | refine hV _ _ ⟨rfl, fun hl' => ?_⟩ | refine hS _ ⟨rfl, fun hl' => ?_⟩); clear K hV hS; replace hl := hl'; clear hl'; try walk_nrm))
  rw [HW.out] at hl ⊢
  refine Ev.call (R := fun v w' => (∃ k : Nat, v = .int .i64 k ∧ k ≤ m ∧ (k = 0 ∨ decide (x ≤ ts.getD (k - 1) 0) = false) ∧ (k = m ∨ decide (x ≤ ts.getD k 0) = true)) ∧ Old W w') rfl rfl rfl (by decide) hl ?_ (fun v w1 hh hl1 u1 => ?_)
  · walk_nrm
    exact SE.out
  obtain ⟨⟨k, rfl, hk, hk1, hk2⟩, o1⟩ := hh
  clear hl SE
  have hl := hl1
  clear hl1
  walk_nrm
  (refine Ev.oper_k rfl rfl (by decide) (by kernel_rfl) hl (fun K hV hS => ?_); go_simp; (first | refine hV _ _ ⟨rfl, fun hl' => ?_⟩ | refine hS _ ⟨rfl, fun hl' => ?_⟩); clear K hV hS; replace hl := hl'; clear hl'; try walk_nrm)
  (first | refine Ev.seq hl ?_ | refine Ev.regionEnd hl ?_ | refine Ev.skip hl ?_ | refine Ev.block hl ?_ | refine Ev.loop hl ?_ | refine Ev.inLoop hl ?_ | refine Ev.inBlock hl ?_ | refine Ev.label hl ?_ | (refine Ev.region hl ?_; simp only [List.size_toArray, List.length_cons, List.length_nil, Nat.reduceAdd, Nat.zero_add, List.range, List.range.loop]))
  obtain ⟨C, hCe⟩ : ∃ C, C = nTail := ⟨_, rfl⟩
  have hC' := hCe
  simp only [nTail, nBody, Try.f101, Option.getD_some] at hC'
  rw [← hC', hCe]
  clear hC' hCe C
  obtain ⟨b3, c4, c5, hcW⟩ := FACTS.out
  have B1 : Bd w1 w.heap.size r h s := bdBlock ((o1.block _ (by omega)).trans b3)
  have c4' := o1.cell (a := ⟨w.heap.size + 1, 0, none⟩) (by simp only; omega) c4
  have c5' := o1.cell (a := ⟨w.heap.size + 1 + 1, 0, none⟩) (by simp only; omega) c5
  have hR : RdI w1 (some ⟨g, 0, none⟩) m ts := ⟨hm, by omega, .inr ⟨g, rfl, o1.lt (o0.lt hg), fun j hj => o1.cell (by simp only; exact o0.lt hg) (hcW j hj)⟩⟩
  have sz := o1.size
  refine Ev.ret ok_sNearT (ev_tail (fn := Try.f101) (R := fun e w' => ∃ v, e = .returned v ∧ v = .int .i64 (min (circI r x (ringI ts k)) (circI r x (ringI ts ((k : Int) - 1)))) ∧ Old w1 w') ok_sNearT rfl Try.func101
    ⟨Try.f101, nBody, Try.func101, by kernel_rfl, by simp only [nBody, Try.f101, Option.getD_some]⟩ rfl ok_nTail (fun τ d => ?_) (fun e w' τ d ⟨v, h1, h2, h3⟩ => ⟨v, h1, h2, h3.re τ d⟩) (fun w' ⟨v, h1, _⟩ => by cases h1) hl)
    (fun e w' ⟨v, h1, _⟩ => ⟨v, h1⟩) (fun v w' ⟨v', h1, h2, h3⟩ hl' ho => ?_)
  · refine wp_mono (near_tail w.heap.size (w.heap.size + 1) (w.heap.size + 1 + 1) r h s x _ _ k (some ⟨g, 0, none⟩) m cap ts (re w1 τ d) ⟨B1.c0, B1.c1, B1.c2, B1.lt⟩ c4' (by simp only [re_heap]; omega) c5' (by simp only [re_heap]; omega) hR h1 (by omega) r1 x1 rfl (HB.out _) rfl (HB.out _) _ _ _ _ _ _ _ _ _ _ _ _ _ _ _ _ _ _ _ _ _ _) ?_
    intro e a' w' hq
    cases e with
    | normal => obtain ⟨q1, v, q2, q3, q4⟩ := hq; exact ⟨q1, v, q2, v, rfl, by injection q3, Old.of q4⟩
    | ret => obtain ⟨q1, v, q2, q3, q4⟩ := hq; exact ⟨q1, v, q2, v, rfl, by injection q3, Old.of q4⟩
    | panic ch => obtain ⟨_, q, _⟩ := hq; cases q
    | outgrown => obtain ⟨q, _⟩ := hq; cases q
    | exit id => exact hq.elim
    | goto l => exact hq.elim
  · cases h1
    refine NX.out _ w' ⟨⟨k, by rw [hm]; exact hk, hk1.imp id (fun q => by simpa using q), ?_, h2⟩, o0.trans (o1.trans h3)⟩ hl' (u0.trans (u1.trans ho))
    rw [hm]
    exact hk2.imp id (fun q => by simpa using q)
end Go.Proofs.Ytibafngidpmgdab
