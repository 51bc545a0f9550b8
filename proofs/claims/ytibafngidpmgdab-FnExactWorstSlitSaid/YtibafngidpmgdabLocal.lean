/- What a tame computation does is local in the tape: two worlds that differ in their tape and in the count of draws alone go the same way as long as the answers that are drawn are the same; it lists quiet entries alone. -/
import Derived.Test.YtibafngidpmgdabRe
import Derived.Test.YtibafngidpmgdabTame
namespace Go.Proofs.Ytibafngidpmgdab
variable [GlobSize]
set_option linter.unusedSectionVars false
set_option linter.unusedSimpArgs false
set_option linter.unusedVariables false

/-- It is no variable that waits for its beginning. -/
def notPend : Obj → Prop
  | .pending _ _ => False
  | _ => True
theorem notPend_of {o : Obj} (h : notLoop o) : notPend o := by cases o <;> first | exact h.elim | exact True.intro
/-- All package-level variables have begun. -/
def NoLoops (w : World) : Prop := ∀ (r : Nat) (o : Obj), r < gsz → w.heap[r]? = some o → notPend o

theorem NoLoops.push {w : World} {o : Obj} (h : NoLoops w) (ho : notLoop o) : NoLoops { w with heap := w.heap.push o } := by
  intro r x hr hx
  simp only [Array.getElem?_push] at hx
  split at hx
  · cases hx; exact notPend_of ho
  · exact h r x hr hx
theorem NoLoops.set {w : World} {r : Nat} {o : Obj} (h : NoLoops w) (ho : notLoop o) : NoLoops { w with heap := w.heap.setIfInBounds r o } := by
  intro k x hr hx
  simp only [Array.getElem?_setIfInBounds] at hx
  split at hx
  · split at hx
    · cases hx; exact notPend_of ho
    · cases hx
  · exact h k x hr hx
theorem NoLoops.modify {w : World} {r : Nat} {f : Obj → Obj} (h : NoLoops w) (hf : ∀ o, notPend o → notPend (f o)) : NoLoops { w with heap := w.heap.modify r f } := by
  intro k x hr hx
  simp only [Array.getElem?_modify] at hx
  split at hx
  · obtain ⟨y, hy, rfl⟩ := Option.map_eq_some_iff.1 hx
    exact hf _ (h _ _ hr hy)
  · exact h k x hr hx
theorem NoLoops.setCell {w : World} {a : Addr} {v : Value} (h : NoLoops w) : NoLoops (w.setCell a v) :=
  h.modify fun o ho => by split <;> first | trivial | exact ho
theorem NoLoops.freeze {w : World} {a : Addr} {n : Nat} (h : NoLoops w) : NoLoops (w.freeze a n) := by
  unfold World.freeze
  split
  · exact h
  · exact h.modify fun o ho => by split <;> first | trivial | exact ho
theorem NoLoops.noCell {w : World} (h : NoLoops w) (a : Addr) (s : String) : haltOk (w.noCell a s) := by
  unfold World.noCell
  split
  · rename_i c e hv
    rcases Nat.lt_or_ge a.block gsz with hlt | hge
    · exact (h _ _ hlt hv).elim
    · exact hge
  · exact True.intro
  · exact True.intro

/-- The memory grows: a channel that stands behind a step in a place that was there before, stood there before, just so. -/
structure Grows (w w' : World) : Prop where
  size : w.heap.size ≤ w'.heap.size
  chans : ∀ r o, r < w.heap.size → w'.heap[r]? = some o → o.isChan = true → w.heap[r]? = some o

theorem Grows.refl (w : World) : Grows w w := ⟨Nat.le_refl _, fun _ _ _ h _ => h⟩
theorem Grows.same {w w' : World} (h : w'.heap = w.heap) : Grows w w' := ⟨by rw [h]; exact Nat.le_refl _, fun _ _ _ h' _ => by rw [h] at h'; exact h'⟩
theorem Grows.trans {a b c : World} (h : Grows a b) (h' : Grows b c) : Grows a c :=
  ⟨Nat.le_trans h.size h'.size, fun r o hr ho hc => h.chans r o hr (h'.chans r o (Nat.lt_of_lt_of_le hr h.size) ho hc) hc⟩
theorem Grows.push (w : World) (x : Obj) : Grows w { w with heap := w.heap.push x } := by
  refine ⟨by simp, fun r o hr ho _ => ?_⟩
  simp only [Array.getElem?_push] at ho
  rw [if_neg (by omega)] at ho
  exact ho
theorem Grows.set {w : World} {k : Nat} {x : Obj} (hx : x.isChan = false) : Grows w { w with heap := w.heap.setIfInBounds k x } := by
  refine ⟨by simp, fun r o hr ho hc => ?_⟩
  simp only [Array.getElem?_setIfInBounds] at ho
  split at ho
  · split at ho
    · cases ho; rw [hx] at hc; cases hc
    · cases ho
  · exact ho
theorem Grows.modify {w : World} {k : Nat} {f : Obj → Obj} (hf : ∀ o, (f o).isChan = true → f o = o) : Grows w { w with heap := w.heap.modify k f } := by
  refine ⟨by simp, fun r o hr ho hc => ?_⟩
  simp only [Array.getElem?_modify] at ho
  split at ho
  · obtain ⟨y, hy, rfl⟩ := Option.map_eq_some_iff.1 ho
    rw [hf y hc]
    exact hy
  · exact ho
theorem Grows.setCell (w : World) (a : Addr) (v : Value) : Grows w (w.setCell a v) :=
  Grows.modify fun o ho => by cases o <;> first | rfl | cases ho
theorem Grows.freeze (w : World) (a : Addr) (n : Nat) : Grows w (w.freeze a n) := by
  unfold World.freeze
  split
  · exact Grows.refl _
  · exact Grows.modify fun o ho => by cases o <;> first | rfl | cases ho

/-- A load through memory seen as another type does not hang on the tape. -/
theorem farLoad_re (P : Program) (w : World) (τ : Tape) (d : Nat) (a : Addr) (b : Bool) : (re w τ d).farLoad P a b = w.farLoad P a b := rfl

theorem far_halt {w : World} {P : Program} {a : Addr} {b : Bool} (hw : NoLoops w) {x : Halt} (h : w.farLoad P a b = .error x) : haltOk x := by
  unfold World.farLoad at h
  split at h
  · split at h
    · cases h
    · cases h; exact True.intro
  · cases h; exact hw.noCell _ _

theorem viewStore_re (P : Program) (w : World) (at_ : Addr) (u : TypeId) (k : Addr) (v : Value) (b : Bool) :
    (∃ why, ∀ τ d, (re w τ d).viewStore P at_ u k v b = .error why) ∨
    ∃ o l, (o.isChan = false ∧ notLoop o) ∧ ∀ τ d, (re w τ d).viewStore P at_ u k v b = .ok (re { w with heap := w.heap.setIfInBounds at_.block o } τ d, l) := by
  have hs : ∀ τ d, (re w τ d).seen P at_ u k b = w.seen P at_ u k b := fun _ _ => rfl
  unfold World.viewStore
  simp only [hs]
  cases ht : (!tight P P.depth u) with
  | true => exact .inl ⟨_, fun τ d => rfl⟩
  | false =>
    cases hx : w.seen P at_ u k b with
    | error why => exact .inl ⟨why, fun τ d => rfl⟩
    | ok x =>
      obtain ⟨c, e, f, first, like, cells⟩ := x
      cases hb : v.bytes? with
      | none => exact .inl ⟨_, fun τ d => rfl⟩
      | some bytes =>
        by_cases hl : some bytes.length ≠ like.bytes?.map (·.length)
        · exact .inl ⟨_, fun τ d => by simp only [bind, Except.bind, hl, if_true, ne_eq, not_false_eq_true]; rfl⟩
        · simp only [bind, Except.bind, hl, if_false, pure, Except.pure, Bool.false_eq_true]
          split
          · rename_i why _; exact .inl ⟨why, fun τ d => rfl⟩
          · rename_i c' _; exact .inr ⟨.cells c' e f, _, ⟨rfl, True.intro⟩, fun τ d => rfl⟩

theorem farStore_re {w : World} {P : Program} {a : Addr} {v : Value} {b : Bool} (hw : NoLoops w) :
    (∃ x, haltOk x ∧ w.farStore P a v b = .error x ∧ ∀ τ d, (re w τ d).farStore P a v b = .error x) ∨
    ∃ k o l, (o.isChan = false ∧ notLoop o) ∧ w.farStore P a v b = .ok ({ w with heap := w.heap.setIfInBounds k o }, l) ∧ ∀ τ d, (re w τ d).farStore P a v b = .ok (re { w with heap := w.heap.setIfInBounds k o } τ d, l) := by
  have hh : ∀ τ d, (re w τ d).heap[a.block]? = w.heap[a.block]? := fun _ _ => rfl
  have hn : ∀ τ d s, (re w τ d).noCell a s = w.noCell a s := fun _ _ _ => rfl
  unfold World.farStore
  simp only [hh, hn]
  cases hv : w.heap[a.block]? with
  | none => exact .inl ⟨_, hw.noCell _ _, rfl, fun _ _ => rfl⟩
  | some o =>
    cases o with
    | view at_ u =>
      rcases viewStore_re P w at_ u a v b with ⟨why, h1⟩ | ⟨o, l, ho, h1⟩
      · have h0 := h1 w.tape w.drawn
        rw [re_self] at h0
        exact .inl ⟨.unsupported (.unsafePointer why), True.intro, by simp only [h0], fun τ d => by simp only [h1 τ d]⟩
      · have h0 := h1 w.tape w.drawn
        rw [re_self] at h0
        exact .inr ⟨_, o, l, ho, by simp only [h0]; rfl, fun τ d => by simp only [h1 τ d]⟩
    | _ => exact .inl ⟨_, hw.noCell _ _, rfl, fun _ _ => rfl⟩

/-- What may be listed: memory, or 'noRoom', or that one of the library's functions is called; a channel is not changed. -/
def Quiet (e : Event) : Prop :=
  match e.loc with
  | .cell _ => True
  | .obj _ => e.write = true → e.sync = false
  | .mark .noRoom | .mark (.extern _) => True
  | _ => False

/-- What is said of a computation's result. -/
def Fine {α : Type} (Q : α → Prop) (w : World) (r : Result α × Array Event) (es : Array Event) : Prop :=
  (rworld r.1).tape = w.tape ∧ (rworld r.1).os = w.os ∧ (rworld r.1).output = w.output ∧ Grows w (rworld r.1) ∧ NoLoops (rworld r.1) ∧
  (match r.1 with | .ok a _ => Q a | .halt h _ => haltOk h) ∧ ∀ e ∈ r.2, e ∈ es ∨ Quiet e

section
variable {P : Program} {α : Type} {Q : α → Prop}

theorem Fine.of {w w' : World} {r : Result α × Array Event} {es es' : Array Event} (h : Fine Q w' r es') (h1 : w'.tape = w.tape) (h2 : w'.os = w.os) (h3 : w'.output = w.output) (h4 : Grows w w')
    (he : ∀ e ∈ es', e ∈ es ∨ Quiet e) : Fine Q w r es :=
  ⟨h.1.trans h1, h.2.1.trans h2, h.2.2.1.trans h3, h4.trans h.2.2.2.1, h.2.2.2.2.1, h.2.2.2.2.2.1, fun e hm => (h.2.2.2.2.2.2 e hm).elim (he e) .inr⟩
theorem push_of {es : Array Event} {x : Event} (hx : Quiet x) : ∀ e ∈ es.push x, e ∈ es ∨ Quiet e := fun e he => by
  rcases Array.mem_push.1 he with h | rfl
  · exact .inl h
  · exact .inr hx

theorem cells_of (es : Array Event) (l : List Addr) (f : Bool × Bool) : ∀ e ∈ es ++ l.toArray.map (fun a => (⟨.cell a, f.1, f.2⟩ : Event)), e ∈ es ∨ Quiet e := fun e he => by
  rcases Array.mem_append.1 he with h | h
  · exact .inl h
  · obtain ⟨a, _, rfl⟩ := Array.mem_map.1 h
    exact .inr True.intro

/-- It is fine, and so it goes from every world that differs in tape and count alone, the same answers being drawn. -/
theorem tame_local : ∀ {s : Sem α} (h : Tm P Q s) (w : World) (hw : NoLoops w) (es : Array Event),
    Fine Q w (s.runT P w es) es ∧ ∃ k, (rworld (s.runT P w es).1).drawn = w.drawn + k ∧ ∀ τ d, same k τ d w.tape w.drawn → s.runT P (re w τ d) es = (rre (s.runT P w es).1 τ (d + k), (s.runT P w es).2)
  | .pure a, h, w, hw, es => ⟨⟨rfl, rfl, rfl, Grows.refl _, hw, h, fun e he => .inl he⟩, 0, rfl, fun τ d _ => rfl⟩
  | .load m a k, h, w, hw, es => by
    unfold Sem.runT
    have hc : ∀ τ d, (re w τ d).cell? a = w.cell? a := fun _ _ => rfl
    simp only [hc]
    cases hv : w.cell? a with
    | some v =>
      have ⟨i1, i2⟩ := tame_local (h v) w hw (es.push ⟨.cell a, false, m == .atomic⟩)
      exact ⟨i1.of rfl rfl rfl (Grows.refl _) (push_of trivial), i2⟩
    | none =>
      simp only [farLoad_re]
      cases hf : w.farLoad P a (m == .atomic) with
      | error x => exact ⟨⟨rfl, rfl, rfl, Grows.refl _, hw, far_halt hw hf, fun e he => .inl he⟩, 0, rfl, fun τ d _ => rfl⟩
      | ok r =>
        obtain ⟨v, touched⟩ := r
        have ⟨i1, i2⟩ := tame_local (h v) w hw (es ++ touched.toArray.map (⟨.cell ·, false, m == .atomic⟩))
        exact ⟨i1.of rfl rfl rfl (Grows.refl _) (cells_of _ _ (false, m == .atomic)), i2⟩
  | .store m a v k, h, w, hw, es => by
    have hst : (∃ x y, (Sem.store m a v k).runT P x es = y) := ⟨w, _, rfl⟩
    by_cases hagg : ∃ c, v = .agg c
    · obtain ⟨c, rfl⟩ := hagg
      exact ⟨⟨rfl, rfl, rfl, Grows.refl _, hw, True.intro, fun e he => .inl he⟩, 0, rfl, fun τ d _ => rfl⟩
    by_cases htup : ∃ c, v = .tuple c
    · obtain ⟨c, rfl⟩ := htup
      exact ⟨⟨rfl, rfl, rfl, Grows.refl _, hw, True.intro, fun e he => .inl he⟩, 0, rfl, fun τ d _ => rfl⟩
    have e1 : ∀ x : World, (Sem.store m a v k).runT P x es = match x.cell? a with
      | some _ => if x.frozen? a then (.halt (.unsupported (.unsafePointer "a write to bytes that a string shares")) x, es) else k.runT P (x.setCell a v) (es.push ⟨.cell a, true, m == .atomic⟩)
      | none => match x.farStore P a v (m == .atomic) with
        | .ok (w, touched) => k.runT P w (es ++ touched.toArray.map (⟨.cell ·, true, m == .atomic⟩))
        | .error h => (.halt h x, es) := fun x => by
      cases v <;> first | rfl | exact absurd ⟨_, rfl⟩ hagg | exact absurd ⟨_, rfl⟩ htup
    simp only [e1]
    have hc : ∀ τ d, (re w τ d).cell? a = w.cell? a := fun _ _ => rfl
    have hz : ∀ τ d, (re w τ d).frozen? a = w.frozen? a := fun _ _ => rfl
    have hs : ∀ τ d, (re w τ d).setCell a v = re (w.setCell a v) τ d := fun _ _ => rfl
    simp only [hc, hz, hs]
    cases hv : w.cell? a with
    | some x =>
      dsimp only
      cases hfz : w.frozen? a with
      | true => exact ⟨⟨rfl, rfl, rfl, Grows.refl _, hw, True.intro, fun e he => .inl he⟩, 0, rfl, fun τ d _ => rfl⟩
      | false =>
        have ⟨i1, i2⟩ := tame_local (s := k) h (w.setCell a v) hw.setCell (es.push ⟨.cell a, true, m == .atomic⟩)
        exact ⟨i1.of rfl rfl rfl (Grows.setCell _ _ _) (push_of trivial), i2⟩
    | none =>
      rcases farStore_re (P := P) (v := v) (a := a) (b := m == .atomic) hw with ⟨x, hx, h1, h2⟩ | ⟨k', o, l, ho, h1, h2⟩
      · simp only [h1, h2]
        exact ⟨⟨rfl, rfl, rfl, Grows.refl _, hw, hx, fun e he => .inl he⟩, 0, rfl, fun τ d _ => rfl⟩
      · simp only [h1, h2]
        have ⟨i1, i2⟩ := tame_local (s := k) h { w with heap := w.heap.setIfInBounds k' o } (hw.set ho.2) (es ++ l.toArray.map (⟨.cell ·, true, m == .atomic⟩))
        exact ⟨i1.of rfl rfl rfl (Grows.set ho.1) (cells_of _ _ (true, m == .atomic)), i2⟩
  | .new o k, h, w, hw, es => by
    have ⟨i1, i2⟩ := tame_local (h.2 w.heap.size) { w with heap := w.heap.push o } (hw.push h.1) es
    exact ⟨i1.of rfl rfl rfl (Grows.push _ _) (fun e he => .inl he), i2⟩
  | .shape r k, h, w, hw, es => tame_local (h (w.shape? r)) w hw es
  | .freeze a n k, h, w, hw, es => by
    have ⟨i1, i2⟩ := tame_local (s := k) h (w.freeze a n) hw.freeze es
    have hs : ∀ τ d, (re w τ d).freeze a n = re (w.freeze a n) τ d := fun _ _ => by unfold World.freeze; split <;> rfl
    have h1 : (w.freeze a n).tape = w.tape ∧ (w.freeze a n).os = w.os ∧ (w.freeze a n).output = w.output ∧ Grows w (w.freeze a n) ∧ (w.freeze a n).drawn = w.drawn := by
      refine ⟨?_, ?_, ?_, Grows.freeze _ _ _, ?_⟩ <;> (unfold World.freeze; split <;> simp)
    obtain ⟨kk, j1, j2⟩ := i2
    refine ⟨i1.of h1.1 h1.2.1 h1.2.2.1 h1.2.2.2.1 (fun e he => .inl he), kk, ?_, fun τ d hsm => ?_⟩
    · show (rworld (k.runT P (w.freeze a n) es).1).drawn = _
      rw [j1, h1.2.2.2.2]
    · show k.runT P ((re w τ d).freeze a n) es = (rre (k.runT P (w.freeze a n) es).1 τ (d + kk), (k.runT P (w.freeze a n) es).2)
      rw [hs]
      exact j2 τ d (by rw [h1.1, h1.2.2.2.2]; exact hsm)
  | .frozen a k, h, w, hw, es => tame_local (h (w.frozen? a)) w hw es
  | .getObj r k, h, w, hw, es => by
    unfold Sem.runT
    have hc : ∀ τ d, (re w τ d).heap[r]? = w.heap[r]? := fun _ _ => rfl
    simp only [hc]
    cases ho : w.heap[r]? with
    | none => exact ⟨⟨rfl, rfl, rfl, Grows.refl _, hw, True.intro, fun e he => .inl he⟩, 0, rfl, fun τ d _ => rfl⟩
    | some o =>
      have ⟨i1, i2⟩ := tame_local (h o) w hw (es.push ⟨.obj r, false, o.isChan⟩)
      cases o <;> first
        | exact ⟨⟨rfl, rfl, rfl, Grows.refl _, hw, True.intro, fun e he => .inl he⟩, 0, rfl, fun τ d _ => rfl⟩
        | exact ⟨i1.of rfl rfl rfl (Grows.refl _) (push_of (fun x => by cases x)), i2⟩
  | .setObj r o k, h, w, hw, es => by
    unfold Sem.runT
    have hc : ∀ τ d, (re w τ d).heap[r]? = w.heap[r]? := fun _ _ => rfl
    simp only [hc]
    cases ho : w.heap[r]? with
    | none => exact ⟨⟨rfl, rfl, rfl, Grows.refl _, hw, True.intro, fun e he => .inl he⟩, 0, rfl, fun τ d _ => rfl⟩
    | some x =>
      have ⟨i1, i2⟩ := tame_local (s := k) h.2 { w with heap := w.heap.setIfInBounds r o } (hw.set h.1.2) (es.push ⟨.obj r, true, o.isChan⟩)
      cases x <;> first
        | exact ⟨⟨rfl, rfl, rfl, Grows.refl _, hw, True.intro, fun e he => .inl he⟩, 0, rfl, fun τ d _ => rfl⟩
        | exact ⟨i1.of rfl rfl rfl (Grows.set h.1.1) (push_of (fun _ => h.1.1)), i2⟩
  | .choose q k, h, w, hw, es => by
    unfold Sem.runT
    by_cases hq : q.forced = true
    · simp only [hq, if_true]
      exact tame_local (h 0) w hw es
    · simp only [hq, if_false, Bool.false_eq_true]
      have ⟨i1, i2⟩ := tame_local (h (q.cut (w.tape w.drawn q))) { w with drawn := w.drawn + 1 } hw es
      obtain ⟨kk, j1, j2⟩ := i2
      refine ⟨i1.of rfl rfl rfl (Grows.same rfl) (fun e he => .inl he), 1 + kk, by rw [j1]; simp only; omega, fun τ d hsm => ?_⟩
      have h0 : τ d = w.tape w.drawn := by have := hsm 0 (by omega); simpa using this
      have := j2 τ (d + 1) (same.right hsm)
      simp only [re] at this ⊢
      rw [h0, this]
      simp only [Nat.add_assoc]
  | .sys _ _, h, w, hw, es => h.elim
  | .program k, h, w, hw, es => tame_local (s := k P) h w hw es
  | .mark m k, h, w, hw, es => by
    have ⟨i1, i2⟩ := tame_local (s := k) h.2 w hw (es.push ⟨.mark m, false, true⟩)
    exact ⟨i1.of rfl rfl rfl (Grows.refl _) (push_of (by rw [h.1]; trivial)), i2⟩
  | .halt x, h, w, hw, es => ⟨⟨rfl, rfl, rfl, Grows.refl _, hw, h, fun e he => .inl he⟩, 0, rfl, fun τ d _ => rfl⟩
end
end Go.Proofs.Ytibafngidpmgdab
