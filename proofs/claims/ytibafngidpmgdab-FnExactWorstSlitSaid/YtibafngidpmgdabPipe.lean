/- A goroutine that sends, makes memory and closes (goroutine 1), and one that receives till it is closed (goroutine 0): on every tape the run ends. Part 1: the trace; the scripts. -/
import Derived.Test.YtibafngidpmgdabEv
import Derived.Conc.Pipeline3
import Derived.Conc.Know
namespace Go.Proofs.Ytibafngidpmgdab
variable [GlobSize]
set_option linter.unusedSectionVars false
open Go.Conc
set_option linter.unusedSimpArgs false
set_option linter.unusedVariables false

/-! ### the trace -/

theorem Still.neutral {e : Event} (h : Still e) : ∀ m, e.loc = .mark m → Neutral m := by
  obtain ⟨loc, wr, sy⟩ := e
  intro m hm
  subst hm
  cases m <;> first | rfl | exact h.elim
theorem still_ops {g : Nat} {fn : FuncId} {pos : String} {es : Array Event} (h : ∀ e ∈ es, Still e) : Wordless (MemOp.ofEvents g fn pos es) ∧ ∀ op ∈ MemOp.ofEvents g fn pos es, op.g = g := by
  rw [ofEvents_eq]
  refine ⟨fun op hop => ?_, fun op hop => ?_⟩ <;> obtain ⟨e, he, rfl⟩ := Array.mem_map.1 hop
  · exact ofEvent_noMark (h e he).neutral
  · rfl

/-- Goroutine 0 has started goroutine 1 at p, and touches nothing since. -/
structure TrO (t : Trace) (p : Nat) : Prop where
  wordless : Wordless t
  go : ∃ op, t[p]? = some op ∧ op.g = 0 ∧ op.act = .go 1
  start : ∃ op, t[p + 1]? = some op ∧ op.g = 1 ∧ op.act = .start
  early : ∀ i op, t[i]? = some op → i < p → op.g = 0
  late : ∀ i op, t[i]? = some op → p + 1 < i → op.g = 1 ∨ (op.g = 0 ∧ op.act.touch? = none)

theorem TrO.append {t u : Trace} {p : Nat} (h : TrO t p) (hw : Wordless u) (hu : ∀ op ∈ u, op.g = 1 ∨ (op.g = 0 ∧ op.act.touch? = none)) : TrO (t ++ u) p := by
  obtain ⟨g, hg, hg1, hg2⟩ := h.go
  obtain ⟨s, hs, hs1, hs2⟩ := h.start
  have hp1 := lt_size_of_getElem? hs
  refine ⟨h.wordless.append hw, ⟨g, by rw [getElem?_append_old (by omega)]; exact hg, hg1, hg2⟩, ⟨s, by rw [getElem?_append_old hp1]; exact hs, hs1, hs2⟩, fun i op hi hlt => ?_, fun i op hi hlt => ?_⟩
  · rw [getElem?_append_old (by omega)] at hi; exact h.early i op hi hlt
  · rcases getElem?_append_cases hi with ⟨_, hi'⟩ | ⟨_, hm⟩
    · exact h.late i op hi' hlt
    · exact hu op hm
theorem TrO.add1 {t : Trace} {p : Nat} (h : TrO t p) {fn : FuncId} {pos : String} {es : Array Event} (hes : ∀ e ∈ es, Still e) : TrO (t ++ MemOp.ofEvents 1 fn pos es) p :=
  h.append (still_ops hes).1 fun op hop => .inl ((still_ops hes).2 op hop)
theorem TrO.comm {t : Trace} {p : Nat} (h : TrO t p) (ops : Array MemOp) (ho : ∀ op ∈ ops, (op.g = 0 ∨ op.g = 1) ∧ op.act.touch? = none ∧ ∀ m, op.act = .mark m → Neutral m) : TrO (t ++ ops) p :=
  h.append (fun op hop => (ho op hop).2.2) fun op hop => (ho op hop).1.elim (fun e => .inr ⟨e, (ho op hop).2.1⟩) .inl
theorem TrO.two {t : Trace} {p : Nat} (hT : TrO t p) {i : Nat} {op : MemOp} (h : t[i]? = some op) : op.g = 0 ∨ op.g = 1 := by
  obtain ⟨g, hg, hg1, _⟩ := hT.go
  obtain ⟨s, hs, hs1, _⟩ := hT.start
  rcases Nat.lt_trichotomy i p with hi | rfl | hi
  · exact .inl (hT.early i op h hi)
  · rw [hg] at h; cases h; exact .inl hg1
  · by_cases h1 : i = p + 1
    · subst h1; rw [hs] at h; cases h; exact .inr hs1
    · rcases hT.late i op h (by omega) with h0 | ⟨h0, _⟩
      · exact .inr h0
      · exact .inl h0

theorem TrO.noRace {t : Trace} {p : Nat} (h : TrO t p) (said : Bool) : ¬ Race said t := by
  rintro ⟨i, j, hij, ⟨x, y, hx, hy, hloc, _, hwr, _⟩, hn, _⟩
  obtain ⟨oi, hoi, hxi⟩ := touch_of hx
  obtain ⟨oj, hoj, hyj⟩ := touch_of hy
  obtain ⟨g, hg, hg1, hg2⟩ := h.go
  obtain ⟨s, hs, hs1, hs2⟩ := h.start
  have nip : i ≠ p := by rintro rfl; rw [hg] at hoi; cases hoi; simp [hg2, MemAct.touch?] at hxi
  have nip1 : i ≠ p + 1 := by rintro rfl; rw [hs] at hoi; cases hoi; simp [hs2, MemAct.touch?] at hxi
  have njp : j ≠ p := by rintro rfl; rw [hg] at hoj; cases hoj; simp [hg2, MemAct.touch?] at hyj
  have njp1 : j ≠ p + 1 := by rintro rfl; rw [hs] at hoj; cases hoj; simp [hs2, MemAct.touch?] at hyj
  apply hn
  by_cases hi : i < p
  · have gi := h.early i oi hoi hi
    by_cases hj : j < p
    · exact hb_po hij hoi hoj (by rw [gi, h.early j oj hoj hj])
    · rcases h.late j oj hoj (by omega) with gj | ⟨gj, _⟩
      · have e1 : HappensBefore t i p := hb_po hi hoi hg (by rw [gi, hg1])
        have e2 : HappensBefore t p (p + 1) := .single (.inr ⟨.spawn (child := 1) (by simp [Trace.act?, hg, hg2]) (by simp [Trace.act?, hs, hs2]) (by simp [Trace.g?, hs, hs1]), h.wordless.heard hg, h.wordless.heard hs⟩)
        have e3 : HappensBefore t (p + 1) j := hb_po (by omega) hs hoj (by rw [hs1, gj])
        exact (e1.trans e2).trans e3
      · exact hb_po hij hoi hoj (by rw [gi, gj])
  · rcases h.late i oi hoi (by omega) with gi | ⟨gi, ti⟩
    · rcases h.late j oj hoj (by omega) with gj | ⟨gj, tj⟩
      · exact hb_po hij hoi hoj (by rw [gi, gj])
      · rw [tj] at hyj; cases hyj
    · rw [ti] at hxi; cases hxi

theorem closed_push {c p : Nat} {u : Trace} {y : MemOp} (hT : TrO (u.push y) p) (h1 : y.g = 1) (h2 : y.act = .close c) : Closed c (u.push y) u.size := by
  refine ⟨⟨y, by simp, h1, h2⟩, fun i op hi hne => ?_⟩
  have hlt := lt_size_of_getElem? hi
  simp only [Array.size_push] at hlt
  exact ⟨(hT.two hi).resolve_left hne, by omega⟩

/-- The channel is closed, and goroutine 0 has seen it. -/
structure TrF (c : Nat) (t : Trace) (pc pr : Nat) : Prop where
  wordless : Wordless t
  closed : Closed c t pc
  seen : ∃ op, t[pr]? = some op ∧ op.g = 0 ∧ op.act = .recvClosed c
  clean : ∀ said, ¬ Race said t

theorem TrF.knows {c : Nat} {t : Trace} {pc pr : Nat} (h : TrF c t pc pr) {i : Nat} {op : MemOp} (hi : t[i]? = some op) : Knows t 0 i := by
  obtain ⟨k, hk, hk1, hk2⟩ := h.closed.close
  obtain ⟨r, hr, hr1, hr2⟩ := h.seen
  by_cases h0 : op.g = 0
  · have := knows_own hi
    rwa [h0] at this
  · obtain ⟨g1, hle⟩ := h.closed.last i op hi h0
    have e2 : HappensBefore t pc pr := .single (.inr ⟨.closed (c := c) (by simp [Trace.act?, hk, hk2]) (by simp [Trace.act?, hr, hr2]), h.wordless.heard hk, h.wordless.heard hr⟩)
    refine ⟨pr, r, hr, hr1, .inr ?_⟩
    by_cases he : i = pc
    · subst he; exact e2
    · have e1 : HappensBefore t i pc := hb_po (by omega) hi hk (by rw [g1, hk1])
      exact e1.trans e2

theorem TrF.add0 {c : Nat} {t : Trace} {pc pr : Nat} (h : TrF c t pc pr) {fn : FuncId} {pos : String} {es : Array Event} (hes : ∀ e ∈ es, Still e) : TrF c (t ++ MemOp.ofEvents 0 fn pos es) pc pr := by
  obtain ⟨r, hr, hr1, hr2⟩ := h.seen
  refine ⟨h.wordless.append (still_ops hes).1, h.closed.append (still_ops hes).2, ⟨r, by rw [getElem?_append_old (lt_size_of_getElem? hr)]; exact hr, hr1, hr2⟩, fun said => noRace_append (h.clean said) (still_ops hes).2 fun i a ha op hop b hb hc => ?_⟩
  obtain ⟨x, hx, _⟩ := touch_of ha
  exact h.knows hx

/-! ### the scripts -/

theorem at_re (w : World) (d : Nat) : w.at d = re w w.tape d := rfl

section
variable {P : Program} {D : World → World → Array Event → Prop} {Stop : Goroutine → World → Prop} {main : Bool}

theorem Ev.redraw {g : Goroutine} {w : World} (h : Ev P D Stop main g w) (d : Nat) : Ev P D Stop main g (re w w.tape d) := by
  cases h with
  | stop h => exact .stop fun d' => h d'
  | step hr ng nw ne hs h => exact .step hr ng nw ne (fun d' => hs d') h

theorem Ev.mono {Stop' : Goroutine → World → Prop} (hm : ∀ g w, Stop g w → Stop' g w) {g : Goroutine} {w : World} (h : Ev P D Stop main g w) : Ev P D Stop' main g w := by
  induction h with
  | stop h => exact .stop fun d => hm _ _ (h d)
  | step hr ng nw ne hs _ ih => exact .step hr ng nw ne hs ih

/-- One walk behind another. -/
theorem Ev.join {Stop' : Goroutine → World → Prop} {g : Goroutine} {w : World} (h : Ev P D Stop main g w) (hj : ∀ g w, (∀ d, Stop g (re w w.tape d)) → Ev P D Stop' main g w) : Ev P D Stop' main g w := by
  induction h with
  | stop h => exact hj _ _ h
  | step hr ng nw ne hs _ ih => exact .step hr ng nw ne hs ih

theorem Ev.running {g : Goroutine} {w : World} (hst : ∀ g w, Stop g w → g.status = .running) (h : Ev P D Stop main g w) : g.status = .running := by
  cases h with
  | stop h => exact hst _ _ (h 0)
  | step hr => exact hr
end

def Chan0 (c : Nat) (w : World) (s r : Nat) (tm : Bool) : Prop := w.heap[c]? = some (.chan 0 #[] false s r tm)
theorem Chan0.lt {c s r : Nat} {w : World} {tm : Bool} (h : Chan0 c w s r tm) : c < w.heap.size := by
  rcases Nat.lt_or_ge c w.heap.size with h' | h'
  · exact h'
  · unfold Chan0 at h; rw [Array.getElem?_eq_none h'] at h; cases h

/-- The channel stands open all the way to a stop where it stands open. -/
theorem chan_of_ev {P : Program} {Stop : Goroutine → World → Prop} {main : Bool} {c : Nat} (hst : ∀ g w, Stop g w → ∃ s r tm, Chan0 c w s r tm) {g : Goroutine} {w : World} (h : Ev P KeptD Stop main g w) :
    c < w.heap.size → ∃ s r tm, Chan0 c w s r tm := by
  induction h with
  | stop h =>
    obtain ⟨s, r, tm, hx⟩ := hst _ _ (h 0)
    exact fun _ => ⟨s, r, tm, hx⟩
  | step hr ng nw ne hs _ ih =>
    intro hc
    obtain ⟨k, hk⟩ := (hs 0).2
    obtain ⟨s, r, tm, hx⟩ := ih 0 (Nat.lt_of_lt_of_le hc hk.grows.size)
    exact ⟨s, r, tm, hk.grows.chans _ _ hc hx rfl⟩

section
variable (P : Program) (c : Nat) (z : Value)

/-- It stands at its send of v. -/
def AtS (v : Value) (Next : Goroutine → World → Prop) (g : Goroutine) (w : World) : Prop :=
  g.status = .running ∧ ∃ s r tm, Chan0 c w s r tm ∧ ∃ g₂ z' es, stepG P false g w = .comm g₂ #[scase c v z'] true .send w es ∧ (∀ e ∈ es, Still e) ∧ Next (Conc.served g₂ undef) (w.passed c s r tm)

/-- It stands at its close. -/
def AtC (Last : World → Prop) (g : Goroutine) (w : World) : Prop :=
  g.status = .running ∧ mayWake P g = true ∧ ∃ s r tm, Chan0 c w s r tm ∧ ∃ (g₂ : Goroutine) (es : Array Event) (n : Nat), stepG P false g w = .go g₂ (w.shut c s r tm) (es.push ⟨.obj c, true, true⟩) ∧ (∀ e ∈ es, Still e) ∧ QuitsIn P n g₂ ∧ Last (w.shut c s r tm)

/-- The sender's script, from world w on: it owns the memory. -/
def SendE (Last : World → Prop) : List Value → Goroutine → World → Prop
  | [] => Ev P KeptD (AtC P c Last) false
  | v :: vs => Ev P KeptD (AtS P c v (SendE Last vs)) false

def StopS (Last : World → Prop) : List Value → Goroutine → World → Prop
  | [] => AtC P c Last
  | v :: vs => AtS P c v (SendE P c Last vs)

/-- The receiver's own steps hand the world back as it came, and list nothing. -/
def DR (w w' : World) (es : Array Event) : Prop := w' = w ∧ es = #[]

/-- It stands at its receive. -/
def AtR (Next : Goroutine → Prop) (g : Goroutine) : Prop := g.status = .running ∧ (∀ w, stepG P true g w = .comm (core g) #[rcase c z] true (.recv true) w #[]) ∧ Next (core g)

/-- The receiver's script. -/
def RecvE (Fin : Goroutine → Prop) : List Value → Goroutine → Prop
  | [], g => ∃ n, Goes P true (fun _ _ => True) DR (fun g₁ _ => AtR P c z (fun g₂ => Fin (Conc.served g₂ (.tuple #[z, .bool false]))) g₁) n g default
  | v :: vs, g => ∃ n, Goes P true (fun _ _ => True) DR (fun g₁ _ => AtR P c z (fun g₂ => RecvE Fin vs (Conc.served g₂ (.tuple #[v, .bool true]))) g₁) n g default

def StopR (Fin : Goroutine → Prop) : List Value → Goroutine → World → Prop
  | [] => fun g₁ _ => AtR P c z (fun g₂ => Fin (Conc.served g₂ (.tuple #[z, .bool false]))) g₁
  | v :: vs => fun g₁ _ => AtR P c z (fun g₂ => RecvE P c z Fin vs (Conc.served g₂ (.tuple #[v, .bool true]))) g₁

theorem sendE_iff (Last : World → Prop) (vs : List Value) (g : Goroutine) (w : World) : SendE P c Last vs g w ↔ Ev P KeptD (StopS P c Last vs) false g w := by cases vs <;> exact Iff.rfl
theorem recvE_iff (Fin : Goroutine → Prop) (vs : List Value) (g : Goroutine) : RecvE P c z Fin vs g ↔ ∃ n, Goes P true (fun _ _ => True) DR (StopR P c z Fin vs) n g default := by cases vs <;> exact Iff.rfl

/-- It stands at the step that ends the run. -/
def AtRet (Post : Value → World → Prop) (g : Goroutine) (w : World) : Prop :=
  g.status = .running ∧ ∃ v es, stepG P true g w = .ended (.done v) w es ∧ (∀ e ∈ es, Still e) ∧ Post v w

/-- How the run ends. -/
def Ends (Post : Value → World → Prop) (t : Trace) (m : Machine) : Prop :=
  ∃ n last o w' t', runNT P (n + 1) m t = (.ended o w', t') ∧ runN P n m = .next last ∧ step P last = .ended o w' ∧ Good P Post last o w' t'
end

section
variable {P : Program} {c : Nat} {z : Value} {Post : Value → World → Prop}

theorem Ends.step {t : Trace} {m m' : Machine} {ops : Trace} (hs : stepT P m = (.next m', ops)) (h : Ends P Post (t ++ ops) m') : Ends P Post t m := by
  obtain ⟨n, last, o, w', t', h1, h2, h3, h4⟩ := h
  exact ⟨n + 1, last, o, w', t', by rw [runNT_succ_next hs]; exact h1, by rw [runN_succ_next hs]; exact h2, h3, h4⟩
theorem Ends.done {t : Trace} {m : Machine} {o : Outcome} {w : World} {ops : Trace} (hs : stepT P m = (.ended o w, ops)) (h : Good P Post m o w (t ++ ops)) : Ends P Post t m :=
  ⟨0, m, o, w, t ++ ops, by simp [runNT, hs], rfl, by simp [Go.step, hs], h⟩

theorem StopS.running {Last : World → Prop} {vs : List Value} {g : Goroutine} {w : World} (h : StopS P c Last vs g w) : g.status = .running := by cases vs <;> exact h.1
theorem StopS.chan {Last : World → Prop} {vs : List Value} {g : Goroutine} {w : World} (h : StopS P c Last vs g w) : ∃ s r tm, Chan0 c w s r tm := by
  cases vs with
  | nil => obtain ⟨_, _, s, r, tm, h, _⟩ := h; exact ⟨s, r, tm, h⟩
  | cons v vs => obtain ⟨_, s, r, tm, h, _⟩ := h; exact ⟨s, r, tm, h⟩
theorem StopR.running {Fin : Goroutine → Prop} {vs : List Value} {g : Goroutine} {w : World} (h : StopR P c z Fin vs g w) : g.status = .running := by cases vs <;> exact h.1
theorem StopR.comm {Fin : Goroutine → Prop} {vs : List Value} {g : Goroutine} {w : World} (h : StopR P c z Fin vs g w) : ∀ w, stepG P true g w = .comm (core g) #[rcase c z] true (.recv true) w #[] := by cases vs <;> exact h.2.1

/-- The receiver's walk holds in whatever world. -/
theorem goes_any {Stop : Goroutine → World → Prop} {n : Nat} {g : Goroutine} {w : World} (w' : World) (h : Goes P true (fun _ _ => True) DR Stop n g w) : Goes P true (fun _ _ => True) DR Stop n g w' := by
  cases n <;> exact h
end
end Go.Proofs.Ytibafngidpmgdab
