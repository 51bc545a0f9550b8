/- From the lone run on every tape to the walk in company: ahead of each step the count of draws may have turned. -/
import Derived.Test.YtibafngidpmgdabLone
namespace Go.Proofs.Ytibafngidpmgdab
variable [GlobSize]
set_option linter.unusedSectionVars false
open Go.Conc
set_option linter.unusedSimpArgs false
set_option linter.unusedVariables false

/-- It comes to a stop, whatever the others draw: ahead of each step, and at the stop, the count of draws may be another one; 'D' is asked of each step. -/
inductive Ev (P : Program) (D : World → World → Array Event → Prop) (Stop : Goroutine → World → Prop) (main : Bool) : Goroutine → World → Prop
  | stop {g : Goroutine} {w : World} (h : ∀ d, Stop g (re w w.tape d)) : Ev P D Stop main g w
  | step {g : Goroutine} {w : World} (hr : g.status = .running) (ng : Nat → Goroutine) (nw : Nat → World) (ne : Nat → Array Event)
      (hs : ∀ d, stepG P main g (re w w.tape d) = .go (ng d) (nw d) (ne d) ∧ D (re w w.tape d) (nw d) (ne d)) (h : ∀ d, Ev P D Stop main (ng d) (nw d)) : Ev P D Stop main g w

/-- What each step of a zone keeps. -/
def KeptD (w w' : World) (es : Array Event) : Prop := ∃ k, Kept w w' es k

section
variable {cal : Oper → Bool} {P : Program} [EarlyOk P] {F : FuncId → Prop} {cs : List Frame}

/-- Where the zone's walk stops: its lowest frame leaves. -/
def StopZ (cal : Oper → Bool) (P : Program) (F : FuncId → Prop) (cs : List Frame) (Post : Frame → World → Prop) (g : Goroutine) (w : World) : Prop :=
  ∃ fr, g = G fr cs ∧ FrameOk cal P F fr ∧ fr.mode ≠ .run ∧ NoLoops w ∧ Post fr w

structure Bad (cal : Oper → Bool) (P : Program) (F : FuncId → Prop) (cs : List Frame) (Post : Frame → World → Prop) (main : Bool) (s : Frame × List Frame × World) : Prop where
  zone : Zone cal P F s.1 s.2.1
  loops : NoLoops s.2.2
  every : Every P F Post s.1 s.2.1 s.2.2
  bad : ¬ Ev P KeptD (StopZ cal P F cs Post) main (G s.1 (s.2.1 ++ cs)) s.2.2

variable {Post : Frame → World → Prop} {main : Bool}

theorem Bad.stays {s : Frame × List Frame × World} (h : Bad cal P F cs Post main s) : ¬ Leaves s.1 s.2.1 := by
  obtain ⟨fr, ks, w⟩ := s
  intro hl
  apply h.bad
  obtain ⟨hk, hm⟩ := hl
  dsimp only at hk hm
  subst hk
  refine .stop fun d => ⟨fr, rfl, h.zone.top, hm, h.loops, ?_⟩
  have := h.every w.tape d
  cases this with
  | done _ hp => exact hp
  | step hn _ _ _ => exact absurd ⟨rfl, hm⟩ hn

theorem Bad.next (hC : CodeOk cal P F) (hP : ∀ fr w τ d, Post fr w → Post fr (re w τ d)) {s : Frame × List Frame × World} (h : Bad cal P F cs Post main s) :
    ∃ (s' : Frame × List Frame × World) (d k : Nat), Bad cal P F cs Post main s' ∧ s'.2.2.tape = s.2.2.tape ∧
      ∀ τ d', same k τ d' s.2.2.tape d → ∃ es, stepG P true (G s.1 (s.2.1 ++ [])) (re s.2.2 τ d') = .go (G s'.1 (s'.2.1 ++ [])) (re s'.2.2 τ (d' + k)) es := by
  have hn := h.stays
  obtain ⟨fr, ks, w⟩ := s
  refine Classical.byContradiction fun hno => h.bad ?_
  have key : ∀ d : Nat, ∃ p : Frame × List Frame × World × Array Event × Nat, Zone cal P F p.1 p.2.1 ∧ Kept (re w w.tape d) p.2.2.1 p.2.2.2.1 p.2.2.2.2 ∧ Every P F Post p.1 p.2.1 p.2.2.1 ∧
      ∀ cs main τ d', same p.2.2.2.2 τ d' w.tape d → stepG P main (G fr (ks ++ cs)) (re w τ d') = .go (G p.1 (p.2.1 ++ cs)) (re p.2.2.1 τ (d' + p.2.2.2.2)) p.2.2.2.1 := fun d => by
    obtain ⟨a, b, c, e, k, h1, h2, h3, h4⟩ := Every.takes hC hP h.zone h.loops h.every hn d
    exact ⟨(a, b, c, e, k), h1, h2, h3, h4⟩
  obtain ⟨p, hp⟩ := Classical.axiomOfChoice key
  let nf := fun d => (p d).1
  let nk := fun d => (p d).2.1
  let nw := fun d => (p d).2.2.1
  let ne := fun d => (p d).2.2.2.1
  let k := fun d => (p d).2.2.2.2
  have h1 : ∀ d, Zone cal P F (nf d) (nk d) := fun d => (hp d).1
  have h2 : ∀ d, Kept (re w w.tape d) (nw d) (ne d) (k d) := fun d => (hp d).2.1
  have h3 : ∀ d, Every P F Post (nf d) (nk d) (nw d) := fun d => (hp d).2.2.1
  have h4 : ∀ d cs main τ d', same (k d) τ d' w.tape d → stepG P main (G fr (ks ++ cs)) (re w τ d') = .go (G (nf d) (nk d ++ cs)) (re (nw d) τ (d' + k d)) (ne d) := fun d => (hp d).2.2.2
  refine .step rfl (fun d => G (nf d) (nk d ++ cs)) nw ne (fun d => ⟨?_, k d, h2 d⟩) fun d => ?_
  · have e := h4 d cs main w.tape d fun _ _ => rfl
    have e2 : re (nw d) w.tape (d + k d) = nw d := by
      have t1 : (nw d).tape = w.tape := (h2 d).tape
      have t2 : (nw d).drawn = d + k d := (h2 d).drawn
      rw [← t1, ← t2, re_self]
    rw [e2] at e
    exact e
  · refine Classical.byContradiction fun hb => hno ⟨(nf d, nk d, nw d), d, k d, ⟨h1 d, (h2 d).loops, h3 d, hb⟩, (h2 d).tape, fun τ d' hs => ⟨_, h4 d [] true τ d' hs⟩⟩


/-- No state is bad: the path of bad states would be a lone run without end. -/
theorem no_bad (hC : CodeOk cal P F) (hP : ∀ fr w τ d, Post fr w → Post fr (re w τ d)) {s : Frame × List Frame × World} (h : Bad cal P F cs Post main s) : False := by
  classical
  have nx : ∀ x : {s : Frame × List Frame × World // Bad cal P F cs Post main s}, ∃ p : {s : Frame × List Frame × World // Bad cal P F cs Post main s} × Nat × Nat, p.1.1.2.2.tape = x.1.2.2.tape ∧
      ∀ τ d', same p.2.2 τ d' x.1.2.2.tape p.2.1 → ∃ es, stepG P true (G x.1.1 (x.1.2.1 ++ [])) (re x.1.2.2 τ d') = .go (G p.1.1.1 (p.1.1.2.1 ++ [])) (re p.1.1.2.2 τ (d' + p.2.2)) es := fun x => by
    obtain ⟨s', d, k, hb, ht, hs⟩ := Bad.next hC hP x.2
    exact ⟨(⟨s', hb⟩, d, k), ht, hs⟩
  obtain ⟨f, hf⟩ := Classical.axiomOfChoice nx
  let st : Nat → {s : Frame × List Frame × World // Bad cal P F cs Post main s} := fun n => Nat.rec ⟨s, h⟩ (fun _ x => (f x).1) n
  have hst : ∀ n, st (n + 1) = (f (st n)).1 := fun _ => rfl
  let dd : Nat → Nat := fun n => (f (st n)).2.1
  let kk : Nat → Nat := fun n => (f (st n)).2.2
  let D : Nat → Nat := fun n => Nat.rec 0 (fun i acc => acc + kk i) n
  have hD : ∀ n, D (n + 1) = D n + kk n := fun _ => rfl
  have mono : ∀ i j, i ≤ j → D i ≤ D j := by
    intro i j hij
    induction hij with
    | refl => exact Nat.le_refl _
    | step _ ih => rw [hD]; omega
  have htape : ∀ n, (st n).1.2.2.tape = s.2.2.tape := by
    intro n
    induction n with
    | zero => rfl
    | succ n ih => rw [hst, (hf (st n)).1, ih]
  let τ : Tape := fun m => if e : ∃ i, D i ≤ m ∧ m < D (i + 1) then s.2.2.tape (dd (Classical.choose e) + (m - D (Classical.choose e))) else s.2.2.tape 0
  have hτ : ∀ n j, j < kk n → τ (D n + j) = s.2.2.tape (dd n + j) := by
    intro n j hj
    have e : ∃ i, D i ≤ D n + j ∧ D n + j < D (i + 1) := ⟨n, by omega, by rw [hD]; omega⟩
    have hc := Classical.choose_spec e
    have hi : Classical.choose e = n := by
      rcases Nat.lt_trichotomy (Classical.choose e) n with hlt | heq | hgt
      · have := mono _ _ (show Classical.choose e + 1 ≤ n from hlt)
        omega
      · exact heq
      · have := mono _ _ (show n + 1 ≤ Classical.choose e from hgt)
        rw [hD] at this
        omega
    have ha : dd n + (D n + j - D n) = dd n + j := by omega
    simp only [τ, dif_pos e, hi]
    rw [ha]
  have key : ∀ fr ks w, Lone P F Post fr ks w → ∀ n, fr = (st n).1.1 → ks = (st n).1.2.1 → w = re (st n).1.2.2 τ (D n) → False := by
    intro fr ks w hl
    induction hl with
    | done hl _ =>
      intro n e1 e2 e3
      subst e1; subst e2
      exact (st n).2.stays hl
    | @step fr fr' ks ks' w w' es hn hab hs hrest ih =>
      intro n e1 e2 e3
      subst e1; subst e2; subst e3
      obtain ⟨es', he⟩ := (hf (st n)).2 τ (D n) fun j hj => by rw [htape]; exact hτ n j hj
      rw [hs] at he
      obtain ⟨e1, e2, e3⟩ := go_inj (P := P) he
      exact ih (n + 1) (by rw [hst]; exact e1) (by rw [hst]; exact e2) (by rw [hst, hD]; exact e3)
  exact key _ _ _ (h.every τ 0) 0 rfl rfl rfl

/-- ████ What runs alone on every tape, runs so in company. ████ -/
theorem ev_of_every (hC : CodeOk cal P F) (hP : ∀ fr w τ d, Post fr w → Post fr (re w τ d)) {fr : Frame} {ks : List Frame} {w : World} (hz : Zone cal P F fr ks) (hw : NoLoops w) (h : Every P F Post fr ks w) :
    Ev P KeptD (StopZ cal P F cs Post) main (G fr (ks ++ cs)) w :=
  Classical.byContradiction fun hb => no_bad (main := main) hC hP (s := (fr, ks, w)) ⟨hz, hw, h, hb⟩

end
end Go.Proofs.Ytibafngidpmgdab
