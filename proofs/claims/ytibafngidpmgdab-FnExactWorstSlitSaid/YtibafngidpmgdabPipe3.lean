/- Part 2: the machine of two, on every tape: open, closed, seen. -/
import Derived.Test.YtibafngidpmgdabPipe
namespace Go.Proofs.Ytibafngidpmgdab
variable [GlobSize]
set_option linter.unusedSectionVars false
open Go.Conc
set_option linter.unusedSimpArgs false
set_option linter.unusedVariables false

section
variable {P : Program} {c : Nat} {z : Value} {Post : Value → World → Prop}

/-! ### the channel has been seen closed -/

theorem good_end {a b : Goroutine} {w₁ w : World} {sl : Option (Nat × Nat)} {t : Trace} {k pc pr : Nat} {v : Value} (hB : QuitsIn P k b) (hT : TrF c t pc pr) (hp : Post v w) : Good P Post (duo a b w₁ sl) (.done v) w t := by
  refine ⟨v, rfl, hp, hT.clean, handedOver_of_closed hT.wordless hT.closed hT.seen, ⟨?_, rfl⟩, ?_⟩
  · intro g hg
    have : g = b := by simpa [duo] using hg
    rw [this]
    exact ⟨k, hB.leaves⟩
  · intro i g hg hne
    match i, hg, hne with
    | 0, _, hne => exact absurd rfl hne
    | 1, hg, _ =>
      have : g = b := by simpa [duo] using hg.symm
      rw [this, hT.wordless.deaf]
      exact ⟨k, hB.hears _ 0⟩
    | i + 2, hg, _ => simp [duo] at hg

theorem fin_ends {a : Goroutine} {w : World} (hA : Ev P KeptD (AtRet P Post) true a w) : ∀ (k : Nat) (b : Goroutine) (d₀ : Nat) (sl : Option (Nat × Nat)) (t : Trace) (pc pr : Nat), QuitsIn P k b → TrF c t pc pr →
    Ends P Post t (duo a b (re w w.tape d₀) sl) := by
  induction hA with
  | @stop a w h =>
    intro k
    induction k with
    | zero =>
      intro b d₀ sl t pc pr hB hT
      have hra : a.status = .running := (h 0).1
      have sB := hB.status
      obtain ⟨d, sl', hmv⟩ := duo_pick (P := P) (w := re w w.tape d₀) (sl := sl) (awake_of (.inl hra)) (awake_of (sB.elim .inl fun h => .inr (.inr h))) (.inl hra)
      rcases hmv with ⟨_, hst⟩ | ⟨hrb, hst⟩
      · obtain ⟨_, v, es, hend, hes, hpost⟩ := h d
        exact Ends.done (hst.trans (runT_duo0_ended hend)) (good_end hB (hT.add0 hes) hpost)
      · rw [show b.status = .finished from hB] at hrb; cases hrb
    | succ k ih =>
      intro b d₀ sl t pc pr hB hT
      have hra : a.status = .running := (h 0).1
      have sB := hB.status
      obtain ⟨d, sl', hmv⟩ := duo_pick (P := P) (w := re w w.tape d₀) (sl := sl) (awake_of (.inl hra)) (awake_of (sB.elim .inl fun h => .inr (.inr h))) (.inl hra)
      rcases hmv with ⟨_, hst⟩ | ⟨hrb, hst⟩
      · obtain ⟨_, v, es, hend, hes, hpost⟩ := h d
        exact Ends.done (hst.trans (runT_duo0_ended hend)) (good_end hB (hT.add0 hes) hpost)
      · rcases hB with hf | ⟨_, b', hw, hq⟩
        · rw [hf] at hrb; cases hrb
        · refine Ends.step (hst.trans (runT_duo1 (hw _))) ?_
          rw [woken_running hra, ofEvents_none, Array.append_empty]
          exact ih b' d sl' t pc pr hq hT
  | @step a w hra ng nw ne hs h ihE =>
    intro k
    induction k with
    | zero =>
      intro b d₀ sl t pc pr hB hT
      have sB := hB.status
      obtain ⟨d, sl', hmv⟩ := duo_pick (P := P) (w := re w w.tape d₀) (sl := sl) (awake_of (.inl hra)) (awake_of (sB.elim .inl fun h => .inr (.inr h))) (.inl hra)
      rcases hmv with ⟨_, hst⟩ | ⟨hrb, hst⟩
      · obtain ⟨hgo, j, hk⟩ := hs d
        refine Ends.step (hst.trans (runT_duo0 hgo)) ?_
        rw [woken_quits hB]
        exact ihE d 0 b (nw d).drawn sl' _ pc pr hB (hT.add0 hk.quiet)
      · rw [show b.status = .finished from hB] at hrb; cases hrb
    | succ k ih =>
      intro b d₀ sl t pc pr hB hT
      have sB := hB.status
      obtain ⟨d, sl', hmv⟩ := duo_pick (P := P) (w := re w w.tape d₀) (sl := sl) (awake_of (.inl hra)) (awake_of (sB.elim .inl fun h => .inr (.inr h))) (.inl hra)
      rcases hmv with ⟨_, hst⟩ | ⟨hrb, hst⟩
      · obtain ⟨hgo, j, hk⟩ := hs d
        refine Ends.step (hst.trans (runT_duo0 hgo)) ?_
        rw [woken_quits hB]
        exact ihE d (k + 1) b (nw d).drawn sl' _ pc pr hB (hT.add0 hk.quiet)
      · rcases hB with hf | ⟨_, b', hw, hq⟩
        · rw [hf] at hrb; cases hrb
        · refine Ends.step (hst.trans (runT_duo1 (hw _))) ?_
          rw [woken_running hra, ofEvents_none, Array.append_empty]
          exact ih b' d sl' t pc pr hq hT

/-! ### the channel is closed -/

/-- What the receiver does behind the closed channel, from whatever world the sender has left. -/
def FinOk (P : Program) (Post : Value → World → Prop) (Last : World → Prop) (g : Goroutine) : Prop := ∀ w, Last w → Ev P KeptD (AtRet P Post) true g w

def Shut0 (c : Nat) (w : World) : Prop := ∃ s r tm, w.heap[c]? = some (.chan 0 #[] true s r tm)

theorem shut_ends {Last : World → Prop} : ∀ (M n k : Nat) (a b : Goroutine) (w : World) (sl : Option (Nat × Nat)) (t : Trace) (p pc : Nat), n + k ≤ M → Last w → (∀ w d, Last w → Last (re w w.tape d)) → Shut0 c w →
    Goes P true (fun _ _ => True) DR (StopR P c z (FinOk P Post Last) []) n a default → QuitsIn P k b → TrO t p → Closed c t pc → Ends P Post t (duo a b w sl) := by
  intro M
  induction M with
  | zero =>
    intro n k a b w sl t p pc hM hL hLd hc hA hB hT hC
    obtain rfl : n = 0 := by omega
    obtain rfl : k = 0 := by omega
    have hra : a.status = .running := hA.running (fun _ _ => StopR.running) default trivial
    have sB := hB.status
    obtain ⟨d, sl', hmv⟩ := duo_pick (P := P) (w := w) (sl := sl) (awake_of (.inl hra)) (awake_of (sB.elim .inl fun h => .inr (.inr h))) (.inl hra)
    obtain ⟨s, r, tm, hch⟩ := hc
    rcases hmv with ⟨_, hst⟩ | ⟨hrb, hst⟩
    · have hat := hA (w.at d) trivial
      have hbs : b.status ≠ .blocked := by rcases sB with h | h <;> rw [h] <;> simp
      have hcomm := StopR.comm hat (w.at d)
      refine Ends.step (hst.trans (runT_recv_closed hcomm (show (w.at d).heap[c]? = _ from hch) hbs)) ?_
      rw [ofEvents_none, Array.empty_append]
      have hT' := hT.comm #[{ g := 0, fn := (core a).frame.fn, pos := (core a).frame.place, act := .recvClosed c }] (by simp [MemAct.touch?])
      refine fin_ends (hat.2.2 w hL) 0 b d sl' _ pc t.size hB ⟨hT'.wordless, hC.append (by simp), ⟨_, by rw [Array.getElem?_append_right (Nat.le_refl _)]; simp; exact rfl, rfl, rfl⟩, hT'.noRace⟩
    · rw [show b.status = .finished from hB] at hrb; cases hrb
  | succ M ih =>
    intro n k a b w sl t p pc hM hL hLd hc hA hB hT hC
    have hra : a.status = .running := hA.running (fun _ _ => StopR.running) default trivial
    have sB := hB.status
    obtain ⟨d, sl', hmv⟩ := duo_pick (P := P) (w := w) (sl := sl) (awake_of (.inl hra)) (awake_of (sB.elim .inl fun h => .inr (.inr h))) (.inl hra)
    have hL1 : Last (w.at d) := hLd w d hL
    have hc1 : Shut0 c (w.at d) := hc
    obtain ⟨s, r, tm, hch⟩ := hc
    rcases hmv with ⟨_, hst⟩ | ⟨hrb, hst⟩
    · rcases hA.cases with hstop | ⟨n', rfl, hstep⟩
      · have hat := hstop (w.at d) trivial
        have hbs : b.status ≠ .blocked := by rcases sB with h | h <;> rw [h] <;> simp
        have hcomm := StopR.comm hat (w.at d)
        refine Ends.step (hst.trans (runT_recv_closed hcomm (show (w.at d).heap[c]? = _ from hch) hbs)) ?_
        rw [ofEvents_none, Array.empty_append]
        have hT' := hT.comm #[{ g := 0, fn := (core a).frame.fn, pos := (core a).frame.place, act := .recvClosed c }] (by simp [MemAct.touch?])
        refine fin_ends (hat.2.2 w hL) k b d sl' _ pc t.size hB ⟨hT'.wordless, hC.append (by simp), ⟨_, by rw [Array.getElem?_append_right (Nat.le_refl _)]; simp; exact rfl, rfl, rfl⟩, hT'.noRace⟩
      · obtain ⟨a', w', es, hgo, ⟨rfl, rfl⟩, hg'⟩ := hstep (w.at d) trivial
        refine Ends.step (hst.trans (runT_duo0 hgo)) ?_
        rw [woken_quits hB, ofEvents_none, Array.append_empty]
        exact ih n' k a' b (w.at d) sl' t p pc (by omega) hL1 hLd hc1 (goes_any _ hg') hB hT hC
    · cases k with
      | zero => rw [show b.status = .finished from hB] at hrb; cases hrb
      | succ k =>
        rcases hB with hf | ⟨_, b', hw, hq⟩
        · rw [hf] at hrb; cases hrb
        · refine Ends.step (hst.trans (runT_duo1 (hw _))) ?_
          rw [woken_running hra, ofEvents_none, Array.append_empty]
          exact ih n k a b' (w.at d) sl' t p pc (by omega) hL1 hLd hc1 hA hq hT hC
end
end Go.Proofs.Ytibafngidpmgdab

namespace Go.Proofs.Ytibafngidpmgdab
variable [GlobSize]
set_option linter.unusedSectionVars false
open Go.Conc
set_option linter.unusedSimpArgs false
set_option linter.unusedVariables false

section
variable {P : Program} {c : Nat} {z : Value} {Post : Value → World → Prop} {Last : World → Prop}

/-- The receiver waits. -/
def wait0 (c : Nat) (z : Value) (g : Goroutine) : Goroutine := parked (core g) #[rcase c z] (.recv true)

theorem wait0_woken {g h h' : Goroutine} {w' : World} {s r : Nat} {tm : Bool} (hc : Chan0 c w' s r tm) : woken P h h' w' (wait0 c z g) = wait0 c z g := by
  unfold Go.Conc.woken
  split
  · exact again_parked_open rfl hc
  · rfl
theorem wait1_woken {g h h' : Goroutine} {w' : World} {v z' : Value} {s r : Nat} {tm : Bool} (hc : Chan0 c w' s r tm) : woken P h h' w' (parked g #[scase c v z'] .send) = parked g #[scase c v z'] .send := by
  unfold Go.Conc.woken
  split
  · exact again_parked_open rfl hc
  · rfl

theorem StopR.again {Fin : Goroutine → Prop} {vs : List Value} {g : Goroutine} {w : World} (h : StopR P c z Fin vs g w) : StopR P c z Fin vs { wait0 c z g with status := .running } w := by
  have e : ∀ w, stepG P true { wait0 c z g with status := .running } w = stepG P true g w := fun w => stepG_same rfl rfl rfl w
  cases vs <;> exact let ⟨_, h1, h2⟩ := h; ⟨rfl, fun w => by rw [e]; exact h1 w, h2⟩

theorem SendE.redraw {vs : List Value} {g : Goroutine} {w : World} (h : SendE P c Last vs g w) (d : Nat) : SendE P c Last vs g (re w w.tape d) :=
  (sendE_iff P c Last vs g _).2 (((sendE_iff P c Last vs g w).1 h).redraw d)

theorem passed_re (w : World) (d s r : Nat) (tm : Bool) : (re w w.tape d).passed c s r tm = re (w.passed c s r tm) (w.passed c s r tm).tape d := rfl
theorem passed_size (w : World) (s r : Nat) (tm : Bool) : (w.passed c s r tm).heap.size = w.heap.size := by simp [World.passed]

variable (P c z Post Last) in
/-- What is shown of the shorter rest. -/
def Rest (vs : List Value) : Prop := ∀ (a b : Goroutine) (w : World) (sl : Option (Nat × Nat)) (t : Trace) (p : Nat), c < w.heap.size → RecvE P c z (FinOk P Post Last) vs a → SendE P c Last vs b w → TrO t p → Ends P Post t (duo a b w sl)

theorem mem4 {g0 g1 : Goroutine} {p0 p1 : String} {s r : Nat} : ∀ op ∈ (#[{ g := 1, fn := g1.frame.fn, pos := p1, act := .send c s }, { g := 0, fn := g0.frame.fn, pos := p0, act := .recv c r 0 },
        { g := 1, fn := g1.frame.fn, pos := p1, act := .sendDone c s }, { g := 0, fn := g0.frame.fn, pos := p0, act := .recvDone c r }] : Array MemOp), (op.g = 0 ∨ op.g = 1) ∧ op.act.touch? = none ∧ ∀ m, op.act = .mark m → Neutral m := by
  simp [MemAct.touch?]

/-- The sender closes. -/
theorem closes {b : Goroutine} {w : World} {sl : Option (Nat × Nat)} {t : Trace} {p n : Nat} {a : Goroutine} (hLd : ∀ w d, Last w → Last (re w w.tape d)) (hat : AtC P c Last b w)
    (hA : ∀ w', Shut0 c w' → Goes P true (fun _ _ => True) DR (StopR P c z (FinOk P Post Last) []) n (a.again w') default) (hT : TrO t p) :
    ∃ m' ops, runT P (duo a b w sl) 1 = (.next m', ops) ∧ Ends P Post (t ++ ops) m' := by
  obtain ⟨_, hwake, s, r, tm, hch, g₂, es, nq, hgo, hes, hq, hlast⟩ := hat
  have hc2 : (w.shut c s r tm).heap[c]? = some (.chan 0 #[] true s r tm) := heap_put hch
  have hwk : ∀ o, woken P b g₂ (w.shut c s r tm) o = o.again (w.shut c s r tm) := by
    intro o; unfold Go.Conc.woken; rcases hq.status with h | h <;> simp [hwake, h]
  refine ⟨_, _, runT_duo1 hgo, ?_⟩
  rw [hwk, ofEvents_push, ← Array.push_append]
  have hF : TrO ((t ++ MemOp.ofEvents 1 b.frame.fn b.frame.place es).push { g := 1, fn := b.frame.fn, pos := b.frame.place, act := .ofEvent ⟨.obj c, true, true⟩ }) p := by
    rw [Array.push_eq_append]
    exact (hT.add1 hes).comm _ (by simp [MemAct.touch?, MemAct.ofEvent])
  exact shut_ends (n + nq) n nq _ g₂ _ sl _ p _ (Nat.le_refl _) hlast hLd ⟨_, _, _, hc2⟩ (hA _ ⟨_, _, _, hc2⟩) hq hF (closed_push hF rfl rfl)

/-- The receiver waits; the sender is on its way. -/
theorem waits0 (hLd : ∀ w d, Last w → Last (re w w.tape d)) {vs : List Value} (hm : ∀ v vs', vs = v :: vs' → Rest P c z Post Last vs') {b : Goroutine} {w : World} (hE : Ev P KeptD (StopS P c Last vs) false b w) :
    ∀ (d₀ : Nat) (g : Goroutine) (sl : Option (Nat × Nat)) (t : Trace) (p : Nat), StopR P c z (FinOk P Post Last) vs g default → c < w.heap.size → TrO t p → Ends P Post t (duo (wait0 c z g) b (re w w.tape d₀) sl) := by
  induction hE with
  | @stop b w h =>
    intro d₀ g sl t p hg hc hT
    have hrb : b.status = .running := (h 0).running
    obtain ⟨d, sl', hmv⟩ := duo_pick (P := P) (a := wait0 c z g) (w := re w w.tape d₀) (sl := sl) (awake_of (.inr (.inl rfl))) (awake_of (.inl hrb)) (.inr hrb)
    rcases hmv with ⟨hra, _⟩ | ⟨_, hst⟩
    · cases hra
    · have hat := h d
      cases vs with
      | nil =>
        obtain ⟨m', ops, h1, h2⟩ := closes (Post := Post) (z := z) (sl := sl') (n := 0) (a := wait0 c z g) hLd hat (fun w' ⟨s, r, tm, hs⟩ => by
          rw [show (wait0 c z g).again w' = { wait0 c z g with status := .running } from again_parked_shut rfl hs]
          exact fun _ _ => hg.again) hT
        exact Ends.step (hst.trans h1) h2
      | cons v vs' =>
        obtain ⟨_, s, r, tm, hch, g₂, z', es, hcm, hes, hnext⟩ := hat
        refine Ends.step (hst.trans (runT_send_meets hcm hch rfl)) ?_
        rw [← Array.append_assoc]
        exact hm v vs' rfl _ _ _ sl' _ p (by rw [passed_size]; exact hc) hg.2.2 hnext ((hT.add1 hes).comm _ mem4)
  | @step b w hrb ng nw ne hs h ih =>
    intro d₀ g sl t p hg hc hT
    obtain ⟨d, sl', hmv⟩ := duo_pick (P := P) (a := wait0 c z g) (w := re w w.tape d₀) (sl := sl) (awake_of (.inr (.inl rfl))) (awake_of (.inl hrb)) (.inr hrb)
    rcases hmv with ⟨hra, _⟩ | ⟨_, hst⟩
    · cases hra
    · obtain ⟨hgo, j, hk⟩ := hs d
      have hc' : c < (nw d).heap.size := Nat.lt_of_lt_of_le hc hk.grows.size
      obtain ⟨s, r, tm, hch⟩ := chan_of_ev (fun g w (x : StopS P c Last vs g w) => x.chan) (h d) hc'
      refine Ends.step (hst.trans (runT_duo1 hgo)) ?_
      rw [wait0_woken hch]
      exact ih d (nw d).drawn g sl' _ p hg hc' (hT.add1 hk.quiet)

/-- The sender waits; the receiver is on its way. -/
theorem waits1 {v : Value} {vs : List Value} (hm : Rest P c z Post Last vs) : ∀ (n : Nat) (a g₂ : Goroutine) (z' : Value) (w : World) (sl : Option (Nat × Nat)) (t : Trace) (p s r : Nat) (tm : Bool),
    Goes P true (fun _ _ => True) DR (StopR P c z (FinOk P Post Last) (v :: vs)) n a default → Chan0 c w s r tm → SendE P c Last vs (Conc.served g₂ undef) (w.passed c s r tm) → TrO t p →
    Ends P Post t (duo a (parked g₂ #[scase c v z'] .send) w sl) := by
  intro n
  induction n with
  | zero =>
    intro a g₂ z' w sl t p s r tm hA hch hn hT
    have hra : a.status = .running := hA.running (fun _ _ => StopR.running) default trivial
    obtain ⟨d, sl', hmv⟩ := duo_pick (P := P) (b := parked g₂ #[scase c v z'] .send) (w := w) (sl := sl) (awake_of (.inl hra)) (awake_of (.inr (.inl rfl))) (.inl hra)
    rcases hmv with ⟨_, hst⟩ | ⟨hrb, _⟩
    · have hat := hA default trivial
      refine Ends.step (hst.trans (runT_recv_meets (StopR.comm hat (w.at d)) (show (w.at d).heap[c]? = _ from hch) rfl)) ?_
      rw [ofEvents_none, Array.empty_append]
      exact hm _ _ _ sl' _ p (by rw [passed_size]; exact hch.lt) hat.2.2 (hn.redraw d) (hT.comm _ mem4)
    · cases hrb
  | succ n ih =>
    intro a g₂ z' w sl t p s r tm hA hch hn hT
    have hra : a.status = .running := hA.running (fun _ _ => StopR.running) default trivial
    obtain ⟨d, sl', hmv⟩ := duo_pick (P := P) (b := parked g₂ #[scase c v z'] .send) (w := w) (sl := sl) (awake_of (.inl hra)) (awake_of (.inr (.inl rfl))) (.inl hra)
    rcases hmv with ⟨_, hst⟩ | ⟨hrb, _⟩
    · rcases hA.cases with hstop | ⟨n', hn', hstep⟩
      · have hat := hstop default trivial
        refine Ends.step (hst.trans (runT_recv_meets (StopR.comm hat (w.at d)) (show (w.at d).heap[c]? = _ from hch) rfl)) ?_
        rw [ofEvents_none, Array.empty_append]
        exact hm _ _ _ sl' _ p (by rw [passed_size]; exact hch.lt) hat.2.2 (hn.redraw d) (hT.comm _ mem4)
      · obtain rfl : n' = n := by omega
        obtain ⟨a', w', es, hgo, ⟨rfl, rfl⟩, hg'⟩ := hstep (w.at d) trivial
        refine Ends.step (hst.trans (runT_duo0 hgo)) ?_
        rw [wait1_woken (show Chan0 c (w.at d) s r tm from hch), ofEvents_none, Array.append_empty]
        exact ih a' g₂ z' (w.at d) sl' t p s r tm (goes_any _ hg') hch (hn.redraw d) hT
    · cases hrb

/-- Both are on their way. -/
theorem both (hLd : ∀ w d, Last w → Last (re w w.tape d)) {vs : List Value} (hm : ∀ v vs', vs = v :: vs' → Rest P c z Post Last vs') {b : Goroutine} {w : World} (hE : Ev P KeptD (StopS P c Last vs) false b w) :
    ∀ (n d₀ : Nat) (a : Goroutine) (sl : Option (Nat × Nat)) (t : Trace) (p : Nat), Goes P true (fun _ _ => True) DR (StopR P c z (FinOk P Post Last) vs) n a default → c < w.heap.size → TrO t p →
      Ends P Post t (duo a b (re w w.tape d₀) sl) := by
  have hE0 := hE
  induction hE with
  | @stop b w h =>
    -- the sender's move at its stop
    have hB : ∀ (n d : Nat) (a : Goroutine) (sl : Option (Nat × Nat)) (t : Trace) (p : Nat), Goes P true (fun _ _ => True) DR (StopR P c z (FinOk P Post Last) vs) n a default → TrO t p → a.status = .running →
        ∃ m' ops, runT P (duo a b (re w w.tape d) sl) 1 = (.next m', ops) ∧ Ends P Post (t ++ ops) m' := by
      intro n d a sl t p hA hT hra
      have hat := h d
      cases vs with
      | nil =>
        refine closes (z := z) (n := n) hLd hat (fun w' hs => ?_) hT
        rw [again_running _ (.inl hra)]
        exact hA
      | cons v vs' =>
        obtain ⟨_, s, r, tm, hch, g₂, z', es, hcm, hes, hnext⟩ := hat
        have has : a.status ≠ .blocked := by rw [hra]; simp
        exact ⟨_, _, runT_send_waits hcm hch has, waits1 (hm v vs' rfl) n a g₂ z' _ sl _ p s r tm hA hch hnext (hT.add1 hes)⟩
    intro n
    induction n with
    | zero =>
      intro d₀ a sl t p hA hc hT
      have hra : a.status = .running := hA.running (fun _ _ => StopR.running) default trivial
      have hrb : b.status = .running := (h 0).running
      obtain ⟨d, sl', hmv⟩ := duo_pick (P := P) (w := re w w.tape d₀) (sl := sl) (awake_of (.inl hra)) (awake_of (.inl hrb)) (.inl hra)
      rcases hmv with ⟨_, hst⟩ | ⟨_, hst⟩
      · have hat := hA default trivial
        obtain ⟨s, r, tm, hch⟩ := (h d).chan
        have hbs : b.status ≠ .blocked := by rw [hrb]; simp
        refine Ends.step (hst.trans (runT_recv_waits (StopR.comm hat _) hch hbs)) ?_
        rw [ofEvents_none, Array.append_empty]
        exact waits0 hLd hm hE0 d a sl' t p hat hc hT
      · obtain ⟨m', ops, h1, h2⟩ := hB 0 d a sl' t p hA hT hra
        exact Ends.step (hst.trans h1) h2
    | succ n ih =>
      intro d₀ a sl t p hA hc hT
      have hra : a.status = .running := hA.running (fun _ _ => StopR.running) default trivial
      have hrb : b.status = .running := (h 0).running
      obtain ⟨d, sl', hmv⟩ := duo_pick (P := P) (w := re w w.tape d₀) (sl := sl) (awake_of (.inl hra)) (awake_of (.inl hrb)) (.inl hra)
      obtain ⟨s, r, tm, hch⟩ := (h d).chan
      rcases hmv with ⟨_, hst⟩ | ⟨_, hst⟩
      · rcases hA.cases with hstop | ⟨n', hn', hstep⟩
        · have hat := hstop default trivial
          have hbs : b.status ≠ .blocked := by rw [hrb]; simp
          refine Ends.step (hst.trans (runT_recv_waits (StopR.comm hat _) hch hbs)) ?_
          rw [ofEvents_none, Array.append_empty]
          exact waits0 hLd hm hE0 d a sl' t p hat hc hT
        · obtain rfl : n' = n := by omega
          obtain ⟨a', w', es, hgo, ⟨rfl, rfl⟩, hg'⟩ := hstep (re w w.tape d) trivial
          refine Ends.step (hst.trans (runT_duo0 hgo)) ?_
          rw [woken_running hrb, ofEvents_none, Array.append_empty]
          exact ih d a' sl' t p (goes_any _ hg') hc hT
      · obtain ⟨m', ops, h1, h2⟩ := hB (n + 1) d a sl' t p hA hT hra
        exact Ends.step (hst.trans h1) h2
  | @step b w hrb ng nw ne hs h ihE =>
    intro n
    induction n with
    | zero =>
      intro d₀ a sl t p hA hc hT
      have hra : a.status = .running := hA.running (fun _ _ => StopR.running) default trivial
      obtain ⟨d, sl', hmv⟩ := duo_pick (P := P) (w := re w w.tape d₀) (sl := sl) (awake_of (.inl hra)) (awake_of (.inl hrb)) (.inl hra)
      rcases hmv with ⟨_, hst⟩ | ⟨_, hst⟩
      · have hat := hA default trivial
        obtain ⟨s, r, tm, hch⟩ := chan_of_ev (fun g w (x : StopS P c Last vs g w) => x.chan) hE0 hc
        have hbs : b.status ≠ .blocked := by rw [hrb]; simp
        refine Ends.step (hst.trans (runT_recv_waits (StopR.comm hat _) (show (re w w.tape d).heap[c]? = _ from hch) hbs)) ?_
        rw [ofEvents_none, Array.append_empty]
        exact waits0 hLd hm hE0 d a sl' t p hat hc hT
      · obtain ⟨hgo, j, hk⟩ := hs d
        refine Ends.step (hst.trans (runT_duo1 hgo)) ?_
        rw [woken_running hra]
        exact ihE d (h d) 0 (nw d).drawn a sl' _ p hA (Nat.lt_of_lt_of_le hc hk.grows.size) (hT.add1 hk.quiet)
    | succ n ih =>
      intro d₀ a sl t p hA hc hT
      have hra : a.status = .running := hA.running (fun _ _ => StopR.running) default trivial
      obtain ⟨d, sl', hmv⟩ := duo_pick (P := P) (w := re w w.tape d₀) (sl := sl) (awake_of (.inl hra)) (awake_of (.inl hrb)) (.inl hra)
      rcases hmv with ⟨_, hst⟩ | ⟨_, hst⟩
      · rcases hA.cases with hstop | ⟨n', hn', hstep⟩
        · have hat := hstop default trivial
          obtain ⟨s, r, tm, hch⟩ := chan_of_ev (fun g w (x : StopS P c Last vs g w) => x.chan) hE0 hc
          have hbs : b.status ≠ .blocked := by rw [hrb]; simp
          refine Ends.step (hst.trans (runT_recv_waits (StopR.comm hat _) (show (re w w.tape d).heap[c]? = _ from hch) hbs)) ?_
          rw [ofEvents_none, Array.append_empty]
          exact waits0 hLd hm hE0 d a sl' t p hat hc hT
        · obtain rfl : n' = n := by omega
          obtain ⟨a', w', es, hgo, ⟨rfl, rfl⟩, hg'⟩ := hstep (re w w.tape d) trivial
          refine Ends.step (hst.trans (runT_duo0 hgo)) ?_
          rw [woken_running hrb, ofEvents_none, Array.append_empty]
          exact ih d a' sl' t p (goes_any _ hg') hc hT
      · obtain ⟨hgo, j, hk⟩ := hs d
        refine Ends.step (hst.trans (runT_duo1 hgo)) ?_
        rw [woken_running hra]
        exact ihE d (h d) (n + 1) (nw d).drawn a sl' _ p hA (Nat.lt_of_lt_of_le hc hk.grows.size) (hT.add1 hk.quiet)

/-- ████ A SENDER THAT OWNS THE MEMORY, A RECEIVER THAT LEAVES IT ALONE, A CHANNEL WITHOUT A BUFFER, CLOSED: ON EVERY TAPE THE RUN ENDS. ████ -/
theorem pipe_ends (hLd : ∀ w d, Last w → Last (re w w.tape d)) : ∀ vs, Rest P c z Post Last vs := by
  intro vs
  induction vs with
  | nil =>
    intro a b w sl t p hc hA hB hT
    obtain ⟨n, hn⟩ := (recvE_iff P c z _ _ _).1 hA
    exact both (vs := []) hLd (fun v vs' e => by cases e) ((sendE_iff P c Last [] b w).1 hB) n w.drawn a sl t p hn hc hT
  | cons v vs ih =>
    intro a b w sl t p hc hA hB hT
    obtain ⟨n, hn⟩ := (recvE_iff P c z _ _ _).1 hA
    exact both (vs := v :: vs) hLd (fun v' vs' e => by cases e; exact ih) ((sendE_iff P c Last (v :: vs) b w).1 hB) n w.drawn a sl t p hn hc hT
end
end Go.Proofs.Ytibafngidpmgdab
