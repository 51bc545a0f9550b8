/- impl.lightOf: the light of two wheels, the second one turned. -/
import Derived.Test.YtflgjohknjgdcaaProg
import Derived.Test.YtflgjohknjgdcaaLight
import Derived.Laws.Cover1
import Derived.Deep.MidRow
import Derived.Deep.RegionWith
import Derived.Deep.RegionHeld3
import Derived.Deep.DrawnRows
import Derived.Deep.DeepCutAuto
import Derived.Tactics
import Derived.Tactics2
import Derived.WalkKit
import Derived.LoopTactic
import Derived.BigQuiet
import Derived.BigRegion
import Derived.RegionTactic
import Derived.Deep.QuietTactic
import Derived.Outline
import Derived.Lib.Hide
import Derived.Below
import Derived.KernelRfl
namespace Go.Proofs.Ytflgjohknjgdcaa
set_option linter.unusedSimpArgs false
set_option linter.unusedVariables false
open Go.RowKit

theorem bSetsAt {a W : World} (h : Below a.heap.size a W) {b : Nat} (hb : a.heap.size ≤ b) (cs : List Value) : Below a.heap.size a (W.setCells b 0 cs) := by
  have g : ∀ (cs : List Value) (W : World) (o : Nat), Below a.heap.size a W → Below a.heap.size a (W.setCells b o cs) := by
    intro cs
    induction cs with
    | nil => intro W o h; exact h
    | cons v cs ih => intro W o h; exact ih _ _ (bSet h hb _)
  exact g cs W 0 h
/-- A block of 16 cells, open to stores. -/
def Th (w : World) (b : Nat) : Prop := w.there b 0 16 ∧ b < w.heap.size
theorem thOf {W u : World} (hb : Below W.heap.size W u) {b : Nat} (h : Th W b) : Th u b :=
  ⟨fun j hj => by rw [hb.cell (p := ⟨b, 0 + j, none⟩) h.2, hb.frozen (p := ⟨b, 0 + j, none⟩) h.2]; exact h.1 j hj, Nat.lt_of_lt_of_le h.2 hb.size⟩
abbrev Z16 : Obj := .cells #[.int .u64 0, .int .u64 0, .int .u64 0, .int .u64 0, .int .u64 0, .int .u64 0, .int .u64 0, .int .u64 0, .int .u64 0, .int .u64 0, .int .u64 0, .int .u64 0, .int .u64 0, .int .u64 0, .int .u64 0, .int .u64 0] 102
theorem thAlloc (w : World) : Th (w.alloc Z16) w.heap.size := ⟨(wdsNew w _).there, (wdsNew w _).2⟩
theorem thAlloc2 (w : World) (o : Obj) : Th ((w.alloc o).alloc Z16) (w.heap.size + 1) := by
  have h := thAlloc (w.alloc o)
  rwa [World.size_alloc] at h
theorem thUp {w : World} {b : Nat} (h : Th w b) (o : Obj) : Th (w.alloc o) b := thOf (bAlloc (Below.refl _ _) _) h
theorem thDrew {w : World} {b : Nat} (h : Th w b) : Th w.drew b := h
theorem thCut {W u : World} {Q : Prop} (hb : Below W.heap.size W u) (b : Nat) (hx : Th W b) (h : Th u b → u.there b 0 16 → b < u.heap.size → ¬ b = u.heap.size → ¬ u.heap.size = b → (u.alloc (.cells #[.nilFunc] 75)).there b 0 16 → Q) : Q :=
  have k := thOf hb hx
  h k k.1 k.2 (Nat.ne_of_lt k.2) (Nat.ne_of_gt k.2) (thUp k _).1

theorem lightEnd {a X : World} {b1 b2 c1 c2 S G : Nat} {A : List Value} {f : Value} (hA : A.length = 16) (hT : Th X b1) (hB : Bx X b2 .nilFunc) (hO : Op X c1 c2 S G) (hne : ¬ b1 = b2) (n1 : ¬ b1 = c1) (n2 : ¬ b1 = c2) (n3 : ¬ b2 = c1) (n4 : ¬ b2 = c2) (hbel : Below a.heap.size a X) (l1 : a.heap.size ≤ b1) (l2 : a.heap.size ≤ b2) :
    ((X.setCells b1 0 A).setCell ⟨b2, 0, none⟩ f).rangeAt b1 0 A ∧ b1 < ((X.setCells b1 0 A).setCell ⟨b2, 0, none⟩ f).heap.size ∧ Bx ((X.setCells b1 0 A).setCell ⟨b2, 0, none⟩ f) b2 f ∧ Op ((X.setCells b1 0 A).setCell ⟨b2, 0, none⟩ f) c1 c2 S G ∧ Below a.heap.size a ((X.setCells b1 0 A).setCell ⟨b2, 0, none⟩ f) := by
  have hsz : ∀ (cs : List Value) (o : Nat) (X : World), (X.setCells b1 o cs).heap.size = X.heap.size := by
    intro cs
    induction cs with
    | nil => intro o X; rfl
    | cons v cs ih => intro o X; rw [World.setCells, ih]; simp
  have far : ∀ (c i : Nat), ¬ b1 = c → (X.setCells b1 0 A).cell? ⟨c, i, none⟩ = X.cell? ⟨c, i, none⟩ := fun c i h => World.cell?_setCells_out b1 A 0 X _ (fun e _ => absurd e.symm h)
  have hB2 : Bx (X.setCells b1 0 A) b2 .nilFunc := ⟨(far b2 0 hne).trans hB.1, by rw [hsz]; exact hB.2.1, by rw [World.frozen?_setCells]; exact hB.2.2⟩
  refine ⟨?_, ?_, bxSet hB2 f, ?_, ?_⟩
  · intro j v hv
    rw [World.cell?_setCell_other _ _ _ _ (by intro e; exact hne (congrArg Addr.block e).symm)]
    exact World.rangeAt_setCells_same X b1 0 A (by rw [hA]; exact hT.1) j v hv
  · simp only [World.size_setCell, hsz]; exact hT.2
  · exact ⟨(World.cell?_setCell_other _ _ _ _ (by simp [n3])).trans ((far c1 0 n1).trans hO.1), (World.cell?_setCell_other _ _ _ _ (by simp [n4])).trans ((far c2 0 n2).trans hO.2.1), by simp only [World.size_setCell, hsz]; exact hO.2.2.1, by simp only [World.size_setCell, hsz]; exact hO.2.2.2⟩
  · exact bSet (bSetsAt hbel l1 A) l2 f

theorem opUp {w : World} {b1 b2 S G : Nat} (h : Op w b1 b2 S G) (o : Obj) : Op (w.alloc o) b1 b2 S G := opOf (bAlloc (Below.refl _ _) _) h
theorem store_funcL {P : Program} {w : World} {a : Addr} {m : Mode} (fn : Fn) (first captured : Array Value) : (store a (.func fn first captured) m).run P w = stored P w a (.func fn first captured) m := run_store P w a _ m rfl
theorem setCells_far (w : World) (b o b2 i : Nat) (cs : List Value) (h : ¬ b = b2) : (w.setCells b o cs).cell? ⟨b2, i, none⟩ = w.cell? ⟨b2, i, none⟩ :=
  World.cell?_setCells_out b cs o w _ (fun e _ => absurd e.symm h)
attribute [local go_sem] store_funcL setCells_far World.frozen?_setCells

set_option maxHeartbeats 8000000 in
set_option maxRecDepth 100000 in
/-- impl.lightOf. -/
theorem lightOf_of (ma oa mb ob : Int) {Ma Sa Ga Mb Sb Gb : Nat} (WA : Wh ma oa Ma Sa Ga) (WB : Wh mb ob Mb Sb Gb) (A : List Value) (hA : psL (openB Sa Ga) 1000 = A) (w : World) :
    Calls Try.prog 81 #[fr ma oa, fr mb ob] w fun e w' => ∃ pf pi b1 b2 : Nat, e = .returned (.func (.func 98) #[] #[.pointer (some ⟨pf, 0, none⟩), .pointer (some ⟨pi, 0, none⟩)]) ∧ (w'.rangeAt pf 0 A ∧ pf < w'.heap.size ∧ Bx w' pi (opV b1 b2) ∧ Op w' b1 b2 Sb Gb) ∧ Below w.heap.size w w' := by
  have hmf : ∀ (fn : Fn) (first cap : Array Value) (w : World), (Instr.makeFunc fn first cap).run Try.prog w = .ok (.func fn first cap) w := fun _ _ _ _ => rfl
  have lA : A.length = 16 := by rw [← hA]; exact psL_length _ _
  have oA : A.toArray.all (·.oneCell') = true := by rw [← hA]; exact psL_one _ _
  have hsz : A.toArray.size = 16 := by simpa using lA
  have oA2 : ∀ v ∈ A, v.oneCell' = true := by
    rw [← hA]
    intro v hv
    simp only [psL, List.mem_map] at hv
    obtain ⟨i, _, rfl⟩ := hv
    rfl
  have OA := Lib.hid (fun w => opening_any ma oa WA w)
  have OB := Lib.hid (fun w => opening_new mb ob WB w)
  have sa := WA.sb
  have ga := WA.gs
  have SA := Lib.hid (fun (v : World) (b1 b2 : Nat) (h : Op v b1 b2 Sa Ga) => setOf1_any_of b1 b2 (openB Sa Ga) A hA v (fun k W hk hW => opening1_any b1 b2 k W (opOf hW h) (by omega) (by omega) (by omega) (by omega)))
  clear hA sa ga
  go_enter Try.func81, Try.ntmps81
  go_upto_region 1 with fail
  have B0 : Bk ((w.alloc (.cells #[.int .i64 ma, .int .i64 oa] 25)).alloc (.cells #[.int .i64 mb, .int .i64 ob] 25)) w.heap.size ma oa := bkOf (bAlloc (Below.refl _ _) _) (bkNew _ _ _ _)
  have B1 : Bk ((w.alloc (.cells #[.int .i64 ma, .int .i64 oa] 25)).alloc (.cells #[.int .i64 mb, .int .i64 ob] 25)) (w.heap.size + 1) mb ob := by
    have h := bkNew (w.alloc (.cells #[.int .i64 ma, .int .i64 oa] 25)) mb ob 25
    rwa [World.size_alloc] at h
  have h0 := Lib.hid (bAlloc (bAlloc (Below.refl w.heap.size w) (.cells #[.int .i64 ma, .int .i64 oa] 25)) (.cells #[.int .i64 mb, .int .i64 ob] 25))
  generalize (w.alloc (.cells #[.int .i64 ma, .int .i64 oa] 25)).alloc (.cells #[.int .i64 mb, .int .i64 ob] 25) = u3 at *
  obtain ⟨a0, b0, f0, g0, z0⟩ := B0
  obtain ⟨a1, b1, f1, g1, z1⟩ := B1
  have MK := Lib.hid (fun v (hb : Below u3.heap.size u3 v) => (⟨(hb.cell (p := ⟨w.heap.size, 0, none⟩) z0).trans a0, (hb.cell (p := ⟨w.heap.size, 1, none⟩) z0).trans b0, (hb.cell (p := ⟨w.heap.size + 1, 0, none⟩) z1).trans a1, (hb.cell (p := ⟨w.heap.size + 1, 1, none⟩) z1).trans b1, hb⟩ : v.cell? ⟨w.heap.size, 0, none⟩ = some (.int .i64 ma) ∧ v.cell? ⟨w.heap.size, 1, none⟩ = some (.int .i64 oa) ∧ v.cell? ⟨w.heap.size + 1, 0, none⟩ = some (.int .i64 mb) ∧ v.cell? ⟨w.heap.size + 1, 1, none⟩ = some (.int .i64 ob) ∧ Below u3.heap.size u3 v))
  have HB := Lib.hid (Below.refl u3.heap.size u3)
  have hu : Try.prog.underlying 102 = some (.array 16 95) := psArr
  have hinf : (Try.prog.info? 102).map (·.size) = some A.toArray.size := by rw [hsz]; exact psInfo
  go_cut [5, 6] (fun s5 s6 wx => ∃ pf pi b1 b2 : Nat, s5 = .pointer (some ⟨pf, 0, none⟩) ∧ s6 = .pointer (some ⟨pi, 0, none⟩) ∧ wx.rangeAt pf 0 A ∧ pf < wx.heap.size ∧ Bx wx pi (opV b1 b2) ∧ Op wx b1 b2 Sb Gb ∧ Below u3.heap.size u3 wx)
  case first =>
    go_region_held3 (fun v => v.cell? ⟨w.heap.size, 0, none⟩ = some (.int .i64 ma) ∧ v.cell? ⟨w.heap.size, 1, none⟩ = some (.int .i64 oa) ∧ v.cell? ⟨w.heap.size + 1, 0, none⟩ = some (.int .i64 mb) ∧ v.cell? ⟨w.heap.size + 1, 1, none⟩ = some (.int .i64 ob) ∧ Below u3.heap.size u3 v) ((refine MK.out _ ?_; repeat (first | with_reducible exact HB.out | with_reducible exact Below.refl _ _ | with_reducible refine bSetsAt ?_ (by first | (simp; done) | (simp; omega) | omega) _ | with_reducible refine bSet ?_ (by first | (simp; done) | (simp; omega) | omega) _ | with_reducible refine bAlloc ?_ _ | with_reducible refine Below.drew ?_))) (first | (go_at_call_of 80 (Value.agg #[.int .i64 ma, .int .i64 oa]); refine (OA.out _).mono ?_; rintro e vA ⟨bA1, bA2, rfl, hOA, hbA⟩; have HB := Lib.hid (bTrans (‹(_ ∧ _ ∧ _ ∧ _ ∧ Below _ u3 _)›).2.2.2.2 hbA); have hsvA := HB.out.size; (try (refine bxCut hbA (u3.heap.size) .nilFunc ?_ ?_; (first | with_reducible exact bxAlloc _ _ _ | with_reducible exact bxAlloc2 _ _ _ _ | with_reducible exact bxDrew (bxAlloc2 _ _ _ _) | with_reducible exact bxUp (bxAlloc _ _ _) _ | with_reducible exact bxDrew (bxAlloc _ _ _) | with_reducible exact bxDrew (bxUp (bxAlloc _ _ _) _) | with_reducible assumption | (with_reducible refine bxUp ?_ _; with_reducible assumption) | (with_reducible refine bxUp (bxUp ?_ _) _; with_reducible assumption)); intro q1a q1b q1c q1d q1e q1f)); (try (refine thCut hbA (u3.heap.size) ?_ ?_; (first | with_reducible exact thAlloc _ | with_reducible exact thAlloc2 _ _ | with_reducible exact thDrew (thAlloc2 _ _) | with_reducible exact thUp (thAlloc _) _ | with_reducible exact thDrew (thAlloc _) | with_reducible exact thDrew (thUp (thAlloc _) _) | with_reducible assumption | (with_reducible refine thUp ?_ _; with_reducible assumption) | (with_reducible refine thUp (thUp ?_ _) _; with_reducible assumption)); intro r1a r1b r1c r1d r1e r1f)); (try (refine bxCut hbA (u3.heap.size + 1) .nilFunc ?_ ?_; (first | with_reducible exact bxAlloc _ _ _ | with_reducible exact bxAlloc2 _ _ _ _ | with_reducible exact bxDrew (bxAlloc2 _ _ _ _) | with_reducible exact bxUp (bxAlloc _ _ _) _ | with_reducible exact bxDrew (bxAlloc _ _ _) | with_reducible exact bxDrew (bxUp (bxAlloc _ _ _) _) | with_reducible assumption | (with_reducible refine bxUp ?_ _; with_reducible assumption) | (with_reducible refine bxUp (bxUp ?_ _) _; with_reducible assumption)); intro q2a q2b q2c q2d q2e q2f)); (try (refine thCut hbA (u3.heap.size + 1) ?_ ?_; (first | with_reducible exact thAlloc _ | with_reducible exact thAlloc2 _ _ | with_reducible exact thDrew (thAlloc2 _ _) | with_reducible exact thUp (thAlloc _) _ | with_reducible exact thDrew (thAlloc _) | with_reducible exact thDrew (thUp (thAlloc _) _) | with_reducible assumption | (with_reducible refine thUp ?_ _; with_reducible assumption) | (with_reducible refine thUp (thUp ?_ _) _; with_reducible assumption)); intro r2a r2b r2c r2d r2e r2f)); have HOA := Lib.hid hOA; clear hOA) | (go_at_call 97; (first | refine (SA.out _ _ _ HOA.out).mono ?_ | refine (SA.out _ _ _ (opUp HOA.out _)).mono ?_ | refine (SA.out _ _ _ (opUp (opUp HOA.out _) _)).mono ?_); rintro e vB ⟨rfl, hbB⟩; have HB := Lib.hid (bTrans (‹(_ ∧ _ ∧ _ ∧ _ ∧ Below _ u3 _)›).2.2.2.2 hbB); have hsvB := HB.out.size; (try (refine bxCut hbB (u3.heap.size) .nilFunc ?_ ?_; (first | with_reducible exact bxAlloc _ _ _ | with_reducible exact bxAlloc2 _ _ _ _ | with_reducible exact bxDrew (bxAlloc2 _ _ _ _) | with_reducible exact bxUp (bxAlloc _ _ _) _ | with_reducible exact bxDrew (bxAlloc _ _ _) | with_reducible exact bxDrew (bxUp (bxAlloc _ _ _) _) | with_reducible assumption | (with_reducible refine bxUp ?_ _; with_reducible assumption) | (with_reducible refine bxUp (bxUp ?_ _) _; with_reducible assumption)); intro q3a q3b q3c q3d q3e q3f)); (try (refine thCut hbB (u3.heap.size) ?_ ?_; (first | with_reducible exact thAlloc _ | with_reducible exact thAlloc2 _ _ | with_reducible exact thDrew (thAlloc2 _ _) | with_reducible exact thUp (thAlloc _) _ | with_reducible exact thDrew (thAlloc _) | with_reducible exact thDrew (thUp (thAlloc _) _) | with_reducible assumption | (with_reducible refine thUp ?_ _; with_reducible assumption) | (with_reducible refine thUp (thUp ?_ _) _; with_reducible assumption)); intro r3a r3b r3c r3d r3e r3f)); (try (refine bxCut hbB (u3.heap.size + 1) .nilFunc ?_ ?_; (first | with_reducible exact bxAlloc _ _ _ | with_reducible exact bxAlloc2 _ _ _ _ | with_reducible exact bxDrew (bxAlloc2 _ _ _ _) | with_reducible exact bxUp (bxAlloc _ _ _) _ | with_reducible exact bxDrew (bxAlloc _ _ _) | with_reducible exact bxDrew (bxUp (bxAlloc _ _ _) _) | with_reducible assumption | (with_reducible refine bxUp ?_ _; with_reducible assumption) | (with_reducible refine bxUp (bxUp ?_ _) _; with_reducible assumption)); intro q4a q4b q4c q4d q4e q4f)); (try (refine thCut hbB (u3.heap.size + 1) ?_ ?_; (first | with_reducible exact thAlloc _ | with_reducible exact thAlloc2 _ _ | with_reducible exact thDrew (thAlloc2 _ _) | with_reducible exact thUp (thAlloc _) _ | with_reducible exact thDrew (thAlloc _) | with_reducible exact thDrew (thUp (thAlloc _) _) | with_reducible assumption | (with_reducible refine thUp ?_ _; with_reducible assumption) | (with_reducible refine thUp (thUp ?_ _) _; with_reducible assumption)); intro r4a r4b r4c r4d r4e r4f)); (try (refine bxCut hbB (vA.heap.size) .nilFunc ?_ ?_; (first | with_reducible exact bxAlloc _ _ _ | with_reducible exact bxAlloc2 _ _ _ _ | with_reducible exact bxDrew (bxAlloc2 _ _ _ _) | with_reducible exact bxUp (bxAlloc _ _ _) _ | with_reducible exact bxDrew (bxAlloc _ _ _) | with_reducible exact bxDrew (bxUp (bxAlloc _ _ _) _) | with_reducible assumption | (with_reducible refine bxUp ?_ _; with_reducible assumption) | (with_reducible refine bxUp (bxUp ?_ _) _; with_reducible assumption)); intro q5a q5b q5c q5d q5e q5f)); (try (refine thCut hbB (vA.heap.size) ?_ ?_; (first | with_reducible exact thAlloc _ | with_reducible exact thAlloc2 _ _ | with_reducible exact thDrew (thAlloc2 _ _) | with_reducible exact thUp (thAlloc _) _ | with_reducible exact thDrew (thAlloc _) | with_reducible exact thDrew (thUp (thAlloc _) _) | with_reducible assumption | (with_reducible refine thUp ?_ _; with_reducible assumption) | (with_reducible refine thUp (thUp ?_ _) _; with_reducible assumption)); intro r5a r5b r5c r5d r5e r5f)); (try (refine bxCut hbB (vA.heap.size + 1) .nilFunc ?_ ?_; (first | with_reducible exact bxAlloc _ _ _ | with_reducible exact bxAlloc2 _ _ _ _ | with_reducible exact bxDrew (bxAlloc2 _ _ _ _) | with_reducible exact bxUp (bxAlloc _ _ _) _ | with_reducible exact bxDrew (bxAlloc _ _ _) | with_reducible exact bxDrew (bxUp (bxAlloc _ _ _) _) | with_reducible assumption | (with_reducible refine bxUp ?_ _; with_reducible assumption) | (with_reducible refine bxUp (bxUp ?_ _) _; with_reducible assumption)); intro q6a q6b q6c q6d q6e q6f)); (try (refine thCut hbB (vA.heap.size + 1) ?_ ?_; (first | with_reducible exact thAlloc _ | with_reducible exact thAlloc2 _ _ | with_reducible exact thDrew (thAlloc2 _ _) | with_reducible exact thUp (thAlloc _) _ | with_reducible exact thDrew (thAlloc _) | with_reducible exact thDrew (thUp (thAlloc _) _) | with_reducible assumption | (with_reducible refine thUp ?_ _; with_reducible assumption) | (with_reducible refine thUp (thUp ?_ _) _; with_reducible assumption)); intro r6a r6b r6c r6d r6e r6f))) | (go_at_call_of 80 (Value.agg #[.int .i64 mb, .int .i64 ob]); refine (OB.out _).mono ?_; rintro e vC ⟨bC1, bC2, rfl, hOC, hfC, hbC⟩; have HB := Lib.hid (bTrans (‹(_ ∧ _ ∧ _ ∧ _ ∧ Below _ u3 _)›).2.2.2.2 hbC); have hsvC := HB.out.size; (try (refine bxCut hbC (u3.heap.size) .nilFunc ?_ ?_; (first | with_reducible exact bxAlloc _ _ _ | with_reducible exact bxAlloc2 _ _ _ _ | with_reducible exact bxDrew (bxAlloc2 _ _ _ _) | with_reducible exact bxUp (bxAlloc _ _ _) _ | with_reducible exact bxDrew (bxAlloc _ _ _) | with_reducible exact bxDrew (bxUp (bxAlloc _ _ _) _) | with_reducible assumption | (with_reducible refine bxUp ?_ _; with_reducible assumption) | (with_reducible refine bxUp (bxUp ?_ _) _; with_reducible assumption)); intro q7a q7b q7c q7d q7e q7f)); (try (refine thCut hbC (u3.heap.size) ?_ ?_; (first | with_reducible exact thAlloc _ | with_reducible exact thAlloc2 _ _ | with_reducible exact thDrew (thAlloc2 _ _) | with_reducible exact thUp (thAlloc _) _ | with_reducible exact thDrew (thAlloc _) | with_reducible exact thDrew (thUp (thAlloc _) _) | with_reducible assumption | (with_reducible refine thUp ?_ _; with_reducible assumption) | (with_reducible refine thUp (thUp ?_ _) _; with_reducible assumption)); intro r7a r7b r7c r7d r7e r7f)); (try (refine bxCut hbC (u3.heap.size + 1) .nilFunc ?_ ?_; (first | with_reducible exact bxAlloc _ _ _ | with_reducible exact bxAlloc2 _ _ _ _ | with_reducible exact bxDrew (bxAlloc2 _ _ _ _) | with_reducible exact bxUp (bxAlloc _ _ _) _ | with_reducible exact bxDrew (bxAlloc _ _ _) | with_reducible exact bxDrew (bxUp (bxAlloc _ _ _) _) | with_reducible assumption | (with_reducible refine bxUp ?_ _; with_reducible assumption) | (with_reducible refine bxUp (bxUp ?_ _) _; with_reducible assumption)); intro q8a q8b q8c q8d q8e q8f)); (try (refine thCut hbC (u3.heap.size + 1) ?_ ?_; (first | with_reducible exact thAlloc _ | with_reducible exact thAlloc2 _ _ | with_reducible exact thDrew (thAlloc2 _ _) | with_reducible exact thUp (thAlloc _) _ | with_reducible exact thDrew (thAlloc _) | with_reducible exact thDrew (thUp (thAlloc _) _) | with_reducible assumption | (with_reducible refine thUp ?_ _; with_reducible assumption) | (with_reducible refine thUp (thUp ?_ _) _; with_reducible assumption)); intro r8a r8b r8c r8d r8e r8f)); (try (refine bxCut hbC (vA.heap.size) .nilFunc ?_ ?_; (first | with_reducible exact bxAlloc _ _ _ | with_reducible exact bxAlloc2 _ _ _ _ | with_reducible exact bxDrew (bxAlloc2 _ _ _ _) | with_reducible exact bxUp (bxAlloc _ _ _) _ | with_reducible exact bxDrew (bxAlloc _ _ _) | with_reducible exact bxDrew (bxUp (bxAlloc _ _ _) _) | with_reducible assumption | (with_reducible refine bxUp ?_ _; with_reducible assumption) | (with_reducible refine bxUp (bxUp ?_ _) _; with_reducible assumption)); intro q9a q9b q9c q9d q9e q9f)); (try (refine thCut hbC (vA.heap.size) ?_ ?_; (first | with_reducible exact thAlloc _ | with_reducible exact thAlloc2 _ _ | with_reducible exact thDrew (thAlloc2 _ _) | with_reducible exact thUp (thAlloc _) _ | with_reducible exact thDrew (thAlloc _) | with_reducible exact thDrew (thUp (thAlloc _) _) | with_reducible assumption | (with_reducible refine thUp ?_ _; with_reducible assumption) | (with_reducible refine thUp (thUp ?_ _) _; with_reducible assumption)); intro r9a r9b r9c r9d r9e r9f)); (try (refine bxCut hbC (vA.heap.size + 1) .nilFunc ?_ ?_; (first | with_reducible exact bxAlloc _ _ _ | with_reducible exact bxAlloc2 _ _ _ _ | with_reducible exact bxDrew (bxAlloc2 _ _ _ _) | with_reducible exact bxUp (bxAlloc _ _ _) _ | with_reducible exact bxDrew (bxAlloc _ _ _) | with_reducible exact bxDrew (bxUp (bxAlloc _ _ _) _) | with_reducible assumption | (with_reducible refine bxUp ?_ _; with_reducible assumption) | (with_reducible refine bxUp (bxUp ?_ _) _; with_reducible assumption)); intro q10a q10b q10c q10d q10e q10f)); (try (refine thCut hbC (vA.heap.size + 1) ?_ ?_; (first | with_reducible exact thAlloc _ | with_reducible exact thAlloc2 _ _ | with_reducible exact thDrew (thAlloc2 _ _) | with_reducible exact thUp (thAlloc _) _ | with_reducible exact thDrew (thAlloc _) | with_reducible exact thDrew (thUp (thAlloc _) _) | with_reducible assumption | (with_reducible refine thUp ?_ _; with_reducible assumption) | (with_reducible refine thUp (thUp ?_ _) _; with_reducible assumption)); intro r10a r10b r10c r10d r10e r10f)); (try (refine bxCut hbC (vB.heap.size) .nilFunc ?_ ?_; (first | with_reducible exact bxAlloc _ _ _ | with_reducible exact bxAlloc2 _ _ _ _ | with_reducible exact bxDrew (bxAlloc2 _ _ _ _) | with_reducible exact bxUp (bxAlloc _ _ _) _ | with_reducible exact bxDrew (bxAlloc _ _ _) | with_reducible exact bxDrew (bxUp (bxAlloc _ _ _) _) | with_reducible assumption | (with_reducible refine bxUp ?_ _; with_reducible assumption) | (with_reducible refine bxUp (bxUp ?_ _) _; with_reducible assumption)); intro q11a q11b q11c q11d q11e q11f)); (try (refine thCut hbC (vB.heap.size) ?_ ?_; (first | with_reducible exact thAlloc _ | with_reducible exact thAlloc2 _ _ | with_reducible exact thDrew (thAlloc2 _ _) | with_reducible exact thUp (thAlloc _) _ | with_reducible exact thDrew (thAlloc _) | with_reducible exact thDrew (thUp (thAlloc _) _) | with_reducible assumption | (with_reducible refine thUp ?_ _; with_reducible assumption) | (with_reducible refine thUp (thUp ?_ _) _; with_reducible assumption)); intro r11a r11b r11c r11d r11e r11f)); (try (refine bxCut hbC (vB.heap.size + 1) .nilFunc ?_ ?_; (first | with_reducible exact bxAlloc _ _ _ | with_reducible exact bxAlloc2 _ _ _ _ | with_reducible exact bxDrew (bxAlloc2 _ _ _ _) | with_reducible exact bxUp (bxAlloc _ _ _) _ | with_reducible exact bxDrew (bxAlloc _ _ _) | with_reducible exact bxDrew (bxUp (bxAlloc _ _ _) _) | with_reducible assumption | (with_reducible refine bxUp ?_ _; with_reducible assumption) | (with_reducible refine bxUp (bxUp ?_ _) _; with_reducible assumption)); intro q12a q12b q12c q12d q12e q12f)); (try (refine thCut hbC (vB.heap.size + 1) ?_ ?_; (first | with_reducible exact thAlloc _ | with_reducible exact thAlloc2 _ _ | with_reducible exact thDrew (thAlloc2 _ _) | with_reducible exact thUp (thAlloc _) _ | with_reducible exact thDrew (thAlloc _) | with_reducible exact thDrew (thUp (thAlloc _) _) | with_reducible assumption | (with_reducible refine thUp ?_ _; with_reducible assumption) | (with_reducible refine thUp (thUp ?_ _) _; with_reducible assumption)); intro r12a r12b r12c r12d r12e r12f)); have HOC := Lib.hid hOC; clear hOC; have HFC := Lib.hid hfC; clear hfC; have tt1 := (thAlloc vC).1; have tt2 := (thUp (thAlloc vC) (.cells #[.nilFunc] 75)).1; have tt3 := (thAlloc2 vC (.cells #[.nilFunc] 75)).1))
    all_goals go_wp2_with fail
    all_goals go_meet
    all_goals
      have hf := HFC.out
      have lo1 := HOC.out.2.2.1
      have lo2 := HOC.out.2.2.2
      obtain ⟨hf1, hf2⟩ := hf
      try simp only [World.size_alloc, World.size_drew] at hf1 hf2
      refine ⟨_, _, bC1, bC2, rfl, rfl, ?_⟩
      refine lightEnd lA ?_ ?_ ?_ ?_ ?_ ?_ ?_ ?_ ?_ ?_ ?_
    all_goals first | omega | (with_reducible assumption) | (simp; done) | (simp; omega) | with_reducible exact HOC.out | with_reducible exact opUp HOC.out _ | with_reducible exact opUp (opUp HOC.out _) _ | (first | with_reducible exact thAlloc _ | with_reducible exact thAlloc2 _ _ | with_reducible exact thDrew (thAlloc2 _ _) | with_reducible exact thUp (thAlloc _) _ | with_reducible exact thDrew (thAlloc _) | with_reducible exact thDrew (thUp (thAlloc _) _) | with_reducible assumption | (with_reducible refine thUp ?_ _; with_reducible assumption) | (with_reducible refine thUp (thUp ?_ _) _; with_reducible assumption)) | (first | with_reducible exact bxAlloc _ _ _ | with_reducible exact bxAlloc2 _ _ _ _ | with_reducible exact bxDrew (bxAlloc2 _ _ _ _) | with_reducible exact bxUp (bxAlloc _ _ _) _ | with_reducible exact bxDrew (bxAlloc _ _ _) | with_reducible exact bxDrew (bxUp (bxAlloc _ _ _) _) | with_reducible assumption | (with_reducible refine bxUp ?_ _; with_reducible assumption) | (with_reducible refine bxUp (bxUp ?_ _) _; with_reducible assumption)) | with_reducible exact HB.out | with_reducible exact bAlloc HB.out _ | with_reducible exact bAlloc (bAlloc HB.out _) _ | trace_state
  case rest =>
    obtain ⟨pf, pi, b1, b2, rfl, rfl, R1, R2, R3, R4, hb⟩ := hcut
    clear hu hinf
    go_wp2_with fail
    go_ret
    exact ⟨pf, pi, b1, b2, rfl, ⟨R1, R2, R3, R4⟩, h0.out.trans (hb.mono (Nat.le_of_lt z0))⟩

end Go.Proofs.Ytflgjohknjgdcaa
