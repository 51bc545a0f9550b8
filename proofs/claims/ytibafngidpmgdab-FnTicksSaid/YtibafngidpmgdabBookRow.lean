/- The scenes that a reader sees, in the program: a part of a row. -/
import Derived.Test.YtibafngidpmgdabPages
import Derived.Test.YtibafngidpmgdabIterAt
import Derived.Test.YtibafngidpmgdabScnOk2
import Derived.Laws.AppendOwn
import Derived.Laws.OwnMore
import Derived.IntWalk
import Derived.WalkSpells
import Derived.OwnWalk
import Derived.Tactics
import Derived.Tactics2
import Derived.WalkKit
import Derived.LoopTactic
import Derived.BigQuiet
import Derived.RegionTactic
import Derived.Deep.QuietTactic
import Derived.Outline
import Derived.Lib.Hide
import Derived.Below
import Derived.KernelRfl
namespace Go.Proofs.Ytibafngidpmgdab
set_option linter.unusedSimpArgs false
set_option linter.unusedVariables false
open Go.RowKit

theorem iterPos_of {W : World} {b : Nat} {s : ByteArray} {k : Nat} (h : W.heap[b]? = some (.stringIter s k)) : W.iterPos b = k := by rw [World.iterPos, h]
/-- A list of scenes at the head of a row of the call's own. -/
def PartC (w : World) (B : Nat) (v : Value) (ps : List Scn) : Prop :=
  (v = .slice none 0 0 ∧ ps = []) ∨ ∃ g c n cap rest, v = .slice (some ⟨g, 0, none⟩) ps.length c ∧ n ≤ 1048576 ∧ w.ownsRow B 29 2 (.slice (some ⟨g, 0, none⟩) n cap) n (flatC (ps ++ rest))
theorem PartC.of {w : World} {B : Nat} {v : Value} {ps : List Scn} (h : Scs w B v ps) (hl : ps.length ≤ 1048576) : PartC w B v ps := by
  have h' := h
  rcases h.2 with ⟨rfl, h0⟩ | ⟨g, cap, cur, rfl, _⟩
  · exact .inl ⟨rfl, List.length_eq_zero_iff.1 h0⟩
  · exact .inr ⟨g, cap, ps.length, cap, [], rfl, hl, by rw [List.append_nil]; exact h'⟩
theorem PartC.below {w u : World} {B : Nat} {v : Value} {ps : List Scn} (h : PartC w B v ps) (hb : Below w.heap.size w u) : PartC u B v ps := by
  rcases h with h | ⟨g, c, n, cap, rest, hv, hn, ho⟩
  · exact .inl h
  · exact .inr ⟨g, c, n, cap, rest, hv, hn, ownsBC ho hb⟩
theorem PartC.lt {w : World} {B : Nat} {v : Value} {ps : List Scn} (h : PartC w B v ps) : ∀ k, v.ownBlock = some k → B ≤ k ∧ k < w.heap.size := by
  intro k hk
  rcases h with ⟨rfl, _⟩ | ⟨g, c, n, cap, rest, rfl, _, ho⟩
  · cases hk
  · exact World.ownsRow.lt ho k hk
theorem PartC.rd {w : World} {B : Nat} {v : Value} {ps : List Scn} (h : PartC w B v ps) : ∃ A cap, v = .slice A ps.length cap ∧ RdC w A ps.length ps := by
  rcases h with ⟨rfl, rfl⟩ | ⟨g, c, n, cap, rest, rfl, hn, ho⟩
  · exact ⟨none, 0, rfl, rfl, Nat.zero_le _, .inl rfl⟩
  · have hlen : ps.length + rest.length = n := by
      have := ho.1
      rw [flatC_length, List.length_append] at this
      omega
    refine ⟨_, c, rfl, rfl, by omega, .inr ⟨g, rfl, (World.ownsRow.lt ho g rfl).2, fun j hj => ?_⟩⟩
    rw [World.ownsRow.cellAt ho (j * 2) (by omega), World.ownsRow.cellAt ho (j * 2 + 1) (by omega)]
    have h2 := flatC_get (ps ++ rest) j (by rw [List.length_append]; omega)
    rw [List.getD_eq_getElem?_getD, List.getElem?_append_left hj, ← List.getD_eq_getElem?_getD] at h2
    exact h2
theorem PartC.grown {w u : World} {B : Nat} {v : Value} {ps : List Scn} {row : Option Nat} (h : PartC w B v ps) (hg : w.grownBy u row) (hne : v.ownBlock = none ∨ v.ownBlock ≠ row) : PartC u B v ps := by
  rcases h with h | ⟨g, c, n, cap, rest, rfl, hn, ho⟩
  · exact .inl h
  · refine .inr ⟨g, c, n, cap, rest, rfl, hn, World.ownsRow.kept ho hg ?_⟩
    exact hne

theorem PartC.base {w : World} {B B' : Nat} {v : Value} {ps : List Scn} (h : PartC w B v ps) (hB : B' ≤ B) : PartC w B' v ps := by
  rcases h with h | ⟨g, c, n, cap, rest, rfl, hn, ho⟩
  · exact .inl h
  · exact .inr ⟨g, c, n, cap, rest, rfl, hn, ⟨ho.1, ho.2.imp id (fun ⟨a, b, c, d, e, f⟩ => ⟨a, b, c, d, Nat.le_trans hB e, f⟩)⟩⟩

/-- A scene behind the last one, in a row that has room. -/
theorem room_new (L : List Scn) (p : ByteArray) (e : Int) (n : Nat) (h : L.length < n) : (L ++ List.replicate (n - L.length) s0).set L.length (p, e) = (L ++ [(p, e)]) ++ List.replicate (n - (L.length + 1)) s0 := by
  rw [List.set_append_right _ _ (Nat.le_refl _), Nat.sub_self, show n - L.length = (n - (L.length + 1)) + 1 by omega, List.replicate_succ, List.set_cons_zero, List.append_assoc]
  rfl
theorem room_more (L : List Scn) (x : Scn) (n : Nat) (h : 0 < L.length) : (L ++ List.replicate n s0).set (L.length - 1) x = L.set (L.length - 1) x ++ List.replicate n s0 := by
  rw [List.set_append_left _ _ (by omega)]

set_option maxHeartbeats 2000000 in
set_option maxRecDepth 100000 in
/-- impl.scenesOf. -/
theorem scenesOf_any (s : ByteArray) (e : Int) (w : World) (h1 : posB s 60 = true) (e1 : 1 ≤ e) (e2 : e ≤ 100) :
    Calls Try.prog 57 #[.string s, .int .i64 e] w fun r w' => ∃ v, r = .returned v ∧ PartC w' w.heap.size v (runsC s e s.size) ∧ Below w.heap.size w w' := by
  obtain ⟨z1, z2⟩ := posB_size h1
  obtain ⟨n, hn⟩ : ∃ n, s.size = n := ⟨_, rfl⟩
  obtain ⟨i0, hi, hz0, hz1, hz2⟩ := info_parts infoC
  have hby : i0.bytes * n ≤ 281474976710656 := by rw [hz2]; omega
  have LB := Lib.hid (fun k (hk : k < s.size) => show (s[k]'hk).toNat < 128 by
    have h2 := posB_letter h1 hk
    rw [letter_of hk]
    simp only [smallB, Bool.and_eq_true, decide_eq_true_eq] at h2
    omega)
  have FA := Lib.hid (fun k => runsC_facts s (e := e) (by omega) k)
  have HN := Lib.hid hn
  clear h1
  have hsz : (s.size : Int) = (n : Int) := by rw [hn]
  go_enter Try.func57, Try.ntmps57
  go_wp2_with (first | (at_make; refine wpList_make_full _ rfl _ _ 24 rfl w.heap.size 29 i0 (sv ByteArray.empty 0) 2 Try.underlying24 hi hz0 hz1 .i64 .i64 (n : Int) (n : Int) n rfl rfl rfl rfl hby (by unfold maxLen; omega) (Nat.le_refl _) ?_; intro w1 hown1 hgrow1) | fail)
  have HO1 := Lib.hid hown1
  have HB1 := Lib.hid (Below.grown (Below.refl _ w) hgrow1 (Nat.le_refl _) (fun k hk => by cases hk))
  have hg1 : w.heap.size < w1.heap.size := (World.ownsRow.lt hown1 _ rfl).2
  clear hown1 hgrow1
  have HI0 := Lib.hid (World.iter_heap w1 s 0)
  have HO2 := Lib.hid (show (w1.iter s 0).ownsRow w.heap.size 29 2 (.slice (some ⟨w.heap.size, 0, none⟩) n n) n (flatC (List.replicate n Go.Proofs.Ytibafngidpmgdab.s0)) by
    have h1 := World.ownsRow.alloc HO1.out (.stringIter s 0)
    rw [made_flatC] at h1
    exact h1)
  have HB2 := Lib.hid (show Below w.heap.size w (w1.iter s 0) from bAlloc HB1.out _)
  clear HO1 HB1
  obtain ⟨IT, hIT⟩ : ∃ IT, w1.heap.size = IT := ⟨_, rfl⟩
  rw [hIT] at HI0 hg1
  rw [hIT]
  generalize w1.iter s 0 = W0 at *
  clear hIT
  go_loopw [6] (fun m wr => ∃ k : Nat, k ≤ n ∧ m = .int .i64 (((runsC s e k).length : Nat) : Int) ∧ Hid (wr.ownsRow w.heap.size 29 2 (.slice (some ⟨w.heap.size, 0, none⟩) n n) n (flatC (runsC s e k ++ List.replicate (n - (runsC s e k).length) Go.Proofs.Ytibafngidpmgdab.s0))) ∧ Hid (wr.heap[IT]? = some (.stringIter s k)) ∧ Hid (Below w.heap.size w wr)) (fun _ wr => n - wr.iterPos IT)
  case atStart => exact ⟨0, Nat.zero_le _, rfl, Lib.hid (by simpa [runsC] using HO2.out), HI0, HB2⟩
  case round =>
    obtain ⟨k, hk, rfl, HO, HI, HB⟩ := hrel
    have hpos : wr.iterPos IT = k := by rw [World.iterPos, HI.out]
    have HPOS := Lib.hid hpos
    clear hpos
    by_cases hlt : k < n
    · have hks : k < s.size := by rw [HN.out]; exact hlt
      have hnx : ∀ ty, (Instr.next (.pointer (some ⟨IT, 0, none⟩)) true ty).run Try.prog wr = _ := fun ty => run_next_at wr IT s k ty HI.out hks (LB.out k hks)
      have hI2 := iterAt_heap (p := k + 1) HI.out
      have hO2 := World.ownsRow.kept HO.out (iterAt_grown wr IT s (k + 1)) (.inr (by
        intro h
        simp only [Value.ownBlock, Option.some.injEq] at h
        omega))
      have hB2 := iterAt_below (s := s) (p := k + 1) HB.out (show w.heap.size ≤ IT by omega)
      generalize iterAt wr IT s (k + 1) = u at *
      obtain ⟨f1, f2, f3, _⟩ := FA.out k
      have hk100 : e * (k : Int) ≤ 6000 := by
        have h3 := Int.mul_le_mul_of_nonneg_right e2 (show (0 : Int) ≤ (k : Int) by omega)
        omega
      have f3' : ∀ j, j < (runsC s e k).length → 0 ≤ ((runsC s e k).getD j Go.Proofs.Ytibafngidpmgdab.s0).2 ∧ ((runsC s e k).getD j Go.Proofs.Ytibafngidpmgdab.s0).2 ≤ 6000 := fun j hj => by have := f3 j hj; omega
      have hne : IT ≠ w.heap.size := by omega
      have hI3 := Lib.hid hI2
      have hB3 := Lib.hid hB2
      have hf := Lib.hid (fun o => World.ownsRow.frozenAt hO2 o)
      have hgu : w.heap.size < u.heap.size := (World.ownsRow.lt hO2 _ rfl).2
      have hOH := Lib.hid hO2
      have HNEW := Lib.hid (fun h => runsC_new (s := s) (e := e) (k := k) h)
      have HMORE := Lib.hid (fun h => runsC_more (s := s) (e := e) (k := k) h)
      have F2 := Lib.hid f2
      have hF3 := Lib.hid f3'
      have hcell := Lib.hid (fun j (hj : j < n) => (And.intro ((World.ownsRow.cellAt hO2 (j * 2) (by omega)).trans (flatC_get (runsC s e k ++ List.replicate (n - (runsC s e k).length) Go.Proofs.Ytibafngidpmgdab.s0) j (by rw [List.length_append, List.length_replicate]; omega)).1) ((World.ownsRow.cellAt hO2 (j * 2 + 1) (by omega)).trans (flatC_get (runsC s e k ++ List.replicate (n - (runsC s e k).length) Go.Proofs.Ytibafngidpmgdab.s0) j (by rw [List.length_append, List.length_replicate]; omega)).2)))
      clear hO2 hI2 hB2 f2 f3 f3' hk100
      generalize hL : runsC s e k = L at *
      have HL := Lib.hid hL
      clear hL
      obtain ⟨m, hm⟩ : ∃ m, L.length = m := ⟨_, rfl⟩
      have HM := Lib.hid hm
      rw [hm] at f1 hF3 hcell hOH F2 HMORE HNEW ⊢
      clear hm
      -- a new scene at place m, or the last one longer
      by_cases hnew : m = 0 ∨ (L.getD (m - 1) Go.Proofs.Ytibafngidpmgdab.s0).1 ≠ pageT s k
      · have hgd : (L ++ List.replicate (n - m) Go.Proofs.Ytibafngidpmgdab.s0).getD m Go.Proofs.Ytibafngidpmgdab.s0 = Go.Proofs.Ytibafngidpmgdab.s0 := by
          rw [List.getD_eq_getElem?_getD, List.getElem?_append_right (by rw [HM.out]; exact Nat.le_refl _), HM.out, Nat.sub_self, List.getElem?_replicate]
          split <;> rfl
        obtain ⟨c0, c1⟩ := hcell.out m (by omega)
        rw [hgd] at c0 c1
        have g0 := hf.out (m * 2)
        have g1 := hf.out (m * 2 + 1)
        obtain ⟨S1, G1⟩ := World.ownsRow.stored hOH.out (m * 2) (.string (s.extract k (k + 1)))
        obtain ⟨S2, G2⟩ := World.ownsRow.stored S1 (m * 2 + 1) (.int .i64 e)
        have e4 := flatC_set (L ++ List.replicate (n - m) Go.Proofs.Ytibafngidpmgdab.s0) m (s.extract k (k + 1), e)
        have hroom := room_new L (s.extract k (k + 1)) e n (by rw [HM.out]; omega)
        rw [HM.out] at hroom
        rw [hroom] at e4
        simp only at e4
        rw [e4] at S2
        have HNW := Lib.hid (HNEW.out hnew)
        have H3 := Lib.hid S2
        have H4 := Lib.hid (Below.grown (Below.grown hB3.out G1 (by omega) (fun j hj => by injection hj; omega)) G2 (Nat.le_trans (by omega) G1.size) (fun j hj => by injection hj; omega))
        have H5 := Lib.hid ((G2.block IT (by
          have h1 := (Array.getElem?_eq_some_iff.1 hI3.out).1
          exact Nat.lt_of_lt_of_le h1 G1.size) (fun x => hne (by injection x))).trans ((G1.block IT (Array.getElem?_eq_some_iff.1 hI3.out).1 (fun x => hne (by injection x))).trans hI3.out))
        have HPG := Lib.hid (show s.extract k (k + 1) = pageT s k from rfl)
        clear S1 S2 G1 G2 e4 hroom hgd
        by_cases hm0 : m = 0
        · subst hm0
          clear hnew
          go_wp2
          go_roundw
          case rel =>
            refine ⟨k + 1, by omega, ?_, Lib.hid ?_, Lib.hid ?_, Lib.hid ?_⟩
            · rw [HNW.out, List.length_append, HM.out]
              first | rfl | (simp; done) | go_num
            · rw [HNW.out, List.length_append, HM.out]
              first | exact H3.out | simpa using H3.out
            · first | exact H5.out | simpa using H5.out
            · first | exact H4.out | simpa using H4.out
          case measure =>
            have h5 := H5.out
            have h6 := HPOS.out
            have h7 := iterPos_of h5
            first | rw [h6, h7] | (simp at h7; rw [h6, h7])
            omega
        · have hm1 : 1 ≤ m := by omega
          have hx := hnew.resolve_left hm0
          obtain ⟨d0, _⟩ := hcell.out (m - 1) (by omega)
          have hg2 : (L ++ List.replicate (n - m) Go.Proofs.Ytibafngidpmgdab.s0).getD (m - 1) Go.Proofs.Ytibafngidpmgdab.s0 = L.getD (m - 1) Go.Proofs.Ytibafngidpmgdab.s0 := by
            rw [List.getD_eq_getElem?_getD, List.getElem?_append_left (by rw [HM.out]; omega), ← List.getD_eq_getElem?_getD]
          rw [hg2] at d0
          clear hg2
          have hb0 : ((m : Int) == 0) = false := beq_eq_false_iff_ne.2 (by omega)
          have he : ((L.getD (m - 1) Go.Proofs.Ytibafngidpmgdab.s0).1.toList != (s.extract k (k + 1)).toList) = true := by
            have h2 : ((L.getD (m - 1) Go.Proofs.Ytibafngidpmgdab.s0).1.toList == (pageT s k).toList) = false := eqT_false hx
            show (!((L.getD (m - 1) Go.Proofs.Ytibafngidpmgdab.s0).1.toList == (pageT s k).toList)) = true
            rw [h2]
            rfl
          have he2 : ((L.getD (m - 1) Go.Proofs.Ytibafngidpmgdab.s0).1.toList == (s.extract k (k + 1)).toList) = false := eqT_false hx
          generalize (L.getD (m - 1) Go.Proofs.Ytibafngidpmgdab.s0).1 = x at *
          clear hnew hx hm0
          go_wp2
          go_roundw
          case rel =>
            refine ⟨k + 1, by omega, ?_, Lib.hid ?_, Lib.hid ?_, Lib.hid ?_⟩
            · rw [HNW.out, List.length_append, HM.out]
              first | rfl | (simp; done) | go_num
            · rw [HNW.out, List.length_append, HM.out]
              first | exact H3.out | simpa using H3.out
            · first | exact H5.out | simpa using H5.out
            · first | exact H4.out | simpa using H4.out
          case measure =>
            have h5 := H5.out
            have h6 := HPOS.out
            have h7 := iterPos_of h5
            first | rw [h6, h7] | (simp at h7; rw [h6, h7])
            omega
      · have hm1 : 1 ≤ m := by omega
        have hx : (L.getD (m - 1) Go.Proofs.Ytibafngidpmgdab.s0).1 = pageT s k := by
          by_cases h : (L.getD (m - 1) Go.Proofs.Ytibafngidpmgdab.s0).1 = pageT s k
          · exact h
          · exact absurd (.inr h) hnew
        obtain ⟨d0, d1⟩ := hcell.out (m - 1) (by omega)
        have hg2 : (L ++ List.replicate (n - m) Go.Proofs.Ytibafngidpmgdab.s0).getD (m - 1) Go.Proofs.Ytibafngidpmgdab.s0 = L.getD (m - 1) Go.Proofs.Ytibafngidpmgdab.s0 := by
          rw [List.getD_eq_getElem?_getD, List.getElem?_append_left (by rw [HM.out]; omega), ← List.getD_eq_getElem?_getD]
        rw [hg2] at d0 d1
        obtain ⟨t1, t2⟩ := hF3.out (m - 1) (by omega)
        have hb0 : ((m : Int) == 0) = false := beq_eq_false_iff_ne.2 (by omega)
        have he : ((L.getD (m - 1) Go.Proofs.Ytibafngidpmgdab.s0).1.toList != (s.extract k (k + 1)).toList) = false := by
          rw [hx]
          simp [pageT]
        have he2 : ((L.getD (m - 1) Go.Proofs.Ytibafngidpmgdab.s0).1.toList == (s.extract k (k + 1)).toList) = true := by
          rw [hx]
          exact eqT_refl _
        have g1 := hf.out ((m - 1) * 2 + 1)
        have HMR := Lib.hid (HMORE.out hnew)
        obtain ⟨S2, G2⟩ := World.ownsRow.stored hOH.out ((m - 1) * 2 + 1) (.int .i64 ((L.getD (m - 1) Go.Proofs.Ytibafngidpmgdab.s0).2 + e))
        rw [flatC_set1 _ _ _ (by rw [List.length_append, HM.out]; omega), hg2] at S2
        have hroom := room_more L ((L.getD (m - 1) Go.Proofs.Ytibafngidpmgdab.s0).1, (L.getD (m - 1) Go.Proofs.Ytibafngidpmgdab.s0).2 + e) (n - m) (by rw [HM.out]; omega)
        rw [HM.out] at hroom
        rw [hroom] at S2
        have H3 := Lib.hid S2
        have H4 := Lib.hid (Below.grown hB3.out G2 (by omega) (fun j hj => by injection hj; omega))
        have H5 := Lib.hid ((G2.block IT (Array.getElem?_eq_some_iff.1 hI3.out).1 (fun x => hne (by injection x))).trans hI3.out)
        clear S2 G2 hroom hnew hx hg2
        generalize hL1 : L.getD (m - 1) Go.Proofs.Ytibafngidpmgdab.s0 = q at *
        clear hL1
        obtain ⟨x, y⟩ := q
        simp only at d0 d1 t1 t2 he he2
        go_wp2
        go_roundw
        case rel =>
          refine ⟨k + 1, by omega, ?_, Lib.hid ?_, Lib.hid ?_, Lib.hid ?_⟩
          · rw [HMR.out, List.length_set, HM.out]
          · rw [HMR.out, List.length_set, HM.out]
            first | exact H3.out | simpa using H3.out
          · first | exact H5.out | simpa using H5.out
          · first | exact H4.out | simpa using H4.out
        case measure =>
          have h5 := H5.out
          have h6 := HPOS.out
          have h7 := iterPos_of h5
          first | rw [h6, h7] | (simp at h7; rw [h6, h7])
          omega
    · have : k = n := by omega
      subst this
      have hnx : ∀ ty, (Instr.next (.pointer (some ⟨IT, 0, none⟩)) true ty).run Try.prog wr = _ := fun ty => run_next_stop wr IT s k ty HI.out (by rw [HN.out]; omega)
      obtain ⟨f1, f2, f3, f4⟩ := FA.out k
      have H1 := Lib.hid HO.out
      clear HO f2 f3 f4
      generalize hL : runsC s e k = L at *
      have HL := Lib.hid hL
      clear hL
      go_wp2
      go_ret
      refine ⟨_, rfl, .inr ⟨w.heap.size, L.length, k, k, List.replicate (k - L.length) Go.Proofs.Ytibafngidpmgdab.s0, ?_, by omega, ?_⟩, HB.out⟩
      · rw [HN.out, HL.out] <;> rfl
      · rw [HN.out, HL.out]
        exact H1.out

end Go.Proofs.Ytibafngidpmgdab
