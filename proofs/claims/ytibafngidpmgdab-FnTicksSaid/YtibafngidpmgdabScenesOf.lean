/- ScenesOf: the program, the model and the statement. -/
import Derived.Test.YtibafngidpmgdabBookRow
import Derived.Laws.AppendOwn
import Derived.Laws.OwnMore
import Derived.IntWalk
import Derived.WalkSpells
import Derived.OwnWalk
import Derived.Tactics
import Derived.Tactics2
import Derived.WalkKit
import Derived.LoopTactic
import Derived.BigQuiet
import Derived.RegionTactic
import Derived.Deep.QuietTactic
import Derived.Outline
import Derived.Lib.Hide
import Derived.Below
import Derived.KernelRfl
namespace Go.Proofs.Ytibafngidpmgdab
set_option linter.unusedSimpArgs false
set_option linter.unusedVariables false
open Go.RowKit

theorem runsC_sizes {s : ByteArray} {e : Int} (e1 : 0 ≤ e) : ∀ j, j < (runsC s e s.size).length → ((runsC s e s.size).getD j Go.Proofs.Ytibafngidpmgdab.s0).1.size ≤ maxLen := fun j hj => by
  obtain ⟨i, hi, h2⟩ := (runsC_facts s e1 s.size).2.2.2 j hj
  rw [h2, pageT_size hi]
  decide
theorem scenes_cases (s : ByteArray) (e : Int) : (posB s 60 = false ∧ scenesK s e = 1 ∧ scenesQ s e = []) ∨ (posB s 60 = true ∧ inB e 1 100 = false ∧ scenesK s e = 2 ∧ scenesQ s e = []) ∨ (posB s 60 = true ∧ inB e 1 100 = true ∧ scnsB (runsC s e s.size) = false ∧ scenesK s e = 5 ∧ scenesQ s e = []) ∨ (posB s 60 = true ∧ inB e 1 100 = true ∧ scnsB (runsC s e s.size) = true ∧ scenesK s e = 0 ∧ scenesQ s e = runsC s e s.size) := by
  cases h1 : posB s 60
  · exact .inl ⟨rfl, by simp [scenesK, h1], by simp [scenesQ, h1]⟩
  · cases h2 : inB e 1 100
    · exact .inr (.inl ⟨rfl, rfl, by simp [scenesK, h1, h2], by simp [scenesQ, h1, h2]⟩)
    · cases h3 : scnsB (runsC s e s.size)
      · exact .inr (.inr (.inl ⟨rfl, rfl, rfl, by simp [scenesK, h1, h2, h3], by simp [scenesQ, h1, h2, h3]⟩))
      · exact .inr (.inr (.inr ⟨rfl, rfl, rfl, by simp [scenesK, h1, h2, h3], by simp [scenesQ, h1, h2, h3]⟩))

theorem PartC.rdOf {w : World} {B : Nat} {A : Option Addr} {n c : Nat} {ps : List Scn} (h : PartC w B (.slice A n c) ps) (hl : ps.length = n) : RdC w A n ps := by
  obtain ⟨A', c', e, r⟩ := h.rd
  simp only [Value.slice.injEq] at e
  obtain ⟨rfl, rfl, rfl⟩ := e
  exact r
theorem RdC.kept {W U : World} {row : Option Nat} {A : Option Addr} {n : Nat} {ps : List Scn} (h : RdC W A n ps) (hg : W.grownBy U row) (hA : ∀ g, n ≠ 0 → A = some ⟨g, 0, none⟩ → some g ≠ row) : RdC U A n ps := by
  obtain ⟨h1, h2, h3⟩ := h
  refine ⟨h1, h2, ?_⟩
  rcases h3 with h0 | ⟨g, rfl, hlt, hc⟩
  · exact .inl h0
  · by_cases h0 : n = 0
    · exact .inl h0
    have hb := hg.block g hlt (fun e => hA g h0 rfl e)
    have hcell : ∀ o, U.cell? ⟨g, o, none⟩ = W.cell? ⟨g, o, none⟩ := fun o => by
      unfold World.cell?
      rw [hb]
    exact .inr ⟨g, rfl, Nat.lt_of_lt_of_le hlt hg.size, fun j hj => ⟨(hcell _).trans (hc j hj).1, (hcell _).trans (hc j hj).2⟩⟩
theorem RdC.lt {W : World} {A : Option Addr} {n : Nat} {ps : List Scn} (h : RdC W A n ps) : ∀ g, n ≠ 0 → A = some ⟨g, 0, none⟩ → g < W.heap.size := by
  intro g h0 hA
  rcases h.2.2 with h1 | ⟨g', h1, h2, _⟩
  · exact absurd h1 h0
  · rw [hA] at h1
    cases h1
    exact h2
theorem grownBelow {w W U : World} {v : Value} (h : Below w.heap.size w W) (g : W.grownBy U v.ownBlock) (hv : ∀ k, v.ownBlock = some k → w.heap.size ≤ k) : Below w.heap.size w U :=
  ⟨g.os.trans h.os, g.tape.trans h.tape, g.output.trans h.output, Nat.le_trans h.size g.size, fun i hi => (g.block i (Nat.lt_of_lt_of_le hi h.size) (fun e => by have := hv i e.symm; omega)).trans (h.block i hi)⟩

/-- What ScenesOf returns. -/
def ScenesR (w : World) (s : ByteArray) (e : Int) (r : Ending) (w' : World) : Prop := ∃ v, r = .returned (.tuple #[v, .int .i64 (scenesK s e)]) ∧ PartC w' w.heap.size v (scenesQ s e) ∧ Below w.heap.size w w'

set_option maxHeartbeats 1000000 in
/-- impl.ScenesOf. -/
theorem implScenesOf_any (s : ByteArray) (e : Int) (w : World) (hs : s.size ≤ maxLen) :
    Calls Try.prog 21 #[.string s, .int .i64 e] w (ScenesR w s e) := by
  have PA := Lib.hid (fun u => arePages_any s u hs)
  rcases scenes_cases s e with ⟨h1, hk, hq⟩ | ⟨h1, h2, hk, hq⟩ | ⟨h1, h2, h3, hk, hq⟩ | ⟨h1, h2, h3, hk, hq⟩
  · rw [h1] at PA
    have HK := Lib.hid hk
    have HQ := Lib.hid hq
    clear hk hq
    go_enter Try.func21, Try.ntmps21
    go_wp2_with fail
    refine (PA.out _).mono ?_
    rintro r u ⟨rfl, hb⟩
    go_wp2_with fail
    go_ret2
    exact ⟨_, by rw [HK.out] <;> rfl, by rw [HQ.out]; exact .inl ⟨rfl, rfl⟩, hb⟩
  · rw [h1] at PA
    have EA := Lib.hid (fun u => isPageTime_any e u)
    rw [h2] at EA
    have HK := Lib.hid hk
    have HQ := Lib.hid hq
    clear hk hq
    go_enter Try.func21, Try.ntmps21
    go_wp2_with fail
    refine (PA.out _).mono ?_
    rintro r u ⟨rfl, hb⟩
    go_wp2_with fail
    refine (EA.out _).mono ?_
    rintro r u2 ⟨rfl, rfl⟩
    go_wp2_with fail
    go_ret2
    exact ⟨_, by rw [HK.out] <;> rfl, by rw [HQ.out]; exact .inl ⟨rfl, rfl⟩, hb⟩
  all_goals
    rw [h1] at PA
    have EA := Lib.hid (fun u => isPageTime_any e u)
    rw [h2] at EA
    have HK := Lib.hid hk
    have HQ := Lib.hid hq
    obtain ⟨e1, e2⟩ := inB_iff.1 h2
    have SO := Lib.hid (fun u => scenesOf_any s e u h1 e1 e2)
    have SZ := Lib.hid (runsC_sizes (s := s) (e := e) (by omega))
    have VS := Lib.hid (fun A n c u (h : RdC u A n (runsC s e s.size)) => validScenes_any A n c _ u h (by rw [← h.1]; exact SZ.out))
    rw [h3] at VS
    clear hk hq h1 h2 h3 SZ
    generalize runsC s e s.size = L at *
    go_enter Try.func21, Try.ntmps21
    go_wp2_with fail
    refine (PA.out _).mono ?_
    rintro r u ⟨rfl, hb⟩
    have HB := Lib.hid hb
    clear hb
    go_wp2_with fail
    refine (EA.out _).mono ?_
    rintro r u2 ⟨rfl, rfl⟩
    go_wp2_with fail
    refine (SO.out _).mono ?_
    rintro r u3 ⟨v, rfl, hp, hb3⟩
    obtain ⟨A', c', rfl, hr⟩ := hp.rd
    have HP := Lib.hid hp
    have HR := Lib.hid hr
    have hbu := HB.out.size
    have HB3 := Lib.hid (bTrans HB.out hb3)
    clear hp hr hb3
    go_wp2_with fail
    refine (VS.out A' _ c' _ HR.out).mono ?_
    rintro r u4 ⟨rfl, hb4⟩
    have HP4 := Lib.hid (HP.out.below hb4)
    have HB4 := Lib.hid (bTrans HB3.out hb4)
    clear hb4
    go_wp2_with fail
    go_ret2
    first | exact ⟨_, by rw [HK.out] <;> rfl, by rw [HQ.out]; exact .inl ⟨rfl, rfl⟩, HB4.out⟩ | exact ⟨_, by rw [HK.out] <;> rfl, by rw [HQ.out]; exact HP4.out.base hbu, HB4.out⟩

/-- A new scene: what an append reads. -/
theorem scene_new (w : World) (x : ByteArray) (y : Int) (t : TypeId) : ∀ j u, [Value.string x, Value.int .i64 y][j]? = some u → (w.alloc (.cells #[.string x, .int .i64 y] t)).cell? ((⟨w.heap.size, 0, none⟩ : Addr).add j) = some u := by
  intro j u hj
  match j, hj with
  | 0, hj =>
    simp at hj
    subst hj
    simp [Addr.add]
  | 1, hj =>
    simp at hj
    subst hj
    simp [Addr.add]
theorem scene_oneCell (x : ByteArray) (y : Int) : ∀ u ∈ [Value.string x, Value.int .i64 y], u.oneCell' = true := by
  intro u h
  simp at h
  rcases h with rfl | rfl <;> rfl

theorem ownsDrewNC {w : World} {B : Nat} {e : TypeId} {z : Nat} {v : Value} {n : Nat} {xs : List Value} (h : w.ownsRow B e z v n xs) (k : Nat) : (w.drewN k).ownsRow B e z v n xs := h

set_option maxHeartbeats 2000000 in
set_option maxRecDepth 100000 in
/-- spec.ScenesOf, of what is some pages. -/
theorem specScenesOf_go (s : ByteArray) (e : Int) (w : World) (hs : s.size ≤ maxLen) (h1 : posB s 60 = true) (h2 : inB e 1 100 = true) (z : Bool) (h3 : scnsB (runsC s e s.size) = z) (hk : scenesK s e = if z then 0 else 5) (hq : scenesQ s e = if z then runsC s e s.size else []) :
    Calls Try.prog 32 #[.string s, .int .i64 e] w (ScenesR w s e) := by
  obtain ⟨i0, hi, hz0, hz1, hz2⟩ := info_parts infoC
  have PA := Lib.hid (fun u => l08Pages_any s u hs)
  rw [h1] at PA
  have EA := Lib.hid (fun u => l08Each_any e u)
  rw [h2] at EA
  have HK := Lib.hid hk
  have HQ := Lib.hid hq
  obtain ⟨e1, e2⟩ := inB_iff.1 h2
  obtain ⟨z1, z2⟩ := posB_size h1
  have SZ := Lib.hid (runsC_sizes (s := s) (e := e) (by omega))
  have VS := Lib.hid (fun A n c u (h : RdC u A n (runsC s e s.size)) => l08Ok_any A n c _ u h (by rw [← h.1]; exact SZ.out))
  rw [h3] at VS
  have FA := Lib.hid (fun k => runsC_facts s (e := e) (by omega) k)
  clear hk hq h1 h2 h3 SZ
  go_enter Try.func32, Try.ntmps32
  go_wp2_with fail
  refine (PA.out _).mono ?_
  rintro r u ⟨rfl, rfl⟩
  go_wp2_with fail
  refine (EA.out _).mono ?_
  rintro r u2 ⟨rfl, rfl⟩
  go_wp2
  go_loopw [7, 6] (fun i v wr => ∃ k : Nat, k ≤ s.size ∧ i = .int .i64 k ∧ Hid (Scs wr w.heap.size v (runsC s e k)) ∧ Hid (Below w.heap.size w wr)) (fun i _ _ => s.size - (intOf i).toNat)
  case atStart => exact ⟨0, Nat.zero_le _, rfl, Lib.hid (World.ownsRow_lit w #[] 0 (Nat.le_refl _) (Nat.zero_le _) rfl), Lib.hid (bAlloc (Below.refl _ _) _)⟩
  case round =>
    obtain ⟨k, hk, rfl, HO, HB⟩ := hrel
    by_cases hlt : k < s.size
    · obtain ⟨f1, f2, f3, _⟩ := FA.out k
      have hk100 : e * (k : Int) ≤ 6000 := by
        have h3 := Int.mul_le_mul_of_nonneg_right e2 (show (0 : Int) ≤ (k : Int) by omega)
        omega
      have hF3 := Lib.hid (fun j (hj : j < (runsC s e k).length) => show 0 ≤ ((runsC s e k).getD j Go.Proofs.Ytibafngidpmgdab.s0).2 ∧ ((runsC s e k).getD j Go.Proofs.Ytibafngidpmgdab.s0).2 ≤ 6000 by have := f3 j hj; omega)
      have HNEW := Lib.hid (fun h => runsC_new (s := s) (e := e) (k := k) h)
      have HMORE := Lib.hid (fun h => runsC_more (s := s) (e := e) (k := k) h)
      have hbz := HB.out.size
      clear f3 hk100
      by_cases hnew : (runsC s e k).length = 0 ∨ ((runsC s e k).getD ((runsC s e k).length - 1) Go.Proofs.Ytibafngidpmgdab.s0).1 ≠ pageT s k
      · have HNW := Lib.hid (HNEW.out hnew)
        have HPG := Lib.hid (show s.extract k (k + 1) = pageT s k from rfl)
        by_cases hk0 : k = 0
        · subst hk0
          have HX := Lib.hid (show Scs wr w.heap.size u6 [] from HO.out)
          clear HO HNEW HMORE hF3 f2 hnew f1
          rw [show ((0 : Nat) : Int) = 0 from rfl]
          go_wp2
          go_quiet (fail)
          go_wp2_with (at_builtin; refine wpList_append_own _ rfl _ _ 24 rfl w.heap.size 29 i0 (sv ByteArray.empty 0) 2 24 Try.underlying24 hi hz0 hz1 hz2 rfl (by decide) _ _ _ rfl (World.ownsRow.alloc (ownsDrewNC HX.out _) _) ⟨wr.heap.size, 0, none⟩ 1 1 [.string (s.extract 0 1), .int .i64 e] rfl rfl (scene_new _ _ _ _) (scene_oneCell _ _) (by unfold maxLen; first | omega | (simp; omega) | simp) (by first | omega | (simp; omega) | simp) (by simp; omega) ?_; intro v' w1 hown' hgrow hnil)
          have H3 := Lib.hid hown'
          have H4 := Lib.hid (Below.grown (bAlloc (bDrewN HB.out _) _) hgrow (by simp; omega) (fun j hj => (World.ownsRow.lt HX.out j hj).1))
          clear hown' hgrow hnil
          go_wp2
          go_roundw
          case rel => exact ⟨0 + 1, by omega, by go_num, Lib.hid (by unfold Scs; rw [HNW.out, flatC_append, List.length_append]; exact H3.out), Lib.hid H4.out⟩
          case measure => simp [intOf]; omega
        · have f4 := f2 (by omega)
          have hne := hnew.resolve_left (by omega)
          obtain ⟨j, hj⟩ : ∃ j, k = j + 1 := ⟨k - 1, by omega⟩
          rw [f4.2, show k - 1 = j by omega] at hne
          have hjs : j < s.size := by omega
          have hpe := pageT_eq hjs hlt
          rw [eqT_false hne] at hpe
          have wj : IntKind.i64.wrap ((k : Int) - 1) = (j : Int) := by rw [IntWalk.i64_in _ (by omega)]; omega
          have hj1 : (0 : Int) < (k : Int) := by omega
          have hdk : decide (0 < k) = true := decide_eq_true (by omega)
          have hj2 : (j : Int) < (s.size : Int) := by omega
          have hj3 : (k : Int) < (s.size : Int) := by omega
          have l1 := letter_of hjs
          have l2 := letter_of hlt
          rw [← l1, ← l2] at hpe
          have he : (((s[j]'hjs).toNat : Int) == ((s[k]'hlt).toNat : Int)) = false := by
            rw [beq_eq_false_iff_ne]
            have h5 : ¬ ((s[j]'hjs).toNat = (s[k]'hlt).toNat) := fun h => by rw [h] at hpe; simp at hpe
            omega
          have HX := Lib.hid (show Scs wr w.heap.size u6 (runsC s e k) from HO.out)
          have hl60 : (runsC s e k).length ≤ 60 := by omega
          clear HO HNEW HMORE hF3 f2 f4 hnew hne hpe l1 l2 f1 hj hk0
          generalize runsC s e k = L at *
          go_wp2
          go_quiet (fail)
          go_wp2_with (at_builtin; refine wpList_append_own _ rfl _ _ 24 rfl w.heap.size 29 i0 (sv ByteArray.empty 0) 2 24 Try.underlying24 hi hz0 hz1 hz2 rfl (by decide) _ _ _ rfl (World.ownsRow.alloc (ownsDrewNC HX.out _) _) ⟨wr.heap.size, 0, none⟩ 1 1 [.string (s.extract k (k + 1)), .int .i64 e] rfl rfl (scene_new _ _ _ _) (scene_oneCell _ _) (by unfold maxLen; first | omega | (simp; omega) | simp) (by first | omega | (simp; omega) | simp) (by simp; omega) ?_; intro v' w1 hown' hgrow hnil)
          have H3 := Lib.hid hown'
          have H4 := Lib.hid (Below.grown (bAlloc (bDrewN HB.out _) _) hgrow (by simp; omega) (fun j hj => (World.ownsRow.lt HX.out j hj).1))
          clear hown' hgrow hnil
          go_wp2
          go_roundw
          case rel => exact ⟨k + 1, by omega, by go_num, Lib.hid (by unfold Scs; rw [HNW.out, flatC_append, List.length_append]; exact H3.out), Lib.hid H4.out⟩
          case measure => simp [intOf]; omega
      · have hm1 : 0 < (runsC s e k).length := by
          rcases Nat.eq_zero_or_pos (runsC s e k).length with h0 | h0
          · exact absurd (.inl h0) hnew
          · exact h0
        have hx : ((runsC s e k).getD ((runsC s e k).length - 1) Go.Proofs.Ytibafngidpmgdab.s0).1 = pageT s k := by
          by_cases h : ((runsC s e k).getD ((runsC s e k).length - 1) Go.Proofs.Ytibafngidpmgdab.s0).1 = pageT s k
          · exact h
          · exact absurd (.inr h) hnew
        have HMR := Lib.hid (HMORE.out hnew)
        by_cases hk0 : k = 0
        · subst hk0
          simp [runsC] at hm1
        · have f4 := f2 (by omega)
          obtain ⟨j, hj⟩ : ∃ j, k = j + 1 := ⟨k - 1, by omega⟩
          rw [f4.2, show k - 1 = j by omega] at hx
          have hjs : j < s.size := by omega
          have hpe := pageT_eq hjs hlt
          rw [hx, eqT_refl] at hpe
          have wj : IntKind.i64.wrap ((k : Int) - 1) = (j : Int) := by rw [IntWalk.i64_in _ (by omega)]; omega
          have hj1 : (0 : Int) < (k : Int) := by omega
          have hdk : decide (0 < k) = true := decide_eq_true (by omega)
          have hj2 : (j : Int) < (s.size : Int) := by omega
          have hj3 : (k : Int) < (s.size : Int) := by omega
          have l1 := letter_of hjs
          have l2 := letter_of hlt
          rw [← l1, ← l2] at hpe
          have he : (((s[j]'hjs).toNat : Int) == ((s[k]'hlt).toNat : Int)) = true := by
            rw [beq_iff_eq]
            have h5 := (beq_iff_eq.1 hpe.symm)
            omega
          obtain ⟨t1, t2⟩ := hF3.out ((runsC s e k).length - 1) (by omega)
          generalize hL : runsC s e k = L at *
          clear hL
          obtain ⟨m, hm⟩ : ∃ m, L.length = m := ⟨_, rfl⟩
          obtain ⟨g, cap, rfl⟩ : ∃ g cap, u6 = .slice (some ⟨g, 0, none⟩) m cap := by
            rcases HO.out.2 with ⟨_, h0⟩ | ⟨g, cap, cur, h0, _⟩
            · omega
            · exact ⟨g, cap, by rw [h0, hm]⟩
          have hO := HO.out
          unfold Scs at hO
          rw [hm] at hO hm1 t1 t2 HMR f1
          have c1 := (World.ownsRow.cellAt hO ((m - 1) * 2 + 1) (by omega)).trans (flatC_get L (m - 1) (by omega)).2
          have g1 := World.ownsRow.frozenAt hO ((m - 1) * 2 + 1)
          have hgl := World.ownsRow.lt hO g rfl
          obtain ⟨S2, G2⟩ := World.ownsRow.stored hO ((m - 1) * 2 + 1) (.int .i64 ((L.getD (m - 1) Go.Proofs.Ytibafngidpmgdab.s0).2 + e))
          rw [flatC_set1 _ _ _ (by omega)] at S2
          have H3 := Lib.hid S2
          have H4 := Lib.hid (Below.grown HB.out G2 (by omega) (fun j hj => by injection hj; omega))
          have HM := Lib.hid hm
          have hm60 : m ≤ 60 := by omega
          clear S2 G2 hnew hx hpe l1 l2 HO HNEW HMORE hF3 f2 f4 hO hm f1 hj hk0
          generalize L.getD (m - 1) Go.Proofs.Ytibafngidpmgdab.s0 = q at *
          obtain ⟨x, y⟩ := q
          simp only at c1 t1 t2
          go_wp2
          go_quiet (fail)
          go_wp2
          go_roundw
          case rel => exact ⟨k + 1, by omega, by go_num, Lib.hid (by unfold Scs; rw [HMR.out, List.length_set, HM.out]; exact H3.out), Lib.hid ⟨H4.out.os, H4.out.tape, H4.out.output, H4.out.size, H4.out.block⟩⟩
          case measure => simp [intOf]; omega
    · have : k = s.size := by omega
      have hpp : PartC wr w.heap.size u6 (runsC s e s.size) := PartC.of (by rw [← this]; exact HO.out) (by have := (FA.out s.size).1; omega)
      obtain ⟨A', c', rfl, hr⟩ := hpp.rd
      have HP := Lib.hid hpp
      have HR := Lib.hid hr
      clear HO hr hpp
      generalize runsC s e s.size = L at *
      go_wp2_with fail
      refine (VS.out A' _ c' _ HR.out).mono ?_
      rintro r u4 ⟨rfl, hb4⟩
      have HP4 := Lib.hid (HP.out.below hb4)
      have HB4 := Lib.hid (bTrans HB.out hb4)
      clear hb4
      cases z
      · go_wp2_with fail
        go_ret2
        exact ⟨_, by rw [HK.out] <;> rfl, by rw [HQ.out]; exact .inl ⟨rfl, rfl⟩, HB4.out⟩
      · go_wp2_with fail
        go_ret2
        exact ⟨_, by rw [HK.out] <;> rfl, by rw [HQ.out]; exact HP4.out, HB4.out⟩

set_option maxHeartbeats 1000000 in
/-- spec.ScenesOf. -/
theorem specScenesOf_any (s : ByteArray) (e : Int) (w : World) (hs : s.size ≤ maxLen) :
    Calls Try.prog 32 #[.string s, .int .i64 e] w (ScenesR w s e) := by
  rcases scenes_cases s e with ⟨h1, hk, hq⟩ | ⟨h1, h2, hk, hq⟩ | ⟨h1, h2, h3, hk, hq⟩ | ⟨h1, h2, h3, hk, hq⟩
  · have PA := Lib.hid (fun u => l08Pages_any s u hs)
    rw [h1] at PA
    have HK := Lib.hid hk
    have HQ := Lib.hid hq
    clear hk hq
    go_enter Try.func32, Try.ntmps32
    go_wp2_with fail
    refine (PA.out _).mono ?_
    rintro r u ⟨rfl, rfl⟩
    go_wp2_with fail
    go_ret2
    exact ⟨_, by rw [HK.out] <;> rfl, by rw [HQ.out]; exact .inl ⟨rfl, rfl⟩, Below.refl _ _⟩
  · have PA := Lib.hid (fun u => l08Pages_any s u hs)
    rw [h1] at PA
    have EA := Lib.hid (fun u => l08Each_any e u)
    rw [h2] at EA
    have HK := Lib.hid hk
    have HQ := Lib.hid hq
    clear hk hq
    go_enter Try.func32, Try.ntmps32
    go_wp2_with fail
    refine (PA.out _).mono ?_
    rintro r u ⟨rfl, rfl⟩
    go_wp2_with fail
    refine (EA.out _).mono ?_
    rintro r u2 ⟨rfl, rfl⟩
    go_wp2_with fail
    go_ret2
    exact ⟨_, by rw [HK.out] <;> rfl, by rw [HQ.out]; exact .inl ⟨rfl, rfl⟩, Below.refl _ _⟩
  · exact specScenesOf_go s e w hs h1 h2 false h3 hk hq
  · exact specScenesOf_go s e w hs h1 h2 true h3 hk hq

theorem marks_whole (ps rest : List Scn) (k0 : Nat) : marksC k0 ps.length ++ (ps ++ rest).drop ps.length = marksC k0 ps.length ++ rest := by rw [List.drop_left]

set_option maxHeartbeats 1000000 in
set_option maxRecDepth 100000 in
/-- laws.markSceneS, at the head of a row. -/
theorem markPart_any (B : Nat) (k0 : Nat) (v : Value) (ps : List Scn) (w : World) (hv : PartC w B v ps) (hk1 : 1 ≤ k0) (hk0 : k0 ≤ 100000000) :
    Calls Try.prog 33 #[v, .int .i64 k0] w fun e w' => e = .returned (.int .i64 ((k0 + 2 * ps.length : Nat) : Int)) ∧ PartC w' B v (marksC k0 ps.length) ∧ w.grownBy w' v.ownBlock := by
  rcases hv with ⟨rfl, rfl⟩ | ⟨g, c, n, cap, rest, rfl, hn, ho⟩
  · go_enter Try.func33, Try.ntmps33
    go_wp2
    refine wp_loop_rounds 1 ?_
    rw [rounds_succ]
    go_wp2
    go_ret
    exact ⟨ret_int (by simp), .inl ⟨rfl, rfl⟩, World.grownBy.refl _ _⟩
  · have hlen : ps.length + rest.length = n := by
      have := ho.1
      rw [flatC_length, List.length_append] at this
      omega
    have hl := Lib.hid (show (ps ++ rest).length = n by rw [List.length_append]; exact hlen)
    have HV := Lib.hid ho
    clear ho
    have hpn : ps.length ≤ n := by omega
    have HW := Lib.hid (marks_whole ps rest k0)
    clear hlen
    generalize hqs : ps ++ rest = qs at *
    clear hqs
    generalize hps : ps.length = pl at *
    go_enter Try.func33, Try.ntmps33
    go_wp2
    go_loopw [5, 1] (fun i q wr => ∃ k : Nat, k ≤ pl ∧ i = .int .i64 k ∧ q = .int .i64 ((k0 + 2 * k : Nat) : Int) ∧ Hid (wr.ownsRow B 29 2 (.slice (some ⟨g, 0, none⟩) n cap) n (flatC (marksC k0 k ++ qs.drop k))) ∧ Hid (w.grownBy wr (some g))) (fun i _ _ => pl - (intOf i).toNat)
    case atStart => exact ⟨0, Nat.zero_le _, rfl, by simp, Lib.hid (by simpa [marksC] using HV.out), Lib.hid (World.grownBy.refl _ _)⟩
    case round =>
      obtain ⟨k, hk, rfl, rfl, HO, HG⟩ := hrel
      by_cases hlt : k < pl
      · have hm := Lib.hid (fun w => markText_any (k0 + 2 * k) w (by omega) (by omega))
        have HS := Lib.hid (marksC_step qs k0 k (by rw [hl.out]; omega))
        have hxl := Lib.hid (show k < (marksC k0 k ++ qs.drop k).length by rw [List.length_append, marksC_length, List.length_drop, hl.out]; omega)
        generalize markT (k0 + 2 * k) = mt at *
        go_wp2_with fail
        refine (hm.out _).mono ?_
        rintro e u ⟨rfl, hb⟩
        have HO3 := ownsBC HO.out hb
        have HG2 := Lib.hid (grownThenC HG.out (grownNone0 hb (some g)))
        obtain ⟨S1, S2⟩ := World.ownsRow.stored HO3 (k * 2) (.string mt)
        obtain ⟨S3, S4⟩ := World.ownsRow.stored S1 (k * 2 + 1) (.int .i64 ((k0 + 2 * k + 1 : Nat) : Int))
        have e2 := flatC_set (marksC k0 k ++ qs.drop k) k (mt, ((k0 + 2 * k + 1 : Nat) : Int))
        rw [HS.out] at e2
        simp only at e2
        rw [e2] at S3
        have hf0 : u.frozen? ⟨g, k * 2, none⟩ = false := World.ownsRow.frozenAt HO3 _
        have hf1 : u.frozen? ⟨g, k * 2 + 1, none⟩ = false := World.ownsRow.frozenAt HO3 _
        have hc0 : ∃ z, u.cell? ⟨g, k * 2, none⟩ = some (.string z) := by
          have hh := (flatC_get (marksC k0 k ++ qs.drop k) k hxl.out).1
          rw [World.ownsRow.cellAt HO3 (k * 2) (by omega)]
          exact ⟨_, hh⟩
        have hc1 : ∃ z, u.cell? ⟨g, k * 2 + 1, none⟩ = some (.int .i64 z) := by
          have hh := (flatC_get (marksC k0 k ++ qs.drop k) k hxl.out).2
          rw [World.ownsRow.cellAt HO3 (k * 2 + 1) (by omega)]
          exact ⟨_, hh⟩
        obtain ⟨z0, hc0⟩ := hc0
        obtain ⟨z1, hc1⟩ := hc1
        have H3 := Lib.hid S3
        have H4 := Lib.hid (show w.grownBy ((u.setCell ⟨g, k * 2, none⟩ (.string mt)).setCell ⟨g, k * 2 + 1, none⟩ (.int .i64 ((k0 + 2 * k + 1 : Nat) : Int))) (some g) from grownThenC HG2.out (grownThenC S2 S4))
        clear S1 S2 S3 S4 e2 HO3 HS hb
        go_wp2
        go_roundw
        case rel => exact ⟨k + 1, by omega, by go_num, by go_num, Lib.hid (by first | exact H3.out | simpa using H3.out), Lib.hid (by first | exact H4.out | simpa using H4.out)⟩
        case measure => simp [intOf]; omega
      · have : k = pl := by omega
        subst this
        have H1 := Lib.hid HO.out
        rw [HW.out] at H1
        go_wp2
        go_ret
        refine ⟨by go_num, .inr ⟨g, c, n, cap, rest, ?_, hn, H1.out⟩, HG.out⟩
        rw [marksC_length]

set_option maxHeartbeats 2000000 in
set_option maxRecDepth 100000 in
/-- laws.FnExactScenesOf, of what is small enough. -/
theorem law_ScenesOf_in (s : ByteArray) (e : Int) (w : World) (hs : s.size ≤ maxLen) (hl : ¬ 1048576 < s.size) :
    Calls Try.prog 7 #[.string s, .int .i64 e] w fun r w' => r = .returned (.bool true) ∧ Below w.heap.size w w' := by
  have S := Lib.hid (fun u => specScenesOf_any s e u hs)
  have I := Lib.hid (fun u => implScenesOf_any s e u hs)
  have HQ := Lib.hid (show (scenesQ s e).length ≤ 60 by
    rcases scenes_cases s e with ⟨_, _, h⟩ | ⟨_, _, _, h⟩ | ⟨_, _, _, _, h⟩ | ⟨h1, h2, _, _, h⟩
    · rw [h]; exact Nat.zero_le _
    · rw [h]; exact Nat.zero_le _
    · rw [h]; exact Nat.zero_le _
    · rw [h]
      have h3 := (runsC_facts s (e := e) (by have := inB_iff.1 h2; omega) s.size).1
      have h4 := posB_size h1
      omega)
  unfold ScenesR at S I
  unfold maxLen at hs
  have B := Lib.hid (Below.refl w.heap.size w)
  generalize scenesQ s e = qs at *
  generalize scenesK s e = K at *
  go_enter Try.func7, Try.ntmps7
  go_wp2_with fail
  refine (S.out _).mono ?_
  rintro r u1 ⟨vW, rfl, p1, hb1⟩
  obtain ⟨AW, cW, rfl, r1⟩ := p1.rd
  have RW := Lib.hid r1
  replace B := Lib.hid (bTrans B.out hb1)
  clear r1 p1 hb1
  go_wp2_with fail
  refine (I.out _).mono ?_
  rintro r u2 ⟨vG, rfl, p2, hb2⟩
  have HWL := Lib.hid (fun g h0 hA => RW.out.lt g h0 hA)
  have hw2 := B.out.size
  have HGL := Lib.hid (fun k hk => (p2.lt k hk).1)
  have G := Lib.hid (p2.base hw2)
  obtain ⟨AG, cG, rfl, r2⟩ := p2.rd
  replace RW := Lib.hid (RW.out.below hb2)
  have RG := Lib.hid r2
  replace B := Lib.hid (bTrans B.out hb2)
  clear r2 p2 hb2
  go_wp2_with fail
  refine (eqSceneS_same AG AW qs.length cG cW qs _ RG.out RW.out).mono ?_
  rintro r u3 ⟨rfl, hb3⟩
  replace RW := Lib.hid (RW.out.below hb3)
  replace G := Lib.hid (G.out.below hb3)
  replace B := Lib.hid (bTrans B.out hb3)
  clear hb3 RG
  go_wp2_with fail
  refine (markPart_any _ 1 _ qs _ G.out (by omega) (by omega)).mono ?_
  rintro r u4 ⟨rfl, p4, g4⟩
  replace RW := Lib.hid (RW.out.kept g4 (fun g h0 hA e => by
    have h1 := HWL.out g h0 hA
    have h2 := HGL.out g e.symm
    omega))
  replace G := Lib.hid p4
  replace B := Lib.hid (grownBelow B.out g4 (fun k hk => Nat.le_trans hw2 (HGL.out k hk)))
  have RG := Lib.hid (G.out.rdOf (marksC_length _ _))
  have hlen := HQ.out
  clear p4 g4
  go_wp2_with fail
  refine (heldSceneS_any 1 qs.length AG cG _ RG.out (by omega) (by omega)).mono ?_
  rintro r u5 ⟨rfl, hb5⟩
  replace RW := Lib.hid (RW.out.below hb5)
  replace RG := Lib.hid (RG.out.below hb5)
  replace B := Lib.hid (bTrans B.out hb5)
  clear hb5
  go_wp2_with fail
  refine (I.out _).mono ?_
  rintro r u6 ⟨vH, rfl, p6, hb6⟩
  obtain ⟨AH, cH, rfl, r6⟩ := p6.rd
  have RH := Lib.hid r6
  replace RW := Lib.hid (RW.out.below hb6)
  replace RG := Lib.hid (RG.out.below hb6)
  replace B := Lib.hid (bTrans B.out hb6)
  clear r6 p6 hb6
  go_wp2_with fail
  refine (eqSceneS_same AH AW qs.length cH cW qs _ RH.out RW.out).mono ?_
  rintro r u7 ⟨rfl, hb7⟩
  replace RG := Lib.hid (RG.out.below hb7)
  replace B := Lib.hid (bTrans B.out hb7)
  clear hb7
  go_wp2_with fail
  refine (heldSceneS_any 1 qs.length AG cG _ RG.out (by omega) (by omega)).mono ?_
  rintro r u8 ⟨rfl, hb8⟩
  replace B := Lib.hid (bTrans B.out hb8)
  clear hb8
  go_wp2_with fail
  go_ret
  exact ⟨rfl, B.out⟩

/-- laws.FnExactScenesOf. -/
theorem law_ScenesOf (s : ByteArray) (e : Int) (w : World) (hs : s.size ≤ maxLen) (_he : -9223372036854775808 ≤ e ∧ e ≤ 9223372036854775807) :
    Calls Try.prog 7 #[.string s, .int .i64 e] w fun r w' => r = .returned (.bool true) ∧ Below w.heap.size w w' := by
  by_cases hl : 1048576 < s.size
  · unfold maxLen at hs
    go_enter Try.func7, Try.ntmps7
    go_wp2
    go_ret
    exact ⟨rfl, Below.refl _ _⟩
  · exact law_ScenesOf_in s e w hs hl

end Go.Proofs.Ytibafngidpmgdab
