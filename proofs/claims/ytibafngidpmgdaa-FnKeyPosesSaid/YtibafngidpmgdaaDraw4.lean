/- What the laws of chapter 4 draw: key poses. -/
import Derived.Test.YtibafngidpmgdaaProg
import Derived.Test.YtibafngidpmgdaaPose
import Derived.Test.YtibafngidpmgdaaKeys
import Derived.Test.YtibafngidpmgdaaKeyOk
import Derived.Test.YtibafngidpmgdaaPoseLaw
import Derived.Test.YtibafngidpmgdaaBetween
import Derived.Test.YtibafngidpmgdaaAt2
import Derived.Test.YtibafngidpmgdaaAtLaw
import Derived.Test.YtibafngidpmgdaaGrids
import Derived.Test.YtibafngidpmgdaaAll
import Derived.Test.YtibafngidpmgdaaSrc
import Derived.Test.YtibafngidpmgdaaPick
import Derived.Test.YtibafngidpmgdaaPick2
import Derived.Test.YtibafngidpmgdaaBent
import Derived.Test.YtibafngidpmgdaaStretch3
import Derived.IntWalk
import Derived.WalkSpells
import Derived.OwnWalk
import Derived.Deep.RegionWith
import Derived.Deep.DrawnRows
import Derived.Deep.RegionHeld3
import Derived.Tactics
import Derived.Tactics2
import Derived.WalkKit
import Derived.LoopTactic
import Derived.BigQuiet
import Derived.RegionTactic
import Derived.Deep.QuietTactic
import Derived.Outline
import Derived.Lib.Hide
import Derived.Below
import Derived.KernelRfl
namespace Go.Proofs.Ytibafngidpmgdaa
set_option linter.unusedSimpArgs false
set_option linter.unusedVariables false
open Go.RowKit


theorem two_newVAt (w : World) (x y : Value) (t : TypeId) (n : Nat) (h : w.heap.size = n) : ∀ j u, [x, y][j]? = some u → (w.alloc (.cells #[x, y] t)).cell? ((⟨n, 0, none⟩ : Addr).add j) = some u := by
  subst h
  exact two_newV w x y t
theorem totK_9 : ∀ ks : List Key, (∀ k ∈ ks, 1 ≤ k.2.length ∧ k.2.length ≤ 9) → totK ks ≤ ks.length * 9
  | [], _ => by simp [totK]
  | k :: ks, h => by
    have h1 := totK_9 ks (fun x hx => h x (List.mem_cons_of_mem _ hx))
    have h2 := (h k (List.mem_cons_self ..)).2
    simp only [totK, List.length_cons]
    omega
theorem lens9 {ks : List Key} {t : Int} {p : List Pt} (h : ∀ k ∈ ks, 1 ≤ k.2.length ∧ k.2.length ≤ 9) (h1 : 1 ≤ p.length) (h2 : p.length ≤ 9) : ∀ k ∈ ks ++ [(t, p)], 1 ≤ k.2.length ∧ k.2.length ≤ 9 := by
  intro k hk
  rcases List.mem_append.1 hk with hk | hk
  · exact h k hk
  · rw [List.mem_singleton.1 hk]
    exact ⟨h1, h2⟩

theorem three_get {j : Nat} (hj : j < 3) : ∃ N : Nat, N ≤ 11 ∧ ([0, 10, 11] : List Int).getD j 0 = (N : Int) := by
  match j, hj with
  | 0, _ => exact ⟨0, by omega, rfl⟩
  | 1, _ => exact ⟨10, by omega, rfl⟩
  | 2, _ => exact ⟨11, by omega, rfl⟩

theorem getDK_mem {ks : List Key} {i : Nat} (h : i < ks.length) : ks.getD i k0 ∈ ks := by
  rw [List.getD_eq_getElem?_getD, List.getElem?_eq_getElem h]
  exact List.getElem_mem h
theorem totK_9' : ∀ ks : List Key, (∀ k ∈ ks, k.2.length ≤ 9) → totK ks ≤ ks.length * 9
  | [], _ => by simp [totK]
  | k :: ks, h => by
    have h1 := totK_9' ks (fun x hx => h x (List.mem_cons_of_mem _ hx))
    have h2 := h k (List.mem_cons_self ..)
    simp only [totK, List.length_cons]
    omega
theorem lensSet {ks : List Key} {j : Nat} {t : Int} {p : List Pt} (h : ∀ k ∈ ks, k.2.length ≤ 9) (hp : p.length ≤ 9) : ∀ k ∈ ks.set j (t, p), k.2.length ≤ 9 := by
  intro k hk
  rcases List.mem_or_eq_of_mem_set hk with hk | rfl
  · exact h k hk
  · exact hp
theorem keysOpen {w : World} {B : Nat} {v : Value} {es : List Ent} {ks : List Key} (h : Keys w B v es ks) (hn : 1 ≤ ks.length) : ∃ g cap, v = .slice (some ⟨g, 0, none⟩) ks.length cap ∧ B ≤ g ∧ g < w.heap.size := by
  rcases h.2.1.2 with ⟨rfl, h0⟩ | ⟨g, cap, cur, rfl, hB, hg, _⟩
  · omega
  · exact ⟨g, cap, rfl, hB, (Array.getElem?_eq_some_iff.1 hg).1⟩
theorem keysTick {w : World} {B g cap i : Nat} {es : List Ent} {ks : List Key} (h : Keys w B (.slice (some ⟨g, 0, none⟩) ks.length cap) es ks) (hi : i < ks.length) (t : Int) :
    Keys (w.setCell ⟨g, i * 2, none⟩ (.int .i64 t)) B (.slice (some ⟨g, 0, none⟩) ks.length cap) (es.set i (t, (es.getD i e0).2)) (ks.set i (t, (ks.getD i k0).2)) := by
  have p := (h.2.2.1 i hi).2
  have c1 : Chg (fun q => q = g) w (w.setCell ⟨g, i * 2, none⟩ (.int .i64 t)) := by
    refine Chg.set (Chg.refl _ _) ?_ _
    exact .inl rfl
  exact (h.mark hi (p.chg c1 (fun q hq e => ownsTypes h.2.1 p (by decide) q (by rw [e]; rfl) hq)) (Chg.refl _ _)).1
theorem flatE_set2 : ∀ (ps : List Ent) (j : Nat) (v : Value), j < ps.length → (flatE ps).set (j * 2 + 1) v = flatE (ps.set j ((ps.getD j e0).1, v))
  | [], _, _, h => by simp at h
  | p :: ps, 0, v, _ => by simp [flatE]
  | p :: ps, j + 1, v, h => by
    have := flatE_set2 ps j v (by simpa using h)
    rw [show (j + 1) * 2 + 1 = (j * 2 + 1) + 1 + 1 by omega]
    simpa [flatE] using this
theorem keysJoints {w : World} {B g cap i : Nat} {es : List Ent} {ks : List Key} {x : Value} {p : List Pt} (h : Keys w B (.slice (some ⟨g, 0, none⟩) ks.length cap) es ks) (hi : i < ks.length) (hp : Pts w B x p)
    (hs : ∀ k, ownE (.slice (some ⟨g, 0, none⟩) ks.length cap) es k → ¬ own1 x k) :
    Keys (w.setCell ⟨g, i * 2 + 1, none⟩ x) B (.slice (some ⟨g, 0, none⟩) ks.length cap) (es.set i ((es.getD i e0).1, x)) (ks.set i ((ks.getD i k0).1, p)) := by
  obtain ⟨h1, h2, h3, h4⟩ := h
  obtain ⟨S1, S2⟩ := World.ownsRow.stored h2 (i * 2 + 1) x
  rw [flatE_set2 es i x (by omega)] at S1
  have c1 : Chg (fun q => q = g) w (w.setCell ⟨g, i * 2 + 1, none⟩ x) := by
    refine Chg.set (Chg.refl _ _) ?_ _
    exact .inl rfl
  have ty : ∀ {y : Value} {q : List Pt}, Pts w B y q → Sep (own1 y) (fun q => q = g) := fun hq k hk e => ownsTypes hq h2 (by decide) k hk (by rw [e]; rfl)
  refine ⟨by simp [h1], by rw [List.length_set]; exact S1, ?_, ?_⟩
  · intro j hj
    rw [List.length_set] at hj
    rw [getD_set _ _ _ _ _ (by omega), getD_set _ _ _ _ _ hi]
    by_cases hji : j = i
    · subst hji
      rw [if_pos rfl, if_pos rfl]
      exact ⟨(h3 j hj).1, hp.chg c1 (ty hp)⟩
    · rw [if_neg hji, if_neg hji]
      exact ⟨(h3 j hj).1, (h3 j hj).2.chg c1 (ty (h3 j hj).2)⟩
  · intro a b hab hb
    rw [List.length_set] at hb
    rw [getD_set _ _ _ _ _ (by omega), getD_set _ _ _ _ _ (by omega)]
    by_cases hai : a = i
    · rw [if_pos hai, if_neg (by omega)]
      intro k hk hk2
      exact hs k (.inr ⟨b, by omega, hk2⟩) hk
    · rw [if_neg hai]
      by_cases hbi : b = i
      · rw [if_pos hbi]
        intro k hk hk2
        exact hs k (.inr ⟨a, by omega, hk⟩) hk2
      · rw [if_neg hbi]
        exact h4 a b hab hb
theorem bkOnlyV {b c : Nat} {W u : World} {x y : Value} (hb : Only b W u) (hc : c ≠ b) (h : W.cell? ⟨c, 0, none⟩ = some x ∧ W.cell? ⟨c, 1, none⟩ = some y ∧ W.frozen? ⟨c, 0, none⟩ = false ∧ W.frozen? ⟨c, 1, none⟩ = false ∧ c < W.heap.size) :
    u.cell? ⟨c, 0, none⟩ = some x ∧ u.cell? ⟨c, 1, none⟩ = some y ∧ u.frozen? ⟨c, 0, none⟩ = false ∧ u.frozen? ⟨c, 1, none⟩ = false ∧ c < u.heap.size := by
  obtain ⟨h1, h2, h3, h4, h5⟩ := h
  have hk := hb.block c h5 (fun e => hc (by injection e))
  exact ⟨by rw [World.cell?_of_block (w := W) hk]; exact h1, by rw [World.cell?_of_block (w := W) hk]; exact h2, by rw [World.frozen?_of_block (w := W) hk]; exact h3, by rw [World.frozen?_of_block (w := W) hk]; exact h4, Nat.lt_of_lt_of_le h5 hb.size⟩

/-- What the loop of l04Draw leaves. -/
def DrawR (w : World) (b K : Nat) (e : Ending) (w' : World) : Prop := ∃ v es ks, e = .returned v ∧ Keys w' w.heap.size v es ks ∧ ks.length ≤ 11 ∧ totK ks ≤ 200 ∧ Sc w' b K ∧ Only b w w'

set_option maxHeartbeats 4000000 in
set_option maxRecDepth 100000 in
/-- spec.l04Draw. -/
theorem l04Draw_any (b K : Nat) (w : World) (h : Sc w b K) (hK : K ≤ 500000) :
    Calls Try.prog 108 #[.pointer (some ⟨b, 0, none⟩)] w (DrawR w b (K + 1000)) := by
  obtain ⟨i0, hi, hz0, hz1, hz2⟩ := info_parts infoPt
  obtain ⟨j0, hj, hy0, hy1, hy2⟩ := info_parts infoKp
  have hb := h.lt
  have H := Lib.hid h
  clear h
  go_enter Try.func108, Try.ntmps108
  go_wp2_with fail
  refine (pickS 3 b K _ (by omega) (by omega) H.out (by omega)).mono ?_
  rintro e u1 ⟨x, x0, x1, rfl, hs1, ho1⟩
  have HS1 := Lib.hid hs1
  have HO1 := Lib.hid ho1
  clear hs1 ho1
  have hw1 : IntKind.i64.wrap (1 + x) = 1 + x := IntWalk.i64_in _ (by omega)
  obtain ⟨J, hJ⟩ : ∃ J : Nat, 1 + x = J := ⟨(1 + x).toNat, by omega⟩
  have hJ1 : 1 ≤ J := by omega
  have hJ3 : J ≤ 3 := by omega
  rw [hJ] at hw1
  go_wp2_with fail
  clear hJ x0 x1 hw1
  refine (pickS 30 b _ _ (by omega) (by omega) (HS1.out.below (bAlloc (Below.refl _ _) _)) (by omega)).mono ?_
  rintro e u2 ⟨tick0, t0, t1, rfl, hs2, ho2⟩
  have hbz1 := HO1.out.size
  have HK2 := Lib.hid ((keys_lit u1 hbz1).chg (chgOnly ho2) (fun j hj e => by have := ((keys_lit u1 hbz1).lt j hj).1; omega))
  have HS2 := Lib.hid hs2
  have HO2 := Lib.hid ((HO1.out.alloc _).trans ho2)
  clear hs2 ho2 HS1 HO1 H
  go_wp2_with fail
  refine (pickS 5 b _ _ (by omega) (by omega) HS2.out (by omega)).mono ?_
  rintro e u3 ⟨x, x0, x1, rfl, hs3, ho3⟩
  have HK3 := Lib.hid (HK2.out.chg (chgOnly ho3) (fun j hj e => by have := (HK2.out.lt j hj).1; omega))
  have HS3 := Lib.hid hs3
  have HO3 := Lib.hid (HO2.out.trans ho3)
  clear hs3 ho3 HS2 HO2 HK2
  have hw1 : IntKind.i64.wrap (1 + x) = 1 + x := IntWalk.i64_in _ (by omega)
  obtain ⟨N0, hN0⟩ : ∃ N : Nat, 1 + x = N := ⟨(1 + x).toNat, by omega⟩
  have hN5 : N0 ≤ 5 := by omega
  rw [hN0] at hw1
  go_wp2_with fail
  clear hN0 x0 x1 hw1
  refine (oneS 16 b _ _ (by omega) (by omega) HS3.out (by omega)).mono ?_
  rintro e u4 ⟨t1', rfl, hs4, ho4⟩
  have HK4 := Lib.hid (HK3.out.chg (chgOnly ho4) (fun j hj e => by have := (HK3.out.lt j hj).1; omega))
  have HS4 := Lib.hid hs4
  have HO4 := Lib.hid (HO3.out.trans ho4)
  clear hs4 ho4 HS3 HO3 HK3
  cases t1'
  · obtain ⟨N, hN⟩ : ∃ N : Nat, N = N0 := ⟨_, rfl⟩
    have hN11 : N ≤ 11 := by omega
    rw [← hN]
    have HKx := Lib.hid HK4.out
    have HSx := Lib.hid (HS4.out.mono (show _ ≤ K + 20 by omega))
    have HOx := Lib.hid HO4.out
    clear HK4 HS4 HO4 hN hN5
    go_wp2
    go_loopw [7, 5, 4] (fun i tv v wr => ∃ (r : Nat) (es : List Ent) (ks : List Key) (tick : Int), r ≤ N ∧ i = .int .i64 r ∧ tv = .int .i64 tick ∧ ks.length + r = N ∧ 0 ≤ tick ∧ tick ≤ 40 + 12 * ks.length ∧ Hid (∀ k ∈ ks, 1 ≤ k.2.length ∧ k.2.length ≤ 9) ∧ Hid (Keys wr w.heap.size v es ks) ∧ Hid (Sc wr b (K + 20 + 20 * ks.length)) ∧ Hid (Only b w wr)) (fun i _ _ _ => (intOf i).toNat)
    case atStart => exact ⟨N, [], [], tick0, Nat.le_refl _, rfl, rfl, by simp, by omega, by simp; omega, Lib.hid (fun k hk => by simp at hk), HKx, HSx, HOx⟩
    case round =>
      obtain ⟨r, es, ks, tick, hr, rfl, rfl, hlen, ht0, ht1, H9, HK, HS, HO⟩ := hrel
      by_cases hpos : 0 < r
      · obtain ⟨r', rfl⟩ : ∃ r', r = r' + 1 := ⟨r - 1, by omega⟩
        have hcast : ((r' + 1 : Nat) : Int) = (r' : Int) + 1 := by omega
        have hBw := HO.out.size
        have hwr : IntKind.i64.wrap ((r' : Int) + 1 - 1) = (r' : Int) := by rw [IntWalk.i64_in _ (by omega)]; omega
        have htot := totK_9 ks H9.out
        rw [hcast]
        obtain ⟨Ao, co, rfl, -⟩ := HK.out.rd (by omega) (by omega)
        go_wp2_with fail
        refine (l04New_any J b _ _ (by omega) HS.out (by omega)).mono ?_
        rintro e ua ⟨vj, pj, rfl, p1, hlj, hs1, ho1⟩
        obtain ⟨Aj, cj, rfl, -⟩ := p1.rd (by omega)
        have HKa := Lib.hid (HK.out.chg (chgOnly ho1) (fun j hj e => by have := (HK.out.lt j hj).1; omega))
        have HPa := Lib.hid p1
        have HSa := Lib.hid (hs1.mono (show _ ≤ K + 20 + 20 * ks.length + 12 by omega))
        have HOa := Lib.hid (HO.out.trans ho1)
        have hsz := ho1.size
        have HSep := Lib.hid (show ∀ i, i < es.length → Sep (own1 (es.getD i Go.Proofs.Ytibafngidpmgdaa.e0).2) (own1 (.slice Aj pj.length cj)) from fun i hi => sepOf wr.heap.size (fun j hj => (ownsLt (HK.out.2.2.1 i (by rw [← HK.out.1]; exact hi)).2 j hj).2) (fun j hj => (ownsLt p1 j hj).1))
        have hp1 : 1 ≤ pj.length := by omega
        have hp3 : pj.length ≤ 3 := by omega
        clear p1 hs1 ho1 hlj
        by_cases h0 : ks.length = 0
        · have hx : ¬ ((0:Int) < (ks.length : Int)) := by omega
          have hz0' : ks.length ≤ 0 := by omega
          clear h0
          have hbU : Below ua.heap.size ua (ua.alloc (.cells #[.int .i64 tick, .slice Aj pj.length cj] 55)) := bAlloc (Below.refl _ _) _
          have HKW := Lib.hid (HKa.out.below hbU)
          have PW := Lib.hid ((HPa.out.base (B' := w.heap.size) hBw).below hbU)
          have HSepW := Lib.hid HSep.out
          have HSW := Lib.hid ((HSa.out.mono (show _ ≤ K + 20 + 20 * ks.length + 14 by omega)).below hbU)
          have HOW := Lib.hid (HOa.out.alloc (.cells #[.int .i64 tick, .slice Aj pj.length cj] 55))
          clear HKa HPa HSep HSa HOa hbU HK HS HO
          go_wp2_with (first | (at_builtin; refine wpList_append_own _ rfl _ _ 33 rfl w.heap.size 55 j0 (kv 0 (.slice none 0 0)) 2 32 Try.underlying33 hj hy0 hy1 hy2 rfl (by decide) _ _ _ rfl (HKW.out.2.1.alloc _) ⟨ua.heap.size + 1, 0, none⟩ 1 1 [.int .i64 tick, .slice Aj pj.length cj] rfl rfl (two_newVAt _ _ _ _ _ (by simp)) (two_cellV rfl rfl) (by unfold maxLen; omega) (by omega) (by simp; omega) ?_; intro v6 w6 hown' hgrow hnil) | fail)
          have HG6 := Lib.hid (keysSnoc (t := tick) (p := pj) (HKW.out.below (bAlloc (Below.refl _ _) _)) (PW.out.below (bAlloc (Below.refl _ _) _)) HSepW.out (Chg.ofGrown hgrow) hown')
          have HO6 := Lib.hid (onlyGrown (HOW.out.alloc _) hgrow (fun k hk => (ownsLt HKW.out.2.1 k hk).1))
          have HS6 := Lib.hid ((HSW.out.below (bAlloc (Below.refl _ _) _)).chg (Chg.ofGrown hgrow) (fun k hk => by have := (ownsLt HKW.out.2.1 k hk).1; omega))
          clear hown' hgrow hnil HKW PW HSepW HOW HSW
          go_wp2_with fail
          refine (pickS 12 b _ _ (by omega) (by omega) HS6.out (by omega)).mono ?_
          rintro e u7 ⟨y, y0, y1, rfl, hs7, ho7⟩
          have HK7 := Lib.hid (HG6.out.chg (chgOnly ho7) (fun j hj e => by have := (HG6.out.lt j hj).1; omega))
          have HS7 := Lib.hid hs7
          have HO7 := Lib.hid (HO6.out.trans ho7)
          clear hs7 ho7 HG6 HS6 HO6
          have hw1 : IntKind.i64.wrap (1 + y) = 1 + y := IntWalk.i64_in _ (by omega)
          have hw2 : IntKind.i64.wrap (tick + (1 + y)) = tick + (1 + y) := IntWalk.i64_in _ (by omega)
          go_wp2
          go_roundw
          case rel => exact ⟨r', _, _, tick + (1 + y), by omega, by first | rfl | rw [hwr], rfl, by simp; omega, by omega, by simp; omega, Lib.hid (lens9 H9.out (by omega) (by omega)), HK7, Lib.hid (HS7.out.mono (by simp; omega)), HO7⟩
          case measure => simp [intOf] <;> omega
        · have hx : (0:Int) < (ks.length : Int) := by omega
          clear h0
          have hbU : Below ua.heap.size ua (ua.alloc (.cells #[.int .i64 tick, .slice Aj pj.length cj] 55)) := bAlloc (Below.refl _ _) _
          go_wp2_with fail
          refine (oneS 3 b _ _ (by omega) (by omega) (HSa.out.below hbU) (by omega)).mono ?_
          rintro e ub ⟨t2, rfl, hs2, ho2⟩
          have hbz := ho2.size
          simp at hbz
          obtain ⟨d0, d1, q0, q1, zz⟩ := bkOnlyV ho2 (c := ua.heap.size) (x := .int .i64 tick) (y := .slice Aj pj.length cj) (by omega) (by refine ⟨?_, ?_, ?_, ?_, ?_⟩ <;> go_simp)
          have HKb := Lib.hid ((HKa.out.below hbU).chg (chgOnly ho2) (fun j hj e => by have := (HKa.out.lt j hj).1; omega))
          have HPb := Lib.hid (((HPa.out.base (B' := w.heap.size) hBw).below hbU).chg (chgOnly ho2) (fun j hj e => by have := (ownsLt HPa.out j hj).1; omega))
          have HSb := Lib.hid hs2
          have HOb := Lib.hid ((HOa.out.alloc (.cells #[.int .i64 tick, .slice Aj pj.length cj] 55)).trans ho2)
          clear hs2 ho2 hbU
          cases t2
          · have HKW := Lib.hid HKb.out
            have PW := Lib.hid HPb.out
            have HSepW := Lib.hid HSep.out
            have HSW := Lib.hid (HSb.out.mono (show _ ≤ K + 20 + 20 * ks.length + 14 by omega))
            have HOW := Lib.hid HOb.out
            clear HKa HPa HSep HSa HOa HK HS HO HKb HPb HSb HOb
            go_wp2_with (first | (at_builtin; refine wpList_append_own _ rfl _ _ 33 rfl w.heap.size 55 j0 (kv 0 (.slice none 0 0)) 2 32 Try.underlying33 hj hy0 hy1 hy2 rfl (by decide) _ _ _ rfl (HKW.out.2.1.alloc _) ⟨ub.heap.size, 0, none⟩ 1 1 [.int .i64 tick, .slice Aj pj.length cj] rfl rfl (two_newVAt _ _ _ _ _ (by simp)) (two_cellV rfl rfl) (by unfold maxLen; omega) (by omega) (by simp; omega) ?_; intro v6 w6 hown' hgrow hnil) | fail)
            have HG6 := Lib.hid (keysSnoc (t := tick) (p := pj) (HKW.out.below (bAlloc (Below.refl _ _) _)) (PW.out.below (bAlloc (Below.refl _ _) _)) HSepW.out (Chg.ofGrown hgrow) hown')
            have HO6 := Lib.hid (onlyGrown (HOW.out.alloc _) hgrow (fun k hk => (ownsLt HKW.out.2.1 k hk).1))
            have HS6 := Lib.hid ((HSW.out.below (bAlloc (Below.refl _ _) _)).chg (Chg.ofGrown hgrow) (fun k hk => by have := (ownsLt HKW.out.2.1 k hk).1; omega))
            clear hown' hgrow hnil HKW PW HSepW HOW HSW
            go_wp2_with fail
            refine (pickS 12 b _ _ (by omega) (by omega) HS6.out (by omega)).mono ?_
            rintro e u7 ⟨y, y0, y1, rfl, hs7, ho7⟩
            have HK7 := Lib.hid (HG6.out.chg (chgOnly ho7) (fun j hj e => by have := (HG6.out.lt j hj).1; omega))
            have HS7 := Lib.hid hs7
            have HO7 := Lib.hid (HO6.out.trans ho7)
            clear hs7 ho7 HG6 HS6 HO6
            have hw1 : IntKind.i64.wrap (1 + y) = 1 + y := IntWalk.i64_in _ (by omega)
            have hw2 : IntKind.i64.wrap (tick + (1 + y)) = tick + (1 + y) := IntWalk.i64_in _ (by omega)
            go_wp2
            go_roundw
            case rel => exact ⟨r', _, _, tick + (1 + y), by omega, by first | rfl | rw [hwr], rfl, by simp; omega, by omega, by simp; omega, Lib.hid (lens9 H9.out (by omega) (by omega)), HK7, Lib.hid (HS7.out.mono (by simp; omega)), HO7⟩
            case measure => simp [intOf] <;> omega
          · have R := HKb.out.rdOf rfl (by omega) (by omega)
            obtain ⟨-, -, h3⟩ := R
            rcases h3 with h00 | ⟨g, rfl, hg, h3⟩
            · omega
            obtain ⟨-, A', f', c1, r⟩ := h3 (ks.length - 1) (by omega)
            obtain ⟨hl1, hl9⟩ := H9.out (ks.getD (ks.length - 1) Go.Proofs.Ytibafngidpmgdaa.k0) (getDK_mem (by omega))
            clear h3
            generalize (ks.getD (ks.length - 1) Go.Proofs.Ytibafngidpmgdaa.k0).2 = p9 at *
            obtain ⟨-, -, r3⟩ := r
            rcases r3 with h00 | ⟨g1, rfl, hg1, r3⟩
            · omega
            have HN := Lib.hid (Rd.news rfl r3)
            have hwi : IntKind.i64.wrap ((ks.length : Int) - 1) = (ks.length : Int) - 1 := IntWalk.i64_in _ (by omega)
            have hcx : (ks.length : Int) - 1 = ((ks.length - 1 : Nat) : Int) := by omega
            have y0 : (0:Int) ≤ (ks.length : Int) - 1 := by omega
            have y1 : (ks.length : Int) - 1 < ks.length := by omega
            have hbzb := HOb.out.size
            have HE : Hid ((ub.alloc (.cells #[] 57)).ownsRow ub.heap.size 57 2 (.slice (some ⟨ub.heap.size, 0, none⟩) 0 0) 0 []) := Lib.hid (World.ownsRow_lit ub #[] 0 (Nat.le_refl _) (Nat.zero_le _) rfl)
            have HD := Lib.hid (And.intro d0 (And.intro d1 (And.intro q0 (And.intro q1 zz))))
            have HSx2 := Lib.hid (show ∀ k, ownE (.slice (some ⟨g, 0, none⟩) ks.length co) es k → k < wr.heap.size from fun k hk => (HK.out.lt k hk).2)
            clear r3 HKa HPa HSep HSa HOa HPb d0 d1 q0 q1 zz
            go_wp2_with (first | (at_builtin; refine wpList_append_own _ rfl _ _ 24 rfl ub.heap.size 57 i0 (fr 0 0) 2 16 Try.underlying24 hi hz0 hz1 hz2 rfl (by decide) _ _ _ rfl (World.ownsRow_lit ub #[] 0 (Nat.le_refl _) (Nat.zero_le _) rfl) ⟨g1, 0, none⟩ p9.length f' (flat p9) rfl (by rw [flat_length]) (fun j u hj => (World.cell?_alloc_lt ub _ _ (by rw [addP]; exact hg1)).trans (HN.out j u hj)) (flat_oneCell p9) (by unfold maxLen; omega) (by omega) (by simp) ?_; intro v' w5 hown' hgrow hnil; have HB5 := Lib.hid (Below.grown (bAlloc (Below.refl _ ub) _) hgrow (by simp) (fun j hj => (World.ownsRow.lt HE.out j hj).1)); have hP : Pts w5 ub.heap.size v' p9 := (by unfold Pts; simpa using hown'); obtain ⟨A5, c5, rfl, -⟩ := Pts.rd hP (by omega); have hB5 := HB5.out.size; obtain ⟨d0, d1, q0, q1, zz⟩ := bkE HB5.out HD.out; have HKW := Lib.hid ((HKb.out.below HB5.out).chg (u := w5.setCell ⟨ua.heap.size, 1, none⟩ (.slice A5 p9.length c5)) (S := fun k => k = ua.heap.size) (by refine Chg.set (Chg.refl _ _) ?_ _; exact .inl rfl) (fun k hk e => by have := HSx2.out k hk; omega)); have PW := Lib.hid ((hP.base (B' := w.heap.size) hbzb).chg (u := w5.setCell ⟨ua.heap.size, 1, none⟩ (.slice A5 p9.length c5)) (S := fun k => k = ua.heap.size) (by refine Chg.set (Chg.refl _ _) ?_ _; exact .inl rfl) (fun k hk e => by have := (ownsLt hP k hk).1; omega)); have HSepW := Lib.hid (show ∀ i, i < es.length → Sep (own1 (es.getD i Go.Proofs.Ytibafngidpmgdaa.e0).2) (own1 (.slice A5 p9.length c5)) from fun i hi => sepOf wr.heap.size (fun j hj => (ownsLt (HK.out.2.2.1 i (by rw [← HK.out.1]; exact hi)).2 j hj).2) (fun j hj => by have := (ownsLt hP j hj).1; omega)); have HSW := Lib.hid (((HSb.out.mono (show _ ≤ K + 20 + 20 * ks.length + 14 by omega)).below HB5.out).chg (u := w5.setCell ⟨ua.heap.size, 1, none⟩ (.slice A5 p9.length c5)) (S := fun k => k = ua.heap.size) (by refine Chg.set (Chg.refl _ _) ?_ _; exact .inl rfl) (fun k hk => by omega)); have HOW := Lib.hid ((HOb.out.trans (belowOnly HB5.out (by omega))).setNew (p := ⟨ua.heap.size, 1, none⟩) (by dsimp only; omega) (.slice A5 p9.length c5)); clear hP hown' hgrow hnil HN HE HD) | (at_builtin; refine wpList_append_own _ rfl _ _ 33 rfl w.heap.size 55 j0 (kv 0 (.slice none 0 0)) 2 32 Try.underlying33 hj hy0 hy1 hy2 rfl (by decide) _ _ _ rfl (HKW.out.2.1.alloc _) ⟨w5.heap.size, 0, none⟩ 1 1 [.int .i64 tick, .slice A5 p9.length c5] rfl rfl (two_newVAt _ _ _ _ _ (by simp)) (two_cellV rfl rfl) (by unfold maxLen; omega) (by omega) (by simp; omega) ?_; intro v6 w6 hown' hgrow hnil) | fail)
            have HG6 := Lib.hid (keysSnoc (t := tick) (p := p9) (HKW.out.below (bAlloc (Below.refl _ _) _)) (PW.out.below (bAlloc (Below.refl _ _) _)) HSepW.out (Chg.ofGrown hgrow) hown')
            have HO6 := Lib.hid (onlyGrown (HOW.out.alloc _) hgrow (fun k hk => (ownsLt HKW.out.2.1 k hk).1))
            have HS6 := Lib.hid ((HSW.out.below (bAlloc (Below.refl _ _) _)).chg (Chg.ofGrown hgrow) (fun k hk => by have := (ownsLt HKW.out.2.1 k hk).1; omega))
            clear hown' hgrow hnil HKW PW HSepW HOW HSW
            go_wp2_with fail
            refine (pickS 12 b _ _ (by omega) (by omega) HS6.out (by omega)).mono ?_
            rintro e u7 ⟨y, y0, y1, rfl, hs7, ho7⟩
            have HK7 := Lib.hid (HG6.out.chg (chgOnly ho7) (fun j hj e => by have := (HG6.out.lt j hj).1; omega))
            have HS7 := Lib.hid hs7
            have HO7 := Lib.hid (HO6.out.trans ho7)
            clear hs7 ho7 HG6 HS6 HO6
            have hw1 : IntKind.i64.wrap (1 + y) = 1 + y := IntWalk.i64_in _ (by omega)
            have hw2 : IntKind.i64.wrap (tick + (1 + y)) = tick + (1 + y) := IntWalk.i64_in _ (by omega)
            go_wp2
            go_roundw
            case rel => exact ⟨r', _, _, tick + (1 + y), by omega, by first | rfl | rw [hwr], rfl, by simp; omega, by omega, by simp; omega, Lib.hid (lens9 H9.out (by omega) (by omega)), HK7, Lib.hid (HS7.out.mono (by simp; omega)), HO7⟩
            case measure => simp [intOf] <;> omega

      · have hr0 : r = 0 := by omega
        subst hr0
        have hNl : ks.length = N := by omega
        have htot := totK_9 ks H9.out
        by_cases hN0 : N = 0
        · have hx : ¬ ((0:Int) < (N : Int)) := by omega
          clear hN0
          go_wp2
          go_ret
          exact ⟨_, es, ks, rfl, HK.out, by omega, by omega, HS.out.mono (by omega), HO.out⟩
        · have hx : (0:Int) < (N : Int) := by omega
          clear hN0
          obtain ⟨g, cap, rfl, hBg, hgl⟩ := keysOpen HK.out (by omega)
          subst hNl
          go_wp2_with fail
          refine (pickS ks.length b _ _ (by omega) (by omega) HS.out (by omega)).mono ?_
          rintro e ua ⟨y, y0, y1, rfl, hs1, ho1⟩
          obtain ⟨j, rfl⟩ : ∃ j : Nat, y = j := ⟨y.toNat, by omega⟩
          have hjl : j < ks.length := by omega
          have y2 : (j : Int) < ks.length := by omega
          have HKa := Lib.hid (HK.out.chg (chgOnly ho1) (fun j hj e => by have := (HK.out.lt j hj).1; omega))
          have HSa := Lib.hid (hs1.mono (show _ ≤ K + 300 by omega))
          have HOa := Lib.hid (HO.out.trans ho1)
          clear hs1 ho1 HK HS HO
          go_wp2_with fail
          refine (pickS 20 b _ _ (by omega) (by omega) HSa.out (by omega)).mono ?_
          rintro e ub ⟨q, q0, q1, rfl, hs2, ho2⟩
          have HKb := Lib.hid (HKa.out.chg (chgOnly ho2) (fun j hj e => by have := (HKa.out.lt j hj).1; omega))
          have HSb := Lib.hid hs2
          have HOb := Lib.hid (HOa.out.trans ho2)
          clear hs2 ho2 HKa HSa HOa
          have hbb := HOb.out.size
          by_cases hq0 : q = 0
          · subst hq0
            go_wp2_with fail
            refine (amongS b _ ub.heap.size _ [-1, 0, 10000, 10001] _ (World.ownsRow_lit ub #[.int .i64 (-1), .int .i64 0, .int .i64 10000, .int .i64 10001] 4 (Nat.le_refl _) (by decide) rfl) (by simp) (by simp) (by omega) (HSb.out.below (bAlloc (Below.refl _ _) _)) (by omega)).mono ?_
            rintro e uc ⟨jj, hjj, rfl, hs3, ho3⟩
            generalize ([-1, 0, 10000, 10001] : List Int).getD jj 0 = z at *
            have HKc := Lib.hid ((HKb.out.below (bAlloc (Below.refl _ _) _)).chg (chgOnly ho3) (fun j hj e => by have := (HKb.out.lt j hj).1; omega))
            have HSc := Lib.hid hs3
            have HOc := Lib.hid ((HOb.out.alloc _).trans ho3)
            have hcl := HKc.out.1
            have c0 := World.ownsRow.cellAt HKc.out.2.1 (j * 2) (by omega)
            rw [(flatE_get es j (by omega)).1] at c0
            have f0 : uc.frozen? ⟨g, j * 2, none⟩ = false := World.ownsRow.frozenAt HKc.out.2.1 _
            have HK7 := Lib.hid (keysTick HKc.out hjl z)
            have HS7 := Lib.hid (HSc.out.chg (u := uc.setCell ⟨g, j * 2, none⟩ (.int .i64 z)) (S := fun k => k = g) (by refine Chg.set (Chg.refl _ _) ?_ _; exact .inl rfl) (fun k hk => by omega))
            have HO7 := Lib.hid (HOc.out.setNew (p := ⟨g, j * 2, none⟩) (by dsimp only; omega) (.int .i64 z))
            have hl7 := Lib.hid (show totK (ks.set j (z, (ks.getD j Go.Proofs.Ytibafngidpmgdaa.k0).2)) ≤ 200 from by
              have h1 := totK_9' _ (lensSet (ks := ks) (j := j) (t := z) (p := (ks.getD j Go.Proofs.Ytibafngidpmgdaa.k0).2) (fun k hk => (H9.out k hk).2) (H9.out _ (getDK_mem hjl)).2)
              rw [List.length_set] at h1
              omega)
            generalize (es.getD j Go.Proofs.Ytibafngidpmgdaa.e0).1 = z0 at *
            clear hs3 ho3 HKb HSb HOb HKc HSc HOc hjj hcl
            go_wp2
            go_ret
            exact ⟨_, _, _, rfl, HK7.out, by rw [List.length_set]; omega, hl7.out, HS7.out.mono (by omega), HO7.out⟩
          · by_cases hq1 : q = 1
            · subst hq1
              go_wp2_with fail
              refine (l04Bent_any b _ _ HSb.out (by omega)).mono ?_
              rintro e uc ⟨v9, p9, rfl, p3, hl9, hs3, ho3⟩
              obtain ⟨A9, c9, rfl, -⟩ := p3.rd (by omega)
              have HKc := Lib.hid (HKb.out.chg (chgOnly ho3) (fun j hj e => by have := (HKb.out.lt j hj).1; omega))
              have HSc := Lib.hid hs3
              have HOc := Lib.hid (HOb.out.trans ho3)
              have HPc := Lib.hid (p3.base (B' := w.heap.size) hbb)
              have HSp := Lib.hid (show ∀ k, ownE (.slice (some ⟨g, 0, none⟩) ks.length cap) es k → ¬ own1 (.slice A9 p9.length c9) k from fun k hk hk2 => by
                have h1 := (HKb.out.lt k hk).2
                have h2 := (ownsLt p3 k hk2).1
                omega)
              have hcl := HKc.out.1
              have hzc := ho3.size
              have c0 := World.ownsRow.cellAt HKc.out.2.1 (j * 2 + 1) (by omega)
              rw [(flatE_get es j (by omega)).2] at c0
              have f0 : uc.frozen? ⟨g, j * 2 + 1, none⟩ = false := World.ownsRow.frozenAt HKc.out.2.1 _
              have HK7 := Lib.hid (keysJoints HKc.out hjl HPc.out HSp.out)
              have HS7 := Lib.hid (HSc.out.chg (u := uc.setCell ⟨g, j * 2 + 1, none⟩ (.slice A9 p9.length c9)) (S := fun k => k = g) (by refine Chg.set (Chg.refl _ _) ?_ _; exact .inl rfl) (fun k hk => by omega))
              have HO7 := Lib.hid (HOc.out.setNew (p := ⟨g, j * 2 + 1, none⟩) (by dsimp only; omega) (.slice A9 p9.length c9))
              have hl7 := Lib.hid (show totK (ks.set j ((ks.getD j Go.Proofs.Ytibafngidpmgdaa.k0).1, p9)) ≤ 200 from by
                have h1 := totK_9' _ (lensSet (ks := ks) (j := j) (t := (ks.getD j Go.Proofs.Ytibafngidpmgdaa.k0).1) (p := p9) (fun k hk => (H9.out k hk).2) hl9)
                rw [List.length_set] at h1
                omega)
              generalize (es.getD j Go.Proofs.Ytibafngidpmgdaa.e0).2 = z0 at *
              clear hs3 ho3 HKb HSb HOb HKc HSc HOc hcl p3 HPc HSp
              go_wp2
              go_ret
              exact ⟨_, _, _, rfl, HK7.out, by rw [List.length_set]; omega, hl7.out, HS7.out.mono (by omega), HO7.out⟩
            · have e0' : (q == 0) = false := by simpa using hq0
              have e1' : (q == 1) = false := by simpa using hq1
              go_wp2
              go_ret
              exact ⟨_, es, ks, rfl, HKb.out, by omega, by omega, HSb.out.mono (by omega), HOb.out⟩
  · have hbz4 := HO4.out.size
    go_wp2_with fail
    refine (amongS b _ u4.heap.size _ [0, 10, 11] _ (World.ownsRow_lit u4 #[.int .i64 0, .int .i64 10, .int .i64 11] 3 (Nat.le_refl _) (by decide) rfl) (by simp) (by simp) (by omega) (HS4.out.below (bAlloc (Below.refl _ _) _)) (by omega)).mono ?_
    rintro e u5 ⟨j, hj3, rfl, hs5, ho5⟩
    obtain ⟨N, hN11, hN⟩ := three_get (j := j) (by simpa using hj3)
    rw [hN]
    have HKx := Lib.hid ((HK4.out.below (bAlloc (Below.refl _ _) _)).chg (chgOnly ho5) (fun j hj e => by have := (HK4.out.lt j hj).1; omega))
    have HSx := Lib.hid (hs5.mono (show _ ≤ K + 20 by omega))
    have HOx := Lib.hid ((HO4.out.alloc _).trans ho5)
    clear hs5 ho5 HK4 HS4 HO4 hN hN5 hj3
    go_wp2
    go_loopw [7, 5, 4] (fun i tv v wr => ∃ (r : Nat) (es : List Ent) (ks : List Key) (tick : Int), r ≤ N ∧ i = .int .i64 r ∧ tv = .int .i64 tick ∧ ks.length + r = N ∧ 0 ≤ tick ∧ tick ≤ 40 + 12 * ks.length ∧ Hid (∀ k ∈ ks, 1 ≤ k.2.length ∧ k.2.length ≤ 9) ∧ Hid (Keys wr w.heap.size v es ks) ∧ Hid (Sc wr b (K + 20 + 20 * ks.length)) ∧ Hid (Only b w wr)) (fun i _ _ _ => (intOf i).toNat)
    case atStart => exact ⟨N, [], [], tick0, Nat.le_refl _, rfl, rfl, by simp, by omega, by simp; omega, Lib.hid (fun k hk => by simp at hk), HKx, HSx, HOx⟩
    case round =>
      obtain ⟨r, es, ks, tick, hr, rfl, rfl, hlen, ht0, ht1, H9, HK, HS, HO⟩ := hrel
      by_cases hpos : 0 < r
      · obtain ⟨r', rfl⟩ : ∃ r', r = r' + 1 := ⟨r - 1, by omega⟩
        have hcast : ((r' + 1 : Nat) : Int) = (r' : Int) + 1 := by omega
        have hBw := HO.out.size
        have hwr : IntKind.i64.wrap ((r' : Int) + 1 - 1) = (r' : Int) := by rw [IntWalk.i64_in _ (by omega)]; omega
        have htot := totK_9 ks H9.out
        rw [hcast]
        obtain ⟨Ao, co, rfl, -⟩ := HK.out.rd (by omega) (by omega)
        go_wp2_with fail
        refine (l04New_any J b _ _ (by omega) HS.out (by omega)).mono ?_
        rintro e ua ⟨vj, pj, rfl, p1, hlj, hs1, ho1⟩
        obtain ⟨Aj, cj, rfl, -⟩ := p1.rd (by omega)
        have HKa := Lib.hid (HK.out.chg (chgOnly ho1) (fun j hj e => by have := (HK.out.lt j hj).1; omega))
        have HPa := Lib.hid p1
        have HSa := Lib.hid (hs1.mono (show _ ≤ K + 20 + 20 * ks.length + 12 by omega))
        have HOa := Lib.hid (HO.out.trans ho1)
        have hsz := ho1.size
        have HSep := Lib.hid (show ∀ i, i < es.length → Sep (own1 (es.getD i Go.Proofs.Ytibafngidpmgdaa.e0).2) (own1 (.slice Aj pj.length cj)) from fun i hi => sepOf wr.heap.size (fun j hj => (ownsLt (HK.out.2.2.1 i (by rw [← HK.out.1]; exact hi)).2 j hj).2) (fun j hj => (ownsLt p1 j hj).1))
        have hp1 : 1 ≤ pj.length := by omega
        have hp3 : pj.length ≤ 3 := by omega
        clear p1 hs1 ho1 hlj
        by_cases h0 : ks.length = 0
        · have hx : ¬ ((0:Int) < (ks.length : Int)) := by omega
          have hz0' : ks.length ≤ 0 := by omega
          clear h0
          have hbU : Below ua.heap.size ua (ua.alloc (.cells #[.int .i64 tick, .slice Aj pj.length cj] 55)) := bAlloc (Below.refl _ _) _
          have HKW := Lib.hid (HKa.out.below hbU)
          have PW := Lib.hid ((HPa.out.base (B' := w.heap.size) hBw).below hbU)
          have HSepW := Lib.hid HSep.out
          have HSW := Lib.hid ((HSa.out.mono (show _ ≤ K + 20 + 20 * ks.length + 14 by omega)).below hbU)
          have HOW := Lib.hid (HOa.out.alloc (.cells #[.int .i64 tick, .slice Aj pj.length cj] 55))
          clear HKa HPa HSep HSa HOa hbU HK HS HO
          go_wp2_with (first | (at_builtin; refine wpList_append_own _ rfl _ _ 33 rfl w.heap.size 55 j0 (kv 0 (.slice none 0 0)) 2 32 Try.underlying33 hj hy0 hy1 hy2 rfl (by decide) _ _ _ rfl (HKW.out.2.1.alloc _) ⟨ua.heap.size + 1, 0, none⟩ 1 1 [.int .i64 tick, .slice Aj pj.length cj] rfl rfl (two_newVAt _ _ _ _ _ (by simp)) (two_cellV rfl rfl) (by unfold maxLen; omega) (by omega) (by simp; omega) ?_; intro v6 w6 hown' hgrow hnil) | fail)
          have HG6 := Lib.hid (keysSnoc (t := tick) (p := pj) (HKW.out.below (bAlloc (Below.refl _ _) _)) (PW.out.below (bAlloc (Below.refl _ _) _)) HSepW.out (Chg.ofGrown hgrow) hown')
          have HO6 := Lib.hid (onlyGrown (HOW.out.alloc _) hgrow (fun k hk => (ownsLt HKW.out.2.1 k hk).1))
          have HS6 := Lib.hid ((HSW.out.below (bAlloc (Below.refl _ _) _)).chg (Chg.ofGrown hgrow) (fun k hk => by have := (ownsLt HKW.out.2.1 k hk).1; omega))
          clear hown' hgrow hnil HKW PW HSepW HOW HSW
          go_wp2_with fail
          refine (pickS 12 b _ _ (by omega) (by omega) HS6.out (by omega)).mono ?_
          rintro e u7 ⟨y, y0, y1, rfl, hs7, ho7⟩
          have HK7 := Lib.hid (HG6.out.chg (chgOnly ho7) (fun j hj e => by have := (HG6.out.lt j hj).1; omega))
          have HS7 := Lib.hid hs7
          have HO7 := Lib.hid (HO6.out.trans ho7)
          clear hs7 ho7 HG6 HS6 HO6
          have hw1 : IntKind.i64.wrap (1 + y) = 1 + y := IntWalk.i64_in _ (by omega)
          have hw2 : IntKind.i64.wrap (tick + (1 + y)) = tick + (1 + y) := IntWalk.i64_in _ (by omega)
          go_wp2
          go_roundw
          case rel => exact ⟨r', _, _, tick + (1 + y), by omega, by first | rfl | rw [hwr], rfl, by simp; omega, by omega, by simp; omega, Lib.hid (lens9 H9.out (by omega) (by omega)), HK7, Lib.hid (HS7.out.mono (by simp; omega)), HO7⟩
          case measure => simp [intOf] <;> omega
        · have hx : (0:Int) < (ks.length : Int) := by omega
          clear h0
          have hbU : Below ua.heap.size ua (ua.alloc (.cells #[.int .i64 tick, .slice Aj pj.length cj] 55)) := bAlloc (Below.refl _ _) _
          go_wp2_with fail
          refine (oneS 3 b _ _ (by omega) (by omega) (HSa.out.below hbU) (by omega)).mono ?_
          rintro e ub ⟨t2, rfl, hs2, ho2⟩
          have hbz := ho2.size
          simp at hbz
          obtain ⟨d0, d1, q0, q1, zz⟩ := bkOnlyV ho2 (c := ua.heap.size) (x := .int .i64 tick) (y := .slice Aj pj.length cj) (by omega) (by refine ⟨?_, ?_, ?_, ?_, ?_⟩ <;> go_simp)
          have HKb := Lib.hid ((HKa.out.below hbU).chg (chgOnly ho2) (fun j hj e => by have := (HKa.out.lt j hj).1; omega))
          have HPb := Lib.hid (((HPa.out.base (B' := w.heap.size) hBw).below hbU).chg (chgOnly ho2) (fun j hj e => by have := (ownsLt HPa.out j hj).1; omega))
          have HSb := Lib.hid hs2
          have HOb := Lib.hid ((HOa.out.alloc (.cells #[.int .i64 tick, .slice Aj pj.length cj] 55)).trans ho2)
          clear hs2 ho2 hbU
          cases t2
          · have HKW := Lib.hid HKb.out
            have PW := Lib.hid HPb.out
            have HSepW := Lib.hid HSep.out
            have HSW := Lib.hid (HSb.out.mono (show _ ≤ K + 20 + 20 * ks.length + 14 by omega))
            have HOW := Lib.hid HOb.out
            clear HKa HPa HSep HSa HOa HK HS HO HKb HPb HSb HOb
            go_wp2_with (first | (at_builtin; refine wpList_append_own _ rfl _ _ 33 rfl w.heap.size 55 j0 (kv 0 (.slice none 0 0)) 2 32 Try.underlying33 hj hy0 hy1 hy2 rfl (by decide) _ _ _ rfl (HKW.out.2.1.alloc _) ⟨ub.heap.size, 0, none⟩ 1 1 [.int .i64 tick, .slice Aj pj.length cj] rfl rfl (two_newVAt _ _ _ _ _ (by simp)) (two_cellV rfl rfl) (by unfold maxLen; omega) (by omega) (by simp; omega) ?_; intro v6 w6 hown' hgrow hnil) | fail)
            have HG6 := Lib.hid (keysSnoc (t := tick) (p := pj) (HKW.out.below (bAlloc (Below.refl _ _) _)) (PW.out.below (bAlloc (Below.refl _ _) _)) HSepW.out (Chg.ofGrown hgrow) hown')
            have HO6 := Lib.hid (onlyGrown (HOW.out.alloc _) hgrow (fun k hk => (ownsLt HKW.out.2.1 k hk).1))
            have HS6 := Lib.hid ((HSW.out.below (bAlloc (Below.refl _ _) _)).chg (Chg.ofGrown hgrow) (fun k hk => by have := (ownsLt HKW.out.2.1 k hk).1; omega))
            clear hown' hgrow hnil HKW PW HSepW HOW HSW
            go_wp2_with fail
            refine (pickS 12 b _ _ (by omega) (by omega) HS6.out (by omega)).mono ?_
            rintro e u7 ⟨y, y0, y1, rfl, hs7, ho7⟩
            have HK7 := Lib.hid (HG6.out.chg (chgOnly ho7) (fun j hj e => by have := (HG6.out.lt j hj).1; omega))
            have HS7 := Lib.hid hs7
            have HO7 := Lib.hid (HO6.out.trans ho7)
            clear hs7 ho7 HG6 HS6 HO6
            have hw1 : IntKind.i64.wrap (1 + y) = 1 + y := IntWalk.i64_in _ (by omega)
            have hw2 : IntKind.i64.wrap (tick + (1 + y)) = tick + (1 + y) := IntWalk.i64_in _ (by omega)
            go_wp2
            go_roundw
            case rel => exact ⟨r', _, _, tick + (1 + y), by omega, by first | rfl | rw [hwr], rfl, by simp; omega, by omega, by simp; omega, Lib.hid (lens9 H9.out (by omega) (by omega)), HK7, Lib.hid (HS7.out.mono (by simp; omega)), HO7⟩
            case measure => simp [intOf] <;> omega
          · have R := HKb.out.rdOf rfl (by omega) (by omega)
            obtain ⟨-, -, h3⟩ := R
            rcases h3 with h00 | ⟨g, rfl, hg, h3⟩
            · omega
            obtain ⟨-, A', f', c1, r⟩ := h3 (ks.length - 1) (by omega)
            obtain ⟨hl1, hl9⟩ := H9.out (ks.getD (ks.length - 1) Go.Proofs.Ytibafngidpmgdaa.k0) (getDK_mem (by omega))
            clear h3
            generalize (ks.getD (ks.length - 1) Go.Proofs.Ytibafngidpmgdaa.k0).2 = p9 at *
            obtain ⟨-, -, r3⟩ := r
            rcases r3 with h00 | ⟨g1, rfl, hg1, r3⟩
            · omega
            have HN := Lib.hid (Rd.news rfl r3)
            have hwi : IntKind.i64.wrap ((ks.length : Int) - 1) = (ks.length : Int) - 1 := IntWalk.i64_in _ (by omega)
            have hcx : (ks.length : Int) - 1 = ((ks.length - 1 : Nat) : Int) := by omega
            have y0 : (0:Int) ≤ (ks.length : Int) - 1 := by omega
            have y1 : (ks.length : Int) - 1 < ks.length := by omega
            have hbzb := HOb.out.size
            have HE : Hid ((ub.alloc (.cells #[] 57)).ownsRow ub.heap.size 57 2 (.slice (some ⟨ub.heap.size, 0, none⟩) 0 0) 0 []) := Lib.hid (World.ownsRow_lit ub #[] 0 (Nat.le_refl _) (Nat.zero_le _) rfl)
            have HD := Lib.hid (And.intro d0 (And.intro d1 (And.intro q0 (And.intro q1 zz))))
            have HSx2 := Lib.hid (show ∀ k, ownE (.slice (some ⟨g, 0, none⟩) ks.length co) es k → k < wr.heap.size from fun k hk => (HK.out.lt k hk).2)
            clear r3 HKa HPa HSep HSa HOa HPb d0 d1 q0 q1 zz
            go_wp2_with (first | (at_builtin; refine wpList_append_own _ rfl _ _ 24 rfl ub.heap.size 57 i0 (fr 0 0) 2 16 Try.underlying24 hi hz0 hz1 hz2 rfl (by decide) _ _ _ rfl (World.ownsRow_lit ub #[] 0 (Nat.le_refl _) (Nat.zero_le _) rfl) ⟨g1, 0, none⟩ p9.length f' (flat p9) rfl (by rw [flat_length]) (fun j u hj => (World.cell?_alloc_lt ub _ _ (by rw [addP]; exact hg1)).trans (HN.out j u hj)) (flat_oneCell p9) (by unfold maxLen; omega) (by omega) (by simp) ?_; intro v' w5 hown' hgrow hnil; have HB5 := Lib.hid (Below.grown (bAlloc (Below.refl _ ub) _) hgrow (by simp) (fun j hj => (World.ownsRow.lt HE.out j hj).1)); have hP : Pts w5 ub.heap.size v' p9 := (by unfold Pts; simpa using hown'); obtain ⟨A5, c5, rfl, -⟩ := Pts.rd hP (by omega); have hB5 := HB5.out.size; obtain ⟨d0, d1, q0, q1, zz⟩ := bkE HB5.out HD.out; have HKW := Lib.hid ((HKb.out.below HB5.out).chg (u := w5.setCell ⟨ua.heap.size, 1, none⟩ (.slice A5 p9.length c5)) (S := fun k => k = ua.heap.size) (by refine Chg.set (Chg.refl _ _) ?_ _; exact .inl rfl) (fun k hk e => by have := HSx2.out k hk; omega)); have PW := Lib.hid ((hP.base (B' := w.heap.size) hbzb).chg (u := w5.setCell ⟨ua.heap.size, 1, none⟩ (.slice A5 p9.length c5)) (S := fun k => k = ua.heap.size) (by refine Chg.set (Chg.refl _ _) ?_ _; exact .inl rfl) (fun k hk e => by have := (ownsLt hP k hk).1; omega)); have HSepW := Lib.hid (show ∀ i, i < es.length → Sep (own1 (es.getD i Go.Proofs.Ytibafngidpmgdaa.e0).2) (own1 (.slice A5 p9.length c5)) from fun i hi => sepOf wr.heap.size (fun j hj => (ownsLt (HK.out.2.2.1 i (by rw [← HK.out.1]; exact hi)).2 j hj).2) (fun j hj => by have := (ownsLt hP j hj).1; omega)); have HSW := Lib.hid (((HSb.out.mono (show _ ≤ K + 20 + 20 * ks.length + 14 by omega)).below HB5.out).chg (u := w5.setCell ⟨ua.heap.size, 1, none⟩ (.slice A5 p9.length c5)) (S := fun k => k = ua.heap.size) (by refine Chg.set (Chg.refl _ _) ?_ _; exact .inl rfl) (fun k hk => by omega)); have HOW := Lib.hid ((HOb.out.trans (belowOnly HB5.out (by omega))).setNew (p := ⟨ua.heap.size, 1, none⟩) (by dsimp only; omega) (.slice A5 p9.length c5)); clear hP hown' hgrow hnil HN HE HD) | (at_builtin; refine wpList_append_own _ rfl _ _ 33 rfl w.heap.size 55 j0 (kv 0 (.slice none 0 0)) 2 32 Try.underlying33 hj hy0 hy1 hy2 rfl (by decide) _ _ _ rfl (HKW.out.2.1.alloc _) ⟨w5.heap.size, 0, none⟩ 1 1 [.int .i64 tick, .slice A5 p9.length c5] rfl rfl (two_newVAt _ _ _ _ _ (by simp)) (two_cellV rfl rfl) (by unfold maxLen; omega) (by omega) (by simp; omega) ?_; intro v6 w6 hown' hgrow hnil) | fail)
            have HG6 := Lib.hid (keysSnoc (t := tick) (p := p9) (HKW.out.below (bAlloc (Below.refl _ _) _)) (PW.out.below (bAlloc (Below.refl _ _) _)) HSepW.out (Chg.ofGrown hgrow) hown')
            have HO6 := Lib.hid (onlyGrown (HOW.out.alloc _) hgrow (fun k hk => (ownsLt HKW.out.2.1 k hk).1))
            have HS6 := Lib.hid ((HSW.out.below (bAlloc (Below.refl _ _) _)).chg (Chg.ofGrown hgrow) (fun k hk => by have := (ownsLt HKW.out.2.1 k hk).1; omega))
            clear hown' hgrow hnil HKW PW HSepW HOW HSW
            go_wp2_with fail
            refine (pickS 12 b _ _ (by omega) (by omega) HS6.out (by omega)).mono ?_
            rintro e u7 ⟨y, y0, y1, rfl, hs7, ho7⟩
            have HK7 := Lib.hid (HG6.out.chg (chgOnly ho7) (fun j hj e => by have := (HG6.out.lt j hj).1; omega))
            have HS7 := Lib.hid hs7
            have HO7 := Lib.hid (HO6.out.trans ho7)
            clear hs7 ho7 HG6 HS6 HO6
            have hw1 : IntKind.i64.wrap (1 + y) = 1 + y := IntWalk.i64_in _ (by omega)
            have hw2 : IntKind.i64.wrap (tick + (1 + y)) = tick + (1 + y) := IntWalk.i64_in _ (by omega)
            go_wp2
            go_roundw
            case rel => exact ⟨r', _, _, tick + (1 + y), by omega, by first | rfl | rw [hwr], rfl, by simp; omega, by omega, by simp; omega, Lib.hid (lens9 H9.out (by omega) (by omega)), HK7, Lib.hid (HS7.out.mono (by simp; omega)), HO7⟩
            case measure => simp [intOf] <;> omega

      · have hr0 : r = 0 := by omega
        subst hr0
        have hNl : ks.length = N := by omega
        have htot := totK_9 ks H9.out
        by_cases hN0 : N = 0
        · have hx : ¬ ((0:Int) < (N : Int)) := by omega
          clear hN0
          go_wp2
          go_ret
          exact ⟨_, es, ks, rfl, HK.out, by omega, by omega, HS.out.mono (by omega), HO.out⟩
        · have hx : (0:Int) < (N : Int) := by omega
          clear hN0
          obtain ⟨g, cap, rfl, hBg, hgl⟩ := keysOpen HK.out (by omega)
          subst hNl
          go_wp2_with fail
          refine (pickS ks.length b _ _ (by omega) (by omega) HS.out (by omega)).mono ?_
          rintro e ua ⟨y, y0, y1, rfl, hs1, ho1⟩
          obtain ⟨j, rfl⟩ : ∃ j : Nat, y = j := ⟨y.toNat, by omega⟩
          have hjl : j < ks.length := by omega
          have y2 : (j : Int) < ks.length := by omega
          have HKa := Lib.hid (HK.out.chg (chgOnly ho1) (fun j hj e => by have := (HK.out.lt j hj).1; omega))
          have HSa := Lib.hid (hs1.mono (show _ ≤ K + 300 by omega))
          have HOa := Lib.hid (HO.out.trans ho1)
          clear hs1 ho1 HK HS HO
          go_wp2_with fail
          refine (pickS 20 b _ _ (by omega) (by omega) HSa.out (by omega)).mono ?_
          rintro e ub ⟨q, q0, q1, rfl, hs2, ho2⟩
          have HKb := Lib.hid (HKa.out.chg (chgOnly ho2) (fun j hj e => by have := (HKa.out.lt j hj).1; omega))
          have HSb := Lib.hid hs2
          have HOb := Lib.hid (HOa.out.trans ho2)
          clear hs2 ho2 HKa HSa HOa
          have hbb := HOb.out.size
          by_cases hq0 : q = 0
          · subst hq0
            go_wp2_with fail
            refine (amongS b _ ub.heap.size _ [-1, 0, 10000, 10001] _ (World.ownsRow_lit ub #[.int .i64 (-1), .int .i64 0, .int .i64 10000, .int .i64 10001] 4 (Nat.le_refl _) (by decide) rfl) (by simp) (by simp) (by omega) (HSb.out.below (bAlloc (Below.refl _ _) _)) (by omega)).mono ?_
            rintro e uc ⟨jj, hjj, rfl, hs3, ho3⟩
            generalize ([-1, 0, 10000, 10001] : List Int).getD jj 0 = z at *
            have HKc := Lib.hid ((HKb.out.below (bAlloc (Below.refl _ _) _)).chg (chgOnly ho3) (fun j hj e => by have := (HKb.out.lt j hj).1; omega))
            have HSc := Lib.hid hs3
            have HOc := Lib.hid ((HOb.out.alloc _).trans ho3)
            have hcl := HKc.out.1
            have c0 := World.ownsRow.cellAt HKc.out.2.1 (j * 2) (by omega)
            rw [(flatE_get es j (by omega)).1] at c0
            have f0 : uc.frozen? ⟨g, j * 2, none⟩ = false := World.ownsRow.frozenAt HKc.out.2.1 _
            have HK7 := Lib.hid (keysTick HKc.out hjl z)
            have HS7 := Lib.hid (HSc.out.chg (u := uc.setCell ⟨g, j * 2, none⟩ (.int .i64 z)) (S := fun k => k = g) (by refine Chg.set (Chg.refl _ _) ?_ _; exact .inl rfl) (fun k hk => by omega))
            have HO7 := Lib.hid (HOc.out.setNew (p := ⟨g, j * 2, none⟩) (by dsimp only; omega) (.int .i64 z))
            have hl7 := Lib.hid (show totK (ks.set j (z, (ks.getD j Go.Proofs.Ytibafngidpmgdaa.k0).2)) ≤ 200 from by
              have h1 := totK_9' _ (lensSet (ks := ks) (j := j) (t := z) (p := (ks.getD j Go.Proofs.Ytibafngidpmgdaa.k0).2) (fun k hk => (H9.out k hk).2) (H9.out _ (getDK_mem hjl)).2)
              rw [List.length_set] at h1
              omega)
            generalize (es.getD j Go.Proofs.Ytibafngidpmgdaa.e0).1 = z0 at *
            clear hs3 ho3 HKb HSb HOb HKc HSc HOc hjj hcl
            go_wp2
            go_ret
            exact ⟨_, _, _, rfl, HK7.out, by rw [List.length_set]; omega, hl7.out, HS7.out.mono (by omega), HO7.out⟩
          · by_cases hq1 : q = 1
            · subst hq1
              go_wp2_with fail
              refine (l04Bent_any b _ _ HSb.out (by omega)).mono ?_
              rintro e uc ⟨v9, p9, rfl, p3, hl9, hs3, ho3⟩
              obtain ⟨A9, c9, rfl, -⟩ := p3.rd (by omega)
              have HKc := Lib.hid (HKb.out.chg (chgOnly ho3) (fun j hj e => by have := (HKb.out.lt j hj).1; omega))
              have HSc := Lib.hid hs3
              have HOc := Lib.hid (HOb.out.trans ho3)
              have HPc := Lib.hid (p3.base (B' := w.heap.size) hbb)
              have HSp := Lib.hid (show ∀ k, ownE (.slice (some ⟨g, 0, none⟩) ks.length cap) es k → ¬ own1 (.slice A9 p9.length c9) k from fun k hk hk2 => by
                have h1 := (HKb.out.lt k hk).2
                have h2 := (ownsLt p3 k hk2).1
                omega)
              have hcl := HKc.out.1
              have hzc := ho3.size
              have c0 := World.ownsRow.cellAt HKc.out.2.1 (j * 2 + 1) (by omega)
              rw [(flatE_get es j (by omega)).2] at c0
              have f0 : uc.frozen? ⟨g, j * 2 + 1, none⟩ = false := World.ownsRow.frozenAt HKc.out.2.1 _
              have HK7 := Lib.hid (keysJoints HKc.out hjl HPc.out HSp.out)
              have HS7 := Lib.hid (HSc.out.chg (u := uc.setCell ⟨g, j * 2 + 1, none⟩ (.slice A9 p9.length c9)) (S := fun k => k = g) (by refine Chg.set (Chg.refl _ _) ?_ _; exact .inl rfl) (fun k hk => by omega))
              have HO7 := Lib.hid (HOc.out.setNew (p := ⟨g, j * 2 + 1, none⟩) (by dsimp only; omega) (.slice A9 p9.length c9))
              have hl7 := Lib.hid (show totK (ks.set j ((ks.getD j Go.Proofs.Ytibafngidpmgdaa.k0).1, p9)) ≤ 200 from by
                have h1 := totK_9' _ (lensSet (ks := ks) (j := j) (t := (ks.getD j Go.Proofs.Ytibafngidpmgdaa.k0).1) (p := p9) (fun k hk => (H9.out k hk).2) hl9)
                rw [List.length_set] at h1
                omega)
              generalize (es.getD j Go.Proofs.Ytibafngidpmgdaa.e0).2 = z0 at *
              clear hs3 ho3 HKb HSb HOb HKc HSc HOc hcl p3 HPc HSp
              go_wp2
              go_ret
              exact ⟨_, _, _, rfl, HK7.out, by rw [List.length_set]; omega, hl7.out, HS7.out.mono (by omega), HO7.out⟩
            · have e0' : (q == 0) = false := by simpa using hq0
              have e1' : (q == 1) = false := by simpa using hq1
              go_wp2
              go_ret
              exact ⟨_, es, ks, rfl, HKb.out, by omega, by omega, HSb.out.mono (by omega), HOb.out⟩

end Go.Proofs.Ytibafngidpmgdaa
