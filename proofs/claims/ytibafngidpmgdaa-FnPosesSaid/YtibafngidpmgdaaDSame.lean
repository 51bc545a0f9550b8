/- Two poses that are drawn nearly alike. -/
import Derived.Test.YtibafngidpmgdaaProg
import Derived.Test.YtibafngidpmgdaaInts
import Derived.Test.YtibafngidpmgdaaDraws5
import Derived.Test.YtibafngidpmgdaaDraws4
import Derived.Test.YtibafngidpmgdaaAt
import Derived.Deep.AppendLies
import Derived.Deep.DrawnRows
import Derived.Test.YtibafngidpmgdaaHold
import Derived.IntWalk
import Derived.WalkSpells
import Derived.OwnWalk
import Derived.Laws.AppendOwn
import Derived.Laws.OwnMore
import Derived.Deep.RegionWith
import Derived.Deep.DrawnRows
import Derived.Deep.RegionHeld3
import Derived.Tactics
import Derived.Tactics2
import Derived.WalkKit
import Derived.LoopTactic
import Derived.BigQuiet
import Derived.RegionTactic
import Derived.Deep.QuietTactic
import Derived.Outline
import Derived.Lib.Hide
import Derived.Below
import Derived.KernelRfl
namespace Go.Proofs.Ytibafngidpmgdaa
set_option linter.unusedSimpArgs false
set_option linter.unusedVariables false
open Go.RowKit

theorem ptsSet1 {w : World} {B g cap : Nat} {ps : List Pt} (h : Pts w B (.slice (some ⟨g, 0, none⟩) ps.length cap) ps) (h1 : 1 ≤ ps.length) (z : Int) :
    Pts (w.setCell ⟨g, 1, none⟩ (.int .i64 z)) B (.slice (some ⟨g, 0, none⟩) ps.length cap) (ps.set 0 ((ps.getD 0 (0, 0)).1, z)) := by
  obtain ⟨S1, _⟩ := World.ownsRow.stored h 1 (.int .i64 z)
  have e := flat_set ps 0 ((ps.getD 0 (0, 0)).1, z)
  simp only [Nat.zero_mul, Nat.zero_add] at e
  have e2 : (flat ps).set 0 (.int .i64 (ps.getD 0 (0, 0)).1) = flat ps := by
    have := (flat_get ps 0 (by omega)).1
    simp only [Nat.zero_mul] at this
    apply List.ext_getElem?
    intro i
    rw [List.getElem?_set]
    by_cases hi : 0 = i
    · subst hi
      rw [if_pos rfl, if_pos (by rw [flat_length]; omega), this]
    · rw [if_neg hi]
  rw [e2] at e
  unfold Pts
  rw [List.length_set, ← e]
  exact S1

theorem ownOpen {w : World} {B : Nat} {e : TypeId} {z : Nat} {v : Value} {n : Nat} {xs : List Value} (h : w.ownsRow B e z v n xs) (hne : v ≠ .slice none 0 0) : ∃ g cp, v = .slice (some ⟨g, 0, none⟩) n cp ∧ B ≤ g := by
  rcases h.2 with ⟨rfl, _⟩ | ⟨g, cp, cur, rfl, hB, _⟩
  · exact absurd rfl hne
  · exact ⟨g, cp, rfl, hB⟩

theorem onlyDrew {b : Nat} {w u : World} (h : Only b w.drew u) : Only b w u := (Only.refl b w).trans ⟨h.os, h.tape, h.output, h.size, h.block⟩

/-- What is behind the copy in spec.DrawSamePose. -/
def SameR (w : World) (e : Ending) (w' : World) : Prop := ∃ v u ps qs, e = .returned (.tuple #[v, u]) ∧ Pts w' w.heap.size v ps ∧ Pts w' w.heap.size u qs ∧ ps.length ≤ 9 ∧ qs.length ≤ 10 ∧ Below w.heap.size w w'

set_option maxHeartbeats 2000000 in
set_option maxRecDepth 100000 in
/-- spec.DrawSamePose. -/
theorem drawSame_any (a : Option Addr) (len cap : Nat) (zs : List Int) (w : World) (hr : Row w a len cap zs) :
    Calls Try.prog 44 #[.slice a len cap] w (SameR w) := by
  obtain ⟨i0, hi, hz0, hz1, hz2⟩ := info_parts infoPt
  have HR := Lib.hid hr
  clear hr
  go_enter Try.func44, Try.ntmps44
  go_wp2_with fail
  refine (fromS a len cap zs _ HR.out).mono ?_
  rintro e u1 ⟨rfl, hs1, hb1, hz1'⟩
  have HS1 := Lib.hid hs1
  have HB1 := Lib.hid hb1
  clear hs1 hb1
  go_wp2_with fail
  refine (l04Bent_any _ 0 _ HS1.out (by omega)).mono ?_
  rintro e u2 ⟨v, ps, rfl, p2, hl, hs2, ho2⟩
  have HS2 := Lib.hid hs2
  have HO2 := Lib.hid ho2
  have hz2' := ho2.size
  have p2' := p2
  have HP2 := Lib.hid p2
  clear hs2 ho2 HS1
  rcases p2'.2 with ⟨rfl, h0⟩ | ⟨g, cp, cur, rfl, hB, hg, hn, hm, _, _⟩
  · have hps : ps = [] := List.length_eq_zero_iff.1 h0
    subst hps
    clear p2 p2' h0
    have HPa := Lib.hid (show Pts (u2.alloc (.cells #[] 57)) u1.heap.size (.slice none 0 0) ([] : List Pt) from HP2.out.below (bAlloc (Below.refl _ _) _))
    have HPb := Lib.hid (show Pts (u2.alloc (.cells #[] 57)) u2.heap.size (.slice (some ⟨u2.heap.size, 0, none⟩) 0 0) ([] : List Pt) from World.ownsRow_lit u2 #[] 0 (Nat.le_refl _) (Nat.zero_le _) rfl)
    have HSx := Lib.hid (HS2.out.below (bAlloc (Below.refl _ u2) (.cells #[] 57)))
    have HOx := Lib.hid (HO2.out.alloc (.cells #[] 57))
    go_wp2_with fail
    refine (oneS 5 _ _ _ (by omega) (by omega) HSx.out (by omega)).mono ?_
    rintro e u8 ⟨t3, rfl, hs8, ho8⟩
    have HPa8 := Lib.hid (HPa.out.chg (chgOnly ho8) (fun j hj e => by have := (ownsLt HPa.out j hj).1; omega))
    have HPb8 := Lib.hid (HPb.out.chg (chgOnly ho8) (fun j hj e => by have := (ownsLt HPb.out j hj).1; omega))
    have HO8 := Lib.hid (HOx.out.trans ho8)
    have hz8 := HO8.out.size
    have hu28 : u2.heap.size < u8.heap.size := by
      have := ownsLt HPb8.out u2.heap.size rfl
      omega
    have hsab := Lib.hid (show Sep _ _ from sepOf u2.heap.size (fun j hj => (ownsLt HP2.out j hj).2) (fun j hj => (ownsLt HPb8.out j hj).1))
    clear hs8 ho8 HPa HPb HSx HOx
    cases t3
    · go_wp2
      go_ret2
      exact ⟨_, _, ([] : List Pt), ([] : List Pt), rfl, HPa8.out.base (by omega), HPb8.out.base (by omega), hl, by first | omega | (simp; done), HB1.out.trans (HO8.out.below (Nat.le_refl _) (by omega))⟩
    · go_wp2_with (first | (at_builtin; refine wpList_append_own _ rfl _ _ 24 rfl u2.heap.size 57 i0 (fr 0 0) 2 16 Try.underlying24 hi hz0 hz1 hz2 rfl (by decide) _ _ _ rfl (HPb8.out.alloc _) ⟨u8.heap.size, 0, none⟩ 1 1 [.int .i64 0, .int .i64 0] rfl rfl (two_newAt _ _ _ _ _ (by simp)) (two_oneCell _ _) (by unfold maxLen; first | omega | (simp; done) | (simp; omega)) (by first | omega | (simp; done) | (simp; omega)) (by simp; omega) ?_; intro v9 w9 hown9 hgrow9 hnil9) | fail)
      have HPb9 := Lib.hid (show Pts w9 u2.heap.size v9 (([] : List Pt) ++ [(0, 0)]) by
        unfold Pts
        rw [flat_append, List.length_append]
        exact hown9)
      have HPa9 := Lib.hid ((HPa8.out.below (bAlloc (Below.refl _ _) _)).chg (Chg.ofGrown hgrow9) hsab.out)
      have HO9 := Lib.hid (onlyGrown (HO8.out.alloc _) hgrow9 (fun k hk => by have := (ownsLt HPb8.out k hk).1; omega))
      clear hown9 hgrow9 hnil9
      go_wp2
      go_ret2
      exact ⟨_, _, ([] : List Pt), ([] : List Pt) ++ [(0, 0)], rfl, HPa9.out.base (by omega), HPb9.out.base (by omega), hl, by rw [List.length_append]; first | (simp; omega) | (simp; done), HB1.out.trans (HO9.out.below (Nat.le_refl _) (by omega))⟩
  · clear p2 p2'
    have hgl : g < u2.heap.size := (ownsLt HP2.out g rfl).2
    have HNW := Lib.hid (fun j u (hj : (flat ps)[j]? = some u) => show (u2.alloc (.cells #[] 57)).cell? ((⟨g, 0, none⟩ : Addr).add j) = some u from by
      rw [addP, Nat.zero_add, World.cell?_alloc_lt u2 _ _ hgl]
      rw [World.ownsRow.cellAt HP2.out j (by have := (List.getElem?_eq_some_iff.1 hj).1; rw [flat_length] at this; omega)]
      exact hj)
    by_cases hp0 : 0 < ps.length
    · have hpi : (0 : Int) < (ps.length : Int) := by omega
      go_wp2_with (first | (at_builtin; refine wpList_append_own _ rfl _ _ 24 rfl u2.heap.size 57 i0 (fr 0 0) 2 16 Try.underlying24 hi hz0 hz1 hz2 rfl (by decide) _ _ _ rfl (World.ownsRow_lit u2 #[] 0 (Nat.le_refl _) (Nat.zero_le _) rfl) ⟨g, 0, none⟩ ps.length cp (flat ps) rfl (flat_length ps) HNW.out (flat_oneCell ps) (by unfold maxLen; omega) (by omega) (by simp) ?_; intro v5 w5 hown5 hgrow5 hnil5; obtain ⟨h, cp5, rfl, hB5⟩ := ownOpen hown5 (fun e => by have h9 := (hnil5.1 e).1; cases h9)) | fail)
      have p5 : Pts w5 u2.heap.size (.slice (some ⟨h, 0, none⟩) ps.length cp5) ps := by unfold Pts; simpa using hown5
      have HPa := Lib.hid ((HP2.out.below (bAlloc (Below.refl _ u2) (.cells #[] 57))).chg (Chg.ofGrown (v := .slice (some ⟨u2.heap.size, 0, none⟩) 0 0) hgrow5) (sepOf u2.heap.size (fun j hj => (ownsLt HP2.out j hj).2) (fun j hj => by simp [Value.ownBlock] at hj; omega)))
      have HOx := Lib.hid (onlyGrown (HO2.out.alloc (.cells #[] 57)) (v := .slice (some ⟨u2.heap.size, 0, none⟩) 0 0) hgrow5 (fun k hk => by simp [own1, Value.ownBlock] at hk; omega))
      have HSx := Lib.hid ((HS2.out.below (bAlloc (Below.refl _ u2) (.cells #[] 57))).chg (Chg.ofGrown (v := .slice (some ⟨u2.heap.size, 0, none⟩) 0 0) hgrow5) (fun k hk => by simp [Value.ownBlock] at hk; omega))
      have HPb := Lib.hid p5
      have hz5 := HOx.out.size
      clear hown5 hgrow5 hnil5 p5 HNW
      go_wp2_with fail
      refine (oneS 2 _ _ _ (by omega) (by omega) HSx.out (by omega)).mono ?_
      rintro e u6 ⟨t2, rfl, hs6, ho6⟩
      replace HPa := Lib.hid (HPa.out.chg (chgOnly ho6) (fun j hj e => by have := (ownsLt HPa.out j hj).1; omega))
      replace HPb := Lib.hid (HPb.out.chg (chgOnly ho6) (fun j hj e => by have := (ownsLt HPb.out j hj).1; omega))
      replace HOx := Lib.hid (HOx.out.trans ho6)
      replace HSx := Lib.hid hs6
      have hz6 := HOx.out.size
      clear hs6 ho6
      cases t2
      · go_wp2_with fail
        refine (oneS 5 _ _ _ (by omega) (by omega) HSx.out (by omega)).mono ?_
        rintro e u8 ⟨t3, rfl, hs8, ho8⟩
        have HPa8 := Lib.hid (HPa.out.chg (chgOnly ho8) (fun j hj e => by have := (ownsLt HPa.out j hj).1; omega))
        have HPb8 := Lib.hid (HPb.out.chg (chgOnly ho8) (fun j hj e => by have := (ownsLt HPb.out j hj).1; omega))
        have HO8 := Lib.hid (HOx.out.trans ho8)
        have hz8 := HO8.out.size
        have hu28 : u2.heap.size < u8.heap.size := by
          have := ownsLt HPb8.out h rfl
          omega
        have hsab := Lib.hid (show Sep _ _ from sepOf u2.heap.size (fun j hj => (ownsLt HP2.out j hj).2) (fun j hj => (ownsLt HPb8.out j hj).1))
        clear hs8 ho8 HPa HPb HSx HOx
        cases t3
        · go_wp2
          go_ret2
          exact ⟨_, _, ps, ps, rfl, HPa8.out.base (by omega), HPb8.out.base (by omega), hl, by first | omega | (simp; done), HB1.out.trans (HO8.out.below (Nat.le_refl _) (by omega))⟩
        · go_wp2_with (first | (at_builtin; refine wpList_append_own _ rfl _ _ 24 rfl u2.heap.size 57 i0 (fr 0 0) 2 16 Try.underlying24 hi hz0 hz1 hz2 rfl (by decide) _ _ _ rfl (HPb8.out.alloc _) ⟨u8.heap.size, 0, none⟩ 1 1 [.int .i64 0, .int .i64 0] rfl rfl (two_newAt _ _ _ _ _ (by simp)) (two_oneCell _ _) (by unfold maxLen; omega) (by omega) (by simp; omega) ?_; intro v9 w9 hown9 hgrow9 hnil9) | fail)
          have HPb9 := Lib.hid (show Pts w9 u2.heap.size v9 (ps ++ [(0, 0)]) by
            unfold Pts
            rw [flat_append, List.length_append]
            exact hown9)
          have HPa9 := Lib.hid ((HPa8.out.below (bAlloc (Below.refl _ _) _)).chg (Chg.ofGrown hgrow9) hsab.out)
          have HO9 := Lib.hid (onlyGrown (HO8.out.alloc _) hgrow9 (fun k hk => by have := (ownsLt HPb8.out k hk).1; omega))
          clear hown9 hgrow9 hnil9
          go_wp2
          go_ret2
          exact ⟨_, _, ps, ps ++ [(0, 0)], rfl, HPa9.out.base (by omega), HPb9.out.base (by omega), hl, by rw [List.length_append]; first | (simp; omega) | (simp; done), HB1.out.trans (HO9.out.below (Nat.le_refl _) (by omega))⟩
      · have c1 := World.ownsRow.cellAt HPb.out 1 (by omega)
        have hf1 := (flat_get ps 0 (by omega)).2
        simp only [Nat.zero_mul, Nat.zero_add] at hf1
        rw [hf1] at c1
        have f1 : u6.frozen? ⟨h, 1, none⟩ = false := World.ownsRow.frozenAt HPb.out _
        have hhl := (ownsLt HPb.out h rfl).2
        generalize hy : (ps.getD 0 (0, 0)).2 = yy at *
        have PK := Lib.hid (fun q (hq : Sc q w.heap.size (0 + 100 + 2)) => pickS 2 w.heap.size _ q (by omega) (by omega) hq (by omega))
        have HW6 := HSx
        go_wp2
        go_region_with (first | (go_at_call 100; refine (PK.out _ (HSx.out.below (Below.drew (Below.refl _ _)))).mono ?_; rintro e w7 ⟨y, y0, y1, rfl, hs7, ho7⟩; have c7 : w7.cell? ⟨h, 1, none⟩ = some (.int .i64 yy) := (World.cell?_of_block (w := u6) (ho7.block h (by simpa using hhl) (fun e => by injection e; omega))).trans c1; have f7 : w7.frozen? ⟨h, 1, none⟩ = false := (World.frozen?_of_block (w := u6) (ho7.block h (by simpa using hhl) (fun e => by injection e; omega))).trans f1))
        all_goals (
          generalize IntKind.i64.wrap (yy + y) = zz
          have dA := HPa.out.below (Below.drew (Below.refl _ _))
          have dB := HPb.out.below (Below.drew (Below.refl _ _))
          have HPa7 := Lib.hid ((dA.chg (chgOnly ho7) (fun j hj e => by have := (ownsLt HPa.out j hj).1; omega)).chg (u := w7.setCell ⟨h, 1, none⟩ (.int .i64 zz)) (S := fun k => k = h) (by refine Chg.set (Chg.refl _ _) ?_ _; exact .inl rfl) (fun j hj e => by have := (ownsLt HP2.out j hj).2; omega))
          have q7 := ptsSet1 (dB.chg (chgOnly ho7) (fun j hj e => by have := (ownsLt HPb.out j hj).1; omega)) (by omega) zz
          have hln : (ps.set 0 ((ps.getD 0 (0, 0)).1, zz)).length = ps.length := List.length_set
          have HOx7 := Lib.hid ((HOx.out.trans (onlyDrew ho7)).setNew (p := ⟨h, 1, none⟩) (by show _ ≤ h; omega) (.int .i64 zz))
          have HS7 := Lib.hid (hs7.chg (u := w7.setCell ⟨h, 1, none⟩ (.int .i64 zz)) (S := fun k => k = h) (by refine Chg.set (Chg.refl _ _) ?_ _; exact .inl rfl) (fun k hk => by omega))
          have HQ7 := Lib.hid (And.intro q7 hln)
          clear q7 hln dA dB hs7 ho7 c7 f7 HW6 PK HPa HPb HOx HSx c1 f1 hf1
          generalize ps.set 0 ((ps.getD 0 (0, 0)).1, zz) = qs at HQ7
          generalize w7.setCell ⟨h, 1, none⟩ (.int .i64 zz) = w8 at HQ7 HPa7 HOx7 HS7 ⊢
          have hz5 := HOx7.out.size
          have hh8 : h < w8.heap.size := (ownsLt HQ7.out.1 h rfl).2
          go_wp2_with fail
          refine (oneS 5 _ _ _ (by omega) (by omega) HS7.out (by omega)).mono ?_
          rintro e u8 ⟨t3, rfl, hs8, ho8⟩
          have HPa8 := Lib.hid (HPa7.out.chg (chgOnly ho8) (fun j hj e => by have := (ownsLt HPa7.out j hj).1; omega))
          have HPb8 := Lib.hid (And.intro (HQ7.out.1.chg (chgOnly ho8) (fun j hj e => by have := (ownsLt HQ7.out.1 j hj).1; omega)) HQ7.out.2)
          have HO8 := Lib.hid (HOx7.out.trans ho8)
          have hz8 := HO8.out.size
          have hu28 : u2.heap.size < u8.heap.size := by
            have := ownsLt HPb8.out.1 h rfl
            omega
          have hsab := Lib.hid (show Sep _ _ from sepOf u2.heap.size (fun j hj => (ownsLt HP2.out j hj).2) (fun j hj => (ownsLt HPb8.out.1 j hj).1))
          have HPo := Lib.hid (fun o => show World.ownsRow (u8.alloc o) u2.heap.size 57 2 (.slice (some ⟨h, 0, none⟩) ps.length cp5) ps.length (flat qs) from by have := HPb8.out.1.alloc o; unfold Pts at this; rw [HPb8.out.2] at this; exact this)
          clear hs8 ho8 HPa7 HQ7 HOx7 HS7
          cases t3
          · go_wp2
            go_ret2
            exact ⟨_, _, ps, qs, rfl, HPa8.out.base (by omega), HPb8.out.1.base (by omega), hl, by rw [HPb8.out.2]; omega, HB1.out.trans (HO8.out.below (Nat.le_refl _) (by omega))⟩
          · go_wp2_with (first | (at_builtin; refine wpList_append_own _ rfl _ _ 24 rfl u2.heap.size 57 i0 (fr 0 0) 2 16 Try.underlying24 hi hz0 hz1 hz2 rfl (by decide) _ _ _ rfl (HPo.out _) ⟨u8.heap.size, 0, none⟩ 1 1 [.int .i64 0, .int .i64 0] rfl rfl (two_newAt _ _ _ _ _ (by simp)) (two_oneCell _ _) (by unfold maxLen; omega) (by omega) (by simp; omega) ?_; intro v9 w9 hown9 hgrow9 hnil9) | fail)
            have HPb9 := Lib.hid (show Pts w9 u2.heap.size v9 (qs ++ [(0, 0)]) by
              unfold Pts
              rw [flat_append, List.length_append, HPb8.out.2]
              exact hown9)
            have HPa9 := Lib.hid ((HPa8.out.below (bAlloc (Below.refl _ _) _)).chg (Chg.ofGrown hgrow9) hsab.out)
            have HO9 := Lib.hid (onlyGrown (HO8.out.alloc _) hgrow9 (fun k hk => by have := (ownsLt HPb8.out.1 k hk).1; omega))
            clear hown9 hgrow9 hnil9
            go_wp2
            go_ret2
            exact ⟨_, _, ps, qs ++ [(0, 0)], rfl, HPa9.out.base (by omega), HPb9.out.base (by omega), hl, by rw [List.length_append, HPb8.out.2]; simp; omega, HB1.out.trans (HO9.out.below (Nat.le_refl _) (by omega))⟩)
    · obtain rfl : ps = [] := List.length_eq_zero_iff.1 (by omega)
      clear hp0 HNW
      replace HP2 := Lib.hid (show Pts u2 u1.heap.size (.slice (some ⟨g, 0, none⟩) 0 cp) ([] : List Pt) from HP2.out)
      go_wp2_with (first | (at_builtin; refine wpList_append_own _ rfl _ _ 24 rfl u2.heap.size 57 i0 (fr 0 0) 2 16 Try.underlying24 hi hz0 hz1 hz2 rfl (by decide) _ _ _ rfl (World.ownsRow_lit u2 #[] 0 (Nat.le_refl _) (Nat.zero_le _) rfl) ⟨g, 0, none⟩ 0 cp [] rfl rfl (fun j u hj => by simp at hj) (fun u hu => by simp at hu) (by unfold maxLen; simp) (by simp) (by simp) ?_; intro v5 w5 hown5 hgrow5 hnil5; obtain ⟨h, cp5, rfl, hB5⟩ := ownOpen hown5 (fun e => by have h9 := (hnil5.1 e).1; cases h9)) | fail)
      have p5 : Pts w5 u2.heap.size (.slice (some ⟨h, 0, none⟩) 0 cp5) ([] : List Pt) := hown5
      have HPa := Lib.hid ((HP2.out.below (bAlloc (Below.refl _ u2) (.cells #[] 57))).chg (Chg.ofGrown (v := .slice (some ⟨u2.heap.size, 0, none⟩) 0 0) hgrow5) (sepOf u2.heap.size (fun j hj => (ownsLt HP2.out j hj).2) (fun j hj => by simp [Value.ownBlock] at hj; omega)))
      have HOx := Lib.hid (onlyGrown (HO2.out.alloc (.cells #[] 57)) (v := .slice (some ⟨u2.heap.size, 0, none⟩) 0 0) hgrow5 (fun k hk => by simp [own1, Value.ownBlock] at hk; omega))
      have HSx := Lib.hid ((HS2.out.below (bAlloc (Below.refl _ u2) (.cells #[] 57))).chg (Chg.ofGrown (v := .slice (some ⟨u2.heap.size, 0, none⟩) 0 0) hgrow5) (fun k hk => by simp [Value.ownBlock] at hk; omega))
      have HPb := Lib.hid p5
      have hz5 := HOx.out.size
      clear hown5 hgrow5 hnil5 p5
      go_wp2_with fail
      refine (oneS 5 _ _ _ (by omega) (by omega) HSx.out (by omega)).mono ?_
      rintro e u8 ⟨t3, rfl, hs8, ho8⟩
      have HPa8 := Lib.hid (HPa.out.chg (chgOnly ho8) (fun j hj e => by have := (ownsLt HPa.out j hj).1; omega))
      have HPb8 := Lib.hid (HPb.out.chg (chgOnly ho8) (fun j hj e => by have := (ownsLt HPb.out j hj).1; omega))
      have HO8 := Lib.hid (HOx.out.trans ho8)
      have hz8 := HO8.out.size
      have hu28 : u2.heap.size < u8.heap.size := by
        have := ownsLt HPb8.out h rfl
        omega
      have hsab := Lib.hid (show Sep _ _ from sepOf u2.heap.size (fun j hj => (ownsLt HP2.out j hj).2) (fun j hj => (ownsLt HPb8.out j hj).1))
      clear hs8 ho8 HPa HPb HSx HOx
      cases t3
      · go_wp2
        go_ret2
        exact ⟨_, _, ([] : List Pt), ([] : List Pt), rfl, HPa8.out.base (by omega), HPb8.out.base (by omega), hl, by first | omega | (simp; done), HB1.out.trans (HO8.out.below (Nat.le_refl _) (by omega))⟩
      · go_wp2_with (first | (at_builtin; refine wpList_append_own _ rfl _ _ 24 rfl u2.heap.size 57 i0 (fr 0 0) 2 16 Try.underlying24 hi hz0 hz1 hz2 rfl (by decide) _ _ _ rfl (HPb8.out.alloc _) ⟨u8.heap.size, 0, none⟩ 1 1 [.int .i64 0, .int .i64 0] rfl rfl (two_newAt _ _ _ _ _ (by simp)) (two_oneCell _ _) (by unfold maxLen; first | omega | (simp; done) | (simp; omega)) (by first | omega | (simp; done) | (simp; omega)) (by simp; omega) ?_; intro v9 w9 hown9 hgrow9 hnil9) | fail)
        have HPb9 := Lib.hid (show Pts w9 u2.heap.size v9 (([] : List Pt) ++ [(0, 0)]) by
          unfold Pts
          rw [flat_append, List.length_append]
          exact hown9)
        have HPa9 := Lib.hid ((HPa8.out.below (bAlloc (Below.refl _ _) _)).chg (Chg.ofGrown hgrow9) hsab.out)
        have HO9 := Lib.hid (onlyGrown (HO8.out.alloc _) hgrow9 (fun k hk => by have := (ownsLt HPb8.out k hk).1; omega))
        clear hown9 hgrow9 hnil9
        go_wp2
        go_ret2
        exact ⟨_, _, ([] : List Pt), ([] : List Pt) ++ [(0, 0)], rfl, HPa9.out.base (by omega), HPb9.out.base (by omega), hl, by rw [List.length_append]; first | (simp; omega) | (simp; done), HB1.out.trans (HO9.out.below (Nat.le_refl _) (by omega))⟩

end Go.Proofs.Ytibafngidpmgdaa
