/- What the laws of chapter 8 draw: scenes. -/
import Derived.Test.YtibafngidpmgdabScnMath
import Derived.Test.YtibafngidpmgdabBookMath
import Derived.Test.YtibafngidpmgdabPick
import Derived.Test.YtibafngidpmgdabA2
import Derived.Laws.AppendOwn
import Derived.Laws.OwnMore
import Derived.IntWalk
import Derived.WalkSpells
import Derived.OwnWalk
import Derived.Tactics
import Derived.Tactics2
import Derived.WalkKit
import Derived.LoopTactic
import Derived.BigQuiet
import Derived.RegionTactic
import Derived.Deep.QuietTactic
import Derived.Outline
import Derived.Lib.Hide
import Derived.Below
import Derived.KernelRfl
namespace Go.Proofs.Ytibafngidpmgdab
set_option linter.unusedSimpArgs false
set_option linter.unusedVariables false
open Go.RowKit

/-- l00Src.text. -/
theorem textS (b K B : Nat) (v : Value) (xs : List ByteArray) (w : World) (hx : Strs w B v xs) (h1 : 1 ≤ xs.length) (h2 : xs.length ≤ 100) (hB : b < B) (h : Sc w b K) (hK : K ≤ 900000) :
    Calls Try.prog 84 #[.pointer (some ⟨b, 0, none⟩), v] w fun e w' => ∃ j : Nat, j < xs.length ∧ e = .returned (.string (xs.getD j ByteArray.empty)) ∧ Sc w' b (K + 2) ∧ Only b w w' := by
  rcases hx.view with ⟨rfl, rfl⟩ | ⟨g, cap, rfl, hB2, hg, hm, hc, hf⟩
  · simp at h1
  · have P := Lib.hid (pickS xs.length b K w (by omega) (by omega) h hK)
    have HC := Lib.hid hc
    clear hx hc hf h
    go_enter Try.func84, Try.ntmps84
    go_wp2_with fail
    refine P.out.mono ?_
    rintro e u ⟨x, x0, x1, rfl, hs, ho⟩
    have HS := Lib.hid hs
    obtain ⟨j, rfl⟩ : ∃ j : Nat, x = j := ⟨x.toNat, by omega⟩
    have c0 : u.cell? ⟨g, j, none⟩ = some (.string (xs.getD j ByteArray.empty)) := by
      rw [World.cell?_of_block (w := w) (ho.block g hg (fun e => by injection e; omega))]
      exact HC.out j (by omega)
    have y1 : (j : Int) < xs.length := by omega
    have hj := Lib.hid (show j < xs.length by omega)
    generalize hz : xs.getD j ByteArray.empty = z at *
    have HZ := Lib.hid hz
    clear hs P hz
    go_wp2
    go_ret
    exact ⟨j, hj.out, by rw [HZ.out]; rfl, HS.out, ho⟩

theorem strLit (u : World) (xs : List ByteArray) (vs : Array Value) (hv : vs.toList = xs.map Value.string) (hl : xs.length ≤ 100) :
    Strs (u.alloc (.cells vs 9)) u.heap.size (.slice (some ⟨u.heap.size, 0, none⟩) xs.length xs.length) xs := by
  have h : (u.alloc (.cells vs 9)).ownsRow u.heap.size 9 1 (.slice (some ⟨u.heap.size, 0, none⟩) xs.length xs.length) xs.length vs.toList := World.ownsRow_lit u vs xs.length (Nat.le_refl _) (by unfold maxLen; omega) (by rw [← Array.length_toList, hv, List.length_map, Nat.mul_one])
  rw [hv] at h
  exact h

/-- A block of a text and a number, open to stores. -/
structure Bx (w : World) (k : Nat) (p : ByteArray) (t : Int) : Prop where
  c0 : w.cell? ⟨k, 0, none⟩ = some (.string p)
  c1 : w.cell? ⟨k, 1, none⟩ = some (.int .i64 t)
  f0 : w.frozen? ⟨k, 0, none⟩ = false
  f1 : w.frozen? ⟨k, 1, none⟩ = false
  lt : k < w.heap.size
theorem Bx.only {b k : Nat} {W u : World} {p : ByteArray} {t : Int} (x : Bx W k p t) (ho : Only b W u) (hne : k ≠ b) : Bx u k p t := by
  have hk := ho.block k x.lt (fun e => hne (by injection e))
  exact ⟨by rw [World.cell?_of_block (w := W) hk]; exact x.c0, by rw [World.cell?_of_block (w := W) hk]; exact x.c1, by rw [World.frozen?_of_block (w := W) hk]; exact x.f0, by rw [World.frozen?_of_block (w := W) hk]; exact x.f1, Nat.lt_of_lt_of_le x.lt ho.size⟩
theorem Bx.new (w : World) (p : ByteArray) (t : Int) : Bx (w.alloc (.cells #[.string p, .int .i64 t] 29)) w.heap.size p t := by
  refine ⟨?_, ?_, ?_, ?_, ?_⟩ <;> go_simp
theorem Bx.set1 {w : World} {k : Nat} {p : ByteArray} {t : Int} (x : Bx w k p t) (t' : Int) : Bx (w.setCell ⟨k, 1, none⟩ (.int .i64 t')) k p t' := by
  obtain ⟨c0, c1, f0, f1, h⟩ := x
  refine ⟨?_, ?_, ?_, ?_, ?_⟩ <;> go_simp
theorem ownsOnlyC {w u : World} {b B : Nat} {e : TypeId} {z : Nat} {v : Value} {n : Nat} {xs : List Value} (h : w.ownsRow B e z v n xs) (ho : Only b w u) (hb : b < B) : u.ownsRow B e z v n xs :=
  World.ownsRow.kept h ho (by
    cases hv : v.ownBlock with
    | none => exact .inl rfl
    | some k => exact .inr (fun e => by
        injection e with e
        have := (World.ownsRow.lt h k hv).1
        omega))
theorem ownsSetC {w : World} {B : Nat} {e : TypeId} {z : Nat} {v : Value} {n : Nat} {xs : List Value} (h : w.ownsRow B e z v n xs) (k o : Nat) (y : Value) (hne : ∀ g, v.ownBlock = some g → g ≠ k) : (w.setCell ⟨k, o, none⟩ y).ownsRow B e z v n xs := by
  have hg : w.grownBy (w.setCell ⟨k, o, none⟩ y) (some k) := ⟨rfl, rfl, rfl, by simp, fun i hi hn => Below.heap_setCell w ⟨k, o, none⟩ y i (fun e => hn (by rw [e]))⟩
  refine World.ownsRow.kept h hg ?_
  cases hv : v.ownBlock with
  | none => exact .inl rfl
  | some g => exact .inr (fun e => hne g hv (by injection e))
theorem Sc.setNew {w : World} {b K : Nat} (h : Sc w b K) (k o : Nat) (y : Value) (hk : b < k) : Sc (w.setCell ⟨k, o, none⟩ y) b K :=
  h.chg (S := fun i => i = k) (by refine Chg.set (Chg.refl _ _) ?_ _; exact .inl rfl) (fun i hi => by omega)
theorem onlyGrownC {b : Nat} {a w u : World} {v : Value} (h : Only b a w) (g : w.grownBy u v.ownBlock) (hv : ∀ k, v.ownBlock = some k → a.heap.size ≤ k) : Only b a u :=
  ⟨g.os.trans h.os, g.tape.trans h.tape, g.output.trans h.output, Nat.le_trans h.size g.size, fun i hi hne => (g.block i (Nat.lt_of_lt_of_le hi h.size) (fun e => by have := hv i e.symm; omega)).trans (h.block i hi hne)⟩
theorem Sc.grown {w u : World} {b K : Nat} {v : Value} (h : Sc w b K) (g : w.grownBy u v.ownBlock) (hv : ∀ k, v.ownBlock = some k → b < k) : Sc u b K :=
  h.chg (S := fun k => v.ownBlock = some k) ⟨g.os, g.tape, g.output, g.size, fun k hk hn => g.block k hk (fun e => hn e.symm)⟩ hv
theorem Bx.grown {w u : World} {k : Nat} {p : ByteArray} {t : Int} {row : Option Nat} (x : Bx w k p t) (g : w.grownBy u row) (hne : row ≠ some k) : Bx u k p t := by
  have hk := g.block k x.lt (fun e => hne e.symm)
  exact ⟨by rw [World.cell?_of_block (w := w) hk]; exact x.c0, by rw [World.cell?_of_block (w := w) hk]; exact x.c1, by rw [World.frozen?_of_block (w := w) hk]; exact x.f0, by rw [World.frozen?_of_block (w := w) hk]; exact x.f1, Nat.lt_of_lt_of_le x.lt g.size⟩

theorem cellGrown {w u : World} {o : Obj} {row : Option Nat} {Z : Nat} {x : Value} (g : (w.alloc o).grownBy u row) (hZ : Z < w.heap.size) (hne : row ≠ some Z) (h : w.cell? ⟨Z, 0, none⟩ = some x) : u.cell? ⟨Z, 0, none⟩ = some x := by
  rw [World.cell?_of_block (g.block Z (by simp; omega) (fun e => hne e.symm))]
  exact (World.cell?_alloc_lt _ _ _ (by exact hZ)).trans h

theorem scene_newD (w : World) (x : ByteArray) (y : Int) (t : TypeId) : ∀ j u, [Value.string x, Value.int .i64 y][j]? = some u → (w.alloc (.cells #[.string x, .int .i64 y] t)).cell? ((⟨w.heap.size, 0, none⟩ : Addr).add j) = some u := by
  intro j u hj
  match j, hj with
  | 0, hj =>
    simp at hj
    subst hj
    simp [Addr.add]
  | 1, hj =>
    simp at hj
    subst hj
    simp [Addr.add]
theorem scene_oneCellD (x : ByteArray) (y : Int) : ∀ u ∈ [Value.string x, Value.int .i64 y], u.oneCell' = true := by
  intro u h
  simp at h
  rcases h with rfl | rfl <;> rfl
/-- The pose of the last scene. -/
def lastP (l : List Scn) : ByteArray := if l.length = 0 then ⟨#[]⟩ else (l.getD (l.length - 1) s0).1
theorem lastP_snoc (l : List Scn) (p : ByteArray) (t : Int) : lastP (l ++ [(p, t)]) = p := by
  rw [lastP, List.length_append, List.length_singleton, if_neg (by omega), getD_snocC, if_pos (by omega)]
/-- Scenes that are drawn so far. -/
def Drawn8 (l : List Scn) : Prop := (∀ j, j < l.length → stepC l j = true) ∧ ∀ j, j < l.length → (l.getD j s0).2 ≤ 73
theorem drawn8_snoc {l : List Scn} {p : ByteArray} {t : Int} (h : Drawn8 l) (hp : posB p 1 = true) (t1 : 1 ≤ t) (t2 : t ≤ 73) (hne : eqT p (lastP l) = false ∨ l.length = 0) : Drawn8 (l ++ [(p, t)]) := by
  refine ⟨fun j hj => ?_, fun j hj => ?_⟩
  · rw [List.length_append, List.length_singleton] at hj
    unfold stepC
    rw [getD_snocC]
    by_cases e : j = l.length
    · rw [if_pos e]
      have h1 : sceneB (p, t) = true := by
        simp only [sceneB, Bool.and_eq_true, inB_iff]
        exact ⟨hp, t1, by omega⟩
      rw [h1]
      by_cases h0 : l.length = 0
      · simp [show ¬ 0 < j by omega]
      · rw [getD_snocC, if_neg (by omega)]
        have h2 : eqT p (l.getD (j - 1) s0).1 = false := by
          have := hne.resolve_right h0
          rwa [lastP, if_neg h0, ← e] at this
        rw [h2]
        simp
    · rw [if_neg e]
      have h2 := h.1 j (by omega)
      by_cases h0 : 0 < j
      · rw [getD_snocC, if_neg (by omega)]
        exact h2
      · unfold stepC at h2
        simp only [h0, decide_false, Bool.false_and, Bool.not_false, Bool.and_true] at h2 ⊢
        exact h2
  · rw [List.length_append, List.length_singleton] at hj
    rw [getD_snocC]
    split
    · exact t2
    · exact h.2 j (by omega)
theorem drawn8_valid {l : List Scn} (h : Drawn8 l) (h1 : 1 ≤ l.length) (h2 : l.length ≤ 6) : scnsB l = true := scnsB_mk ⟨h1, by omega⟩ h.1

/-- A letter that is drawn, and that for a second one. -/
theorem abcd_get {j : Nat} (h : j < 4) : ∃ c : UInt8, ([⟨#[97]⟩, ⟨#[98]⟩, ⟨#[99]⟩, ⟨#[100]⟩] : List ByteArray).getD j ByteArray.empty = ⟨#[c]⟩ ∧ smallB c = true ∧ c ≠ 101 := by
  match j, h with
  | 0, _ => exact ⟨97, rfl, by decide, by decide⟩
  | 1, _ => exact ⟨98, rfl, by decide, by decide⟩
  | 2, _ => exact ⟨99, rfl, by decide, by decide⟩
  | 3, _ => exact ⟨100, rfl, by decide, by decide⟩
theorem pos_one {c : UInt8} (h : smallB c = true) : posB ⟨#[c]⟩ 1 = true := by
  refine posB_mk ⟨Nat.le_refl _, Nat.le_refl _⟩ fun k hk => ?_
  have : k = 0 := by
    have h1 : k < 1 := hk
    omega
  subst this
  exact h

/-- What a draw of scenes leaves. -/
def ScnsR (b : Nat) (w : World) (e : Ending) (w' : World) : Prop := ∃ v ps, e = .returned v ∧ Scs w' w.heap.size v ps ∧ scnsB ps = true ∧ ps.length ≤ 6 ∧ (∀ j, j < ps.length → (ps.getD j s0).2 ≤ 73) ∧ Only b w w'

set_option maxHeartbeats 4000000 in
set_option maxRecDepth 100000 in
/-- spec.l08Draw. -/
theorem l08Draw_any (b : Nat) (w : World) (h : Sc w b 0) :
    Calls Try.prog 44 #[.pointer (some ⟨b, 0, none⟩)] w (ScnsR b w) := by
  obtain ⟨i0, hi, hz0, hz1, hz2⟩ := info_parts infoC
  have hb := h.lt
  have H := Lib.hid h
  clear h
  go_enter Try.func44, Try.ntmps44
  go_wp2_with fail
  refine (pickS 6 b 0 _ (by omega) (by omega) (H.out.below (bAlloc (Below.refl _ _) _)) (by omega)).mono ?_
  rintro e u0 ⟨x, x0, x1, rfl, hs0, ho0⟩
  have HS0 := Lib.hid hs0
  have HO0 := Lib.hid (((Only.refl b w).alloc (.cells #[] 29)).trans ho0)
  have HP0 := Lib.hid (show Scs u0 w.heap.size (.slice (some ⟨w.heap.size, 0, none⟩) 0 0) [] from ownsOnlyC (World.ownsRow_lit w #[] 0 (Nat.le_refl _) (Nat.zero_le _) rfl) ho0 hb)
  clear hs0 ho0 H
  obtain ⟨U, hU⟩ : ∃ U : Int, 1 + x = U := ⟨_, rfl⟩
  have hU1 : 1 ≤ U := by omega
  have hU6 : U ≤ 6 := by omega
  have HU := Lib.hid hU
  clear hU
  go_wp2_with fail
  refine (pickS 6 b _ _ (by omega) (by omega) HS0.out (by omega)).mono ?_
  rintro e u1 ⟨y, y0, y1, rfl, hs1, ho1⟩
  have HS1 := Lib.hid hs1
  have HO1 := Lib.hid (HO0.out.trans ho1)
  have HP1 := Lib.hid (show Scs u1 w.heap.size (.slice (some ⟨w.heap.size, 0, none⟩) 0 0) [] from ownsOnlyC HP0.out ho1 hb)
  clear hs1 ho1 HS0 HO0 HP0
  obtain ⟨N, hN⟩ : ∃ N : Nat, 1 + y = N := ⟨(1 + y).toNat, by omega⟩
  have hN1 : 1 ≤ N := by omega
  have hN9 : N ≤ 6 := by omega
  rw [HU.out]
  go_wp2_with fail
  go_loopw [6, 3, 5] (fun i v q wr => ∃ (r : Nat) (l : List Scn), r + l.length = N ∧ i = .int .i64 r ∧ q = .string (lastP l) ∧ Hid (Scs wr w.heap.size v l) ∧ Hid (Sc wr b (4 + 10 * l.length)) ∧ Hid (Only b w wr) ∧ Hid (Drawn8 l)) (fun i _ _ _ => (intOf i).toNat)
  case atStart => exact ⟨N, [], by simp, by first | rfl | rw [hN], rfl, HP1, Lib.hid (HS1.out.mono (by omega)), HO1, Lib.hid ⟨fun j hj => absurd hj (Nat.not_lt_zero j), fun j hj => absurd hj (Nat.not_lt_zero j)⟩⟩
  case round =>
    obtain ⟨r, l, hrl, rfl, rfl, HP, HS, HO, HD⟩ := hrel
    by_cases hpos : 0 < r
    · obtain ⟨r', hr'⟩ : ∃ r', r = r' + 1 := ⟨r - 1, by omega⟩
      have hwr : (r : Int) - 1 = (r' : Int) := by omega
      have HWR := Lib.hid hwr
      have hBw := HO.out.size
      have hl6 : l.length ≤ 6 := by omega
      clear hwr
      go_wp2_with fail
      refine (textS b _ wr.heap.size _ [⟨#[97]⟩, ⟨#[98]⟩, ⟨#[99]⟩, ⟨#[100]⟩] _ (strLit wr [⟨#[97]⟩, ⟨#[98]⟩, ⟨#[99]⟩, ⟨#[100]⟩] _ rfl (by simp)) (by simp) (by simp) (by omega) (HS.out.below (bAlloc (Below.refl _ _) _)) (by omega)).mono ?_
      rintro e v1 ⟨j, hj, rfl, hs1, ho1⟩
      obtain ⟨c, hc, hcs, hce⟩ := abcd_get (show j < 4 from hj)
      have HO1 := Lib.hid ((HO.out.alloc (.cells #[.string ⟨#[97]⟩, .string ⟨#[98]⟩, .string ⟨#[99]⟩, .string ⟨#[100]⟩] 9)).trans ho1)
      have HS1 := Lib.hid hs1
      have HP1 := Lib.hid (show Scs v1 w.heap.size u3 l from ownsOnlyC (World.ownsRow.alloc HP.out _) ho1 hb)
      have hv1 := HO1.out.size
      have PC := Lib.hid (pos_one hcs)
      clear hs1 ho1 HP HO HS
      rw [hc]
      clear hc hj
      have HLP := Lib.hid (show lastP l = lastP l from rfl)
      obtain ⟨q, hq⟩ : ∃ q, lastP l = q := ⟨_, rfl⟩
      have HQ := Lib.hid hq
      rw [hq]
      clear hq
      cases he : ((⟨#[c]⟩ : ByteArray).toList == q.toList)
      · have HNE := Lib.hid (show eqT ⟨#[c]⟩ (lastP l) = false by rw [HQ.out]; exact he)
        generalize (⟨#[c]⟩ : ByteArray) = p at *
        go_wp2_with fail
        have bx0 := Bx.new v1 p 0
        have HO2 := Lib.hid (HO1.out.alloc (.cells #[.string p, .int .i64 0] 29))
        have HS2 := Lib.hid (Sc.below HS1.out (bAlloc (Below.refl _ v1) (.cells #[.string p, .int .i64 0] 29)))
        have HP2 := Lib.hid (World.ownsRow.alloc HP1.out (.cells #[.string p, .int .i64 0] 29))
        have hpz := Lib.hid (fun g hg => (World.ownsRow.lt HP1.out g hg).2)
        have hzv2 : v1.heap.size + 1 = (v1.alloc (.cells #[.string p, .int .i64 0] 29)).heap.size := by simp
        have hZb : b < v1.heap.size := by omega
        have hZw : w.heap.size ≤ v1.heap.size := by omega
        obtain ⟨Z, hZ⟩ : ∃ Z, v1.heap.size = Z := ⟨_, rfl⟩
        rw [hZ] at bx0 hZb hZw hpz hzv2
        have hne : Z ≠ b := by omega
        generalize v1.alloc (.cells #[.string p, .int .i64 0] 29) = v2 at *
        refine (pickS 12 b _ _ (by omega) (by omega) HS2.out (by omega)).mono ?_
        rintro e v3 ⟨k, k0, k1, rfl, hs3, ho3⟩
        have hm1 : 1 ≤ U * (1 + k) := by
          have := Int.mul_le_mul hU1 (show 1 ≤ 1 + k by omega) (by omega) (by omega)
          omega
        have hm2 : U * (1 + k) ≤ 72 := by
          have := Int.mul_le_mul hU6 (show 1 + k ≤ 12 by omega) (by omega) (by omega)
          omega
        obtain ⟨m, hm⟩ : ∃ m, U * (1 + k) = m := ⟨_, rfl⟩
        rw [hm] at hm1 hm2
        have wm : IntKind.i64.wrap (U * (1 + k)) = m := by rw [hm, IntWalk.i64_in _ (by omega)]
        have HM := Lib.hid hm
        have bx3 := bx0.only ho3 hne
        have HS3 := Lib.hid (hs3.setNew Z 1 (.int .i64 m) hZb)
        have HO3 := Lib.hid ((HO2.out.trans ho3).setNew (p := ⟨Z, 1, none⟩) hZw (.int .i64 m))
        have HP3 := Lib.hid (ownsSetC (ownsOnlyC HP2.out ho3 hb) Z 1 (.int .i64 m) (fun g hg => by have := hpz.out g hg; omega))
        have bx4 := bx3.set1 m
        obtain ⟨d0, d1, d2, d3, d4⟩ := bx3
        clear hs3 ho3 HS2 HO2 HP2 bx0 hm HS1 HO1 HP1
        go_wp2_with fail
        have hzz : (v3.setCell ⟨Z, 1, none⟩ (.int .i64 m)).heap.size = v3.heap.size := by simp
        generalize v3.setCell ⟨Z, 1, none⟩ (.int .i64 m) = v4 at *
        refine (oneS 6 b _ _ (by omega) (by omega) HS3.out (by omega)).mono ?_
        rintro e v5 ⟨t, rfl, hs5, ho5⟩
        have bx5 := bx4.only ho5 hne
        have HS5 := Lib.hid hs5
        have HO5 := Lib.hid (HO3.out.trans ho5)
        have HP5 := Lib.hid (ownsOnlyC HP3.out ho5 hb)
        clear hs5 ho5 HS3 HO3 HP3 bx4 d0 d1 d2 d3 d4 hzz
        cases t
        · skip
          have e0 := bx5.c0
          have e1 := bx5.c1
          have ez := bx5.lt
          have hpl := Lib.hid (fun g hg => (World.ownsRow.lt HP5.out g hg).1)
          have hnZ := Lib.hid (show u3.ownBlock ≠ some Z from fun e => by have := hpz.out Z e; omega)
          have hnew := scene_newD v5 p (m) 29
          have hszW : v5.heap.size = v5.heap.size := by first | rfl | simp
          rw [hszW] at hnew
          have hszH := Lib.hid hszW
          clear hszW
          go_wp2_with (at_builtin; refine wpList_append_own _ rfl _ _ 24 rfl w.heap.size 29 i0 (sv ByteArray.empty 0) 2 24 Try.underlying24 hi hz0 hz1 hz2 rfl (by decide) _ _ _ rfl (World.ownsRow.alloc HP5.out _) ⟨v5.heap.size, 0, none⟩ 1 1 [.string p, .int .i64 (m)] rfl rfl hnew (scene_oneCellD _ _) (by unfold maxLen; omega) (by omega) (by have := HO5.out.size; simp; omega) ?_; intro v' w7 hown' hgrow hnil; have e7 := cellGrown hgrow ez hnZ.out e0)
          have HP7 := Lib.hid (show Scs w7 w.heap.size v' (l ++ [(p, m)]) by
            unfold Scs
            rw [flatC_append, List.length_append]
            exact hown')
          have HO7 := Lib.hid (onlyGrownC (HO5.out.alloc _) hgrow (fun g hg => hpl.out g hg))
          have HS7 := Lib.hid (Sc.grown (HS5.out.below (bAlloc (Below.refl _ _) _)) hgrow (fun g hg => by have := hpl.out g hg; omega))
          have HD7 := Lib.hid (drawn8_snoc (t := m) HD.out PC.out (by omega) (by omega) (.inl HNE.out))
          have HL7 := Lib.hid (lastP_snoc l p (m))
          have hz7 : Z < w7.heap.size := by have := hgrow.size; simp at this; omega
          clear hown' hgrow hnil
          go_wp2
          go_roundw
          case rel => exact ⟨r', l ++ [(p, m)], by simp; omega, by first | rfl | rw [HWR.out], by rw [HL7.out], HP7, Lib.hid (HS7.out.mono (by simp; omega)), HO7, HD7⟩
          case measure =>
            have := HWR.out
            simp [intOf]
            omega
        · have HS6 := Lib.hid (HS5.out.setNew Z 1 (.int .i64 (m + 1)) hZb)
          have HO6 := Lib.hid (HO5.out.setNew (p := ⟨Z, 1, none⟩) hZw (.int .i64 (m + 1)))
          have HP6 := Lib.hid (ownsSetC HP5.out Z 1 (.int .i64 (m + 1)) (fun g hg => by have := hpz.out g hg; omega))
          have bx6 := bx5.set1 (m + 1)
          obtain ⟨d0, d1, d2, d3, d4⟩ := bx5
          have e0 := bx6.c0
          have e1 := bx6.c1
          have ez := bx6.lt
          have hpl := Lib.hid (fun g hg => (World.ownsRow.lt HP6.out g hg).1)
          have hnZ := Lib.hid (show u3.ownBlock ≠ some Z from fun e => by have := hpz.out Z e; omega)
          have hnew := scene_newD (v5.setCell ⟨Z, 1, none⟩ (.int .i64 (m + 1))) p (m + 1) 29
          have hszW : (v5.setCell ⟨Z, 1, none⟩ (.int .i64 (m + 1))).heap.size = v5.heap.size := by first | rfl | simp
          rw [hszW] at hnew
          have hszH := Lib.hid hszW
          clear hszW
          go_wp2_with (at_builtin; refine wpList_append_own _ rfl _ _ 24 rfl w.heap.size 29 i0 (sv ByteArray.empty 0) 2 24 Try.underlying24 hi hz0 hz1 hz2 rfl (by decide) _ _ _ rfl (World.ownsRow.alloc HP6.out _) ⟨v5.heap.size, 0, none⟩ 1 1 [.string p, .int .i64 (m + 1)] rfl rfl hnew (scene_oneCellD _ _) (by unfold maxLen; omega) (by omega) (by have := HO6.out.size; simp; omega) ?_; intro v' w7 hown' hgrow hnil; have e7 := cellGrown hgrow ez hnZ.out e0)
          have HP7 := Lib.hid (show Scs w7 w.heap.size v' (l ++ [(p, m + 1)]) by
            unfold Scs
            rw [flatC_append, List.length_append]
            exact hown')
          have HO7 := Lib.hid (onlyGrownC (HO6.out.alloc _) hgrow (fun g hg => hpl.out g hg))
          have HS7 := Lib.hid (Sc.grown (HS6.out.below (bAlloc (Below.refl _ _) _)) hgrow (fun g hg => by have := hpl.out g hg; omega))
          have HD7 := Lib.hid (drawn8_snoc (t := m + 1) HD.out PC.out (by omega) (by omega) (.inl HNE.out))
          have HL7 := Lib.hid (lastP_snoc l p (m + 1))
          have hz7 : Z < w7.heap.size := by have := hgrow.size; simp at this; omega
          clear hown' hgrow hnil
          go_wp2
          go_roundw
          case rel => exact ⟨r', l ++ [(p, m + 1)], by simp; omega, by first | rfl | rw [HWR.out], by rw [HL7.out], HP7, Lib.hid (HS7.out.mono (by simp; omega)), HO7, HD7⟩
          case measure =>
            have := HWR.out
            simp [intOf]
            omega
      · have HNE := Lib.hid (show eqT ⟨#[101]⟩ (lastP l) = false by
          rw [HQ.out]
          have h1 : (⟨#[c]⟩ : ByteArray) = q := eqT_iff.1 he
          rw [← h1]
          refine eqT_false fun h2 => ?_
          injection h2 with h3
          simp at h3
          exact hce h3.symm)
        have PE := Lib.hid (pos_one (c := 101) (by decide))
        clear hcs hce PC
        generalize (⟨#[c]⟩ : ByteArray) = p at *
        go_wp2_with fail
        have bx0 := Bx.new v1 ⟨#[101]⟩ 0
        have HO2 := Lib.hid (HO1.out.alloc (.cells #[.string ⟨#[101]⟩, .int .i64 0] 29))
        have HS2 := Lib.hid (Sc.below HS1.out (bAlloc (Below.refl _ v1) (.cells #[.string ⟨#[101]⟩, .int .i64 0] 29)))
        have HP2 := Lib.hid (World.ownsRow.alloc HP1.out (.cells #[.string ⟨#[101]⟩, .int .i64 0] 29))
        have hpz := Lib.hid (fun g hg => (World.ownsRow.lt HP1.out g hg).2)
        have hzv2 : v1.heap.size + 1 = (v1.alloc (.cells #[.string ⟨#[101]⟩, .int .i64 0] 29)).heap.size := by simp
        have hZb : b < v1.heap.size := by omega
        have hZw : w.heap.size ≤ v1.heap.size := by omega
        obtain ⟨Z, hZ⟩ : ∃ Z, v1.heap.size = Z := ⟨_, rfl⟩
        rw [hZ] at bx0 hZb hZw hpz hzv2
        have hne : Z ≠ b := by omega
        generalize v1.alloc (.cells #[.string ⟨#[101]⟩, .int .i64 0] 29) = v2 at *
        refine (pickS 12 b _ _ (by omega) (by omega) HS2.out (by omega)).mono ?_
        rintro e v3 ⟨k, k0, k1, rfl, hs3, ho3⟩
        have hm1 : 1 ≤ U * (1 + k) := by
          have := Int.mul_le_mul hU1 (show 1 ≤ 1 + k by omega) (by omega) (by omega)
          omega
        have hm2 : U * (1 + k) ≤ 72 := by
          have := Int.mul_le_mul hU6 (show 1 + k ≤ 12 by omega) (by omega) (by omega)
          omega
        obtain ⟨m, hm⟩ : ∃ m, U * (1 + k) = m := ⟨_, rfl⟩
        rw [hm] at hm1 hm2
        have wm : IntKind.i64.wrap (U * (1 + k)) = m := by rw [hm, IntWalk.i64_in _ (by omega)]
        have HM := Lib.hid hm
        have bx3 := bx0.only ho3 hne
        have HS3 := Lib.hid (hs3.setNew Z 1 (.int .i64 m) hZb)
        have HO3 := Lib.hid ((HO2.out.trans ho3).setNew (p := ⟨Z, 1, none⟩) hZw (.int .i64 m))
        have HP3 := Lib.hid (ownsSetC (ownsOnlyC HP2.out ho3 hb) Z 1 (.int .i64 m) (fun g hg => by have := hpz.out g hg; omega))
        have bx4 := bx3.set1 m
        obtain ⟨d0, d1, d2, d3, d4⟩ := bx3
        clear hs3 ho3 HS2 HO2 HP2 bx0 hm HS1 HO1 HP1
        go_wp2_with fail
        have hzz : (v3.setCell ⟨Z, 1, none⟩ (.int .i64 m)).heap.size = v3.heap.size := by simp
        generalize v3.setCell ⟨Z, 1, none⟩ (.int .i64 m) = v4 at *
        refine (oneS 6 b _ _ (by omega) (by omega) HS3.out (by omega)).mono ?_
        rintro e v5 ⟨t, rfl, hs5, ho5⟩
        have bx5 := bx4.only ho5 hne
        have HS5 := Lib.hid hs5
        have HO5 := Lib.hid (HO3.out.trans ho5)
        have HP5 := Lib.hid (ownsOnlyC HP3.out ho5 hb)
        clear hs5 ho5 HS3 HO3 HP3 bx4 d0 d1 d2 d3 d4 hzz
        cases t
        · skip
          have e0 := bx5.c0
          have e1 := bx5.c1
          have ez := bx5.lt
          have hpl := Lib.hid (fun g hg => (World.ownsRow.lt HP5.out g hg).1)
          have hnZ := Lib.hid (show u3.ownBlock ≠ some Z from fun e => by have := hpz.out Z e; omega)
          have hnew := scene_newD v5 ⟨#[101]⟩ (m) 29
          have hszW : v5.heap.size = v5.heap.size := by first | rfl | simp
          rw [hszW] at hnew
          have hszH := Lib.hid hszW
          clear hszW
          go_wp2_with (at_builtin; refine wpList_append_own _ rfl _ _ 24 rfl w.heap.size 29 i0 (sv ByteArray.empty 0) 2 24 Try.underlying24 hi hz0 hz1 hz2 rfl (by decide) _ _ _ rfl (World.ownsRow.alloc HP5.out _) ⟨v5.heap.size, 0, none⟩ 1 1 [.string ⟨#[101]⟩, .int .i64 (m)] rfl rfl hnew (scene_oneCellD _ _) (by unfold maxLen; omega) (by omega) (by have := HO5.out.size; simp; omega) ?_; intro v' w7 hown' hgrow hnil; have e7 := cellGrown hgrow ez hnZ.out e0)
          have HP7 := Lib.hid (show Scs w7 w.heap.size v' (l ++ [(⟨#[101]⟩, m)]) by
            unfold Scs
            rw [flatC_append, List.length_append]
            exact hown')
          have HO7 := Lib.hid (onlyGrownC (HO5.out.alloc _) hgrow (fun g hg => hpl.out g hg))
          have HS7 := Lib.hid (Sc.grown (HS5.out.below (bAlloc (Below.refl _ _) _)) hgrow (fun g hg => by have := hpl.out g hg; omega))
          have HD7 := Lib.hid (drawn8_snoc (t := m) HD.out PE.out (by omega) (by omega) (.inl HNE.out))
          have HL7 := Lib.hid (lastP_snoc l ⟨#[101]⟩ (m))
          have hz7 : Z < w7.heap.size := by have := hgrow.size; simp at this; omega
          clear hown' hgrow hnil
          go_wp2
          go_roundw
          case rel => exact ⟨r', l ++ [(⟨#[101]⟩, m)], by simp; omega, by first | rfl | rw [HWR.out], by rw [HL7.out], HP7, Lib.hid (HS7.out.mono (by simp; omega)), HO7, HD7⟩
          case measure =>
            have := HWR.out
            simp [intOf]
            omega
        · have HS6 := Lib.hid (HS5.out.setNew Z 1 (.int .i64 (m + 1)) hZb)
          have HO6 := Lib.hid (HO5.out.setNew (p := ⟨Z, 1, none⟩) hZw (.int .i64 (m + 1)))
          have HP6 := Lib.hid (ownsSetC HP5.out Z 1 (.int .i64 (m + 1)) (fun g hg => by have := hpz.out g hg; omega))
          have bx6 := bx5.set1 (m + 1)
          obtain ⟨d0, d1, d2, d3, d4⟩ := bx5
          have e0 := bx6.c0
          have e1 := bx6.c1
          have ez := bx6.lt
          have hpl := Lib.hid (fun g hg => (World.ownsRow.lt HP6.out g hg).1)
          have hnZ := Lib.hid (show u3.ownBlock ≠ some Z from fun e => by have := hpz.out Z e; omega)
          have hnew := scene_newD (v5.setCell ⟨Z, 1, none⟩ (.int .i64 (m + 1))) ⟨#[101]⟩ (m + 1) 29
          have hszW : (v5.setCell ⟨Z, 1, none⟩ (.int .i64 (m + 1))).heap.size = v5.heap.size := by first | rfl | simp
          rw [hszW] at hnew
          have hszH := Lib.hid hszW
          clear hszW
          go_wp2_with (at_builtin; refine wpList_append_own _ rfl _ _ 24 rfl w.heap.size 29 i0 (sv ByteArray.empty 0) 2 24 Try.underlying24 hi hz0 hz1 hz2 rfl (by decide) _ _ _ rfl (World.ownsRow.alloc HP6.out _) ⟨v5.heap.size, 0, none⟩ 1 1 [.string ⟨#[101]⟩, .int .i64 (m + 1)] rfl rfl hnew (scene_oneCellD _ _) (by unfold maxLen; omega) (by omega) (by have := HO6.out.size; simp; omega) ?_; intro v' w7 hown' hgrow hnil; have e7 := cellGrown hgrow ez hnZ.out e0)
          have HP7 := Lib.hid (show Scs w7 w.heap.size v' (l ++ [(⟨#[101]⟩, m + 1)]) by
            unfold Scs
            rw [flatC_append, List.length_append]
            exact hown')
          have HO7 := Lib.hid (onlyGrownC (HO6.out.alloc _) hgrow (fun g hg => hpl.out g hg))
          have HS7 := Lib.hid (Sc.grown (HS6.out.below (bAlloc (Below.refl _ _) _)) hgrow (fun g hg => by have := hpl.out g hg; omega))
          have HD7 := Lib.hid (drawn8_snoc (t := m + 1) HD.out PE.out (by omega) (by omega) (.inl HNE.out))
          have HL7 := Lib.hid (lastP_snoc l ⟨#[101]⟩ (m + 1))
          have hz7 : Z < w7.heap.size := by have := hgrow.size; simp at this; omega
          clear hown' hgrow hnil
          go_wp2
          go_roundw
          case rel => exact ⟨r', l ++ [(⟨#[101]⟩, m + 1)], by simp; omega, by first | rfl | rw [HWR.out], by rw [HL7.out], HP7, Lib.hid (HS7.out.mono (by simp; omega)), HO7, HD7⟩
          case measure =>
            have := HWR.out
            simp [intOf]
            omega
    · have hr0 : r = 0 := by omega
      subst hr0
      have hln : l.length = N := by omega
      have HV := Lib.hid (drawn8_valid HD.out (by omega) (by omega))
      have H6 := Lib.hid (show l.length ≤ 6 by omega)
      go_wp2
      go_ret
      exact ⟨_, l, rfl, HP.out, HV.out, H6.out, HD.out.2, HO.out⟩

end Go.Proofs.Ytibafngidpmgdab
