/- Lists of key poses in memory: what is read, what a call owns; the statements' own helpers. -/
import Derived.Test.YtibafngidpmgdaaProg
import Derived.Test.YtibafngidpmgdaaPts
import Derived.Test.YtibafngidpmgdaaHold
import Derived.OwnWalk
import Derived.Deep.Slices
import Derived.Deep.RegionWith
import Derived.Deep.DrawnRows
import Derived.Deep.RegionHeld3
import Derived.Tactics
import Derived.Tactics2
import Derived.WalkKit
import Derived.LoopTactic
import Derived.BigQuiet
import Derived.RegionTactic
import Derived.Deep.QuietTactic
import Derived.Outline
import Derived.Lib.Hide
import Derived.Below
import Derived.KernelRfl
namespace Go.Proofs.Ytibafngidpmgdaa
set_option linter.unusedSimpArgs false
set_option linter.unusedVariables false
open Go.RowKit

/-- A key pose. -/
abbrev Key := Int × List Pt
/-- A key pose as a value: its tick, its list of joints. -/
abbrev Ent := Int × Value
abbrev e0 : Ent := (0, .slice none 0 0)
abbrev k0 : Key := (0, [])
abbrev kv (t : Int) (v : Value) : Value := .agg #[.int .i64 t, v]

/-- The cells of some key poses. -/
def flatE : List Ent → List Value
  | [] => []
  | p :: ps => .int .i64 p.1 :: p.2 :: flatE ps
theorem flatE_length : ∀ ps : List Ent, (flatE ps).length = ps.length * 2
  | [] => rfl
  | _ :: ps => by simp [flatE, flatE_length ps]; omega
theorem flatE_append : ∀ ps qs : List Ent, flatE (ps ++ qs) = flatE ps ++ flatE qs
  | [], _ => rfl
  | p :: ps, qs => by simp [flatE, flatE_append ps qs]
theorem flatE_get : ∀ (ps : List Ent) (j : Nat), j < ps.length → (flatE ps)[j * 2]? = some (.int .i64 (ps.getD j e0).1) ∧ (flatE ps)[j * 2 + 1]? = some (ps.getD j e0).2
  | p :: ps, 0, _ => by simp [flatE]
  | p :: ps, j + 1, h => by
    have := flatE_get ps j (by simpa using h)
    rw [show (j + 1) * 2 = j * 2 + 1 + 1 by omega]
    simpa [flatE] using this
theorem flatE_set : ∀ (ps : List Ent) (j : Nat) (q : Ent), ((flatE ps).set (j * 2) (.int .i64 q.1)).set (j * 2 + 1) q.2 = flatE (ps.set j q)
  | [], _, _ => rfl
  | p :: ps, 0, q => by simp [flatE]
  | p :: ps, j + 1, q => by
    have := flatE_set ps j q
    rw [show (j + 1) * 2 = j * 2 + 1 + 1 by omega]
    simpa [flatE] using this
theorem flatE_set1 : ∀ (ps : List Ent) (j : Nat) (t : Int), j < ps.length → (flatE ps).set (j * 2) (.int .i64 t) = flatE (ps.set j (t, (ps.getD j e0).2))
  | p :: ps, 0, t, _ => by simp [flatE]
  | p :: ps, j + 1, t, h => by
    have := flatE_set1 ps j t (by simpa using h)
    rw [show (j + 1) * 2 = j * 2 + 1 + 1 by omega]
    simpa [flatE] using this
theorem made_flatE (n : Nat) : (madeCells (kv 0 (.slice none 0 0)).cells (n * 2)).toList = flatE (List.replicate n e0) := by
  apply List.ext_getElem?
  intro j
  by_cases hj : j < n * 2
  · have h1 : (flatE (List.replicate n e0))[j]? = some (if j % 2 = 0 then .int .i64 0 else .slice none 0 0) := by
      obtain ⟨q, r, hr, rfl⟩ : ∃ q r, r < 2 ∧ j = q * 2 + r := ⟨j / 2, j % 2, Nat.mod_lt _ (by omega), by omega⟩
      have hq : q < n := by omega
      have hg := flatE_get (List.replicate n e0) q (by simpa using hq)
      have hd : (List.replicate n e0).getD q e0 = e0 := by
        rw [List.getD_eq_getElem?_getD]
        simp [hq]
      rw [hd] at hg
      match r, hr with
      | 0, _ => simpa using hg.1
      | 1, _ => rw [hg.2]; simp
    rw [h1]
    have e : (kv 0 (.slice none 0 0)).cells = #[.int .i64 0, .slice none 0 0] := rfl
    rw [e]
    simp [madeCells, hj]
    rcases Nat.mod_two_eq_zero_or_one j with h | h <;> simp [h]
  · have h1 : (flatE (List.replicate n e0))[j]? = none := List.getElem?_eq_none (by rw [flatE_length]; simpa using hj)
    rw [h1]
    simp [madeCells, hj]
theorem flatE_oneCell : ∀ (ps : List Ent), (∀ e ∈ ps, e.2.oneCell' = true) → ∀ u ∈ flatE ps, u.oneCell' = true
  | [], _, _, h => by simp [flatE] at h
  | p :: ps, hp, u, h => by
    simp only [flatE, List.mem_cons] at h
    rcases h with rfl | rfl | h
    · rfl
    · exact hp p (List.mem_cons_self ..)
    · exact flatE_oneCell ps (fun e he => hp e (List.mem_cons_of_mem _ he)) u h

/-- What a reader sees of a list of key poses. -/
def RdK (w : World) (A : Option Addr) (n : Nat) (ks : List Key) : Prop :=
  ks.length = n ∧ n ≤ 1048576 ∧ (n = 0 ∨ ∃ g, A = some ⟨g, 0, none⟩ ∧ g < w.heap.size ∧
    ∀ j, j < n → w.cell? ⟨g, j * 2, none⟩ = some (.int .i64 (ks.getD j k0).1) ∧ ∃ A' c', w.cell? ⟨g, j * 2 + 1, none⟩ = some (.slice A' (ks.getD j k0).2.length c') ∧ Rd w A' (ks.getD j k0).2.length (ks.getD j k0).2)
theorem RdK.below {w u : World} {A : Option Addr} {n : Nat} {ks : List Key} (h : RdK w A n ks) (hb : Below w.heap.size w u) : RdK u A n ks := by
  obtain ⟨h1, h2, h3⟩ := h
  refine ⟨h1, h2, ?_⟩
  rcases h3 with h0 | ⟨g, rfl, hg, hc⟩
  · exact .inl h0
  · refine .inr ⟨g, rfl, Nat.lt_of_lt_of_le hg hb.size, fun j hj => ?_⟩
    obtain ⟨c0, A', c', c1, r⟩ := hc j hj
    exact ⟨(hb.cell (p := ⟨g, j * 2, none⟩) hg).trans c0, A', c', (hb.cell (p := ⟨g, j * 2 + 1, none⟩) hg).trans c1, r.below hb⟩

/-- The blocks of a list of key poses. -/
def ownE (v : Value) (es : List Ent) (k : Nat) : Prop := own1 v k ∨ ∃ i, i < es.length ∧ own1 (es.getD i e0).2 k

/-- A list of key poses of the call's own. -/
def Keys (w : World) (B : Nat) (v : Value) (es : List Ent) (ks : List Key) : Prop :=
  es.length = ks.length ∧ w.ownsRow B 55 2 v ks.length (flatE es) ∧
  (∀ i, i < ks.length → (es.getD i e0).1 = (ks.getD i k0).1 ∧ Pts w B (es.getD i e0).2 (ks.getD i k0).2) ∧
  ∀ i j, i < j → j < ks.length → Sep (own1 (es.getD i e0).2) (own1 (es.getD j e0).2)

theorem Keys.lt {w : World} {B : Nat} {v : Value} {es : List Ent} {ks : List Key} (h : Keys w B v es ks) : ∀ k, ownE v es k → B ≤ k ∧ k < w.heap.size := by
  rintro k (hk | ⟨i, hi, hk⟩)
  · exact ownsLt h.2.1 k hk
  · exact ownsLt (h.2.2.1 i (by rw [← h.1]; exact hi)).2 k hk
theorem Keys.chg {S : Nat → Prop} {w u : World} {B : Nat} {v : Value} {es : List Ent} {ks : List Key} (h : Keys w B v es ks) (c : Chg S w u) (hs : Sep (ownE v es) S) : Keys u B v es ks :=
  ⟨h.1, ownsChg h.2.1 c (fun k hk => hs k (.inl hk)), fun i hi => ⟨(h.2.2.1 i hi).1, (h.2.2.1 i hi).2.chg c (fun k hk => hs k (.inr ⟨i, by rw [h.1]; exact hi, hk⟩))⟩, h.2.2.2⟩
theorem Keys.below {w u : World} {B : Nat} {v : Value} {es : List Ent} {ks : List Key} (h : Keys w B v es ks) (hb : Below w.heap.size w u) : Keys u B v es ks :=
  h.chg (Chg.ofBelow (fun _ => False) hb) (fun _ _ hf => hf)
theorem Keys.base {w : World} {B B' : Nat} {v : Value} {es : List Ent} {ks : List Key} (h : Keys w B v es ks) (hB : B' ≤ B) : Keys w B' v es ks :=
  ⟨h.1, ⟨h.2.1.1, h.2.1.2.imp id (fun ⟨a, b, c, d, e, f⟩ => ⟨a, b, c, d, Nat.le_trans hB e, f⟩)⟩, fun i hi => ⟨(h.2.2.1 i hi).1, (h.2.2.1 i hi).2.base hB⟩, h.2.2.2⟩

/-- How many numbers some key poses hold. -/
def marksN : List Key → Nat
  | [] => 0
  | k :: ks => 1 + 2 * k.2.length + marksN ks
/-- How many elements some key poses have, joints among them. -/
def totK : List Key → Nat
  | [] => 0
  | k :: ks => k.2.length + totK ks
theorem totK_append : ∀ ks ls : List Key, totK (ks ++ ls) = totK ks + totK ls
  | [], _ => by simp [totK]
  | k :: ks, ls => by simp [totK, totK_append ks ls]; omega
theorem totK_get : ∀ (ks : List Key) (j : Nat), j < ks.length → (ks.getD j k0).2.length ≤ totK ks
  | k :: ks, 0, _ => by simp [totK]
  | k :: ks, j + 1, h => by
    have := totK_get ks j (by simpa using h)
    simp only [List.getD_cons_succ, totK]
    omega
theorem marksN_tot : ∀ ks : List Key, marksN ks = ks.length + 2 * totK ks
  | [] => rfl
  | k :: ks => by simp [marksN, totK, marksN_tot ks]; omega
theorem take_snocK (ks : List Key) (j : Nat) (h : j < ks.length) : ks.take (j + 1) = ks.take j ++ [ks.getD j k0] := by
  rw [List.take_add_one, List.getD_eq_getElem?_getD, List.getElem?_eq_getElem h]
  rfl
theorem totK_take (ks : List Key) (j : Nat) (h : j < ks.length) : totK (ks.take (j + 1)) = totK (ks.take j) + (ks.getD j k0).2.length := by
  rw [take_snocK ks j h, totK_append]
  simp [totK]
theorem totK_le (ks : List Key) (j : Nat) : totK (ks.take j) ≤ totK ks := by
  have := totK_append (ks.take j) (ks.drop j)
  rw [List.take_append_drop] at this
  omega

/-- What is owned is read. -/
theorem Keys.rd {w : World} {B : Nat} {v : Value} {es : List Ent} {ks : List Key} (h : Keys w B v es ks) (hl : ks.length ≤ 1048576) (ht : totK ks ≤ 1048576) : ∃ A cap, v = .slice A ks.length cap ∧ RdK w A ks.length ks := by
  obtain ⟨h1, h2, h3, h4⟩ := h
  have h2' := h2
  rcases h2.2 with ⟨rfl, h0⟩ | ⟨g, cap, cur, rfl, hB, hg, hn, hm, _, _⟩
  · exact ⟨none, 0, by rw [h0], rfl, hl, .inl h0⟩
  · refine ⟨_, cap, rfl, rfl, hl, .inr ⟨g, rfl, (Array.getElem?_eq_some_iff.1 hg).1, fun j hj => ?_⟩⟩
    obtain ⟨c0, c1⟩ := flatE_get es j (by omega)
    obtain ⟨e1, p1⟩ := h3 j hj
    have := totK_get ks j hj
    obtain ⟨A', c', e2, r⟩ := p1.rd (by omega)
    refine ⟨?_, A', c', ?_, r⟩
    · rw [h2'.cellAt (j * 2) (by omega), c0, e1]
    · rw [h2'.cellAt (j * 2 + 1) (by omega), c1, e2]
theorem Keys.rdOf {w : World} {B : Nat} {A : Option Addr} {n c : Nat} {es : List Ent} {ks : List Key} (h : Keys w B (.slice A n c) es ks) (hl : ks.length = n) (hn : n ≤ 1048576) (ht : totK ks ≤ 1048576) : RdK w A n ks := by
  obtain ⟨A', c', e, r⟩ := h.rd (by omega) ht
  simp only [Value.slice.injEq] at e
  obtain ⟨rfl, rfl, rfl⟩ := e
  rwa [hl] at r

/-- A list of key poses that came in. -/
def KRow (w : World) (A : Option Addr) (n : Nat) (ks : List Key) : Prop :=
  ks.length = n ∧ n ≤ maxLen ∧ (n = 0 ∨ ∃ b off, A = some ⟨b, off, none⟩ ∧ b < w.heap.size ∧ ∀ j, j < n → w.cell? ⟨b, off + j * 2, none⟩ = some (.int .i64 (ks.getD j k0).1) ∧
    ∃ A' c', w.cell? ⟨b, off + j * 2 + 1, none⟩ = some (.slice A' (ks.getD j k0).2.length c') ∧ PRow w A' (ks.getD j k0).2.length (ks.getD j k0).2)
theorem KRow.below {w u : World} {A : Option Addr} {n : Nat} {ks : List Key} (h : KRow w A n ks) (hb : Below w.heap.size w u) : KRow u A n ks := by
  obtain ⟨h1, h2, h3⟩ := h
  refine ⟨h1, h2, ?_⟩
  rcases h3 with h0 | ⟨b, off, rfl, hg, hc⟩
  · exact .inl h0
  · refine .inr ⟨b, off, rfl, Nat.lt_of_lt_of_le hg hb.size, fun j hj => ?_⟩
    obtain ⟨c0, A', c', c1, r⟩ := hc j hj
    exact ⟨(hb.cell (p := ⟨b, off + j * 2, none⟩) hg).trans c0, A', c', (hb.cell (p := ⟨b, off + j * 2 + 1, none⟩) hg).trans c1, r.below hb⟩

/-- laws.szKeyPose. -/
theorem szKeyPose_in (t : Int) (A : Option Addr) (n c left : Nat) (w : World) (hn : n ≤ maxLen) (hl : left ≤ 1048576) (h : n ≤ left) :
    Calls Try.prog 91 #[kv t (.slice A n c), .int .i64 left] w fun e w' => e = .returned (.int .i64 ((left - n : Nat) : Int)) ∧ Below w.heap.size w w' := by
  have S := Lib.hid (fun w => szPointS_any A n c left w hn hl)
  rw [if_pos h] at S
  go_enter Try.func91, Try.ntmps91
  go_wp2_with fail
  refine (S.out _).mono ?_
  rintro e u ⟨rfl, rfl⟩
  go_wp2
  go_ret
  exact ⟨rfl, bAlloc (Below.refl _ _) _⟩
theorem szKeyPose_over (t : Int) (A : Option Addr) (n c left : Nat) (w : World) (hn : n ≤ maxLen) (hl : left ≤ 1048576) (h : ¬ n ≤ left) :
    Calls Try.prog 91 #[kv t (.slice A n c), .int .i64 left] w fun e w' => e = .returned (.int .i64 (-1)) ∧ Below w.heap.size w w' := by
  have S := Lib.hid (fun w => szPointS_any A n c left w hn hl)
  rw [if_neg h] at S
  go_enter Try.func91, Try.ntmps91
  go_wp2_with fail
  refine (S.out _).mono ?_
  rintro e u ⟨rfl, rfl⟩
  go_wp2
  go_ret
  exact ⟨rfl, bAlloc (Below.refl _ _) _⟩

set_option maxHeartbeats 1000000 in
set_option maxRecDepth 100000 in
/-- laws.szKeyPoseS: small enough, or not. -/
theorem szKeyPoseS_any (A : Option Addr) (n cap : Nat) (ks : List Key) (w : World) (hp : KRow w A n ks) :
    Calls Try.prog 26 #[.slice A n cap, .int .i64 1048576] w fun e w' => e = .returned (.int .i64 (if n + totK ks ≤ 1048576 then ((1048576 - (n + totK ks) : Nat) : Int) else -1)) ∧ Below w.heap.size w w' := by
  have hm := hp.2.1
  unfold maxLen at hm
  have HL := Lib.hid hp.1
  have HC := Lib.hid hp
  clear hp
  by_cases hn : n ≤ 1048576
  · go_enter Try.func26, Try.ntmps26
    go_wp2
    go_loopw [5, 1] (fun i l wr => ∃ k : Nat, k ≤ n ∧ i = .int .i64 k ∧ n + totK (ks.take k) ≤ 1048576 ∧ l = .int .i64 ((1048576 - (n + totK (ks.take k)) : Nat) : Int) ∧ Hid (Below w.heap.size w wr)) (fun i _ _ => n - (intOf i).toNat)
    case atStart => exact ⟨0, Nat.zero_le _, rfl, by simpa [totK] using hn, by simp [totK]; omega, Lib.hid (Below.refl _ _)⟩
    case round =>
      obtain ⟨k, hk, rfl, hs, rfl, HB⟩ := hrel
      by_cases hlt : k < n
      · obtain ⟨_, _, h3⟩ := HC.out.below HB.out
        rcases h3 with h0 | ⟨b, off, rfl, hb, h3⟩
        · omega
        obtain ⟨c0, A', c', c1, r⟩ := h3 k hlt
        have hrl := r.2.1
        have hT := Lib.hid (totK_take ks k (by rw [HL.out]; exact hlt))
        have hle := totK_le ks (k + 1)
        have htk := totK_take ks k (by rw [HL.out]; exact hlt)
        clear r h3
        generalize (ks.getD k Go.Proofs.Ytibafngidpmgdaa.k0).1 = t at *
        generalize (ks.getD k Go.Proofs.Ytibafngidpmgdaa.k0).2.length = m at *
        generalize totK (ks.take k) = T at *
        by_cases hin : m ≤ 1048576 - (n + T)
        · clear htk
          go_wp2_with fail
          refine (szKeyPose_in t A' m c' (1048576 - (n + T)) _ hrl (by omega) hin).mono ?_
          rintro e u ⟨rfl, hb2⟩
          have HB2 := Lib.hid (bTrans HB.out hb2)
          clear hb2
          go_wp2
          go_roundw
          case rel => exact ⟨k + 1, by omega, by go_num, by rw [hT.out]; omega, by rw [hT.out]; simp; omega, HB2⟩
          case measure => simp [intOf]; omega
        · have hout : ¬ n + totK ks ≤ 1048576 := by omega
          clear htk
          go_wp2_with fail
          refine (szKeyPose_over t A' m c' (1048576 - (n + T)) _ hrl (by omega) hin).mono ?_
          rintro e u ⟨rfl, hb2⟩
          have HB2 := Lib.hid (bTrans HB.out hb2)
          clear hb2
          go_wp2
          go_ret
          exact ⟨ret_int (by first | rfl | rw [if_neg hout]), HB2.out⟩
      · have : k = n := by omega
        subst this
        have hT := Lib.hid (show ks.take k = ks from List.take_of_length_le (by rw [HL.out]; exact Nat.le_refl _))
        rw [hT.out] at hs ⊢
        go_wp2
        go_ret
        exact ⟨ret_int (by first | rfl | rw [if_pos hs]), HB.out⟩
  · have hout : ¬ n + totK ks ≤ 1048576 := by omega
    go_enter Try.func26, Try.ntmps26
    go_wp2
    go_ret
    exact ⟨ret_int (by first | rfl | rw [if_neg hout]), Below.refl _ _⟩

theorem szK_in (A : Option Addr) (n cap : Nat) (ks : List Key) (w : World) (hp : KRow w A n ks) (h : n + totK ks ≤ 1048576) :
    Calls Try.prog 26 #[.slice A n cap, .int .i64 1048576] w fun e w' => e = .returned (.int .i64 ((1048576 - (n + totK ks) : Nat) : Int)) ∧ Below w.heap.size w w' := by
  have := szKeyPoseS_any A n cap ks w hp
  rwa [if_pos h] at this
theorem szK_over (A : Option Addr) (n cap : Nat) (ks : List Key) (w : World) (hp : KRow w A n ks) (h : ¬ n + totK ks ≤ 1048576) :
    Calls Try.prog 26 #[.slice A n cap, .int .i64 1048576] w fun e w' => e = .returned (.int .i64 (-1)) ∧ Below w.heap.size w w' := by
  have := szKeyPoseS_any A n cap ks w hp
  rwa [if_neg h] at this

theorem infoKp : (Try.prog.info? 55).map (fun i => (i.zero, i.size, i.bytes)) = some (some (kv 0 (.slice none 0 0)), 2, 32) := by kernel_rfl

/-- The contract of laws.toPointS as the statements use it. -/
theorem toP (A : Option Addr) (n cap : Nat) (ps : List Pt) (w : World) (hp : PRow w A n ps) (hn : n ≤ 1048576) :
    Calls Try.prog 21 #[.slice A n cap] w fun e w' => ∃ A' c', e = .returned (.slice A' n c') ∧ Pts w' w.heap.size (.slice A' n c') ps ∧ Below w.heap.size w w' := by
  have hl := hp.1
  refine (toPointS_any A n cap ps w hp hn).mono ?_
  rintro e u ⟨v, rfl, hP, hb⟩
  obtain ⟨A', c', rfl, hr⟩ := hP.rd (by omega)
  rw [hl] at hP ⊢
  exact ⟨A', c', rfl, hP, hb⟩

theorem bkE {W u : World} (hb : Below W.heap.size W u) {b : Nat} {x y : Value} (h : W.cell? ⟨b, 0, none⟩ = some x ∧ W.cell? ⟨b, 1, none⟩ = some y ∧ W.frozen? ⟨b, 0, none⟩ = false ∧ W.frozen? ⟨b, 1, none⟩ = false ∧ b < W.heap.size) :
    u.cell? ⟨b, 0, none⟩ = some x ∧ u.cell? ⟨b, 1, none⟩ = some y ∧ u.frozen? ⟨b, 0, none⟩ = false ∧ u.frozen? ⟨b, 1, none⟩ = false ∧ b < u.heap.size := by
  obtain ⟨h1, h2, h3, h4, h5⟩ := h
  exact ⟨(hb.cell h5).trans h1, (hb.cell h5).trans h2, (hb.frozen h5).trans h3, (hb.frozen h5).trans h4, Nat.lt_of_lt_of_le h5 hb.size⟩

set_option maxHeartbeats 1000000 in
/-- laws.toKeyPose. -/
theorem toKeyPose_any (t : Int) (A : Option Addr) (n c : Nat) (ps : List Pt) (w : World) (hp : PRow w A n ps) (hn : n ≤ 1048576) :
    Calls Try.prog 93 #[kv t (.slice A n c)] w fun e w' => ∃ A' c', e = .returned (kv t (.slice A' n c')) ∧ Pts w' w.heap.size (.slice A' n c') ps ∧ Below w.heap.size w w' := by
  have HP := Lib.hid hp
  clear hp
  go_enter Try.func93, Try.ntmps93
  go_wp2_with fail
  refine (toP A n c ps _ (HP.out.below (by repeat (first | exact Below.refl _ _ | refine bSet ?_ (by first | (simp; done) | (simp; omega)) _ | refine bAlloc ?_ _))) hn).mono ?_
  rintro e u ⟨A', c', rfl, p1, hb1⟩
  have L1 : Below w.heap.size w u := bTrans (by repeat (first | exact Below.refl _ _ | refine bSet ?_ (by first | (simp; done) | (simp; omega)) _ | refine bAlloc ?_ _)) hb1
  have hB : w.heap.size ≤ u.heap.size := L1.size
  have P1 := Lib.hid (p1.base (B' := w.heap.size) (by simp; omega))
  obtain ⟨c2, c3, f2, f3, z2⟩ := bkE hb1 (b := w.heap.size + 1) (x := .int .i64 0) (y := .slice none 0 0) (by refine ⟨?_, ?_, ?_, ?_, ?_⟩ <;> go_simp)
  obtain ⟨c4, c5, f4, f5, z4⟩ := bkE hb1 (b := w.heap.size + 2) (x := .int .i64 t) (y := .slice none 0 0) (by refine ⟨?_, ?_, ?_, ?_, ?_⟩ <;> go_simp)
  have hS1 : Sep (own1 (.slice A' n c')) (fun k => k = w.heap.size + 1 ∨ k = w.heap.size + 2) := by
    intro k hk
    have := (ownsLt p1 k hk).1
    simp at this
    omega
  clear hb1 p1
  go_wp2_with fail
  refine bodyPost_ret (v := kv t (.slice A' n c')) (by simp [results, Try.results93, go_sem, c2, c3, c4, c5, z2, z4]) rfl ?_
  refine ⟨A', c', rfl, ?_, ?_⟩
  · refine P1.out.chg (S := fun k => k = w.heap.size + 1 ∨ k = w.heap.size + 2) ?_ hS1
    repeat (first | exact Chg.refl _ _ | refine Chg.set ?_ (by simp) _)
  · repeat (first | exact L1 | refine bSet ?_ (by first | (simp; done) | (simp; omega)) _ | refine bAlloc ?_ _)

theorem put_stepE (es : List Ent) (e : Ent) (k n : Nat) (hk : es.length = k) (hn : k < n) :
    (es ++ (List.replicate n e0).drop k).set k e = es ++ [e] ++ (List.replicate n e0).drop (k + 1) := by
  rw [List.set_append_right _ _ (by omega), hk, Nat.sub_self, List.drop_eq_getElem_cons (by simp; omega), List.set_cons_zero, List.append_assoc]
  rfl
theorem getD_snocE (es : List Ent) (e : Ent) (k i : Nat) (hk : es.length = k) : (es ++ [e]).getD i e0 = if i = k then e else es.getD i e0 := by
  subst hk
  by_cases h : i < es.length
  · rw [if_neg (by omega), List.getD_eq_getElem?_getD, List.getD_eq_getElem?_getD, List.getElem?_append_left h]
  · by_cases h2 : i = es.length
    · subst h2
      rw [if_pos rfl, List.getD_eq_getElem?_getD, List.getElem?_append_right (Nat.le_refl _)]
      simp
    · rw [if_neg h2, List.getD_eq_getElem?_getD, List.getD_eq_getElem?_getD, List.getElem?_eq_none (by simp; omega), List.getElem?_eq_none (by omega)]

/-- Lists of joints of the call's own, so far. -/
def Parts (w : World) (B : Nat) (es : List Ent) (ks : List Key) : Prop :=
  (∀ i, i < es.length → (es.getD i e0).1 = (ks.getD i k0).1 ∧ Pts w B (es.getD i e0).2 (ks.getD i k0).2) ∧
  ∀ i j, i < j → j < es.length → Sep (own1 (es.getD i e0).2) (own1 (es.getD j e0).2)
theorem Parts.chg {S : Nat → Prop} {w u : World} {B : Nat} {es : List Ent} {ks : List Key} (h : Parts w B es ks) (c : Chg S w u) (hs : ∀ i, i < es.length → Sep (own1 (es.getD i e0).2) S) : Parts u B es ks :=
  ⟨fun i hi => ⟨(h.1 i hi).1, (h.1 i hi).2.chg c (hs i hi)⟩, h.2⟩
theorem Parts.base {w : World} {B B' : Nat} {es : List Ent} {ks : List Key} (h : Parts w B es ks) (hB : B' ≤ B) : Parts w B' es ks := ⟨fun i hi => ⟨(h.1 i hi).1, (h.1 i hi).2.base hB⟩, h.2⟩
theorem Parts.below {w u : World} {B : Nat} {es : List Ent} {ks : List Key} (h : Parts w B es ks) (hb : Below w.heap.size w u) : Parts u B es ks := h.chg (Chg.ofBelow (fun _ => False) hb) (fun _ _ _ _ hf => hf)
theorem Parts.snoc {w u : World} {B : Nat} {es : List Ent} {ks : List Key} {v : Value} {k : Nat} (h : Parts w B es ks) (hb : Below w.heap.size w u) (hk : es.length = k) (hB : B ≤ w.heap.size) (hp : Pts u w.heap.size v (ks.getD k k0).2) : Parts u B (es ++ [((ks.getD k k0).1, v)]) ks := by
  have h' := h.below hb
  constructor
  · intro i hi
    rw [getD_snocE es _ k i hk]
    by_cases hik : i = k
    · subst hik
      rw [if_pos rfl]
      exact ⟨rfl, hp.base hB⟩
    · rw [if_neg hik]
      exact h'.1 i (by simp at hi; omega)
  · intro i j hij hj
    have hjl : j ≤ k := by simp at hj; omega
    rw [getD_snocE es _ k i hk, getD_snocE es _ k j hk, if_neg (show ¬ i = k by omega)]
    by_cases hjk : j = k
    · rw [if_pos hjk]
      exact sepOf w.heap.size (fun q hq => (ownsLt (h.1 i (by omega)).2 q hq).2) (fun q hq => (ownsLt hp q hq).1)
    · rw [if_neg hjk]
      exact h.2 i j hij (by omega)
theorem Parts.keys {w : World} {B : Nat} {v : Value} {es : List Ent} {ks : List Key} (h : Parts w B es ks) (hl : es.length = ks.length) (ho : w.ownsRow B 55 2 v ks.length (flatE es)) : Keys w B v es ks :=
  ⟨hl, ho, fun i hi => h.1 i (by omega), fun i j hij hj => h.2 i j hij (by omega)⟩

set_option maxHeartbeats 1000000 in
set_option maxRecDepth 100000 in
/-- laws.toKeyPoseS, of what came in. -/
theorem toKeyPoseS_any (A : Option Addr) (n cap : Nat) (ks : List Key) (w : World) (hp : KRow w A n ks) (hn : n ≤ 1048576) (ht : totK ks ≤ 1048576) :
    Calls Try.prog 28 #[.slice A n cap] w fun e w' => ∃ A' c' es, e = .returned (.slice A' n c') ∧ Keys w' w.heap.size (.slice A' n c') es ks ∧ Below w.heap.size w w' := by
  obtain ⟨i0, hi, hz0, hz1, hz2⟩ := info_parts infoKp
  have hby : i0.bytes * n ≤ 281474976710656 := by rw [hz2]; omega
  have HL := Lib.hid hp.1
  have HC := Lib.hid hp
  clear hp
  go_enter Try.func28, Try.ntmps28
  go_wp2_with (first | (at_make; refine wpList_make_full _ rfl _ _ 33 rfl w.heap.size 55 i0 (kv 0 (.slice none 0 0)) 2 Try.underlying33 hi hz0 hz1 .i64 .i64 (n : Int) (n : Int) n rfl rfl rfl rfl hby (by unfold maxLen; omega) (Nat.le_refl _) ?_; intro w1 hown1 hgrow1) | fail)
  have HO1 := Lib.hid hown1
  have HB1 := Lib.hid (Below.grown (Below.refl _ w) hgrow1 (Nat.le_refl _) (fun k hk => by cases hk))
  have hg1 : w.heap.size < w1.heap.size := (World.ownsRow.lt hown1 _ rfl).2
  clear hown1 hgrow1
  go_wp2
  go_loopw [4] (fun i wr => ∃ k : Nat, k ≤ n ∧ i = .int .i64 k ∧ Hid (∃ es, es.length = k ∧ wr.ownsRow w.heap.size 55 2 (.slice (some ⟨w.heap.size, 0, none⟩) n n) n (flatE (es ++ (List.replicate n e0).drop k)) ∧ Parts wr (w.heap.size + 1) es ks) ∧ Hid (Below w.heap.size w wr) ∧ w.heap.size < wr.heap.size) (fun i _ => n - (intOf i).toNat)
  case atStart =>
    refine ⟨0, Nat.zero_le _, rfl, Lib.hid ⟨[], rfl, ?_, ⟨fun i hi => by simp at hi, fun i j _ hj => by simp at hj⟩⟩, HB1, hg1⟩
    have h1 := HO1.out
    rw [made_flatE] at h1
    simpa using h1
  case round =>
    obtain ⟨k, hk, rfl, HO, HB, hbz⟩ := hrel
    by_cases hlt : k < n
    · obtain ⟨_, _, h3⟩ := HC.out.below HB.out
      rcases h3 with h0 | ⟨b, off, rfl, hb, h3⟩
      · omega
      obtain ⟨c0, A', c', c1, r⟩ := h3 k hlt
      have hrl : (ks.getD k Go.Proofs.Ytibafngidpmgdaa.k0).2.length ≤ 1048576 := Nat.le_trans (totK_get ks k (by rw [HL.out]; exact hlt)) ht
      clear h3
      have T := Lib.hid (toKeyPose_any (ks.getD k Go.Proofs.Ytibafngidpmgdaa.k0).1 A' (ks.getD k Go.Proofs.Ytibafngidpmgdaa.k0).2.length c' (ks.getD k Go.Proofs.Ytibafngidpmgdaa.k0).2 wr r hrl)
      clear r
      have HQ : ∀ v u, Pts u wr.heap.size v (ks.getD k Go.Proofs.Ytibafngidpmgdaa.k0).2 → Below wr.heap.size wr u → ∃ es, es.length = k + 1 ∧ Parts u (w.heap.size + 1) es ks ∧ u.ownsRow w.heap.size 55 2 (.slice (some ⟨w.heap.size, 0, none⟩) n n) n (flatE (es.take k ++ (List.replicate n e0).drop k)) ∧ (es.take k ++ (List.replicate n e0).drop k).set k ((ks.getD k Go.Proofs.Ytibafngidpmgdaa.k0).1, v) = es ++ (List.replicate n e0).drop (k + 1) := by
        intro v u hpv hbu
        obtain ⟨es, hel, hown, hpa⟩ := HO.out
        refine ⟨es ++ [((ks.getD k Go.Proofs.Ytibafngidpmgdaa.k0).1, v)], by simp [hel], hpa.snoc hbu hel hbz hpv, ?_, ?_⟩
        · rw [List.take_left' hel]
          exact ownsB hown hbu
        · rw [List.take_left' hel]
          exact put_stepE es _ k n hel hlt
      have HQ := Lib.hid HQ
      generalize (ks.getD k Go.Proofs.Ytibafngidpmgdaa.k0).1 = t at *
      generalize (ks.getD k Go.Proofs.Ytibafngidpmgdaa.k0).2.length = m at *
      go_wp2_with fail
      refine T.out.mono ?_
      rintro e u ⟨A2, c2, rfl, p2, hb2⟩
      obtain ⟨es, hel, hpa, hown, hset⟩ := HQ.out _ _ p2 hb2
      have HB3 := Lib.hid (bTrans HB.out hb2)
      have hbz3 := hb2.size
      clear hb2 T HQ HO p2
      obtain ⟨S1, S2⟩ := World.ownsRow.stored hown (k * 2) (.int .i64 t)
      obtain ⟨S3, S4⟩ := World.ownsRow.stored S1 (k * 2 + 1) (.slice A2 m c2)
      have e2 := flatE_set (es.take k ++ (List.replicate n e0).drop k) k (t, .slice A2 m c2)
      rw [hset] at e2
      simp only at e2
      rw [e2] at S3
      have hf0 : u.frozen? ⟨w.heap.size, k * 2, none⟩ = false := World.ownsRow.frozenAt hown _
      have hf1 : u.frozen? ⟨w.heap.size, k * 2 + 1, none⟩ = false := World.ownsRow.frozenAt hown _
      have hc0 : ∃ z, u.cell? ⟨w.heap.size, k * 2, none⟩ = some z := by
        rw [World.ownsRow.cellAt hown (k * 2) (by omega)]
        exact ⟨_, List.getElem?_eq_getElem (by rw [hown.1]; omega)⟩
      have hc1 : ∃ z, u.cell? ⟨w.heap.size, k * 2 + 1, none⟩ = some z := by
        rw [World.ownsRow.cellAt hown (k * 2 + 1) (by omega)]
        exact ⟨_, List.getElem?_eq_getElem (by rw [hown.1]; omega)⟩
      obtain ⟨z0, hc0⟩ := hc0
      obtain ⟨z1, hc1⟩ := hc1
      have H3 := Lib.hid S3
      have H4 := Lib.hid (Below.grown (Below.grown HB3.out S2 (by omega) (fun j hj => by injection hj; omega)) S4 (Nat.le_trans (by omega) S2.size) (fun j hj => by injection hj; omega))
      have H5 := Lib.hid (show Parts ((u.setCell ⟨w.heap.size, k * 2, none⟩ (.int .i64 t)).setCell ⟨w.heap.size, k * 2 + 1, none⟩ (.slice A2 m c2)) (w.heap.size + 1) es ks from
        hpa.chg (S := fun q => q = w.heap.size) (by refine Chg.set (Chg.set (Chg.refl _ _) ?_ _) ?_ _ <;> exact .inl rfl) (fun i hi q hq e => by
          have := (ownsLt (hpa.1 i hi).2 q hq).1
          omega))
      have HE := Lib.hid hel
      clear S1 S2 S3 S4 e2 hown hset hpa hel
      go_wp2
      go_roundw
      case rel => exact ⟨k + 1, by omega, by go_num, Lib.hid ⟨es, HE.out, H3.out, H5.out⟩, Lib.hid H4.out, by simp; omega⟩
      case measure => simp [intOf]; omega
    · have : k = n := by omega
      subst this
      obtain ⟨es, hel, hown, hpa⟩ := HO.out
      rw [List.drop_of_length_le (by simp), List.append_nil] at hown
      have H1 := Lib.hid ((hpa.base (show w.heap.size ≤ w.heap.size + 1 by omega)).keys (by rw [hel, HL.out]) (by rw [HL.out]; exact hown))
      clear hel hown hpa HO
      go_wp2
      go_ret
      exact ⟨_, _, es, rfl, H1.out, HB.out⟩

/-- laws.eqKeyPose, of two with one content. -/
theorem eqKeyPose_same (t : Int) (A A' : Option Addr) (n c c' : Nat) (ps : List Pt) (w : World) (hv : Rd w A n ps) (hu : Rd w A' n ps) :
    Calls Try.prog 97 #[kv t (.slice A n c), kv t (.slice A' n c')] w fun e w' => e = .returned (.bool true) ∧ Below w.heap.size w w' := by
  have HV := Lib.hid hv
  have HU := Lib.hid hu
  clear hv hu
  go_enter Try.func97, Try.ntmps97
  go_wp2_with fail
  refine (eqPointS_same A A' n c c' ps _ (HV.out.below (bAlloc (bAlloc (Below.refl _ _) _) _)) (HU.out.below (bAlloc (bAlloc (Below.refl _ _) _) _))).mono ?_
  rintro e u ⟨rfl, hb⟩
  go_wp2
  go_ret
  exact ⟨rfl, bTrans (bAlloc (bAlloc (Below.refl _ _) _) _) hb⟩

set_option maxHeartbeats 1000000 in
set_option maxRecDepth 100000 in
/-- laws.eqKeyPoseS, of two with one content. -/
theorem eqKeyPoseS_same (A A' : Option Addr) (n c c' : Nat) (ks : List Key) (w : World) (hv : RdK w A n ks) (hu : RdK w A' n ks) :
    Calls Try.prog 30 #[.slice A n c, .slice A' n c'] w fun e w' => e = .returned (.bool true) ∧ Below w.heap.size w w' := by
  have hn := hv.2.1
  have HV := Lib.hid hv
  have HU := Lib.hid hu
  clear hv hu
  go_enter Try.func30, Try.ntmps30
  go_wp2
  go_loopw [5] (fun i wr => ∃ k : Nat, k ≤ n ∧ i = .int .i64 k ∧ Hid (Below w.heap.size w wr)) (fun i _ => n - (intOf i).toNat)
  case atStart => exact ⟨0, Nat.zero_le _, rfl, Lib.hid (Below.refl _ _)⟩
  case round =>
    obtain ⟨k, hk, rfl, HB⟩ := hrel
    by_cases hlt : k < n
    · obtain ⟨_, _, h3⟩ := HV.out.below HB.out
      obtain ⟨_, _, h4⟩ := HU.out.below HB.out
      rcases h3 with h0 | ⟨g, rfl, hg, h3⟩
      · omega
      rcases h4 with h0 | ⟨d, rfl, hd, h4⟩
      · omega
      obtain ⟨c0, A1, d1, c1, r1⟩ := h3 k hlt
      obtain ⟨c2, A2, d2, c3, r2⟩ := h4 k hlt
      clear h3 h4
      have E := Lib.hid (fun u hb => eqKeyPose_same (ks.getD k Go.Proofs.Ytibafngidpmgdaa.k0).1 A1 A2 (ks.getD k Go.Proofs.Ytibafngidpmgdaa.k0).2.length d1 d2 (ks.getD k Go.Proofs.Ytibafngidpmgdaa.k0).2 u (r1.below hb) (r2.below hb))
      clear r1 r2
      generalize (ks.getD k Go.Proofs.Ytibafngidpmgdaa.k0).1 = t at *
      generalize (ks.getD k Go.Proofs.Ytibafngidpmgdaa.k0).2.length = m at *
      go_wp2
      go_region_held3 (fun w' => w'.cell? ⟨g, k * 2, none⟩ = some (.int .i64 t) ∧ w'.cell? ⟨g, k * 2 + 1, none⟩ = some (.slice A1 m d1) ∧ w'.cell? ⟨d, k * 2, none⟩ = some (.int .i64 t) ∧ w'.cell? ⟨d, k * 2 + 1, none⟩ = some (.slice A2 m d2)) (go_keep)
        (first | (go_at_call 97; refine (E.out _ (Below.drew (Below.refl _ _))).mono ?_; rintro e w2 ⟨rfl, hb2⟩; obtain ⟨hc3, hf3⟩ := bCells hb2; have e0 : w2.cell? ⟨g, k * 2, none⟩ = some (.int .i64 t) := (hc3 _ _ (by first | exact hg | simpa using hg)).trans (by first | exact c0 | simpa using c0); have e1 : w2.cell? ⟨g, k * 2 + 1, none⟩ = some (.slice A1 m d1) := (hc3 _ _ (by first | exact hg | simpa using hg)).trans (by first | exact c1 | simpa using c1); have e2 : w2.cell? ⟨d, k * 2, none⟩ = some (.int .i64 t) := (hc3 _ _ (by first | exact hd | simpa using hd)).trans (by first | exact c2 | simpa using c2); have e3 : w2.cell? ⟨d, k * 2 + 1, none⟩ = some (.slice A2 m d2) := (hc3 _ _ (by first | exact hd | simpa using hd)).trans (by first | exact c3 | simpa using c3)))
      all_goals go_wp2
      go_roundw
      case rel => exact ⟨k + 1, by omega, by go_num, Lib.hid (bTrans HB.out (bUndrew hb2))⟩
      case measure => simp [intOf]; omega
    · have : k = n := by omega
      subst this
      go_wp2
      go_ret
      exact ⟨rfl, HB.out⟩

/-- The marks that a statement lays into a list of key poses. -/
def marksK (m : Int) : List Key → List Key
  | [] => []
  | k :: ks => (m, marksP (m + 1) k.2.length) :: marksK (m + 1 + 2 * (k.2.length : Int)) ks
theorem marksK_length : ∀ (ks : List Key) (m : Int), (marksK m ks).length = ks.length
  | [], _ => rfl
  | k :: ks, m => by simp [marksK, marksK_length ks]
theorem marksK_tot : ∀ (ks : List Key) (m : Int), totK (marksK m ks) = totK ks
  | [], _ => rfl
  | k :: ks, m => by simp [marksK, totK, marksK_tot ks, marksP_length]
theorem marksK_get : ∀ (ks : List Key) (m : Int) (i : Nat), i < ks.length → (marksK m ks).getD i k0 = (m + (marksN (ks.take i) : Int), marksP (m + (marksN (ks.take i) : Int) + 1) (ks.getD i k0).2.length)
  | k :: ks, m, 0, _ => by simp [marksK, marksN]
  | k :: ks, m, i + 1, h => by
    have := marksK_get ks (m + 1 + 2 * (k.2.length : Int)) i (by simpa using h)
    simp only [marksK, List.getD_cons_succ, List.take_succ_cons, marksN]
    rw [this]
    have e : m + 1 + 2 * (k.2.length : Int) + (marksN (ks.take i) : Int) = m + ((1 + 2 * k.2.length + marksN (ks.take i) : Nat) : Int) := by omega
    rw [e]
theorem marksK_step : ∀ (ks : List Key) (m : Int) (i : Nat), i < ks.length → (marksK m (ks.take i) ++ ks.drop i).set i (m + (marksN (ks.take i) : Int), marksP (m + (marksN (ks.take i) : Int) + 1) (ks.getD i k0).2.length) = marksK m (ks.take (i + 1)) ++ ks.drop (i + 1)
  | k :: ks, m, 0, _ => by simp [marksK, marksN]
  | k :: ks, m, i + 1, h => by
    have := marksK_step ks (m + 1 + 2 * (k.2.length : Int)) i (by simpa using h)
    have e : m + 1 + 2 * (k.2.length : Int) + (marksN (ks.take i) : Int) = m + ((1 + 2 * k.2.length + marksN (ks.take i) : Nat) : Int) := by omega
    rw [e] at this
    rw [List.take_succ_cons, List.take_succ_cons, List.drop_succ_cons, List.drop_succ_cons, marksK, marksK, marksN, List.getD_cons_succ]
    simp only [List.cons_append, List.set_cons_succ]
    rw [this]
theorem marksN_take (ks : List Key) (i : Nat) (h : i < ks.length) : marksN (ks.take (i + 1)) = marksN (ks.take i) + 1 + 2 * (ks.getD i k0).2.length := by
  rw [marksN_tot, marksN_tot, totK_take ks i h, List.length_take, List.length_take]
  omega
theorem mixed_get (ks : List Key) (m : Int) (i : Nat) (h : i < ks.length) : (marksK m (ks.take i) ++ ks.drop i).getD i k0 = ks.getD i k0 := by
  have hl : (marksK m (ks.take i)).length = i := by rw [marksK_length, List.length_take]; omega
  rw [List.getD_eq_getElem?_getD, List.getElem?_append_right (by omega), hl, Nat.sub_self, List.getElem?_drop, Nat.add_zero, List.getD_eq_getElem?_getD]
theorem mixed_length (ks : List Key) (m : Int) (i : Nat) (h : i ≤ ks.length) : (marksK m (ks.take i) ++ ks.drop i).length = ks.length := by
  rw [List.length_append, marksK_length, List.length_take, List.length_drop]; omega

theorem getD_set {α : Type} (l : List α) (i j : Nat) (x d : α) (hi : i < l.length) : (l.set i x).getD j d = if j = i then x else l.getD j d := by
  rw [List.getD_eq_getElem?_getD, List.getElem?_set, List.getD_eq_getElem?_getD]
  by_cases h : i = j
  · subst h
    simp [hi]
  · rw [if_neg h, if_neg (fun e => h e.symm)]

/-- One key pose of a list of the call's own has been marked. -/
theorem Keys.mark {w w3 : World} {B g cap i : Nat} {t : Int} {qs : List Pt} {es : List Ent} {ks : List Key} (h : Keys w B (.slice (some ⟨g, 0, none⟩) ks.length cap) es ks) (hi : i < ks.length)
    (hp : Pts w3 B (es.getD i e0).2 qs) (hc : Chg (own1 (es.getD i e0).2) (w.setCell ⟨g, i * 2, none⟩ (.int .i64 t)) w3) :
    Keys w3 B (.slice (some ⟨g, 0, none⟩) ks.length cap) (es.set i (t, (es.getD i e0).2)) (ks.set i (t, qs)) ∧ Chg (ownE (.slice (some ⟨g, 0, none⟩) ks.length cap) es) w w3 := by
  obtain ⟨h1, h2, h3, h4⟩ := h
  obtain ⟨S1, S2⟩ := World.ownsRow.stored h2 (i * 2) (.int .i64 t)
  rw [flatE_set1 es i t (by omega)] at S1
  have hty : ∀ j, j < ks.length → Sep (own1 (.slice (some ⟨g, 0, none⟩) ks.length cap)) (own1 (es.getD j e0).2) := fun j hj => ownsTypes h2 (h3 j hj).2 (by decide)
  have c1 : Chg (fun q => q = g) w (w.setCell ⟨g, i * 2, none⟩ (.int .i64 t)) := by
    refine Chg.set (Chg.refl _ _) ?_ _
    exact .inl rfl
  refine ⟨⟨by simp [h1], ?_, ?_, ?_⟩, ?_⟩
  · rw [List.length_set]
    exact ownsChg S1 hc (hty i hi)
  · intro j hj
    rw [List.length_set] at hj
    rw [getD_set _ _ _ _ _ (by omega), getD_set _ _ _ _ _ hi]
    by_cases hji : j = i
    · subst hji
      rw [if_pos rfl, if_pos rfl]
      exact ⟨rfl, hp⟩
    · rw [if_neg hji, if_neg hji]
      refine ⟨(h3 j hj).1, ?_⟩
      have p1 := (h3 j hj).2.chg c1 (fun q hq e => hty j hj q (by rw [e]; rfl) hq)
      refine p1.chg hc ?_
      rcases Nat.lt_or_ge j i with hlt | hge
      · exact h4 j i hlt hi
      · exact (h4 i j (by omega) hj).symm
  · intro a b hab hb
    rw [List.length_set] at hb
    have key : ∀ j, ((es.set i (t, (es.getD i e0).2)).getD j e0).2 = (es.getD j e0).2 := by
      intro j
      rw [getD_set _ _ _ _ _ (by omega)]
      by_cases hji : j = i
      · rw [if_pos hji, hji]
      · rw [if_neg hji]
    rw [key, key]
    exact h4 a b hab hb
  · refine (c1.mono ?_).trans (hc.mono ?_)
    · rintro q rfl
      exact .inl rfl
    · intro q hq
      exact .inr ⟨i, by omega, hq⟩

theorem ownE_set {v : Value} {es : List Ent} {i : Nat} {t : Int} (hi : i < es.length) (k : Nat) : ownE v (es.set i (t, (es.getD i e0).2)) k ↔ ownE v es k := by
  have key : ∀ j, ((es.set i (t, (es.getD i e0).2)).getD j e0).2 = (es.getD j e0).2 := by
    intro j
    rw [getD_set _ _ _ _ _ hi]
    by_cases hji : j = i
    · rw [if_pos hji, hji]
    · rw [if_neg hji]
  unfold ownE
  simp only [key, List.length_set]

set_option maxHeartbeats 1000000 in
set_option maxRecDepth 100000 in
/-- laws.markKeyPoseS. -/
theorem markKeyPoseS_any (B : Nat) (m : Int) (v : Value) (es : List Ent) (ks : List Key) (w : World) (hv : Keys w B v es ks) (hm1 : 0 ≤ m) (hm2 : m ≤ 10000000) (hl : ks.length ≤ 1048576) (ht : totK ks ≤ 1048576) :
    Calls Try.prog 31 #[v, .int .i64 m] w fun e w' => e = .returned (.int .i64 (m + (marksN ks : Int))) ∧ (∃ es', Keys w' B v es' (marksK m ks) ∧ ∀ k, ownE v es' k ↔ ownE v es k) ∧ Chg (ownE v es) w w' := by
  have hv' := hv
  obtain ⟨h1, h2, _⟩ := hv
  rcases h2.2 with ⟨rfl, h0⟩ | ⟨g, cap, cur, rfl, _, _, _, _, _, _⟩
  · obtain rfl := List.length_eq_zero_iff.1 h0
    clear h1 h2
    go_enter Try.func31, Try.ntmps31
    go_wp2
    refine wp_loop_rounds 1 ?_
    rw [rounds_succ]
    go_wp2
    go_ret
    exact ⟨ret_int (by simp [marksN]), ⟨es, hv', fun _ => Iff.rfl⟩, Chg.refl _ _⟩
  · have HV := Lib.hid hv'
    clear hv' h1 h2
    go_enter Try.func31, Try.ntmps31
    go_wp2
    go_loopw [5, 1] (fun i q wr => ∃ k : Nat, k ≤ ks.length ∧ i = .int .i64 k ∧ q = .int .i64 (m + (marksN (ks.take k) : Int)) ∧ Hid ((∃ es', Keys wr B (.slice (some ⟨g, 0, none⟩) ks.length cap) es' (marksK m (ks.take k) ++ ks.drop k) ∧ ∀ q, ownE (.slice (some ⟨g, 0, none⟩) ks.length cap) es' q ↔ ownE (.slice (some ⟨g, 0, none⟩) ks.length cap) es q) ∧ Chg (ownE (.slice (some ⟨g, 0, none⟩) ks.length cap) es) w wr)) (fun i _ _ => ks.length - (intOf i).toNat)
    case atStart => exact ⟨0, Nat.zero_le _, rfl, by simp [marksN], Lib.hid ⟨⟨es, by simpa [marksK] using HV.out, fun _ => Iff.rfl⟩, Chg.refl _ _⟩⟩
    case round =>
      obtain ⟨k, hk, rfl, rfl, HO⟩ := hrel
      by_cases hlt : k < ks.length
      · obtain ⟨⟨es', hK, hiff⟩, hchg⟩ := HO.out
        have hml := mixed_length ks m k hk
        rw [← hml] at hK
        have hkl : k < (marksK m (ks.take k) ++ ks.drop k).length := by rw [hml]; exact hlt
        have hel : k < es'.length := by rw [hK.1]; exact hkl
        have hpk := (hK.2.2.1 k hkl).2
        rw [mixed_get ks m k hlt] at hpk
        have hown := hK.2.1
        have htk := totK_get ks k hlt
        have hmn := marksN_tot (ks.take k)
        have htl := totK_le ks k
        have hll : (ks.take k).length ≤ k := List.length_take_le _ _
        obtain ⟨A2, c2, hv2, r2⟩ := hpk.rd (by omega)
        have hty : Sep (own1 (es'.getD k e0).2) (own1 (.slice (some ⟨g, 0, none⟩) (marksK m (ks.take k) ++ ks.drop k).length cap)) := ownsTypes hpk hown (by decide)
        have hf0 : wr.frozen? ⟨g, k * 2, none⟩ = false := World.ownsRow.frozenAt hown _
        have hc0 : ∃ z, wr.cell? ⟨g, k * 2, none⟩ = some (.int .i64 z) := ⟨_, by rw [World.ownsRow.cellAt hown (k * 2) (by omega)]; exact (flatE_get es' k hel).1⟩
        have hc1 : wr.cell? ⟨g, k * 2 + 1, none⟩ = some (.slice A2 (ks.getD k Go.Proofs.Ytibafngidpmgdaa.k0).2.length c2) := by
          rw [World.ownsRow.cellAt hown (k * 2 + 1) (by omega), (flatE_get es' k hel).2, hv2]
        obtain ⟨z0, hc0⟩ := hc0
        have hset : ∀ x, Pts (wr.setCell ⟨g, k * 2, none⟩ x) B (.slice A2 (ks.getD k Go.Proofs.Ytibafngidpmgdaa.k0).2.length c2) (ks.getD k Go.Proofs.Ytibafngidpmgdaa.k0).2 := by
          intro x
          rw [← hv2]
          refine hpk.chg (S := fun q => q = g) (by refine Chg.set (Chg.refl _ _) ?_ _; exact .inl rfl) (fun q hq e => hty q hq (by rw [e]; rfl))
        have M := Lib.hid (fun x => markPointS_any B (m + (marksN (ks.take k) : Int) + 1) _ _ _ (hset x) (by omega) (by omega) (by omega))
        have HN := Lib.hid (show ((marksN (ks.take (k + 1)) : Nat) : Int) = (marksN (ks.take k) : Int) + 1 + 2 * ((ks.getD k Go.Proofs.Ytibafngidpmgdaa.k0).2.length : Int) by rw [marksN_take ks k hlt]; omega)
        have HS := Lib.hid (marksK_step ks m k hlt)
        have HK := Lib.hid hK
        have HV2 := Lib.hid hv2
        have HI := Lib.hid hiff
        have HC := Lib.hid hchg
        have HML := Lib.hid hml
        have HKL := Lib.hid hkl
        have hs0 : 0 ≤ (marksN (ks.take k) : Int) := by omega
        have hs1 : (marksN (ks.take k) : Int) ≤ 100000000 := by omega
        clear hset hK hiff hchg hml hkl hel hpk hown hmn hv2 r2 hty HO htl hll
        generalize ((marksN (ks.take k) : Nat) : Int) = T at *
        generalize (ks.getD k Go.Proofs.Ytibafngidpmgdaa.k0).2 = P at *
        go_wp2_with fail
        refine (M.out _).mono ?_
        rintro e u ⟨rfl, p3, g3, _⟩
        have hk3 := HK.out.mark (i := k) (w3 := u) (t := m + T) (qs := marksP (m + T + 1) P.length) HKL.out (by rw [HV2.out]; exact p3) (by rw [HV2.out]; exact Chg.ofGrown g3)
        rw [HS.out, HML.out] at hk3
        have H3 := Lib.hid hk3.1
        have H4 := Lib.hid (HC.out.trans (hk3.2.mono (fun q hq => (HI.out q).1 hq)))
        have H5 := Lib.hid (fun q => (ownE_set (v := .slice (some ⟨g, 0, none⟩) ks.length cap) (t := m + T) (show k < _ from by rw [HK.out.1]; exact HKL.out) q).trans (HI.out q))
        clear hk3 p3 g3 M
        go_wp2
        go_roundw
        case rel => exact ⟨k + 1, by omega, by go_num, by rw [HN.out]; congr 1; omega, Lib.hid ⟨⟨_, H3.out, H5.out⟩, H4.out⟩⟩
        case measure => simp [intOf]; omega
      · have : k = ks.length := by omega
        subst this
        have h1 := HO.out
        rw [List.drop_length, List.append_nil, List.take_length] at h1
        have H1 := Lib.hid h1
        have HT := Lib.hid (show ks.take ks.length = ks from List.take_length)
        clear h1
        rw [HT.out]
        go_wp2
        go_ret
        exact ⟨rfl, H1.out.1, H1.out.2⟩

set_option maxHeartbeats 1000000 in
set_option maxRecDepth 100000 in
/-- laws.heldKeyPoseS. -/
theorem heldKeyPoseS_any (m : Int) (A : Option Addr) (n c : Nat) (ks : List Key) (w : World) (hv : RdK w A n (marksK m ks)) (hm1 : 0 ≤ m) (hm2 : m ≤ 10000000) (ht : totK ks ≤ 1048576) :
    Calls Try.prog 32 #[.slice A n c, .int .i64 m] w fun e w' => e = .returned (.int .i64 (m + (marksN ks : Int))) ∧ w = w' := by
  have hn := hv.2.1
  have hnl := hv.1
  rw [marksK_length] at hnl
  have HL := Lib.hid hnl
  have HV := Lib.hid hv
  clear hv hnl
  go_enter Try.func32, Try.ntmps32
  go_wp2
  go_loop [5, 1] (fun i q => ∃ k : Nat, k ≤ n ∧ i = .int .i64 k ∧ q = .int .i64 (m + (marksN (ks.take k) : Int))) (fun i _ => n - (intOf i).toNat)
  case atStart => exact ⟨0, Nat.zero_le _, rfl, by simp [marksN]⟩
  case round =>
    obtain ⟨k, hk, rfl, rfl⟩ := hrel
    by_cases hlt : k < n
    · obtain ⟨_, _, h3⟩ := HV.out
      rcases h3 with h0 | ⟨g, rfl, hg, h3⟩
      · omega
      have hkl : k < ks.length := by rw [HL.out]; exact hlt
      obtain ⟨c0, A', c', c1, r1⟩ := h3 k hlt
      rw [marksK_get ks m k hkl] at c0 c1 r1
      simp only [marksP_length] at c0 c1 r1
      have HN := Lib.hid (show ((marksN (ks.take (k + 1)) : Nat) : Int) = (marksN (ks.take k) : Int) + 1 + 2 * ((ks.getD k Go.Proofs.Ytibafngidpmgdaa.k0).2.length : Int) by rw [marksN_take ks k hkl]; omega)
      have hmn := marksN_tot (ks.take k)
      have htl := totK_le ks k
      have hll : (ks.take k).length ≤ k := List.length_take_le _ _
      have htk := totK_get ks k hkl
      have hs0 : 0 ≤ (marksN (ks.take k) : Int) := by omega
      have hs1 : (marksN (ks.take k) : Int) ≤ 100000000 := by omega
      have M := Lib.hid (heldPointS_any (m + (marksN (ks.take k) : Int) + 1) _ A' c' w r1 (by omega) (by omega))
      clear h3 r1 hmn htl hll hkl
      generalize ((marksN (ks.take k) : Nat) : Int) = T at *
      generalize (ks.getD k Go.Proofs.Ytibafngidpmgdaa.k0).2.length = P at *
      go_wp2_with fail
      refine M.out.mono ?_
      rintro e u ⟨rfl, rfl⟩
      clear M
      go_wp2
      go_round
      case rel => exact ⟨k + 1, by omega, by go_num, by rw [HN.out]; congr 1; omega⟩
      case measure => simp [intOf]; omega
    · have : k = n := by omega
      subst this
      have HT := Lib.hid (show ks.take k = ks from List.take_of_length_le (by rw [HL.out]; exact Nat.le_refl _))
      rw [HT.out]
      go_wp2
      go_ret
      exact ⟨rfl, rfl⟩

end Go.Proofs.Ytibafngidpmgdaa
