/- The text of a fraction, read: in the program and in the model; and the statement's own walk. -/
import Derived.Test.YtmgkoijnjhfinaaDoorProg
import Derived.Test.YtmgkoijnjhfinaaDoorTexts
import Derived.Test.YtmgkoijnjhfinaaDoorFracMath
import Derived.Test.YtmgkoijnjhfinaaDoorRead
import Derived.Test.YtmgkoijnjhfinaaDoorFull
import Derived.Laws.AppendOwn
import Derived.Laws.OwnMore
import Derived.OwnWalk
import Derived.Tactics
import Derived.Tactics2
import Derived.WalkKit
import Derived.LoopTactic
import Derived.BigQuiet
import Derived.RegionTactic
import Derived.Deep.QuietTactic
import Derived.Outline
import Derived.Lib.Hide
import Derived.Below
import Derived.KernelRfl
namespace Go.Proofs.YtmgkoijnjhfinaaDoor
set_option linter.unusedSimpArgs false
set_option linter.unusedVariables false
open Go.RowKit

/-- The bytes of a decimal form are digits and a minus. -/
theorem dec_noslash (n : Int) : ∀ c ∈ decText n, ¬ c.toNat = 47 := by
  intro c hc
  unfold decText at hc
  split at hc
  · rcases List.mem_cons.1 hc with rfl | h
    · decide
    · have := isDig_iff.1 (all_digs _ c h); omega
  · have := isDig_iff.1 (all_digs _ c hc); omega
theorem dec_noslash' (n : Int) : ∀ c ∈ decText n, ¬ c = 47 := fun c hc e => dec_noslash n c hc (by rw [e]; rfl)
theorem dec_pos (n : Int) : 1 ≤ (decText n).length := by
  have := digs_length_pos n.natAbs
  unfold decText
  split
  · simp
  · exact this
theorem decB_S {n : Int} (h : n.natAbs < 10 ^ 18) : decB n = decS n := by
  have hp : (10 : Nat) ^ 18 = 1000000000000000000 := by decide
  exact decB_eq (by omega) (by omega)
theorem ok_small {n d : Int} (h : okB n d = true) : n.natAbs < 10 ^ 18 ∧ d.natAbs < 10 ^ 18 ∧ 1 ≤ d := by
  have hp : (10 : Nat) ^ 18 = 1000000000000000000 := by decide
  have := okB_bd h
  omega
/-- The text of a fraction, by bytes. -/
theorem frac_whole {n d : Int} (h : okB n d = true) (hd : d = 1) : fracB n d = decS n := by
  rw [show fracB n d = decB n from if_pos hd, decB_S (ok_small h).1]
theorem frac_parts {n d : Int} (h : okB n d = true) (hd : ¬ d = 1) : (fracB n d).data.toList = decText n ++ 47 :: decText d := by
  rw [show fracB n d = (decB n ++ ⟨#[47]⟩) ++ decB d from if_neg hd, decB_S (ok_small h).1, decB_S (ok_small h).2.1]
  unfold decS
  rw [slash_bytes]
/-- A text that is no fraction's. -/
def NoFrac (s : ByteArray) : Prop := ∀ n d : Int, okB n d = true → fracB n d ≠ s

theorem text_bytes {a b : ByteArray} (h : a.data.toList = b.data.toList) : a = b := ByteArray.ext (Array.toList_inj.1 h)

theorem infoStr : (Tryd.prog.info? 9).map (fun i => (i.zero, i.size, i.bytes)) = some (some (.string ⟨#[]⟩), 1, 16) := by kernel_rfl
theorem one_newS (w : World) (x : ByteArray) (t : TypeId) : ∀ j u, [Value.string x][j]? = some u → (w.alloc (.cells #[.string x] t)).cell? ((⟨w.heap.size, 0, none⟩ : Addr).add j) = some u := by
  intro j u hj
  match j, hj with
  | 0, hj =>
    simp at hj
    subst hj
    simp [Addr.add]
theorem one_cellS (x : ByteArray) : ∀ u ∈ [Value.string x], u.oneCell' = true := by
  intro u hu
  simp at hu
  subst hu
  rfl
theorem get_at (s : ByteArray) (k : Nat) (h : k < s.size) : (s.get! k).toNat = (s[k]'h).toNat := by
  have : s.get! k = s[k]'h := by
    show s.data[k]! = s.data[k]
    exact getElem!_pos s.data k h
  rw [this]

set_option maxHeartbeats 2000000 in
/-- spec.l01Split, between slashes. -/
theorem l01Split_slash (s : ByteArray) (w : World) (hs : s.size ≤ 1048576) :
    Calls Tryd.prog 33 #[.string s, .int .u8 47] w fun e w' => ∃ v, e = .returned v ∧ Strs w' w.heap.size v (piecesB 47 s) ∧ Below w.heap.size w w' := by
  obtain ⟨i0, hi, hz0, hz1, hz2⟩ := info_parts infoStr
  go_enter Tryd.func33, Tryd.ntmps33
  go_wp2
  go_loopw [7, 6, 5] (fun i f v wr => ∃ k a : Nat, k ≤ s.size ∧ i = .int .i64 k ∧ f = .int .i64 a ∧ Hid (a = (cutsB 47 s k).2) ∧ a ≤ k ∧ Hid (wr.ownsRow w.heap.size 9 1 v (cutsB 47 s k).1.length (((cutsB 47 s k).1.map (piece s)).map Value.string)) ∧ Hid (Below w.heap.size w wr)) (fun i _ _ _ => s.size - (intOf i).toNat)
  case atStart => exact ⟨0, 0, Nat.zero_le _, rfl, rfl, Lib.hid rfl, Nat.le_refl _, Lib.hid (World.ownsRow_lit w #[] 0 (Nat.le_refl _) (Nat.zero_le _) rfl), Lib.hid (bAlloc (Below.refl _ _) _)⟩
  case round =>
    obtain ⟨k, a, hk, rfl, rfl, HA, hak, HO, HB⟩ := hrel
    have hbz := HB.out.size
    have hcl := cutsB_length 47 s k
    by_cases hlt : k < s.size
    · have hget := get_at s k hlt
      by_cases h47 : (s.get! k).toNat = 47
      · have HC := Lib.hid (cutsB_at (b := 47) h47)
        have hb : (((s[k]'hlt).toNat : Int) == 47) = true := by rw [beq_iff_eq, ← hget]; omega
        clear h47 hget
        go_wp2_with (first | (at_builtin; refine wpList_append_own _ rfl _ _ 53 rfl w.heap.size 9 i0 (.string ⟨#[]⟩) 1 16 Tryd.underlying53 hi hz0 hz1 hz2 rfl (by decide) _ _ _ rfl (HO.out.alloc _) ⟨wr.heap.size, 0, none⟩ 1 1 [.string (s.extract a k)] rfl rfl (one_newS _ _ _) (one_cellS _) (by unfold maxLen; omega) (by omega) (by simp; omega) ?_; intro v' w1 hown' hgrow hnil))
        have HO' := Lib.hid hown'
        have HB' := Lib.hid (Below.grown (bAlloc HB.out _) hgrow (by simp; omega) (fun j hj => (World.ownsRow.lt HO.out j hj).1))
        clear hown' hgrow hnil
        go_wp2
        go_roundw
        case rel => exact ⟨k + 1, k + 1, by omega, by go_num, by go_num, Lib.hid (by rw [HC.out]), Nat.le_refl _, Lib.hid (by rw [HC.out, List.map_append, List.map_append, List.length_append, ← HA.out]; exact HO'.out), HB'⟩
        case measure => simp [intOf]; omega
      · have HC := Lib.hid (cutsB_not (b := 47) h47)
        have hb : (((s[k]'hlt).toNat : Int) == 47) = false := by rw [beq_eq_false_iff_ne, ← hget]; omega
        clear h47 hget
        go_wp2
        go_roundw
        case rel => exact ⟨k + 1, a, by omega, by go_num, rfl, Lib.hid (by rw [HC.out]; exact HA.out), by omega, Lib.hid (by rw [HC.out]; exact HO.out), HB⟩
        case measure => simp [intOf]; omega
    · have : k = s.size := by omega
      subst this
      go_wp2_with (first | (at_builtin; refine wpList_append_own _ rfl _ _ 53 rfl w.heap.size 9 i0 (.string ⟨#[]⟩) 1 16 Tryd.underlying53 hi hz0 hz1 hz2 rfl (by decide) _ _ _ rfl (HO.out.alloc _) ⟨wr.heap.size, 0, none⟩ 1 1 [.string (s.extract a s.size)] rfl rfl (one_newS _ _ _) (one_cellS _) (by unfold maxLen; omega) (by omega) (by simp; omega) ?_; intro v' w1 hown' hgrow hnil))
      have HO' := Lib.hid hown'
      have HB' := Lib.hid (Below.grown (bAlloc HB.out _) hgrow (by simp; omega) (fun j hj => (World.ownsRow.lt HO.out j hj).1))
      clear hown' hgrow hnil
      go_wp2
      go_ret
      refine ⟨_, rfl, ?_, HB'.out⟩
      unfold Strs piecesB partsB
      rw [List.length_map, List.length_append, List.map_append, List.map_append, ← HA.out]
      exact HO'.out

set_option maxHeartbeats 2000000 in
theorem specFr_one_no (s t : ByteArray) (n : Int) (w : World) (hs : s.size ≤ 1048576) (hp : piecesB 47 s = [t]) (hn : I64 n)
    (hN : ∀ w, Calls Tryd.prog 31 #[.string t] w fun e w' => e = .returned (.tuple #[.int .i64 n, .bool false]) ∧ Below w.heap.size w w') :
    Calls Tryd.prog 18 #[.string s] w fun e w' => e = .returned (.tuple #[fr 0 0, .bool false]) ∧ Below w.heap.size w w' := by
  obtain ⟨n1, n2⟩ := hn
  have C := Lib.hid (fun w => l01Split_slash s w hs)
  rw [hp] at C
  have N1 := Lib.hid hN
  clear hp hs hN
  go_enter Tryd.func18, Tryd.ntmps18
  go_wp2_with fail
  refine (C.out _).mono ?_
  rintro e u1 ⟨v, rfl, io, hb1⟩
  rcases io.view with ⟨_, h0⟩ | ⟨g, cap, rfl, _, hg, _, hc, _⟩
  · cases h0
  have c0 : u1.cell? ⟨g, 0, none⟩ = some (.string t) := hc 0 (by simp)
  have B0 : Bk u1 w.heap.size 0 0 := bkOf hb1 (by refine ⟨?_, ?_, ?_, ?_, ?_⟩ <;> go_simp)
  have H : Below w.heap.size w u1 := bTrans (bAlloc (Below.refl _ _) _) hb1
  clear io hc hb1
  go_wp2_with fail
  refine (N1.out _).mono ?_
  rintro e u2 ⟨rfl, hb2⟩
  have B0 := bkOf hb2 B0
  have H := bTrans H hb2
  clear hb2 N1 C
  have hne : ¬ w.heap.size = u2.heap.size := by have := B0.2.2.2.2; omega
  obtain ⟨i0, i1, j0, j1, l5⟩ := id B0
  have q1 := Nat.ne_of_lt l5
  go_wp2_with fail
  all_goals
    refine bodyPost_ret (v := .tuple #[fr 0 0, .bool false]) (by simp [results, Tryd.results18, go_sem, i0, i1, l5, q1]) rfl ⟨rfl, ?_⟩
    repeat (first | exact H | refine bSet ?_ (by first | (simp; done) | (simp; omega)) _ | refine bAlloc ?_ _)

set_option maxHeartbeats 2000000 in
theorem specFr_one_bad (s t : ByteArray) (n : Int) (w : World) (hs : s.size ≤ 1048576) (hp : piecesB 47 s = [t]) (hn : I64 n) (hk : okB n 1 = false)
    (hN : ∀ w, Calls Tryd.prog 31 #[.string t] w fun e w' => e = .returned (.tuple #[.int .i64 n, .bool true]) ∧ Below w.heap.size w w') :
    Calls Tryd.prog 18 #[.string s] w fun e w' => e = .returned (.tuple #[fr 0 0, .bool false]) ∧ Below w.heap.size w w' := by
  obtain ⟨n1, n2⟩ := hn
  have C := Lib.hid (fun w => l01Split_slash s w hs)
  rw [hp] at C
  have N1 := Lib.hid hN
  clear hp hs hN
  go_enter Tryd.func18, Tryd.ntmps18
  go_wp2_with fail
  refine (C.out _).mono ?_
  rintro e u1 ⟨v, rfl, io, hb1⟩
  rcases io.view with ⟨_, h0⟩ | ⟨g, cap, rfl, _, hg, _, hc, _⟩
  · cases h0
  have c0 : u1.cell? ⟨g, 0, none⟩ = some (.string t) := hc 0 (by simp)
  have B0 : Bk u1 w.heap.size 0 0 := bkOf hb1 (by refine ⟨?_, ?_, ?_, ?_, ?_⟩ <;> go_simp)
  have H : Below w.heap.size w u1 := bTrans (bAlloc (Below.refl _ _) _) hb1
  clear io hc hb1
  go_wp2_with fail
  refine (N1.out _).mono ?_
  rintro e u2 ⟨rfl, hb2⟩
  have B0 := bkOf hb2 B0
  have H := bTrans H hb2
  clear hb2 N1 C
  have hne : ¬ w.heap.size = u2.heap.size := by have := B0.2.2.2.2; omega
  go_wp2_with fail
  have A9 : Bk (u2.alloc (.cells #[.int .i64 n, .int .i64 1] 25)) u2.heap.size n 1 := by refine ⟨?_, ?_, ?_, ?_, ?_⟩ <;> go_simp
  have B0 := bkOf (bAlloc (Below.refl u2.heap.size u2) (.cells #[.int .i64 n, .int .i64 1] 25)) B0
  have H := bAlloc H (.cells #[.int .i64 n, .int .i64 1] 25)
  generalize u2.alloc (.cells #[.int .i64 n, .int .i64 1] 25) = v9 at *
  generalize u2.heap.size = g9 at *
  obtain ⟨i0, i1, j0, j1, l5⟩ := id B0
  obtain ⟨i2, i3, j2, j3, l6⟩ := id A9
  have q1 := Nat.ne_of_lt l5
  have q2 := Nat.ne_of_lt l6
  have q3 : ¬ w.heap.size = g9 := hne
  have q4 : ¬ g9 = w.heap.size := fun e => hne e.symm
  refine (l02Ok_any _ _ _ (by omega) (by omega)).mono ?_
  rw [hk]
  rintro e u4 ⟨rfl, hb4⟩
  have A9 := bkOf hb4 A9
  have B0 := bkOf hb4 B0
  have H := bTrans H hb4
  clear i0 i1 j0 j1 l5 i2 i3 j2 j3 l6 q1 q2 q3 q4 hb4
  obtain ⟨i0, i1, j0, j1, l5⟩ := id B0
  obtain ⟨i2, i3, j2, j3, l6⟩ := id A9
  have q1 := Nat.ne_of_lt l5
  have q2 := Nat.ne_of_lt l6
  have q3 : ¬ w.heap.size = g9 := hne
  have q4 : ¬ g9 = w.heap.size := fun e => hne e.symm
  go_wp2_with fail
  refine bodyPost_ret (v := .tuple #[fr 0 0, .bool false]) (by simp [results, Tryd.results18, go_sem, i0, i1, i2, i3, l5, q1, q2, q3, q4]) rfl ⟨rfl, ?_⟩
  repeat (first | exact H | refine bSet ?_ (by first | (simp; done) | (simp; omega)) _ | refine bAlloc ?_ _)

set_option maxHeartbeats 2000000 in
theorem specFr_one_ok (s t : ByteArray) (n : Int) (w : World) (hs : s.size ≤ 1048576) (hp : piecesB 47 s = [t]) (hn : I64 n) (hk : okB n 1 = true)
    (hN : ∀ w, Calls Tryd.prog 31 #[.string t] w fun e w' => e = .returned (.tuple #[.int .i64 n, .bool true]) ∧ Below w.heap.size w w') :
    Calls Tryd.prog 18 #[.string s] w fun e w' => e = .returned (.tuple #[fr n 1, .bool true]) ∧ Below w.heap.size w w' := by
  obtain ⟨n1, n2⟩ := hn
  have C := Lib.hid (fun w => l01Split_slash s w hs)
  rw [hp] at C
  have N1 := Lib.hid hN
  clear hp hs hN
  go_enter Tryd.func18, Tryd.ntmps18
  go_wp2_with fail
  refine (C.out _).mono ?_
  rintro e u1 ⟨v, rfl, io, hb1⟩
  rcases io.view with ⟨_, h0⟩ | ⟨g, cap, rfl, _, hg, _, hc, _⟩
  · cases h0
  have c0 : u1.cell? ⟨g, 0, none⟩ = some (.string t) := hc 0 (by simp)
  have B0 : Bk u1 w.heap.size 0 0 := bkOf hb1 (by refine ⟨?_, ?_, ?_, ?_, ?_⟩ <;> go_simp)
  have H : Below w.heap.size w u1 := bTrans (bAlloc (Below.refl _ _) _) hb1
  clear io hc hb1
  go_wp2_with fail
  refine (N1.out _).mono ?_
  rintro e u2 ⟨rfl, hb2⟩
  have B0 := bkOf hb2 B0
  have H := bTrans H hb2
  clear hb2 N1 C
  have hne : ¬ w.heap.size = u2.heap.size := by have := B0.2.2.2.2; omega
  go_wp2_with fail
  have A9 : Bk (u2.alloc (.cells #[.int .i64 n, .int .i64 1] 25)) u2.heap.size n 1 := by refine ⟨?_, ?_, ?_, ?_, ?_⟩ <;> go_simp
  have B0 := bkOf (bAlloc (Below.refl u2.heap.size u2) (.cells #[.int .i64 n, .int .i64 1] 25)) B0
  have H := bAlloc H (.cells #[.int .i64 n, .int .i64 1] 25)
  generalize u2.alloc (.cells #[.int .i64 n, .int .i64 1] 25) = v9 at *
  generalize u2.heap.size = g9 at *
  obtain ⟨i0, i1, j0, j1, l5⟩ := id B0
  obtain ⟨i2, i3, j2, j3, l6⟩ := id A9
  have q1 := Nat.ne_of_lt l5
  have q2 := Nat.ne_of_lt l6
  have q3 : ¬ w.heap.size = g9 := hne
  have q4 : ¬ g9 = w.heap.size := fun e => hne e.symm
  refine (l02Ok_any _ _ _ (by omega) (by omega)).mono ?_
  rw [hk]
  rintro e u4 ⟨rfl, hb4⟩
  have A9 := bkOf hb4 A9
  have B0 := bkOf hb4 B0
  have H := bTrans H hb4
  clear i0 i1 j0 j1 l5 i2 i3 j2 j3 l6 q1 q2 q3 q4 hb4
  obtain ⟨i0, i1, j0, j1, l5⟩ := id B0
  obtain ⟨i2, i3, j2, j3, l6⟩ := id A9
  have q1 := Nat.ne_of_lt l5
  have q2 := Nat.ne_of_lt l6
  have q3 : ¬ w.heap.size = g9 := hne
  have q4 : ¬ g9 = w.heap.size := fun e => hne e.symm
  go_wp2_with fail
  refine bodyPost_ret (v := .tuple #[fr n 1, .bool true]) (by simp [results, Tryd.results18, go_sem, i0, i1, i2, i3, l5, q1, q2, q3, q4]) rfl ⟨rfl, ?_⟩
  repeat (first | exact H | refine bSet ?_ (by first | (simp; done) | (simp; omega)) _ | refine bAlloc ?_ _)

set_option maxHeartbeats 2000000 in
theorem specFr_two_no (s t u : ByteArray) (n d : Int) (b : Bool) (w : World) (hs : s.size ≤ 1048576) (hp : piecesB 47 s = [t, u]) (hn : I64 n) (hd : I64 d)
    (hN : ∀ w, Calls Tryd.prog 31 #[.string t] w fun e w' => e = .returned (.tuple #[.int .i64 n, .bool false]) ∧ Below w.heap.size w w')
    (hM : ∀ w, Calls Tryd.prog 31 #[.string u] w fun e w' => e = .returned (.tuple #[.int .i64 d, .bool b]) ∧ Below w.heap.size w w') :
    Calls Tryd.prog 18 #[.string s] w fun e w' => e = .returned (.tuple #[fr 0 0, .bool false]) ∧ Below w.heap.size w w' := by
  obtain ⟨n1, n2⟩ := hn
  obtain ⟨d1, d2⟩ := hd
  have C := Lib.hid (fun w => l01Split_slash s w hs)
  rw [hp] at C
  have N1 := Lib.hid hN
  have N2 := Lib.hid hM
  clear hp hs hN hM
  go_enter Tryd.func18, Tryd.ntmps18
  go_wp2_with fail
  refine (C.out _).mono ?_
  rintro e u1 ⟨v, rfl, io, hb1⟩
  rcases io.view with ⟨_, h0⟩ | ⟨g, cap, rfl, _, hg, _, hc, _⟩
  · cases h0
  have c0 : u1.cell? ⟨g, 0, none⟩ = some (.string t) := hc 0 (by simp)
  have c1 : u1.cell? ⟨g, 1, none⟩ = some (.string u) := hc 1 (by simp)
  have B0 : Bk u1 w.heap.size 0 0 := bkOf hb1 (by refine ⟨?_, ?_, ?_, ?_, ?_⟩ <;> go_simp)
  have H : Below w.heap.size w u1 := bTrans (bAlloc (Below.refl _ _) _) hb1
  clear io hc hb1
  go_wp2_with fail
  refine (N1.out _).mono ?_
  rintro e u2 ⟨rfl, hb2⟩
  have B0 := bkOf hb2 B0
  have H := bTrans H hb2
  have c1 := (hb2.cell (p := ⟨g, 1, none⟩) (by exact hg)).trans c1
  have hg2 := Nat.lt_of_lt_of_le hg hb2.size
  clear hb2 N1 C
  go_wp2_with fail
  refine (N2.out _).mono ?_
  rintro e u3 ⟨rfl, hb3⟩
  have B0 := bkOf hb3 B0
  have H := bTrans H hb3
  clear hb3 N2
  have hne : ¬ w.heap.size = u3.heap.size := by have := B0.2.2.2.2; omega
  obtain ⟨i0, i1, j0, j1, l5⟩ := id B0
  have q1 := Nat.ne_of_lt l5
  go_wp2_with fail
  all_goals
    refine bodyPost_ret (v := .tuple #[fr 0 0, .bool false]) (by simp [results, Tryd.results18, go_sem, i0, i1, l5, q1]) rfl ⟨rfl, ?_⟩
    repeat (first | exact H | refine bSet ?_ (by first | (simp; done) | (simp; omega)) _ | refine bAlloc ?_ _)

set_option maxHeartbeats 2000000 in
theorem specFr_two_no2 (s t u : ByteArray) (n d : Int) (w : World) (hs : s.size ≤ 1048576) (hp : piecesB 47 s = [t, u]) (hn : I64 n) (hd : I64 d)
    (hN : ∀ w, Calls Tryd.prog 31 #[.string t] w fun e w' => e = .returned (.tuple #[.int .i64 n, .bool true]) ∧ Below w.heap.size w w')
    (hM : ∀ w, Calls Tryd.prog 31 #[.string u] w fun e w' => e = .returned (.tuple #[.int .i64 d, .bool false]) ∧ Below w.heap.size w w') :
    Calls Tryd.prog 18 #[.string s] w fun e w' => e = .returned (.tuple #[fr 0 0, .bool false]) ∧ Below w.heap.size w w' := by
  obtain ⟨n1, n2⟩ := hn
  obtain ⟨d1, d2⟩ := hd
  have C := Lib.hid (fun w => l01Split_slash s w hs)
  rw [hp] at C
  have N1 := Lib.hid hN
  have N2 := Lib.hid hM
  clear hp hs hN hM
  go_enter Tryd.func18, Tryd.ntmps18
  go_wp2_with fail
  refine (C.out _).mono ?_
  rintro e u1 ⟨v, rfl, io, hb1⟩
  rcases io.view with ⟨_, h0⟩ | ⟨g, cap, rfl, _, hg, _, hc, _⟩
  · cases h0
  have c0 : u1.cell? ⟨g, 0, none⟩ = some (.string t) := hc 0 (by simp)
  have c1 : u1.cell? ⟨g, 1, none⟩ = some (.string u) := hc 1 (by simp)
  have B0 : Bk u1 w.heap.size 0 0 := bkOf hb1 (by refine ⟨?_, ?_, ?_, ?_, ?_⟩ <;> go_simp)
  have H : Below w.heap.size w u1 := bTrans (bAlloc (Below.refl _ _) _) hb1
  clear io hc hb1
  go_wp2_with fail
  refine (N1.out _).mono ?_
  rintro e u2 ⟨rfl, hb2⟩
  have B0 := bkOf hb2 B0
  have H := bTrans H hb2
  have c1 := (hb2.cell (p := ⟨g, 1, none⟩) (by exact hg)).trans c1
  have hg2 := Nat.lt_of_lt_of_le hg hb2.size
  clear hb2 N1 C
  go_wp2_with fail
  refine (N2.out _).mono ?_
  rintro e u3 ⟨rfl, hb3⟩
  have B0 := bkOf hb3 B0
  have H := bTrans H hb3
  clear hb3 N2
  have hne : ¬ w.heap.size = u3.heap.size := by have := B0.2.2.2.2; omega
  obtain ⟨i0, i1, j0, j1, l5⟩ := id B0
  have q1 := Nat.ne_of_lt l5
  go_wp2_with fail
  all_goals
    refine bodyPost_ret (v := .tuple #[fr 0 0, .bool false]) (by simp [results, Tryd.results18, go_sem, i0, i1, l5, q1]) rfl ⟨rfl, ?_⟩
    repeat (first | exact H | refine bSet ?_ (by first | (simp; done) | (simp; omega)) _ | refine bAlloc ?_ _)

set_option maxHeartbeats 2000000 in
theorem specFr_two_unit (s t u : ByteArray) (n d : Int) (w : World) (hs : s.size ≤ 1048576) (hp : piecesB 47 s = [t, u]) (hn : I64 n) (hd : I64 d) (h1 : d = 1)
    (hN : ∀ w, Calls Tryd.prog 31 #[.string t] w fun e w' => e = .returned (.tuple #[.int .i64 n, .bool true]) ∧ Below w.heap.size w w')
    (hM : ∀ w, Calls Tryd.prog 31 #[.string u] w fun e w' => e = .returned (.tuple #[.int .i64 d, .bool true]) ∧ Below w.heap.size w w') :
    Calls Tryd.prog 18 #[.string s] w fun e w' => e = .returned (.tuple #[fr 0 0, .bool false]) ∧ Below w.heap.size w w' := by
  obtain ⟨n1, n2⟩ := hn
  obtain ⟨d1, d2⟩ := hd
  have C := Lib.hid (fun w => l01Split_slash s w hs)
  rw [hp] at C
  have N1 := Lib.hid hN
  have N2 := Lib.hid hM
  clear hp hs hN hM
  have hdb : (d != 1) = false := by rw [h1]; rfl
  go_enter Tryd.func18, Tryd.ntmps18
  go_wp2_with fail
  refine (C.out _).mono ?_
  rintro e u1 ⟨v, rfl, io, hb1⟩
  rcases io.view with ⟨_, h0⟩ | ⟨g, cap, rfl, _, hg, _, hc, _⟩
  · cases h0
  have c0 : u1.cell? ⟨g, 0, none⟩ = some (.string t) := hc 0 (by simp)
  have c1 : u1.cell? ⟨g, 1, none⟩ = some (.string u) := hc 1 (by simp)
  have B0 : Bk u1 w.heap.size 0 0 := bkOf hb1 (by refine ⟨?_, ?_, ?_, ?_, ?_⟩ <;> go_simp)
  have H : Below w.heap.size w u1 := bTrans (bAlloc (Below.refl _ _) _) hb1
  clear io hc hb1
  go_wp2_with fail
  refine (N1.out _).mono ?_
  rintro e u2 ⟨rfl, hb2⟩
  have B0 := bkOf hb2 B0
  have H := bTrans H hb2
  have c1 := (hb2.cell (p := ⟨g, 1, none⟩) (by exact hg)).trans c1
  have hg2 := Nat.lt_of_lt_of_le hg hb2.size
  clear hb2 N1 C
  go_wp2_with fail
  refine (N2.out _).mono ?_
  rintro e u3 ⟨rfl, hb3⟩
  have B0 := bkOf hb3 B0
  have H := bTrans H hb3
  clear hb3 N2
  have hne : ¬ w.heap.size = u3.heap.size := by have := B0.2.2.2.2; omega
  obtain ⟨i0, i1, j0, j1, l5⟩ := id B0
  have q1 := Nat.ne_of_lt l5
  go_wp2_with fail
  all_goals
    refine bodyPost_ret (v := .tuple #[fr 0 0, .bool false]) (by simp [results, Tryd.results18, go_sem, i0, i1, l5, q1]) rfl ⟨rfl, ?_⟩
    repeat (first | exact H | refine bSet ?_ (by first | (simp; done) | (simp; omega)) _ | refine bAlloc ?_ _)

set_option maxHeartbeats 2000000 in
theorem specFr_two_bad (s t u : ByteArray) (n d : Int) (w : World) (hs : s.size ≤ 1048576) (hp : piecesB 47 s = [t, u]) (hn : I64 n) (hd : I64 d) (h1 : ¬ d = 1) (hk : okB n d = false)
    (hN : ∀ w, Calls Tryd.prog 31 #[.string t] w fun e w' => e = .returned (.tuple #[.int .i64 n, .bool true]) ∧ Below w.heap.size w w')
    (hM : ∀ w, Calls Tryd.prog 31 #[.string u] w fun e w' => e = .returned (.tuple #[.int .i64 d, .bool true]) ∧ Below w.heap.size w w') :
    Calls Tryd.prog 18 #[.string s] w fun e w' => e = .returned (.tuple #[fr 0 0, .bool false]) ∧ Below w.heap.size w w' := by
  obtain ⟨n1, n2⟩ := hn
  obtain ⟨d1, d2⟩ := hd
  have C := Lib.hid (fun w => l01Split_slash s w hs)
  rw [hp] at C
  have N1 := Lib.hid hN
  have N2 := Lib.hid hM
  clear hp hs hN hM
  have hdb : (d != 1) = true := by rw [bne_iff_ne]; exact h1
  go_enter Tryd.func18, Tryd.ntmps18
  go_wp2_with fail
  refine (C.out _).mono ?_
  rintro e u1 ⟨v, rfl, io, hb1⟩
  rcases io.view with ⟨_, h0⟩ | ⟨g, cap, rfl, _, hg, _, hc, _⟩
  · cases h0
  have c0 : u1.cell? ⟨g, 0, none⟩ = some (.string t) := hc 0 (by simp)
  have c1 : u1.cell? ⟨g, 1, none⟩ = some (.string u) := hc 1 (by simp)
  have B0 : Bk u1 w.heap.size 0 0 := bkOf hb1 (by refine ⟨?_, ?_, ?_, ?_, ?_⟩ <;> go_simp)
  have H : Below w.heap.size w u1 := bTrans (bAlloc (Below.refl _ _) _) hb1
  clear io hc hb1
  go_wp2_with fail
  refine (N1.out _).mono ?_
  rintro e u2 ⟨rfl, hb2⟩
  have B0 := bkOf hb2 B0
  have H := bTrans H hb2
  have c1 := (hb2.cell (p := ⟨g, 1, none⟩) (by exact hg)).trans c1
  have hg2 := Nat.lt_of_lt_of_le hg hb2.size
  clear hb2 N1 C
  go_wp2_with fail
  refine (N2.out _).mono ?_
  rintro e u3 ⟨rfl, hb3⟩
  have B0 := bkOf hb3 B0
  have H := bTrans H hb3
  clear hb3 N2
  have hne : ¬ w.heap.size = u3.heap.size := by have := B0.2.2.2.2; omega
  go_wp2_with fail
  have A9 : Bk (u3.alloc (.cells #[.int .i64 n, .int .i64 d] 25)) u3.heap.size n d := by refine ⟨?_, ?_, ?_, ?_, ?_⟩ <;> go_simp
  have B0 := bkOf (bAlloc (Below.refl u3.heap.size u3) (.cells #[.int .i64 n, .int .i64 d] 25)) B0
  have H := bAlloc H (.cells #[.int .i64 n, .int .i64 d] 25)
  generalize u3.alloc (.cells #[.int .i64 n, .int .i64 d] 25) = v9 at *
  generalize u3.heap.size = g9 at *
  obtain ⟨i0, i1, j0, j1, l5⟩ := id B0
  obtain ⟨i2, i3, j2, j3, l6⟩ := id A9
  have q1 := Nat.ne_of_lt l5
  have q2 := Nat.ne_of_lt l6
  have q3 : ¬ w.heap.size = g9 := hne
  have q4 : ¬ g9 = w.heap.size := fun e => hne e.symm
  refine (l02Ok_any _ _ _ (by omega) (by omega)).mono ?_
  rw [hk]
  rintro e u4 ⟨rfl, hb4⟩
  have A9 := bkOf hb4 A9
  have B0 := bkOf hb4 B0
  have H := bTrans H hb4
  clear i0 i1 j0 j1 l5 i2 i3 j2 j3 l6 q1 q2 q3 q4 hb4
  obtain ⟨i0, i1, j0, j1, l5⟩ := id B0
  obtain ⟨i2, i3, j2, j3, l6⟩ := id A9
  have q1 := Nat.ne_of_lt l5
  have q2 := Nat.ne_of_lt l6
  have q3 : ¬ w.heap.size = g9 := hne
  have q4 : ¬ g9 = w.heap.size := fun e => hne e.symm
  go_wp2_with fail
  refine bodyPost_ret (v := .tuple #[fr 0 0, .bool false]) (by simp [results, Tryd.results18, go_sem, i0, i1, i2, i3, l5, q1, q2, q3, q4]) rfl ⟨rfl, ?_⟩
  repeat (first | exact H | refine bSet ?_ (by first | (simp; done) | (simp; omega)) _ | refine bAlloc ?_ _)

set_option maxHeartbeats 2000000 in
theorem specFr_two_ok (s t u : ByteArray) (n d : Int) (w : World) (hs : s.size ≤ 1048576) (hp : piecesB 47 s = [t, u]) (hn : I64 n) (hd : I64 d) (h1 : ¬ d = 1) (hk : okB n d = true)
    (hN : ∀ w, Calls Tryd.prog 31 #[.string t] w fun e w' => e = .returned (.tuple #[.int .i64 n, .bool true]) ∧ Below w.heap.size w w')
    (hM : ∀ w, Calls Tryd.prog 31 #[.string u] w fun e w' => e = .returned (.tuple #[.int .i64 d, .bool true]) ∧ Below w.heap.size w w') :
    Calls Tryd.prog 18 #[.string s] w fun e w' => e = .returned (.tuple #[fr n d, .bool true]) ∧ Below w.heap.size w w' := by
  obtain ⟨n1, n2⟩ := hn
  obtain ⟨d1, d2⟩ := hd
  have C := Lib.hid (fun w => l01Split_slash s w hs)
  rw [hp] at C
  have N1 := Lib.hid hN
  have N2 := Lib.hid hM
  clear hp hs hN hM
  have hdb : (d != 1) = true := by rw [bne_iff_ne]; exact h1
  go_enter Tryd.func18, Tryd.ntmps18
  go_wp2_with fail
  refine (C.out _).mono ?_
  rintro e u1 ⟨v, rfl, io, hb1⟩
  rcases io.view with ⟨_, h0⟩ | ⟨g, cap, rfl, _, hg, _, hc, _⟩
  · cases h0
  have c0 : u1.cell? ⟨g, 0, none⟩ = some (.string t) := hc 0 (by simp)
  have c1 : u1.cell? ⟨g, 1, none⟩ = some (.string u) := hc 1 (by simp)
  have B0 : Bk u1 w.heap.size 0 0 := bkOf hb1 (by refine ⟨?_, ?_, ?_, ?_, ?_⟩ <;> go_simp)
  have H : Below w.heap.size w u1 := bTrans (bAlloc (Below.refl _ _) _) hb1
  clear io hc hb1
  go_wp2_with fail
  refine (N1.out _).mono ?_
  rintro e u2 ⟨rfl, hb2⟩
  have B0 := bkOf hb2 B0
  have H := bTrans H hb2
  have c1 := (hb2.cell (p := ⟨g, 1, none⟩) (by exact hg)).trans c1
  have hg2 := Nat.lt_of_lt_of_le hg hb2.size
  clear hb2 N1 C
  go_wp2_with fail
  refine (N2.out _).mono ?_
  rintro e u3 ⟨rfl, hb3⟩
  have B0 := bkOf hb3 B0
  have H := bTrans H hb3
  clear hb3 N2
  have hne : ¬ w.heap.size = u3.heap.size := by have := B0.2.2.2.2; omega
  go_wp2_with fail
  have A9 : Bk (u3.alloc (.cells #[.int .i64 n, .int .i64 d] 25)) u3.heap.size n d := by refine ⟨?_, ?_, ?_, ?_, ?_⟩ <;> go_simp
  have B0 := bkOf (bAlloc (Below.refl u3.heap.size u3) (.cells #[.int .i64 n, .int .i64 d] 25)) B0
  have H := bAlloc H (.cells #[.int .i64 n, .int .i64 d] 25)
  generalize u3.alloc (.cells #[.int .i64 n, .int .i64 d] 25) = v9 at *
  generalize u3.heap.size = g9 at *
  obtain ⟨i0, i1, j0, j1, l5⟩ := id B0
  obtain ⟨i2, i3, j2, j3, l6⟩ := id A9
  have q1 := Nat.ne_of_lt l5
  have q2 := Nat.ne_of_lt l6
  have q3 : ¬ w.heap.size = g9 := hne
  have q4 : ¬ g9 = w.heap.size := fun e => hne e.symm
  refine (l02Ok_any _ _ _ (by omega) (by omega)).mono ?_
  rw [hk]
  rintro e u4 ⟨rfl, hb4⟩
  have A9 := bkOf hb4 A9
  have B0 := bkOf hb4 B0
  have H := bTrans H hb4
  clear i0 i1 j0 j1 l5 i2 i3 j2 j3 l6 q1 q2 q3 q4 hb4
  obtain ⟨i0, i1, j0, j1, l5⟩ := id B0
  obtain ⟨i2, i3, j2, j3, l6⟩ := id A9
  have q1 := Nat.ne_of_lt l5
  have q2 := Nat.ne_of_lt l6
  have q3 : ¬ w.heap.size = g9 := hne
  have q4 : ¬ g9 = w.heap.size := fun e => hne e.symm
  go_wp2_with fail
  refine bodyPost_ret (v := .tuple #[fr n d, .bool true]) (by simp [results, Tryd.results18, go_sem, i0, i1, i2, i3, l5, q1, q2, q3, q4]) rfl ⟨rfl, ?_⟩
  repeat (first | exact H | refine bSet ?_ (by first | (simp; done) | (simp; omega)) _ | refine bAlloc ?_ _)

set_option maxHeartbeats 2000000 in
theorem specFr_more (s t : ByteArray) (n : Int) (r : List ByteArray) (w : World) (hs : s.size ≤ 1048576) (b : Bool) (hp : piecesB 47 s = t :: r) (hr : 2 ≤ r.length) (hn : I64 n)
    (hN : ∀ w, Calls Tryd.prog 31 #[.string t] w fun e w' => e = .returned (.tuple #[.int .i64 n, .bool b]) ∧ Below w.heap.size w w') :
    Calls Tryd.prog 18 #[.string s] w fun e w' => e = .returned (.tuple #[fr 0 0, .bool false]) ∧ Below w.heap.size w w' := by
  obtain ⟨n1, n2⟩ := hn
  have C := Lib.hid (fun w => l01Split_slash s w hs)
  rw [hp] at C
  have N1 := Lib.hid hN
  have hr1 : ¬ ((r.length + 1 : Nat) : Int) = 1 := by omega
  have hr2 : ¬ ((r.length + 1 : Nat) : Int) = 2 := by omega
  clear hp hs hN
  go_enter Tryd.func18, Tryd.ntmps18
  go_wp2_with fail
  refine (C.out _).mono ?_
  rintro e u1 ⟨v, rfl, io, hb1⟩
  rcases io.view with ⟨_, h0⟩ | ⟨g, cap, rfl, _, hg, _, hc, _⟩
  · cases h0
  have c0 : u1.cell? ⟨g, 0, none⟩ = some (.string t) := hc 0 (by simp)
  have B0 : Bk u1 w.heap.size 0 0 := bkOf hb1 (by refine ⟨?_, ?_, ?_, ?_, ?_⟩ <;> go_simp)
  have H : Below w.heap.size w u1 := bTrans (bAlloc (Below.refl _ _) _) hb1
  clear io hc hb1
  go_wp2_with fail
  refine (N1.out _).mono ?_
  rintro e u2 ⟨rfl, hb2⟩
  have B0 := bkOf hb2 B0
  have H := bTrans H hb2
  clear hb2 N1 C
  have hne : ¬ w.heap.size = u2.heap.size := by have := B0.2.2.2.2; omega
  obtain ⟨i0, i1, j0, j1, l5⟩ := id B0
  have q1 := Nat.ne_of_lt l5
  go_wp2_with fail
  all_goals
    refine bodyPost_ret (v := .tuple #[fr 0 0, .bool false]) (by simp [results, Tryd.results18, go_sem, i0, i1, l5, q1]) rfl ⟨rfl, ?_⟩
    repeat (first | exact H | refine bSet ?_ (by first | (simp; done) | (simp; omega)) _ | refine bAlloc ?_ _)

end Go.Proofs.YtmgkoijnjhfinaaDoor
