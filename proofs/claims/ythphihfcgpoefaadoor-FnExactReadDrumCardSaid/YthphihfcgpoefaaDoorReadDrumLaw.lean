/- Drums read out of texts: the statement. -/
import Derived.Test.YthphihfcgpoefaaDoorProg
import Derived.Test.YthphihfcgpoefaaDoorTexts
import Derived.Test.YthphihfcgpoefaaDoorSplitM
import Derived.Test.YthphihfcgpoefaaDoorRead
import Derived.Test.YthphihfcgpoefaaDoorSpecRead
import Derived.Test.YthphihfcgpoefaaDoorSplitW
import Derived.Test.YthphihfcgpoefaaDoorSpecDrum
import Derived.Test.YthphihfcgpoefaaDoorReadDrum
import Derived.Test.YthphihfcgpoefaaDoorDrum
import Derived.Test.YthphihfcgpoefaaDoorShelf
import Derived.Laws.AppendOwn
import Derived.Laws.OwnMore
import Derived.OwnWalk
import Derived.Tactics
import Derived.Tactics2
import Derived.WalkKit
import Derived.LoopTactic
import Derived.BigQuiet
import Derived.RegionTactic
import Derived.Deep.QuietTactic
import Derived.Outline
import Derived.Lib.Hide
import Derived.Below
import Derived.KernelRfl
namespace Go.Proofs.YthphihfcgpoefaaDoor
set_option linter.unusedSimpArgs false
set_option linter.unusedVariables false
open Go.RowKit

theorem cut_free (b : Nat) (s : ByteArray) : ∀ i, (cutsB b s i = ([], 0) → ∀ k, k < i → ¬ (s.get! k).toNat = b) ∧ (∀ j, cutsB b s i = ([(0, j)], j + 1) → ∀ k, k < j → ¬ (s.get! k).toNat = b)
  | 0 => ⟨fun _ k hk => by omega, fun j h => by cases h⟩
  | i + 1 => by
    obtain ⟨h1, h2⟩ := cut_free b s i
    by_cases h : (s.get! i).toNat = b
    · rw [cutsB_at h]
      refine ⟨fun e => by simp at e, fun j e k hk => ?_⟩
      simp only [Prod.mk.injEq] at e
      obtain ⟨e1, e2⟩ := e
      have hij : i = j := by omega
      subst hij
      rcases cutsB_cases b s i with e | ⟨j', hj', hb', e⟩ | e
      · exact h1 e k hk
      · rw [e] at e1; simp at e1
      · have h5 : ((cutsB b s i).1 ++ [((cutsB b s i).2, i)]).length = 1 := by rw [e1]; rfl
        rw [List.length_append, List.length_singleton] at h5
        omega
    · rw [cutsB_not h]
      refine ⟨fun e k hk => ?_, h2⟩
      by_cases hki : k = i
      · rw [hki]; exact h
      · exact h1 e k (by omega)

theorem pieces_two {b : Nat} {s x y : ByteArray} (h : piecesB b s = [x, y]) : ∃ c : UInt8, c.toNat = b ∧ s.data.toList = x.data.toList ++ c :: y.data.toList ∧ ∀ z ∈ x.data.toList, ¬ z.toNat = b := by
  rcases cutsB_cases b s s.size with e | ⟨j, hj, hb, e⟩ | e
  · unfold piecesB partsB at h
    rw [e] at h
    simp at h
  · have hf := (cut_free b s s.size).2 j e
    unfold piecesB partsB at h
    rw [e] at h
    simp only [List.cons_append, List.nil_append, List.map_cons, List.map_nil, List.cons.injEq, and_true, piece] at h
    obtain ⟨rfl, rfl⟩ := h
    have hl := size_list s
    refine ⟨s.get! j, hb, ?_, ?_⟩
    · rw [ByteArray.data_extract, ByteArray.data_extract, Array.toList_extract, Array.toList_extract, get_data s j hj]
      simp only [List.extract_eq_take_drop, List.drop_zero, Nat.sub_zero]
      rw [List.take_of_length_le (l := List.drop (j + 1) s.data.toList) (by rw [List.length_drop]; omega), ← List.drop_eq_getElem_cons (by omega), List.take_append_drop]
    · intro z hz
      rw [ByteArray.data_extract, Array.toList_extract] at hz
      simp only [List.extract_eq_take_drop, List.drop_zero, Nat.sub_zero] at hz
      obtain ⟨k, hk, rfl⟩ := List.getElem_of_mem hz
      rw [List.length_take] at hk
      rw [List.getElem_take]
      have := hf k (by omega)
      rwa [get_data s k (by omega)] at this
  · have hlen : 3 ≤ (piecesB b s).length := by
      unfold piecesB partsB
      rw [List.length_map, List.length_append, List.length_singleton]
      omega
    rw [h] at hlen
    simp at hlen

theorem byte_eq {c : UInt8} {n : Nat} (h : c.toNat = n) (hn : n < 256) : c = UInt8.ofNat n := by
  apply UInt8.toNat_inj.1
  rw [h, UInt8.toNat_ofNat']
  omega

/-- The bytes of a decimal form are digits and a minus. -/
theorem dec_range (n : Int) : ∀ c ∈ decText n, c.toNat = 45 ∨ (48 ≤ c.toNat ∧ c.toNat ≤ 57) := by
  intro c hc
  unfold decText at hc
  split at hc
  · rcases List.mem_cons.1 hc with rfl | h
    · exact .inl (by decide)
    · exact .inr (isDig_iff.1 (all_digs _ c h))
  · exact .inr (isDig_iff.1 (all_digs _ c hc))
theorem dec_pos (n : Int) : 1 ≤ (decText n).length := by
  have := digs_length_pos n.natAbs
  unfold decText
  split
  · simp
  · exact this
theorem decS_list (n : Int) : (decS n).data.toList = decText n := by simp [decS]

/-- A text that has the form of a drum's: two parts between slashes, the first one two parts between letters x. -/
def Formed (s t c a m : ByteArray) : Prop := piecesB 47 s = [t, c] ∧ piecesB 120 t = [a, m]

theorem formed_cut {s t c a m : ByteArray} (h : Formed s t c a m) : Lib.cut s.data.toList [120] = (a.data.toList, (⟨(m.data.toList ++ 47 :: c.data.toList).toArray⟩ : ByteArray).data.toList, true) ∧
    Lib.cut (⟨(m.data.toList ++ 47 :: c.data.toList).toArray⟩ : ByteArray).data.toList [47] = (m.data.toList, c.data.toList, true) ∧ t.size ≤ s.size ∧ (⟨(m.data.toList ++ 47 :: c.data.toList).toArray⟩ : ByteArray).size ≤ s.size ∧ a.size ≤ s.size ∧ m.size ≤ s.size ∧ c.size ≤ s.size := by
  obtain ⟨h1, h2⟩ := h
  obtain ⟨c1, e1, s1, n1⟩ := pieces_two h1
  obtain ⟨c2, e2, s2, n2⟩ := pieces_two h2
  obtain rfl : c1 = 47 := (byte_eq (n := 47) e1 (by omega)).trans rfl
  obtain rfl : c2 = 120 := (byte_eq (n := 120) e2 (by omega)).trans rfl
  have na : ∀ x ∈ a.data.toList, ¬ x = 120 := fun x hx e => n2 x hx (by rw [e]; rfl)
  have nm : ∀ x ∈ m.data.toList, ¬ x = 47 := fun x hx e => n1 x (by rw [s2]; simp [hx]) (by rw [e]; rfl)
  have hs : s.data.toList = a.data.toList ++ 120 :: (m.data.toList ++ 47 :: c.data.toList) := by rw [s1, s2]; simp
  have l1 := congrArg List.length s1
  have l2 := congrArg List.length s2
  simp only [List.length_append, List.length_cons] at l1 l2
  refine ⟨?_, ?_, ?_, ?_, ?_, ?_, ?_⟩
  · rw [hs, cut_one na]
  · exact cut_one nm
  all_goals
    simp only [size_list, List.length_append, List.length_cons]
    omega

theorem cut_empty (b : UInt8) : Lib.cut [] [b] = ([], [], false) := cut_none (fun x hx => by cases hx)

/-- Three decimal forms in a drum's form: the text has this form. -/
theorem formed_of {s a t m c : ByteArray} {f1 f2 : Bool} {n1 n2 n3 : Int} (hx : Lib.cut s.data.toList [120] = (a.data.toList, t.data.toList, f1)) (hy : Lib.cut t.data.toList [47] = (m.data.toList, c.data.toList, f2))
    (ha : a = decS n1) (hm : m = decS n2) (hc : c = decS n3) : ∃ t', Formed s t' c a m := by
  have hlc : 1 ≤ c.data.toList.length := by rw [hc, decS_list]; exact dec_pos n3
  rcases cut_cases 47 t.data.toList with e | ⟨p, q, e, et⟩
  · rw [e] at hy
    simp only [Prod.mk.injEq] at hy
    rw [← hy.2.1] at hlc
    simp at hlc
  · rw [e] at hy
    simp only [Prod.mk.injEq] at hy
    obtain ⟨rfl, rfl, -⟩ := hy
    rcases cut_cases 120 s.data.toList with e2 | ⟨p, q, e2, es⟩
    · rw [e2] at hx
      simp only [Prod.mk.injEq] at hx
      have h0 := hx.2.1
      rw [et] at h0
      simp at h0
    · rw [e2] at hx
      simp only [Prod.mk.injEq] at hx
      obtain ⟨rfl, rfl, -⟩ := hx
      rw [et] at es
      have ra := dec_range n1
      rw [← decS_list, ← ha] at ra
      have rm := dec_range n2
      rw [← decS_list, ← hm] at rm
      have rc := dec_range n3
      rw [← decS_list, ← hc] at rc
      refine ⟨⟨(a.data.toList ++ 120 :: m.data.toList).toArray⟩, ?_, ?_⟩
      · refine pieces_one (l := a.data.toList ++ 120 :: m.data.toList) (r := c.data.toList) (c := 47) (by rw [es]; simp) rfl ?_ (fun x hx => by have := rc x hx; omega)
        intro x hx
        rcases List.mem_append.1 hx with h | h
        · have := ra x h; omega
        · rcases List.mem_cons.1 h with rfl | h
          · decide
          · have := rm x h; omega
      · exact pieces_one (l := a.data.toList) (r := m.data.toList) (c := 120) rfl rfl (fun x hx => by have := ra x hx; omega) (fun x hx => by have := rm x hx; omega)

theorem drumV_no1 {b2 b3 d : Bool} {n1 n2 n3 : Int} : drumV (false && b2 && b3 && d) n1 n2 n3 = drumV false n1 n2 n3 := rfl

/-- Both read the same. -/
theorem both_read (s : ByteArray) (w0 : World) (hs : s.size ≤ 1048576) (hl : ∃ m, w0.cell? ⟨0, 0, none⟩ = some (.int .i64 m)) (tp tq : TypeId) (p q : Value)
    (hv1 : ∀ u, Below w0.heap.size w0 u → u.var? Tryd.prog "strconv.ErrSyntax" = some #[.iface tp p]) (hv2 : ∀ u, Below w0.heap.size w0 u → u.var? Tryd.prog "strconv.ErrRange" = some #[.iface tq q]) :
    ∃ (x y z : Int) (b : Bool), (∀ w, Calls Tryd.prog 4 #[.string s] w fun e w' => e = .returned (.tuple #[dr x y z, .bool b]) ∧ Below w.heap.size w w') ∧
      (∀ w, Below w0.heap.size w0 w → Calls Tryd.prog 5 #[.string s] w fun e w' => e = .returned (.tuple #[dr x y z, .bool b]) ∧ Below w.heap.size w w') := by
  have hm : ∀ u, Below w0.heap.size w0 u → ∃ m, u.cell? ⟨0, 0, none⟩ = some (.int .i64 m) := by
    intro u hu
    obtain ⟨m, hm⟩ := hl
    exact ⟨m, (hu.cell (p := ⟨0, 0, none⟩) (World.block_lt_of_cell? w0 _ hm)).trans hm⟩
  by_cases hF : ∃ t c a m, Formed s t c a m
  · obtain ⟨t, c, a, m, hF⟩ := hF
    obtain ⟨hx, hy, z1, z2, z3, z4, z5⟩ := formed_cut hF
    obtain ⟨n1, b1, r1⟩ := rd_some a
    obtain ⟨n2, b2, r2⟩ := rd_some m
    obtain ⟨n3, b3, r3⟩ := rd_some c
    have S1 := fun w => r1.spec (by omega) w
    have S2 := fun w => r2.spec (by omega) w
    have S3 := fun w => r3.spec (by omega) w
    have I1 := fun (v : World) (hv : Below w0.heap.size w0 v) (u : World) (hu : Below v.heap.size v u) => r1.impl (by omega) u tp tq p q (hv1 u (bTrans hv hu)) (hv2 u (bTrans hv hu))
    have I2 := fun (v : World) (hv : Below w0.heap.size w0 v) (u : World) (hu : Below v.heap.size v u) => r2.impl (by omega) u tp tq p q (hv1 u (bTrans hv hu)) (hv2 u (bTrans hv hu))
    have I3 := fun (v : World) (hv : Below w0.heap.size w0 v) (u : World) (hu : Below v.heap.size v u) => r3.impl (by omega) u tp tq p q (hv1 u (bTrans hv hu)) (hv2 u (bTrans hv hu))
    cases b1
    · exact ⟨0, 0, 0, false, fun w => specDrum_no1 s t c a m n1 n2 n3 b2 b3 w hs (by omega) hF.1 hF.2 S1 S2 S3, fun v hv => implDrum_no1 s a _ m c _ _ n1 n2 n3 b2 b3 v hs (by omega) (hm v hv) hx hy (I1 v hv) (I2 v hv) (I3 v hv)⟩
    · cases b2
      · exact ⟨0, 0, 0, false, fun w => specDrum_no2 s t c a m n1 n2 n3 b3 w hs (by omega) hF.1 hF.2 S1 S2 S3, fun v hv => implDrum_no2 s a _ m c _ _ n1 n2 n3 b3 v hs (by omega) (hm v hv) hx hy (I1 v hv) (I2 v hv) (I3 v hv)⟩
      · cases b3
        · exact ⟨0, 0, 0, false, fun w => specDrum_no3 s t c a m n1 n2 n3 w hs (by omega) hF.1 hF.2 S1 S2 S3, fun v hv => implDrum_no3 s a _ m c _ _ n1 n2 n3 v hs (by omega) (hm v hv) hx hy (I1 v hv) (I2 v hv) (I3 v hv)⟩
        · cases hD : drumB n1 n2 n3
          · exact ⟨0, 0, 0, false, fun w => specDrum_no4 s t c a m n1 n2 n3 w hs (by omega) hF.1 hF.2 S1 S2 S3 hD, fun v hv => implDrum_no4 s a _ m c _ _ n1 n2 n3 v hs (by omega) (hm v hv) hx hy (I1 v hv) (I2 v hv) (I3 v hv) hD⟩
          · exact ⟨n1, n2, n3, true, fun w => specDrum_yes s t c a m n1 n2 n3 w hs (by omega) hF.1 hF.2 S1 S2 S3 hD, fun v hv => implDrum_yes s a _ m c _ _ n1 n2 n3 v hs (by omega) (hm v hv) hx hy (I1 v hv) (I2 v hv) (I3 v hv) hD⟩
  · refine ⟨0, 0, 0, false, fun w => ?_, fun v hv => ?_⟩
    · by_cases h2 : (piecesB 47 s).length = 2
      · obtain ⟨t, c, e⟩ : ∃ t c, piecesB 47 s = [t, c] := by
          match hp : piecesB 47 s, h2 with
          | [t, c], _ => exact ⟨t, c, rfl⟩
        have hz : t.size ≤ 1048576 := by
          obtain ⟨c1, e1, s1, -⟩ := pieces_two e
          have l1 := congrArg List.length s1
          simp only [List.length_append, List.length_cons, ← size_list] at l1
          omega
        by_cases h3 : (piecesB 120 t).length = 2
        · obtain ⟨a, m, e2⟩ : ∃ a m, piecesB 120 t = [a, m] := by
            match hp : piecesB 120 t, h3 with
            | [a, m], _ => exact ⟨a, m, rfl⟩
          exact absurd ⟨t, c, a, m, e, e2⟩ hF
        · exact specDrum_parts2 s t c w hs hz e h3
      · exact specDrum_parts s w hs h2
    · obtain ⟨l1, l2, f1, hx⟩ : ∃ l1 l2 f1, Lib.cut s.data.toList [120] = (l1, l2, f1) := ⟨_, _, _, rfl⟩
      obtain ⟨l3, l4, f2, hy⟩ : ∃ l3 l4 f2, Lib.cut l2 [47] = (l3, l4, f2) := ⟨_, _, _, rfl⟩
      have hx' : Lib.cut s.data.toList [120] = ((⟨l1.toArray⟩ : ByteArray).data.toList, (⟨l2.toArray⟩ : ByteArray).data.toList, f1) := by simpa using hx
      have hy' : Lib.cut (⟨l2.toArray⟩ : ByteArray).data.toList [47] = ((⟨l3.toArray⟩ : ByteArray).data.toList, (⟨l4.toArray⟩ : ByteArray).data.toList, f2) := by simpa using hy
      have z1 : l1.length ≤ s.size ∧ l2.length ≤ s.size := by
        rw [size_list]
        rcases cut_cases 120 s.data.toList with e | ⟨a, r, e, es⟩
        · rw [e] at hx; simp only [Prod.mk.injEq] at hx; obtain ⟨rfl, rfl, -⟩ := hx; simp
        · rw [e] at hx; simp only [Prod.mk.injEq] at hx; obtain ⟨rfl, rfl, -⟩ := hx; rw [es]; simp; omega
      have z2 : l3.length ≤ s.size ∧ l4.length ≤ s.size := by
        rcases cut_cases 47 l2 with e | ⟨a, r, e, es⟩
        · rw [e] at hy; simp only [Prod.mk.injEq] at hy; obtain ⟨rfl, rfl, -⟩ := hy; simp; omega
        · rw [e] at hy
          simp only [Prod.mk.injEq] at hy
          obtain ⟨rfl, rfl, -⟩ := hy
          have := congrArg List.length es
          simp at this
          omega
      have y1 : ∀ l : List UInt8, (⟨l.toArray⟩ : ByteArray).size = l.length := fun l => by simp [ByteArray.size]
      generalize (⟨l1.toArray⟩ : ByteArray) = a at *
      obtain ⟨n1, b1, r1⟩ := rd_some a
      obtain ⟨n2, b2, r2⟩ := rd_some ⟨l3.toArray⟩
      obtain ⟨n3, b3, r3⟩ := rd_some ⟨l4.toArray⟩
      have ya : a.size ≤ 1048576 := by
        have := congrArg (fun z => z.1.length) (hx.symm.trans hx')
        simp only at this
        rw [size_list]; omega
      have I1 := fun (u : World) (hu : Below v.heap.size v u) => r1.impl (by omega) u tp tq p q (hv1 u (bTrans hv hu)) (hv2 u (bTrans hv hu))
      have I2 := fun (u : World) (hu : Below v.heap.size v u) => r2.impl (by rw [y1]; omega) u tp tq p q (hv1 u (bTrans hv hu)) (hv2 u (bTrans hv hu))
      have I3 := fun (u : World) (hu : Below v.heap.size v u) => r3.impl (by rw [y1]; omega) u tp tq p q (hv1 u (bTrans hv hu)) (hv2 u (bTrans hv hu))
      have y2 : (⟨l2.toArray⟩ : ByteArray).size ≤ 1048576 := by rw [y1]; omega
      cases b1
      · exact implDrum_no1 s a _ _ _ _ _ n1 n2 n3 b2 b3 v hs y2 (hm v hv) hx' hy' I1 I2 I3
      · cases b2
        · exact implDrum_no2 s a _ _ _ _ _ n1 n2 n3 b3 v hs y2 (hm v hv) hx' hy' I1 I2 I3
        · cases b3
          · exact implDrum_no3 s a _ _ _ _ _ n1 n2 n3 v hs y2 (hm v hv) hx' hy' I1 I2 I3
          · exfalso
            rcases r1 with ⟨-, -, e1⟩ | ⟨h, -, -⟩
            · rcases r2 with ⟨-, -, e2⟩ | ⟨h, -, -⟩
              · rcases r3 with ⟨-, -, e3⟩ | ⟨h, -, -⟩
                · obtain ⟨t', ht'⟩ := formed_of hx' hy' e1 e2 e3
                  exact hF ⟨t', _, _, _, ht'⟩
                · cases h
              · cases h
            · cases h

/-- laws.eqDrum. -/
theorem eqDrum_same (r h s : Int) (w : World) :
    Calls Tryd.prog 6 #[dr r h s, dr r h s] w fun e w' => e = .returned (.bool true) ∧ Below w.heap.size w w' := by
  go_enter Tryd.func6, Tryd.ntmps6
  go_wp2
  go_ret
  exact ⟨rfl, by repeat (first | exact Below.refl _ _ | refine bAlloc ?_ _)⟩

/-- laws.FnExactReadDrum, where the library's variables hold what they are laid with. -/
theorem law_ReadDrum (s : ByteArray) (w : World) (hm : s.size ≤ maxLen) (hl : ∃ m, w.cell? ⟨0, 0, none⟩ = some (.int .i64 m)) (tp tq : TypeId) (p q : Value)
    (hv1 : ∀ u, Below w.heap.size w u → u.var? Tryd.prog "strconv.ErrSyntax" = some #[.iface tp p]) (hv2 : ∀ u, Below w.heap.size w u → u.var? Tryd.prog "strconv.ErrRange" = some #[.iface tq q]) :
    Calls Tryd.prog 3 #[.string s] w fun e w' => e = .returned (.bool true) ∧ Below w.heap.size w w' := by
  by_cases hs : s.size ≤ 1048576
  · obtain ⟨x, y, z, b, hS, hI⟩ := both_read s w hs hl tp tq p q hv1 hv2
    have S := Lib.hid hS
    have I := Lib.hid hI
    clear hS hI hv1 hv2 hl
    go_enter Tryd.func3, Tryd.ntmps3
    go_wp2_with fail
    refine (S.out _).mono ?_
    rintro e u1 ⟨rfl, hb1⟩
    have B1 := bdNew u1 x y z
    have HB1 := Lib.hid (bAlloc hb1 (.cells #[.int .i64 x, .int .i64 y, .int .i64 z] 23))
    have hz1 := hb1.size
    clear hb1
    go_wp2_with fail
    generalize u1.alloc (.cells #[.int .i64 x, .int .i64 y, .int .i64 z] 23) = v1 at *
    generalize u1.heap.size = k1 at *
    refine (I.out _ HB1.out).mono ?_
    rintro e u2 ⟨rfl, hb2⟩
    obtain ⟨c0, c1, c2, hl1⟩ := B1.below hb2
    have HB2 := Lib.hid (bAlloc (bTrans HB1.out hb2) (.cells #[.int .i64 x, .int .i64 y, .int .i64 z] 23))
    clear hb2
    have hne : ¬ k1 = u2.heap.size := by omega
    have hne2 : ¬ u2.heap.size = k1 := by omega
    go_wp2_with fail
    refine (eqDrum_same _ _ _ _).mono ?_
    rintro e u3 ⟨rfl, hb3⟩
    cases b
    all_goals go_wp2_with fail
    all_goals go_ret
    all_goals exact ⟨rfl, bTrans HB2.out hb3⟩
  · unfold maxLen at hm
    have hs' : 1048576 < s.size := by omega
    go_enter Tryd.func3, Tryd.ntmps3
    go_wp2_with fail
    go_ret
    exact ⟨rfl, Below.refl _ _⟩

end Go.Proofs.YthphihfcgpoefaaDoor
