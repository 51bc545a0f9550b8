/- spec.WorstSlit (plain). -/
import Derived.Test.YtibafngidpmgdabNearM
import Derived.Test.YtibafngidpmgdabPlaces
import Derived.LoopTactic
import Derived.BigQuiet
namespace Go.Proofs.Ytibafngidpmgdab
open Go.RowKit
set_option linter.unusedSimpArgs false
set_option linter.unusedVariables false

theorem l00MinW_any (a b : Int) (w : World) :
    Calls Try.prog 72 #[.int .i64 a, .int .i64 b] w fun e w' => e = .returned (.int .i64 (min a b)) ∧ w = w' := by
  by_cases h : a < b
  · go_enter Try.func72, Try.ntmps72
    go_wp2
    go_ret
    exact ⟨ret_int (by omega), rfl⟩
  · go_enter Try.func72, Try.ntmps72
    go_wp2
    go_ret
    exact ⟨ret_int (by omega), rfl⟩

/-- The distances of the slits from their nearest places. -/
def distsL (r : Int) (ss ts : List Int) : List Int := ss.map fun x => leastD r x ts r

theorem leastD_snoc (r x : Int) (ts : List Int) (q : Nat) (h : q < ts.length) (a : Int) : leastD r x (ts.take (q + 1)) a = min (leastD r x (ts.take q) a) (circI r x (ts.getD q 0)) := by
  have e : ts.take (q + 1) = ts.take q ++ [ts.getD q 0] := by
    rw [List.take_add_one]
    simp [h]
  rw [e, leastD, List.foldl_append]
  rfl
theorem worstF_drop (ds : List Int) (k : Nat) (h : k < ds.length) (a g : Int) : worstF (ds.drop k) k a g = if g < ds.getD k 0 then worstF (ds.drop (k + 1)) ((k : Int) + 1) k (ds.getD k 0) else worstF (ds.drop (k + 1)) ((k : Int) + 1) a g := by
  rw [List.drop_eq_getElem_cons h]
  have e : ds.getD k 0 = ds[k] := by simp [h]
  rw [e]
  rfl

set_option maxHeartbeats 4000000 in
set_option maxRecDepth 100000 in
theorem specWorst_ok (r h : Int) (n p : Nat) (w : World) (h1 : drumB r h n = true) (h2 : inB p 1 48 = true) (hs : ∀ j, j < n → 0 ≤ (placesL r n).getD j 0 ∧ (placesL r n).getD j 0 ≤ r) (ht : ∀ j, j < p → 0 ≤ (placesL r p).getD j 0 ∧ (placesL r p).getD j 0 ≤ r) :
    Calls Try.prog 41 #[dr r h n, .int .i64 p] w fun e w' => e = .returned (.tuple #[.int .i64 (worstF (distsL r (placesL r n) (placesL r p)) 0 0 (-1)).1, .int .i64 (worstF (distsL r (placesL r n) (placesL r p)) 0 0 (-1)).2, .int .i64 0]) ∧ Below w.heap.size w w' := by
  obtain ⟨⟨ra, rb⟩, _, n1, n2⟩ := drumB_yes h1
  have hp := inB_iff.1 h2
  have ls := placesL_length r n
  have lt := placesL_length r p
  have lds : (distsL r (placesL r n) (placesL r p)).length = n := by simp [distsL, ls]
  have hds : ∀ k, k < n → (distsL r (placesL r n) (placesL r p)).getD k 0 = leastD r ((placesL r n).getD k 0) (placesL r p) r := by
    intro k hk
    have : k < (placesL r n).length := by omega
    simp [distsL, this]
  have P1 := Lib.hid (fun u B => l07Places_any w.heap.size r h n n u B (by omega) (by omega) (by omega) (by omega))
  have P2 := Lib.hid (fun u B => l07Places_any w.heap.size r h n p u B (by omega) (by omega) (by omega) (by omega))
  generalize placesL r n = ss at *
  generalize placesL r p = ts at *
  generalize hdd : distsL r ss ts = ds at *
  have HDS := Lib.hid hds
  have HS := Lib.hid hs
  have HT := Lib.hid ht
  have WF := Lib.hid (worstF_drop ds)
  have LT := Lib.hid lt
  have LD := Lib.hid lds
  clear hds hs ht hdd lt lds
  have hc : (code2 r h n (inB p 1 48)) = 0 := by simp [code2, h1, h2]
  go_enter Try.func41, Try.ntmps41
  go_wp2_with fail
  refine (l07Many_any _ r h n p _ (bdNew _ _ _ _)).mono ?_
  rintro e u ⟨rfl, rfl⟩
  rw [hc]
  obtain ⟨b0, b1, b2, b3⟩ := bdNew w r h n
  go_wp2_with fail
  refine (P1.out _ (bdNew _ _ _ _)).mono ?_
  rintro e u ⟨v1, rfl, io1, hb1⟩
  have B1 := Lib.hid ((bdNew w r h n).below hb1)
  have K1 := Lib.hid (bTrans (bAlloc (Below.refl _ w) _) hb1)
  have IO1 := Lib.hid io1
  have HB1 := Lib.hid hb1
  clear hb1 io1 b0 b1 b2 b3
  obtain ⟨b0, b1, b2, b3⟩ := B1.out
  go_wp2_with fail
  refine (P2.out _ B1.out).mono ?_
  rintro e u2 ⟨v2, rfl, io2, hb2⟩
  obtain ⟨E1, cp1, rfl, rd1⟩ := IO1.out.rd (by omega)
  obtain ⟨E2, cp2, rfl, rd2⟩ := io2.rd (by have := LT.out; omega)
  have R1 := Lib.hid ((rd1.below hb2).2.2)
  have R2 := Lib.hid rd2.2.2
  have e1 : ss.length = n := ls
  have e2 : ts.length = p := LT.out
  have BU := Lib.hid (B1.out.below hb2)
  have KU := Lib.hid (bTrans K1.out hb2)
  rw [e1] at R1 ⊢
  rw [e2] at R2 ⊢
  clear rd1 rd2 io2 hb2 b0 b1 b2 b3 IO1 HB1 B1 K1 hc
  go_wp2
  go_loopw [12, 10, 11] (fun i a g wr => ∃ (k : Nat) (A G : Int), k ≤ n ∧ i = .int .i64 k ∧ a = .int .i64 A ∧ g = .int .i64 G ∧ Hid (worstF (ds.drop k) k A G = worstF ds 0 0 (-1)) ∧ ∃ m, Hid (wr = u2.drewN m)) (fun i _ _ _ => n - (intOf i).toNat)
  case atStart => exact ⟨0, 0, -1, Nat.zero_le _, rfl, rfl, rfl, Lib.hid rfl, 0, Lib.hid rfl⟩
  case round =>
    obtain ⟨k, A, G, hk, rfl, rfl, rfl, HF, m, HM⟩ := hrel
    by_cases hlt : k < n
    · obtain ⟨b0, b1, b2, b3⟩ : Bd wr w.heap.size r h n := by rw [HM.out]; exact ⟨BU.out.c0, BU.out.c1, BU.out.c2, BU.out.lt⟩
      have HK := Lib.hid (WF.out k (by rw [LD.out]; exact hlt) A G)
      rw [HDS.out k hlt] at HK
      have hx := HS.out k hlt
      have LL := Lib.hid (fun q hq => leastD_snoc r (ss.getD k 0) ts q (by rw [LT.out]; exact hq) r)
      have LE := Lib.hid (show leastD r (ss.getD k 0) (ts.take 0) r = r from rfl)
      have LF := Lib.hid (show ts.take p = ts from List.take_of_length_le (by rw [LT.out]; exact Nat.le_refl _))
      go_wp2
      go_loopw [14, 13] (fun i l wr => ∃ q : Nat, q ≤ p ∧ i = .int .i64 q ∧ l = .int .i64 (leastD r (ss.getD k 0) (ts.take q) r) ∧ ∃ m, Hid (wr = u2.drewN m)) (fun i _ _ => p - (intOf i).toNat)
      case atStart => exact ⟨0, Nat.zero_le _, rfl, by rw [LE.out], m, HM⟩
      case round =>
        obtain ⟨q, hq, rfl, rfl, m2, HM2⟩ := hrel
        by_cases hqt : q < p
        · rcases R1.out with h0 | ⟨g1, rfl, hg1, h3⟩
          · omega
          rcases R2.out with h0 | ⟨g2, rfl, hg2, h4⟩
          · omega
          have c0 : wr.cell? ⟨g1, k, none⟩ = some (.int .i64 (ss.getD k 0)) := by rw [HM2.out]; exact h3 k hlt
          have c2 : wr.cell? ⟨g2, q, none⟩ = some (.int .i64 (ts.getD q 0)) := by rw [HM2.out]; exact h4 q hqt
          have hb0 : wr.cell? ⟨w.heap.size, 0, none⟩ = some (.int .i64 r) := by rw [HM2.out]; exact BU.out.c0
          have ht := HT.out q hqt
          have HN := Lib.hid (LL.out q hqt)
          clear h3 h4 b0 b1 b2
          generalize ss.getD k 0 = x at *
          generalize ts.getD q 0 = tt at *
          have AB := Lib.hid (fun u : World => l00Size_any (x - tt) u (by omega) (by omega))
          have wd : IntKind.i64.wrap (x - tt) = x - tt := IntWalk.i64_in _ (by omega)
          have MI := Lib.hid (fun a b u => l00MinW_any a b u)
          have wd2 : IntKind.i64.wrap (r - ((x - tt).natAbs : Nat)) = r - ((x - tt).natAbs : Nat) := IntWalk.i64_in _ (by omega)
          have HC : Hid (circI r x tt = min (((x - tt).natAbs : Nat) : Int) (r - (((x - tt).natAbs : Nat) : Int))) := Lib.hid rfl
          generalize (((x - tt).natAbs : Nat) : Int) = na at *
          generalize leastD r x (ts.take q) r = ls0 at *
          go_wp2
          go_quiet ((go_at_call 79; exact quietEq (AB.out _)))
          go_wp2_with (go_at_call 72; refine (MI.out _ _ _).mono ?_; rintro e u ⟨rfl, rfl⟩)
          go_roundw
          case rel => exact ⟨q + 1, by omega, by go_num, by rw [HN.out, HC.out], _, Lib.hid (by rw [HM2.out, World.drewN_drewN])⟩
          case measure => simp [intOf]; omega
        · have : q = p := by omega
          subst this
          rw [LF.out]
          generalize leastD r (ss.getD k 0) ts r = z at *
          by_cases hgt : G < z
          · have HF2 := HF.out
            rw [HK.out, if_pos hgt] at HF2
            have HF3 := Lib.hid HF2
            clear HF2 HK
            go_wp2
            go_roundw
            case rel => exact ⟨k + 1, k, z, by omega, by go_num, rfl, rfl, Lib.hid HF3.out, m2, HM2⟩
            case measure => simp [intOf]; omega
          · have HF2 := HF.out
            rw [HK.out, if_neg hgt] at HF2
            have HF3 := Lib.hid HF2
            clear HF2 HK
            go_wp2
            go_roundw
            case rel => exact ⟨k + 1, A, G, by omega, by go_num, rfl, rfl, Lib.hid HF3.out, m2, HM2⟩
            case measure => simp [intOf]; omega
    · have : k = n := by omega
      subst this
      have HF2 := HF.out
      rw [List.drop_of_length_le (by rw [LD.out]; exact Nat.le_refl _)] at HF2
      have HR := Lib.hid HF2
      have HB2 := Lib.hid (show Below w.heap.size w wr by rw [HM.out]; exact bDrewN KU.out m)
      clear HF2 HF
      go_wp2
      refine bodyPost_ret (v := .tuple #[.int .i64 A, .int .i64 G, .int .i64 0]) (by simp [results, Try.results41, go_sem]) rfl ⟨by rw [← HR.out]; rfl, HB2.out⟩

theorem specWorst_bad (r h s : Int) (p : Int) (w : World) (c : Int) (hc : code2 r h s (inB p 1 48) = c) (h0 : c ≠ 0) :
    Calls Try.prog 41 #[dr r h s, .int .i64 p] w fun e w' => e = .returned (.tuple #[.int .i64 0, .int .i64 0, .int .i64 c]) ∧ Below w.heap.size w w' := by
  have hd : decide (c ≠ 0) = true := by simpa using h0
  have hd2 : (c != 0) = true := by simpa using h0
  go_enter Try.func41, Try.ntmps41
  go_wp2_with fail
  refine (l07Many_any _ r h s p _ (bdNew _ _ _ _)).mono ?_
  rintro e u ⟨rfl, rfl⟩
  rw [hc]
  go_wp2
  refine bodyPost_ret (v := .tuple #[.int .i64 0, .int .i64 0, .int .i64 c]) (by simp [results, Try.results41, go_sem]) rfl ⟨rfl, bAlloc (Below.refl _ _) _⟩
end Go.Proofs.Ytibafngidpmgdab
