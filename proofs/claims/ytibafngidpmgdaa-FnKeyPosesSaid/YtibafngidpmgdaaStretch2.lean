/- Stretched key poses: every key pose changed. -/
import Derived.Test.YtibafngidpmgdaaProg
import Derived.Test.YtibafngidpmgdaaPose
import Derived.Test.YtibafngidpmgdaaKeys
import Derived.Test.YtibafngidpmgdaaKeyOk
import Derived.Test.YtibafngidpmgdaaPoseLaw
import Derived.Test.YtibafngidpmgdaaBetween
import Derived.Test.YtibafngidpmgdaaAt2
import Derived.Test.YtibafngidpmgdaaAtLaw
import Derived.Test.YtibafngidpmgdaaStretch
import Derived.Test.YtibafngidpmgdaaAll
import Derived.IntWalk
import Derived.WalkSpells
import Derived.OwnWalk
import Derived.Deep.RegionWith
import Derived.Deep.DrawnRows
import Derived.Deep.RegionHeld3
import Derived.Tactics
import Derived.Tactics2
import Derived.WalkKit
import Derived.LoopTactic
import Derived.BigQuiet
import Derived.RegionTactic
import Derived.Deep.QuietTactic
import Derived.Outline
import Derived.Lib.Hide
import Derived.Below
import Derived.KernelRfl
namespace Go.Proofs.Ytibafngidpmgdaa
set_option linter.unusedSimpArgs false
set_option linter.unusedVariables false
open Go.RowKit


theorem strL_getD1 {ks : List Key} {x s : Int} {k : Nat} (h : k < ks.length) (v : Value) : (((strL ks x s).getD k k0).1, v) = (x + ((ks.getD k k0).1 - x) * s, v) := by rw [strL_get ks x s k h]

set_option maxHeartbeats 1000000 in
set_option maxRecDepth 100000 in
/-- impl.changed over key poses, with the closure that stretches. -/
theorem changedK_any (A : Option Addr) (n c b1 b2 : Nat) (ks : List Key) (x s : Int) (w : World) (hv : RdK w A n ks) (hk : keysB ks = true) (hx : x = tk ks 0) (hs0 : 1 ≤ s) (hs1 : s ≤ 100) (hc1 : w.cell? ⟨b1, 0, none⟩ = some (.int .i64 x)) (hl1 : b1 < w.heap.size) (hc2 : w.cell? ⟨b2, 0, none⟩ = some (.int .i64 s)) (hl2 : b2 < w.heap.size) :
    Calls Try.prog 94 #[.slice A n c, .func (.func 95) #[] #[.pointer (some ⟨b1, 0, none⟩), .pointer (some ⟨b2, 0, none⟩)]] w fun e w' => ∃ A' c' es, e = .returned (.slice A' n c') ∧ Keys w' w.heap.size (.slice A' n c') es (strL ks x s) ∧ Below w.heap.size w w' := by
  obtain ⟨i0, hi, hz0, hz1, hz2⟩ := info_parts infoKp
  have hl := keysB_len hk
  rw [hv.1] at hl
  obtain ⟨hn1, hn2⟩ := hl
  have hby : i0.bytes * n ≤ 281474976710656 := by rw [hz2]; omega
  have HL := Lib.hid hv.1
  have HO0 := Lib.hid (keysB_ok hk).2.2
  have HV := Lib.hid hv
  have HX := Lib.hid hx
  have HC1 := Lib.hid hc1
  have HC2 := Lib.hid hc2
  clear hv hk hx hc1 hc2
  go_enter Try.func94, Try.ntmps94
  go_wp2_with (first | (at_make; refine wpList_make_full _ rfl _ _ 33 rfl w.heap.size 55 i0 (kv 0 (.slice none 0 0)) 2 Try.underlying33 hi hz0 hz1 .i64 .i64 (n : Int) (n : Int) n rfl rfl rfl rfl hby (by unfold maxLen; omega) (Nat.le_refl _) ?_; intro w1 hown1 hgrow1) | fail)
  have HO1 := Lib.hid hown1
  have HB1 := Lib.hid (Below.grown (Below.refl _ w) hgrow1 (Nat.le_refl _) (fun k hk => by cases hk))
  have hg1 : w.heap.size < w1.heap.size := (World.ownsRow.lt hown1 _ rfl).2
  clear hown1 hgrow1
  go_wp2
  go_loopw [13] (fun i wr => ∃ k : Nat, k ≤ n ∧ i = .int .i64 k ∧ Hid (∃ es, es.length = k ∧ wr.ownsRow w.heap.size 55 2 (.slice (some ⟨w.heap.size, 0, none⟩) n n) n (flatE (es ++ (List.replicate n e0).drop k)) ∧ Parts wr (w.heap.size + 1) es (strL ks x s)) ∧ Hid (Below w.heap.size w wr) ∧ w.heap.size < wr.heap.size) (fun i _ => n - (intOf i).toNat)
  case atStart =>
    refine ⟨0, Nat.zero_le _, rfl, Lib.hid ⟨[], rfl, ?_, ⟨fun i hi => by simp at hi, fun i j _ hj => by simp at hj⟩⟩, HB1, hg1⟩
    have h1 := HO1.out
    rw [made_flatE] at h1
    simpa using h1
  case round =>
    obtain ⟨k, hk, rfl, HO, HB, hbz⟩ := hrel
    by_cases hlt : k < n
    · obtain ⟨_, _, h3⟩ := HV.out.below HB.out
      rcases h3 with h0 | ⟨g, rfl, hg, h3⟩
      · omega
      obtain ⟨c0, A', f', c1, r⟩ := h3 k hlt
      have kk := HO0.out k (by rw [HL.out]; exact hlt)
      have hm := poseB_len kk.2.2.1
      have hxk : x ≤ tk ks k := by
        rw [HX.out]
        by_cases h0 : k = 0
        · subst h0; exact Int.le_refl _
        · exact Int.le_of_lt (tk_lt HO0.out (by omega) (by rw [HL.out]; exact hlt))
      have hx0 : 0 ≤ x := by rw [HX.out]; exact (HO0.out 0 (by rw [HL.out]; omega)).1
      have ht0 := kk.1
      have ht1 := kk.2.1
      have d1 := (HB.out.cell (p := ⟨b1, 0, none⟩) hl1).trans HC1.out
      have d2 := (HB.out.cell (p := ⟨b2, 0, none⟩) hl2).trans HC2.out
      have z1 : b1 < wr.heap.size := Nat.lt_of_lt_of_le hl1 HB.out.size
      have z2 : b2 < wr.heap.size := Nat.lt_of_lt_of_le hl2 HB.out.size
      simp only [tk] at hxk
      have T := Lib.hid (fun q (hb : Below wr.heap.size wr q) => stretch1_any (ks.getD k Go.Proofs.Ytibafngidpmgdaa.k0).1 x s A' (ks.getD k Go.Proofs.Ytibafngidpmgdaa.k0).2.length f' b1 b2 (ks.getD k Go.Proofs.Ytibafngidpmgdaa.k0).2 q (r.below hb) hm.1 ((hb.cell (p := ⟨b1, 0, none⟩) z1).trans d1) (Nat.lt_of_lt_of_le z1 hb.size) ((hb.cell (p := ⟨b2, 0, none⟩) z2).trans d2) (Nat.lt_of_lt_of_le z2 hb.size) ht0 ht1 hx0 hxk hs0 hs1)
      have HSG := Lib.hid (strL_get ks x s k (by rw [HL.out]; exact hlt))
      have HQ : ∀ v u, Pts u wr.heap.size v (ks.getD k Go.Proofs.Ytibafngidpmgdaa.k0).2 → Below wr.heap.size wr u → ∃ es, es.length = k + 1 ∧ Parts u (w.heap.size + 1) es (strL ks x s) ∧ u.ownsRow w.heap.size 55 2 (.slice (some ⟨w.heap.size, 0, none⟩) n n) n (flatE (es.take k ++ (List.replicate n e0).drop k)) ∧ (es.take k ++ (List.replicate n e0).drop k).set k (x + ((ks.getD k Go.Proofs.Ytibafngidpmgdaa.k0).1 - x) * s, v) = es ++ (List.replicate n e0).drop (k + 1) := by
        intro v u hpv hbu
        obtain ⟨es, hel, hown, hpa⟩ := HO.out
        have hsn := hpa.snoc hbu hel hbz (v := v) (by rw [HSG.out]; exact hpv)
        rw [HSG.out] at hsn
        refine ⟨es ++ [(x + ((ks.getD k Go.Proofs.Ytibafngidpmgdaa.k0).1 - x) * s, v)], by simp [hel], hsn, ?_, ?_⟩
        · rw [List.take_left' hel]
          exact ownsB hown hbu
        · rw [List.take_left' hel]
          exact put_stepE es _ k n hel hlt
      have HQ := Lib.hid HQ
      clear h3 r kk hm hxk hx0 ht0 ht1 d1 d2 HSG
      generalize (ks.getD k Go.Proofs.Ytibafngidpmgdaa.k0).1 = t at *
      generalize (ks.getD k Go.Proofs.Ytibafngidpmgdaa.k0).2.length = m at *
      go_wp2_with fail
      refine (T.out _ (bAlloc (Below.refl _ _) _)).mono ?_
      rintro e u ⟨A2, c2, rfl, p2, hb2⟩
      have hb2' := bTrans (bAlloc (Below.refl wr.heap.size wr) (.cells #[.int .i64 t, .slice A' m f'] 55)) hb2
      obtain ⟨es, hel, hpa, hown, hset⟩ := HQ.out _ _ (p2.base (by simp)) hb2'
      have HB3 := Lib.hid (bTrans HB.out hb2')
      have hbz3 := hb2'.size
      clear hb2 hb2' T HQ HO p2
      obtain ⟨S1, S2⟩ := World.ownsRow.stored hown (k * 2) (.int .i64 (x + (t - x) * s))
      obtain ⟨S3, S4⟩ := World.ownsRow.stored S1 (k * 2 + 1) (.slice A2 m c2)
      have e2 := flatE_set (es.take k ++ (List.replicate n e0).drop k) k (x + (t - x) * s, .slice A2 m c2)
      rw [hset] at e2
      simp only at e2
      rw [e2] at S3
      have hf0 : u.frozen? ⟨w.heap.size, k * 2, none⟩ = false := World.ownsRow.frozenAt hown _
      have hf1 : u.frozen? ⟨w.heap.size, k * 2 + 1, none⟩ = false := World.ownsRow.frozenAt hown _
      have hc0 : ∃ z, u.cell? ⟨w.heap.size, k * 2, none⟩ = some z := by
        rw [World.ownsRow.cellAt hown (k * 2) (by omega)]
        exact ⟨_, List.getElem?_eq_getElem (by rw [hown.1]; omega)⟩
      have hc1 : ∃ z, u.cell? ⟨w.heap.size, k * 2 + 1, none⟩ = some z := by
        rw [World.ownsRow.cellAt hown (k * 2 + 1) (by omega)]
        exact ⟨_, List.getElem?_eq_getElem (by rw [hown.1]; omega)⟩
      obtain ⟨z0, hc0⟩ := hc0
      obtain ⟨z1, hc1⟩ := hc1
      have H3 := Lib.hid S3
      have H4 := Lib.hid (Below.grown (Below.grown HB3.out S2 (by omega) (fun j hj => by injection hj; omega)) S4 (Nat.le_trans (by omega) S2.size) (fun j hj => by injection hj; omega))
      have H5 := Lib.hid (show Parts ((u.setCell ⟨w.heap.size, k * 2, none⟩ (.int .i64 (x + (t - x) * s))).setCell ⟨w.heap.size, k * 2 + 1, none⟩ (.slice A2 m c2)) (w.heap.size + 1) es (strL ks x s) from
        hpa.chg (S := fun q => q = w.heap.size) (by refine Chg.set (Chg.set (Chg.refl _ _) ?_ _) ?_ _ <;> exact .inl rfl) (fun i hi q hq e => by
          have := (ownsLt (hpa.1 i hi).2 q hq).1
          omega))
      have HE := Lib.hid hel
      clear S1 S2 S3 S4 e2 hown hset hpa hel
      go_wp2
      go_roundw
      case rel => exact ⟨k + 1, by omega, by go_num, Lib.hid ⟨es, HE.out, H3.out, H5.out⟩, Lib.hid H4.out, by simp; omega⟩
      case measure => simp [intOf]; omega
    · have : k = n := by omega
      subst this
      obtain ⟨es, hel, hown, hpa⟩ := HO.out
      rw [List.drop_of_length_le (by simp), List.append_nil] at hown
      have hsl := strL_length ks x s
      have H1 := Lib.hid ((hpa.base (show w.heap.size ≤ w.heap.size + 1 by omega)).keys (by rw [hel, hsl, HL.out]) (by rw [hsl, HL.out]; exact hown))
      clear hel hown hpa HO
      go_wp2
      go_ret
      exact ⟨_, _, es, rfl, H1.out, HB.out⟩

end Go.Proofs.Ytibafngidpmgdaa
