/- impl.setOf: the set of the parts that have a property. -/
import Derived.Test.YtflgjohknjgdcaaProg
import Derived.Test.YtflgjohknjgdcaaPop
import Derived.Test.YtflgjohknjgdcaaBldOp
import Derived.Laws.Cover1
import Derived.Deep.MidRow
import Derived.Deep.RegionWith
import Derived.Deep.DrawnRows
import Derived.Tactics
import Derived.Tactics2
import Derived.WalkKit
import Derived.LoopTactic
import Derived.BigQuiet
import Derived.BigRegion
import Derived.RegionTactic
import Derived.Deep.QuietTactic
import Derived.Outline
import Derived.Lib.Hide
import Derived.Below
import Derived.KernelRfl
namespace Go.Proofs.Ytflgjohknjgdcaa
set_option linter.unusedSimpArgs false
set_option linter.unusedVariables false
open Go.RowKit

theorem wor (x r : Nat) (hx : x < 18446744073709551616) (hr : r < 64) : bits .or .u64 (x : Int) (IntKind.u64.wrap (2 ^ r)) = ((x ||| 2 ^ r : Nat) : Int) := by
  have h : 2 ^ r < 18446744073709551616 := (Nat.pow_lt_pow_right (a := 2) (by decide) hr : 2 ^ r < 2 ^ 64)
  have e : ((2 : Int) ^ r) = ((2 ^ r : Nat) : Int) := by simp
  rw [e, u64in h, u64_or_nat _ _ hx h]
theorem bSets {w : World} : ∀ {W : World} (_ : Below w.heap.size w W) (cs : List Value), Below w.heap.size w (W.setCells w.heap.size 0 cs) := by
  have g : ∀ (cs : List Value) (W : World) (o : Nat), Below w.heap.size w W → Below w.heap.size w (W.setCells w.heap.size o cs) := by
    intro cs
    induction cs with
    | nil => intro W o h; exact h
    | cons v cs ih => intro W o h; exact ih _ _ (bSet h (Nat.le_refl _) _)
  intro W h cs
  exact g cs W 0 h

/-- A set of parts as a value. -/
def psL (P : Nat → Bool) (k : Nat) : List Value := (List.range 16).map fun i => .int .u64 (wd P k i)
def psV (P : Nat → Bool) : Value := .agg (psL P 1000).toArray

/-- A block of 16 words, known and open to stores. -/
def Wds (w : World) (b : Nat) (f : Nat → Nat) : Prop := (∀ i, i < 16 → w.cell? ⟨b, i, none⟩ = some (.int .u64 (f i)) ∧ w.frozen? ⟨b, i, none⟩ = false) ∧ b < w.heap.size
theorem wdsOf {W u : World} (hb : Below W.heap.size W u) {b : Nat} {f : Nat → Nat} (h : Wds W b f) : Wds u b f :=
  ⟨fun i hi => ⟨(hb.cell (p := ⟨b, i, none⟩) h.2).trans (h.1 i hi).1, (hb.frozen (p := ⟨b, i, none⟩) h.2).trans (h.1 i hi).2⟩, Nat.lt_of_lt_of_le h.2 hb.size⟩
theorem wdsNew (w : World) (t : TypeId) : Wds (w.alloc (.cells #[.int .u64 0, .int .u64 0, .int .u64 0, .int .u64 0, .int .u64 0, .int .u64 0, .int .u64 0, .int .u64 0, .int .u64 0, .int .u64 0, .int .u64 0, .int .u64 0, .int .u64 0, .int .u64 0, .int .u64 0, .int .u64 0] t)) w.heap.size (fun _ => 0) := by
  refine ⟨fun i hi => ?_, by simp⟩
  have hc : i = 0 ∨ i = 1 ∨ i = 2 ∨ i = 3 ∨ i = 4 ∨ i = 5 ∨ i = 6 ∨ i = 7 ∨ i = 8 ∨ i = 9 ∨ i = 10 ∨ i = 11 ∨ i = 12 ∨ i = 13 ∨ i = 14 ∨ i = 15 := by omega
  refine ⟨?_, by go_simp⟩
  rw [World.cell?_alloc_at _ _ _ _ rfl]
  rcases hc with rfl | rfl | rfl | rfl | rfl | rfl | rfl | rfl | rfl | rfl | rfl | rfl | rfl | rfl | rfl | rfl <;> rfl
theorem Wds.congr {w : World} {b : Nat} {f g : Nat → Nat} (h : Wds w b f) (e : ∀ i, i < 16 → f i = g i) : Wds w b g :=
  ⟨fun i hi => by rw [← e i hi]; exact h.1 i hi, h.2⟩
theorem Wds.set {w : World} {b q x : Nat} {f : Nat → Nat} (h : Wds w b f) (hq : q < 16) : Wds (w.setCell ⟨b, q, none⟩ (.int .u64 x)) b (fun i => if i = q then x else f i) := by
  refine ⟨fun i hi => ?_, by simpa using h.2⟩
  by_cases e : i = q
  · subst e
    refine ⟨?_, by simpa using (h.1 i hi).2⟩
    rw [World.cell?_setCell_same _ _ _ (h.1 i hi).1]
    simp only [if_pos]
  · refine ⟨?_, by simpa using (h.1 i hi).2⟩
    rw [World.cell?_setCell_other _ _ _ _ (by first | (simp; done) | (simp; exact fun h => e h.symm))]
    simp only [if_neg e]
    exact (h.1 i hi).1
theorem Wds.range {w : World} {b : Nat} {P : Nat → Bool} {k : Nat} (h : Wds w b (wd P k)) : w.rangeAt b 0 (psL P k) := by
  intro j v hv
  have hj : j < 16 := by have := (List.getElem?_eq_some_iff.1 hv).1; simpa [psL] using this
  rw [psL, List.getElem?_map, List.getElem?_range hj] at hv
  simp only [Option.map_some, Option.some.injEq] at hv
  rw [Nat.zero_add, ← hv]
  exact (h.1 j hj).1
theorem Wds.there {w : World} {b : Nat} {f : Nat → Nat} (h : Wds w b f) : w.there b 0 16 := by
  intro j hj
  rw [Nat.zero_add, (h.1 j hj).1]
  exact ⟨rfl, (h.1 j hj).2⟩
/-- The 16 cells of a block. -/
def cells16 (w : World) (b : Nat) : List Value := (List.range 16).map fun i => (w.cell? ⟨b, i, none⟩).getD undef
def Has16 (w : World) (b : Nat) : Prop := ∀ i, i < 16 → (w.cell? ⟨b, i, none⟩).isSome = true
def Row16 (cs : List Value) : Prop := cs.length = 16 ∧ cs.toArray.all (·.oneCell') = true
theorem Has16.range {w : World} {b : Nat} (h : Has16 w b) : w.rangeAt b 0 (cells16 w b) := by
  intro j v hv
  have hj : j < 16 := by have := (List.getElem?_eq_some_iff.1 hv).1; simpa [cells16] using this
  rw [cells16, List.getElem?_map, List.getElem?_range hj] at hv
  simp only [Option.map_some, Option.some.injEq] at hv
  obtain ⟨u, hu⟩ := Option.isSome_iff_exists.1 (h j hj)
  rw [Nat.zero_add, hu, ← hv, hu]
  rfl
theorem psInfo : (Try.prog.info? 102).map (·.size) = some 16 := by kernel_rfl
theorem psArr : Try.prog.underlying 102 = some (.array 16 95) := by kernel_rfl
theorem load16 (w : World) (b : Nat) (h : Has16 w b) : (Instr.loadAt 102 (.pointer (some ⟨b, 0, none⟩))).run Try.prog w = .ok (.agg (cells16 w b).toArray) w :=
  run_loadAt_mid w _ _ _ _ _ h.range psArr rfl (by rw [psInfo]; simp [cells16])
theorem store16 (w : World) (b : Nat) (cs : List Value) (h : w.there b 0 16) (hc : Row16 cs) : (Instr.storeAt 102 (.pointer (some ⟨b, 0, none⟩)) (.agg cs.toArray)).run Try.prog w = .ok () (w.setCells b 0 cs) := by
  have hsz : cs.toArray.size = 16 := by simpa using hc.1
  exact run_storeAt_mid w _ _ _ _ (by rw [hsz]; exact h) (by rw [hsz]; exact psInfo) hc.2
theorem loadV16 (w : World) (b : Nat) (cs : List Value) (h : w.rangeAt b 0 cs) (hc : cs.length = 16) : Sem.run Try.prog (loadCellsFrom ⟨b, 0, none⟩ 0 16 #[]) w = .ok cs.toArray w := by
  have := run_loadCells_list (P := Try.prog) w ⟨b, 0, none⟩ cs (fun j v hv => by rw [Addr.add_mid]; exact h j v hv)
  rw [hc] at this
  simpa [loadCells] using this
theorem isAgg16 (w : World) : (isAgg 102).run Try.prog w = .ok true w := by
  unfold isAgg
  rw [Sem.run_bind, run_underlying psArr w]
  rfl
theorem size16 (w : World) : (sizeOf 102).run Try.prog w = .ok 16 w := by
  have h := psInfo
  cases hq : Try.prog.info? 102 with
  | none => simp [hq] at h
  | some i =>
    have hs : i.size = 16 := by simpa [hq] using h
    simp [sizeOf, typeInfo, hq, hs]
theorem Wds.has {w : World} {b : Nat} {f : Nat → Nat} (h : Wds w b f) : Has16 w b := fun i hi => by rw [(h.1 i hi).1]; rfl
theorem Wds.cells {w : World} {b : Nat} {P : Nat → Bool} {k : Nat} (h : Wds w b (wd P k)) : cells16 w b = psL P k := by
  refine List.map_congr_left fun i hi => ?_
  rw [(h.1 i (List.mem_range.1 hi)).1]
  rfl
theorem psL_length (P : Nat → Bool) (k : Nat) : (psL P k).length = 16 := by simp [psL]
theorem psL_one (P : Nat → Bool) (k : Nat) : (psL P k).toArray.all (·.oneCell') = true :=
  all_oneCell_toArray (fun v hv => by simp only [psL, List.mem_map] at hv; obtain ⟨i, _, rfl⟩ := hv; rfl)

set_option maxHeartbeats 4000000 in
set_option maxRecDepth 100000 in
/-- impl.setOf, of a wheel's open parts. -/
theorem setOf1_any_of (p1 p2 : Nat) (P : Nat → Bool) (cs : List Value) (hcs : psL P 1000 = cs) (w : World)
    (hH : ∀ (k : Nat) (W : World), k < 1000 → Below w.heap.size w W → Calls Try.prog 96 #[.int .i64 k, .pointer (some ⟨p1, 0, none⟩), .pointer (some ⟨p2, 0, none⟩)] W fun e W' => e = .returned (.bool (P k)) ∧ ∃ n, W' = W.drewN n) :
    Calls Try.prog 97 #[.func (.func 96) #[] #[.pointer (some ⟨p1, 0, none⟩), .pointer (some ⟨p2, 0, none⟩)]] w fun e w' => e = .returned (.agg cs.toArray) ∧ Below w.heap.size w w' := by
  have H := Lib.hid hH
  have HC := Lib.hid hcs
  clear hH hcs
  go_enter Try.func97, Try.ntmps97
  go_wp2_with fail
  go_loopw [5] (fun i wr => ∃ k : Nat, k ≤ 1000 ∧ i = .int .i64 k ∧ Hid (Wds wr (w.heap.size + 1) (wd P k)) ∧ Hid (Wds wr w.heap.size (fun _ => 0)) ∧ Hid (Below w.heap.size w wr)) (fun i _ => 1000 - (intOf i).toNat)
  case atStart =>
    refine ⟨0, by omega, rfl, Lib.hid ?_, Lib.hid (wdsOf (bAlloc (Below.refl _ _) _) (wdsNew w _)), Lib.hid (bAlloc (bAlloc (Below.refl _ _) _) _)⟩
    have h := wdsNew (w.alloc (.cells #[.int .u64 0, .int .u64 0, .int .u64 0, .int .u64 0, .int .u64 0, .int .u64 0, .int .u64 0, .int .u64 0, .int .u64 0, .int .u64 0, .int .u64 0, .int .u64 0, .int .u64 0, .int .u64 0, .int .u64 0, .int .u64 0] 102)) 102
    rw [World.size_alloc] at h
    exact h.congr (fun i _ => (wd_zero P i).symm)
  case round =>
    obtain ⟨k, hk, rfl, HS, HR, HB⟩ := hrel
    by_cases hlt : k < 1000
    · go_wp2_with fail
      refine (H.out k wr hlt HB.out).mono ?_
      rintro e u ⟨rfl, n, rfl⟩
      have HS2 := Lib.hid (show Wds (wr.drewN n) (w.heap.size + 1) (wd P k) from HS.out)
      have HR2 := Lib.hid (show Wds (wr.drewN n) w.heap.size (fun _ => 0) from HR.out)
      have HB2 := Lib.hid (bDrewN HB.out n)
      clear HS HR HB
      generalize wr.drewN n = u at *
      cases hP : P k
      · have HN := Lib.hid (wd_skip hP)
        clear hP
        go_wp2_with fail
        go_roundw
        case rel => exact ⟨k + 1, by omega, by go_num, Lib.hid (HS2.out.congr (fun i _ => (HN.out i).symm)), HR2, HB2⟩
        case measure => simp [intOf]; omega
      · have HN := Lib.hid (wd_put hP)
        clear hP
        obtain ⟨q, hq⟩ : ∃ q, k / 64 = q := ⟨_, rfl⟩
        obtain ⟨r, hr⟩ : ∃ r, k % 64 = r := ⟨_, rfl⟩
        have q0 : (0 : Int) ≤ (q : Int) := by omega
        have q1 : (q : Int) < 16 := by omega
        have q2 : q < 16 := by omega
        have e1 : (k : Int) / 64 = (q : Int) := by omega
        have e2 : (k : Int) % 64 = (r : Int) := by omega
        have r2 : r < 64 := by omega
        rw [hq, hr] at HN
        have HO := Lib.hid (fun i (h : ¬ i = q) => (wd_other (P := P) (k := k) (i := i) (by rw [hq]; exact h)))
        obtain ⟨c0, f0⟩ := HS2.out.1 q q2
        have z0 := HS2.out.2
        have lx := wd_lt P k q
        have hw := wor (wd P k q) r lx r2
        rw [HN.out] at hw
        generalize hx : wd P k q = x at c0 lx hw
        have HX := Lib.hid hx
        clear hx hq hr HN
        go_wp2_with fail
        go_region
        go_wp2
        go_roundw
        case rel =>
          refine ⟨k + 1, by omega, by go_num, Lib.hid ?_, Lib.hid ?_, Lib.hid ?_⟩
          · exact (HS2.out.set (x := wd P (k + 1) q) q2).congr (fun i _ => by by_cases e : i = q; (· subst e; simp); (· simp only [if_neg e]; exact (HO.out i e).symm))
          · exact ⟨fun i hi => ⟨(World.cell?_setCell_other _ _ _ _ (by simp)).trans (HR2.out.1 i hi).1, by simpa using (HR2.out.1 i hi).2⟩, by simpa using HR2.out.2⟩
          · exact Below.drew (bSet HB2.out (by simp) _)
        case measure => simp [intOf]; omega
    · have : k = 1000 := by omega
      subst this
      have k1 := HS.out.has
      have k2 := HS.out.cells
      rw [HC.out] at k2
      have k3 := HR.out.there
      have k4 : Row16 cs := by rw [← HC.out]; exact ⟨psL_length P 1000, psL_one P 1000⟩
      have k5 := Lib.hid (run_loadVar_mid (P := Try.prog) _ _ _ 102 cs _ (World.rangeAt_setCells_same wr w.heap.size 0 cs (by rw [k4.1]; exact k3)) psArr rfl (by rw [psInfo, k4.1]))
      have HE := Lib.hid (bSets HB.out cs)
      have k7 : wr.rangeAt (w.heap.size + 1) 0 cs := by rw [← HC.out]; exact HS.out.range
      have K7 := Lib.hid k7
      have K4 := Lib.hid k4
      have K3 := Lib.hid k3
      clear HC k1 k2 k3 k4 k7
      go_upto_region 8 with fail
      go_step
      go_step
      refine wp_load_mid 102 (.tmp 3) rfl (w.heap.size + 1) 0 rfl cs _ K7.out psArr rfl (by rw [psInfo, K4.out.1]) ?_
      go_step
      refine wpList_store_mid rfl 102 (.tmp 2) (.tmp 21) rfl w.heap.size 0 cs.toArray rfl rfl (by rw [show cs.toArray.size = 16 by simpa using K4.out.1]; exact K3.out) (by rw [psInfo, show cs.toArray.size = 16 by simpa using K4.out.1]) K4.out.2 ?_
      rw [List.toList_toArray]
      go_wp2_with fail
      have k6 := k5.out
      refine bodyPost_ret (v := .agg cs.toArray) (by simp [results, Try.results97, Sem.run_bind, Act.put, asAddr, k6]) rfl ⟨rfl, HE.out⟩
/-- impl.setOf, of a wheel's open parts. -/
theorem setOf1_any (p1 p2 : Nat) (P : Nat → Bool) (w : World)
    (hH : ∀ (k : Nat) (W : World), k < 1000 → Below w.heap.size w W → Calls Try.prog 96 #[.int .i64 k, .pointer (some ⟨p1, 0, none⟩), .pointer (some ⟨p2, 0, none⟩)] W fun e W' => e = .returned (.bool (P k)) ∧ ∃ n, W' = W.drewN n) :
    Calls Try.prog 97 #[.func (.func 96) #[] #[.pointer (some ⟨p1, 0, none⟩), .pointer (some ⟨p2, 0, none⟩)]] w fun e w' => e = .returned (psV P) ∧ Below w.heap.size w w' :=
  setOf1_any_of p1 p2 P _ rfl w hH

set_option maxHeartbeats 4000000 in
set_option maxRecDepth 100000 in
/-- impl.setOf, of a turned wheel's open parts. -/
theorem setOf2_any_of (p1 p2 : Nat) (P : Nat → Bool) (cs : List Value) (hcs : psL P 1000 = cs) (w : World)
    (hH : ∀ (k : Nat) (W : World), k < 1000 → Below w.heap.size w W → Calls Try.prog 100 #[.int .i64 k, .pointer (some ⟨p1, 0, none⟩), .pointer (some ⟨p2, 0, none⟩)] W fun e W' => e = .returned (.bool (P k)) ∧ ∃ n, W' = W.drewN n) :
    Calls Try.prog 97 #[.func (.func 100) #[] #[.pointer (some ⟨p1, 0, none⟩), .pointer (some ⟨p2, 0, none⟩)]] w fun e w' => e = .returned (.agg cs.toArray) ∧ Below w.heap.size w w' := by
  have H := Lib.hid hH
  have HC := Lib.hid hcs
  clear hH hcs
  go_enter Try.func97, Try.ntmps97
  go_wp2_with fail
  go_loopw [5] (fun i wr => ∃ k : Nat, k ≤ 1000 ∧ i = .int .i64 k ∧ Hid (Wds wr (w.heap.size + 1) (wd P k)) ∧ Hid (Wds wr w.heap.size (fun _ => 0)) ∧ Hid (Below w.heap.size w wr)) (fun i _ => 1000 - (intOf i).toNat)
  case atStart =>
    refine ⟨0, by omega, rfl, Lib.hid ?_, Lib.hid (wdsOf (bAlloc (Below.refl _ _) _) (wdsNew w _)), Lib.hid (bAlloc (bAlloc (Below.refl _ _) _) _)⟩
    have h := wdsNew (w.alloc (.cells #[.int .u64 0, .int .u64 0, .int .u64 0, .int .u64 0, .int .u64 0, .int .u64 0, .int .u64 0, .int .u64 0, .int .u64 0, .int .u64 0, .int .u64 0, .int .u64 0, .int .u64 0, .int .u64 0, .int .u64 0, .int .u64 0] 102)) 102
    rw [World.size_alloc] at h
    exact h.congr (fun i _ => (wd_zero P i).symm)
  case round =>
    obtain ⟨k, hk, rfl, HS, HR, HB⟩ := hrel
    by_cases hlt : k < 1000
    · go_wp2_with fail
      refine (H.out k wr hlt HB.out).mono ?_
      rintro e u ⟨rfl, n, rfl⟩
      have HS2 := Lib.hid (show Wds (wr.drewN n) (w.heap.size + 1) (wd P k) from HS.out)
      have HR2 := Lib.hid (show Wds (wr.drewN n) w.heap.size (fun _ => 0) from HR.out)
      have HB2 := Lib.hid (bDrewN HB.out n)
      clear HS HR HB
      generalize wr.drewN n = u at *
      cases hP : P k
      · have HN := Lib.hid (wd_skip hP)
        clear hP
        go_wp2_with fail
        go_roundw
        case rel => exact ⟨k + 1, by omega, by go_num, Lib.hid (HS2.out.congr (fun i _ => (HN.out i).symm)), HR2, HB2⟩
        case measure => simp [intOf]; omega
      · have HN := Lib.hid (wd_put hP)
        clear hP
        obtain ⟨q, hq⟩ : ∃ q, k / 64 = q := ⟨_, rfl⟩
        obtain ⟨r, hr⟩ : ∃ r, k % 64 = r := ⟨_, rfl⟩
        have q0 : (0 : Int) ≤ (q : Int) := by omega
        have q1 : (q : Int) < 16 := by omega
        have q2 : q < 16 := by omega
        have e1 : (k : Int) / 64 = (q : Int) := by omega
        have e2 : (k : Int) % 64 = (r : Int) := by omega
        have r2 : r < 64 := by omega
        rw [hq, hr] at HN
        have HO := Lib.hid (fun i (h : ¬ i = q) => (wd_other (P := P) (k := k) (i := i) (by rw [hq]; exact h)))
        obtain ⟨c0, f0⟩ := HS2.out.1 q q2
        have z0 := HS2.out.2
        have lx := wd_lt P k q
        have hw := wor (wd P k q) r lx r2
        rw [HN.out] at hw
        generalize hx : wd P k q = x at c0 lx hw
        have HX := Lib.hid hx
        clear hx hq hr HN
        go_wp2_with fail
        go_region
        go_wp2
        go_roundw
        case rel =>
          refine ⟨k + 1, by omega, by go_num, Lib.hid ?_, Lib.hid ?_, Lib.hid ?_⟩
          · exact (HS2.out.set (x := wd P (k + 1) q) q2).congr (fun i _ => by by_cases e : i = q; (· subst e; simp); (· simp only [if_neg e]; exact (HO.out i e).symm))
          · exact ⟨fun i hi => ⟨(World.cell?_setCell_other _ _ _ _ (by simp)).trans (HR2.out.1 i hi).1, by simpa using (HR2.out.1 i hi).2⟩, by simpa using HR2.out.2⟩
          · exact Below.drew (bSet HB2.out (by simp) _)
        case measure => simp [intOf]; omega
    · have : k = 1000 := by omega
      subst this
      have k1 := HS.out.has
      have k2 := HS.out.cells
      rw [HC.out] at k2
      have k3 := HR.out.there
      have k4 : Row16 cs := by rw [← HC.out]; exact ⟨psL_length P 1000, psL_one P 1000⟩
      have k5 := Lib.hid (run_loadVar_mid (P := Try.prog) _ _ _ 102 cs _ (World.rangeAt_setCells_same wr w.heap.size 0 cs (by rw [k4.1]; exact k3)) psArr rfl (by rw [psInfo, k4.1]))
      have HE := Lib.hid (bSets HB.out cs)
      have k7 : wr.rangeAt (w.heap.size + 1) 0 cs := by rw [← HC.out]; exact HS.out.range
      have K7 := Lib.hid k7
      have K4 := Lib.hid k4
      have K3 := Lib.hid k3
      clear HC k1 k2 k3 k4 k7
      go_upto_region 8 with fail
      go_step
      go_step
      refine wp_load_mid 102 (.tmp 3) rfl (w.heap.size + 1) 0 rfl cs _ K7.out psArr rfl (by rw [psInfo, K4.out.1]) ?_
      go_step
      refine wpList_store_mid rfl 102 (.tmp 2) (.tmp 21) rfl w.heap.size 0 cs.toArray rfl rfl (by rw [show cs.toArray.size = 16 by simpa using K4.out.1]; exact K3.out) (by rw [psInfo, show cs.toArray.size = 16 by simpa using K4.out.1]) K4.out.2 ?_
      rw [List.toList_toArray]
      go_wp2_with fail
      have k6 := k5.out
      refine bodyPost_ret (v := .agg cs.toArray) (by simp [results, Try.results97, Sem.run_bind, Act.put, asAddr, k6]) rfl ⟨rfl, HE.out⟩
/-- impl.setOf, of a turned wheel's open parts. -/
theorem setOf2_any (p1 p2 : Nat) (P : Nat → Bool) (w : World)
    (hH : ∀ (k : Nat) (W : World), k < 1000 → Below w.heap.size w W → Calls Try.prog 100 #[.int .i64 k, .pointer (some ⟨p1, 0, none⟩), .pointer (some ⟨p2, 0, none⟩)] W fun e W' => e = .returned (.bool (P k)) ∧ ∃ n, W' = W.drewN n) :
    Calls Try.prog 97 #[.func (.func 100) #[] #[.pointer (some ⟨p1, 0, none⟩), .pointer (some ⟨p2, 0, none⟩)]] w fun e w' => e = .returned (psV P) ∧ Below w.heap.size w w' :=
  setOf2_any_of p1 p2 P _ rfl w hH

end Go.Proofs.Ytflgjohknjgdcaa
