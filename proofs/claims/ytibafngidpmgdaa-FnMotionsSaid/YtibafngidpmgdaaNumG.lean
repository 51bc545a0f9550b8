/- The numbers that have a property, one after the other: the program's iterator. -/
import Derived.Test.YtibafngidpmgdaaIsTurn
import Derived.Test.YtibafngidpmgdaaDiscTop
namespace Go.Proofs.Ytibafngidpmgdaa
set_option linter.unusedSimpArgs false
set_option linter.unusedVariables false
open Go.RowKit Go.Shelf
attribute [local go_sem] Oper.semAt_some

/-- impl.numbersWith. -/
theorem numbersWith_any (m : Int) (f : Nat) (lb : Array Value) (w : World) :
    Calls Try.prog 124 #[.int .i64 m, .func (.func f) #[] lb] w fun e w' => e = .returned (.func (.func 153) #[] #[.pointer (some ⟨w.heap.size, 0, none⟩), .pointer (some ⟨w.heap.size + 1, 0, none⟩)]) ∧ w' = (w.alloc (.cells #[.int .i64 m] 2)).alloc (.cells #[.func (.func f) #[] lb] 101) := by
  have hmf : ∀ (fn : Fn) (first cap : Array Value) (w : World), (Instr.makeFunc fn first cap).run Try.prog w = .ok (.func fn first cap) w := fun _ _ _ _ => rfl
  go_enter Try.func124, Try.ntmps124
  go_wp2
  go_ret
  exact ⟨rfl, rfl⟩

theorem numL_yes {P : Nat → Bool} {k : Nat} (h : P (k + 1) = true) : numL P (k + 1) = numL P k ++ [((k + 1 : Nat) : Int)] := by rw [numL, if_pos h]
theorem numL_no {P : Nat → Bool} {k : Nat} (h : P (k + 1) = false) : numL P (k + 1) = numL P k := by rw [numL, if_neg (by rw [h]; simp)]

set_option maxRecDepth 100000 in
set_option maxHeartbeats 4000000 in
/-- The closure of impl.numbersWith: for every loop body that keeps what lay when it began. -/
theorem nums1_inF (d : Nat) (hd : 1 ≤ d) (l bm bh c m : Nat) (P : Nat → Bool) (w0 : World) (m2 : m ≤ 24) (hbm : bm < w0.heap.size) (hbh : bh < w0.heap.size) (hcm : w0.cell? ⟨bm, 0, none⟩ = some (.int .i64 m)) (hch : w0.cell? ⟨bh, 0, none⟩ = some (.func (.func 125) #[] #[.pointer (some ⟨c, 0, none⟩)]))
    (hH : ∀ k W, 1 ≤ k → k ≤ m → Below w0.heap.size w0 W → Calls Try.prog 125 #[.int .i64 (k : Nat), .pointer (some ⟨c, 0, none⟩)] W fun e W' => e = .returned (.bool (P k)) ∧ Below W.heap.size W W')
    (J Jx : List Int → World → Prop)
    (hY : ∀ pre x W1, J pre W1 → pre.length < m → YieldAt Fence.wide (d - 1) Try.prog l #[.int .i64 x] W1 fun e W' =>
      (e = .returned (.bool true) ∧ J (pre ++ [x]) W' ∧ Below w0.heap.size W1 W') ∨ (e = .returned (.bool false) ∧ Jx (pre ++ [x]) W'))
    (W : World) (hW : Below w0.heap.size w0 W) (hJ : AbidesFrom W.heap.size J) (h0 : J [] W) :
    CallsIn Fence.wide d Try.prog 153 (#[.func (.yield l) #[] #[]] ++ #[.pointer (some ⟨bm, 0, none⟩), .pointer (some ⟨bh, 0, none⟩)]) W fun e W' => (∃ v, e = .returned v) ∧
      ((∃ xs, xs = numL P m ∧ J xs W') ∨ (∃ pre, True ∧ Jx pre W')) := by
  have HY := Lib.hid hY
  have HJ := Lib.hid hJ
  have H0 := Lib.hid h0
  have HW := Lib.hid hW
  have HH := Lib.hid hH
  have HC := Lib.hid (fun u (h : Below w0.heap.size w0 u) => And.intro ((h.cell (p := ⟨bm, 0, none⟩) hbm).trans hcm) ((h.cell (p := ⟨bh, 0, none⟩) hbh).trans hch))
  have HL := Lib.hid (numL_length P)
  have HR : Hid (Fence.wide.round = none) := Lib.hid rfl
  clear hY hJ h0 hW hcm hch hH
  refine callsIn_of_wp Try.func153 rfl trivial ?_ rfl
  simp only [Try.ntmps153, List.size_toArray, List.length_cons, List.length_nil, Nat.reduceAdd, Nat.reduceSub, Array.replicate_succ, Array.replicate_zero, List.push_toArray, List.append_toArray, List.nil_append, List.cons_append]
  gi_wp2
  gi_loopw [4] (fun i wr => ∃ k : Nat, k ≤ m ∧ i = .int .i64 (k + 1 : Nat) ∧ Hid (J (numL P k) wr) ∧ Hid (Below w0.heap.size w0 wr) ∧ W.heap.size ≤ wr.heap.size) (fun i _ => m + 1 - (intOf i).toNat)
  case atStart => exact ⟨0, Nat.zero_le _, rfl, H0, HW, Nat.le_refl _⟩
  case round =>
    obtain ⟨k, hk, rfl, HJs, HBw, hsz⟩ := hrel
    obtain ⟨k0, k1⟩ := HC.out wr HBw.out
    by_cases hlt : k < m
    · have BG := Lib.hid (HH.out (k + 1) wr (by omega) (by omega) HBw.out)
      have hml := HL.out k
      cases hP : P (k + 1)
      · have HS := Lib.hid (numL_no hP)
        rw [hP] at BG
        obtain ⟨q, hq⟩ : ∃ q, k + 1 = q := ⟨_, rfl⟩
        rw [hq] at BG ⊢
        have hqm : q ≤ m := by omega
        gi_wp2_with (refine ⟨by trivial, ?_⟩; gi_at_call 125; refine (callsIn_wide.2 BG.out).mono ?_; rintro e u ⟨rfl, hb1⟩)
        refine ⟨fun _ h => (by cases h), ?_⟩
        have HJ3 := Lib.hid (abideB HJ.out HJs.out hb1)
        have HB3 := Lib.hid (HBw.out.trans (hb1.mono HBw.out.size))
        have hz4 := hb1.size
        clear hb1 k0 k1
        gi_wp2
        go_roundw
        case rel => exact ⟨k + 1, by omega, by rw [hq]; go_num, Lib.hid (by rw [HS.out]; exact HJ3.out), HB3, by omega⟩
        case measure => simp [intOf]; omega
      · have HS := Lib.hid (numL_yes hP)
        rw [hP] at BG
        have YY := Lib.hid (fun u (h : J (numL P k) u) => HY.out (numL P k) ((k + 1 : Nat) : Int) u h (by omega))
        obtain ⟨q, hq⟩ : ∃ q, k + 1 = q := ⟨_, rfl⟩
        rw [hq] at BG HS YY ⊢
        have hqm : q ≤ m := by omega
        gi_wp2_with (refine ⟨by trivial, ?_⟩; gi_at_call 125; refine (callsIn_wide.2 BG.out).mono ?_; rintro e u ⟨rfl, hb1⟩; obtain ⟨fn, tmps, assign, body, hy, hR⟩ := YY.out u (abideB HJ.out HJs.out hb1))
        have HBd := Lib.hid (HBw.out.trans (hb1.mono HBw.out.size))
        have hz3 := hb1.size
        clear hy YY BG hb1 k0 k1
        refine hR.mono ?_
        clear hR
        rintro e W3 (⟨rfl, hJ3, hk3⟩ | ⟨rfl, hJx3⟩)
        · have HJ3 := Lib.hid hJ3
          have HB3 := Lib.hid (HBd.out.trans hk3)
          have hz4 := hk3.size
          clear hJ3 hk3
          gi_wp2
          go_roundw
          case rel => exact ⟨k + 1, by omega, by rw [hq]; go_num, Lib.hid (by rw [hq, HS.out]; exact HJ3.out), HB3, by omega⟩
          case measure => simp [intOf]; omega
        · have HJ3 := Lib.hid hJx3
          clear hJx3
          gi_wp2
          refine bodyPost_ret (results_none rfl _ _ _) rfl ?_
          exact ⟨⟨_, rfl⟩, .inr ⟨_, trivial, HJ3.out⟩⟩
    · have : k = m := by omega
      subst this
      gi_wp2
      go_end0
      exact ⟨⟨_, rfl⟩, .inl ⟨_, rfl, HJs.out⟩⟩

set_option maxRecDepth 100000 in
set_option maxHeartbeats 4000000 in
/-- The closure of impl.numbersWith: for every loop body that keeps what lay when it began. -/
theorem nums1_inP (d : Nat) (hd : 1 ≤ d) (l bm bh c c2 m : Nat) (P : Nat → Bool) (w0 : World) (m2 : m ≤ 24) (hbm : bm < w0.heap.size) (hbh : bh < w0.heap.size) (hcm : w0.cell? ⟨bm, 0, none⟩ = some (.int .i64 m)) (hch : w0.cell? ⟨bh, 0, none⟩ = some (.func (.func 128) #[] #[.pointer (some ⟨c, 0, none⟩), .pointer (some ⟨c2, 0, none⟩)]))
    (hH : ∀ k W, 1 ≤ k → k ≤ m → Below w0.heap.size w0 W → Calls Try.prog 128 #[.int .i64 (k : Nat), .pointer (some ⟨c, 0, none⟩), .pointer (some ⟨c2, 0, none⟩)] W fun e W' => e = .returned (.bool (P k)) ∧ Below W.heap.size W W')
    (J Jx : List Int → World → Prop)
    (hY : ∀ pre x W1, J pre W1 → pre.length < m → YieldAt Fence.wide (d - 1) Try.prog l #[.int .i64 x] W1 fun e W' =>
      (e = .returned (.bool true) ∧ J (pre ++ [x]) W' ∧ Below w0.heap.size W1 W') ∨ (e = .returned (.bool false) ∧ Jx (pre ++ [x]) W'))
    (W : World) (hW : Below w0.heap.size w0 W) (hJ : AbidesFrom W.heap.size J) (h0 : J [] W) :
    CallsIn Fence.wide d Try.prog 153 (#[.func (.yield l) #[] #[]] ++ #[.pointer (some ⟨bm, 0, none⟩), .pointer (some ⟨bh, 0, none⟩)]) W fun e W' => (∃ v, e = .returned v) ∧
      ((∃ xs, xs = numL P m ∧ J xs W') ∨ (∃ pre, True ∧ Jx pre W')) := by
  have HY := Lib.hid hY
  have HJ := Lib.hid hJ
  have H0 := Lib.hid h0
  have HW := Lib.hid hW
  have HH := Lib.hid hH
  have HC := Lib.hid (fun u (h : Below w0.heap.size w0 u) => And.intro ((h.cell (p := ⟨bm, 0, none⟩) hbm).trans hcm) ((h.cell (p := ⟨bh, 0, none⟩) hbh).trans hch))
  have HL := Lib.hid (numL_length P)
  have HR : Hid (Fence.wide.round = none) := Lib.hid rfl
  clear hY hJ h0 hW hcm hch hH
  refine callsIn_of_wp Try.func153 rfl trivial ?_ rfl
  simp only [Try.ntmps153, List.size_toArray, List.length_cons, List.length_nil, Nat.reduceAdd, Nat.reduceSub, Array.replicate_succ, Array.replicate_zero, List.push_toArray, List.append_toArray, List.nil_append, List.cons_append]
  gi_wp2
  gi_loopw [4] (fun i wr => ∃ k : Nat, k ≤ m ∧ i = .int .i64 (k + 1 : Nat) ∧ Hid (J (numL P k) wr) ∧ Hid (Below w0.heap.size w0 wr) ∧ W.heap.size ≤ wr.heap.size) (fun i _ => m + 1 - (intOf i).toNat)
  case atStart => exact ⟨0, Nat.zero_le _, rfl, H0, HW, Nat.le_refl _⟩
  case round =>
    obtain ⟨k, hk, rfl, HJs, HBw, hsz⟩ := hrel
    obtain ⟨k0, k1⟩ := HC.out wr HBw.out
    by_cases hlt : k < m
    · have BG := Lib.hid (HH.out (k + 1) wr (by omega) (by omega) HBw.out)
      have hml := HL.out k
      cases hP : P (k + 1)
      · have HS := Lib.hid (numL_no hP)
        rw [hP] at BG
        obtain ⟨q, hq⟩ : ∃ q, k + 1 = q := ⟨_, rfl⟩
        rw [hq] at BG ⊢
        have hqm : q ≤ m := by omega
        gi_wp2_with (refine ⟨by trivial, ?_⟩; gi_at_call 128; refine (callsIn_wide.2 BG.out).mono ?_; rintro e u ⟨rfl, hb1⟩)
        refine ⟨fun _ h => (by cases h), ?_⟩
        have HJ3 := Lib.hid (abideB HJ.out HJs.out hb1)
        have HB3 := Lib.hid (HBw.out.trans (hb1.mono HBw.out.size))
        have hz4 := hb1.size
        clear hb1 k0 k1
        gi_wp2
        go_roundw
        case rel => exact ⟨k + 1, by omega, by rw [hq]; go_num, Lib.hid (by rw [HS.out]; exact HJ3.out), HB3, by omega⟩
        case measure => simp [intOf]; omega
      · have HS := Lib.hid (numL_yes hP)
        rw [hP] at BG
        have YY := Lib.hid (fun u (h : J (numL P k) u) => HY.out (numL P k) ((k + 1 : Nat) : Int) u h (by omega))
        obtain ⟨q, hq⟩ : ∃ q, k + 1 = q := ⟨_, rfl⟩
        rw [hq] at BG HS YY ⊢
        have hqm : q ≤ m := by omega
        gi_wp2_with (refine ⟨by trivial, ?_⟩; gi_at_call 128; refine (callsIn_wide.2 BG.out).mono ?_; rintro e u ⟨rfl, hb1⟩; obtain ⟨fn, tmps, assign, body, hy, hR⟩ := YY.out u (abideB HJ.out HJs.out hb1))
        have HBd := Lib.hid (HBw.out.trans (hb1.mono HBw.out.size))
        have hz3 := hb1.size
        clear hy YY BG hb1 k0 k1
        refine hR.mono ?_
        clear hR
        rintro e W3 (⟨rfl, hJ3, hk3⟩ | ⟨rfl, hJx3⟩)
        · have HJ3 := Lib.hid hJ3
          have HB3 := Lib.hid (HBd.out.trans hk3)
          have hz4 := hk3.size
          clear hJ3 hk3
          gi_wp2
          go_roundw
          case rel => exact ⟨k + 1, by omega, by rw [hq]; go_num, Lib.hid (by rw [hq, HS.out]; exact HJ3.out), HB3, by omega⟩
          case measure => simp [intOf]; omega
        · have HJ3 := Lib.hid hJx3
          clear hJx3
          gi_wp2
          refine bodyPost_ret (results_none rfl _ _ _) rfl ?_
          exact ⟨⟨_, rfl⟩, .inr ⟨_, trivial, HJ3.out⟩⟩
    · have : k = m := by omega
      subst this
      gi_wp2
      go_end0
      exact ⟨⟨_, rfl⟩, .inl ⟨_, rfl, HJs.out⟩⟩

end Go.Proofs.Ytibafngidpmgdaa
