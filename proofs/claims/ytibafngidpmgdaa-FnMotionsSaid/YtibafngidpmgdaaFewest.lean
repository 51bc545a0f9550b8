/- The fewest pictures, the period: the program's closures, the program, the model, the statements. -/
import Derived.Test.YtibafngidpmgdaaNumG
import Derived.Deep.RegionHeld3
import Derived.BigQuiet
import Derived.Deep.QuietTactic
namespace Go.Proofs.Ytibafngidpmgdaa
set_option linter.unusedSimpArgs false
set_option linter.unusedVariables false
open Go.RowKit Go.Shelf

theorem undrew {w u : World} (h : Below w.drew.heap.size w.drew u) : Below w.heap.size w u := ⟨h.os, h.tape, h.output, h.size, h.block⟩

set_option maxHeartbeats 2000000 in
/-- The function that impl.FewestPictures hands on. -/
theorem few1_any (m : ByteArray) (k c : Nat) (w : World) (hm : motB m = true) (k1 : 1 ≤ k) (k2 : k ≤ 24) (hc : w.cell? ⟨c, 0, none⟩ = some (.string m)) (hlt : c < w.heap.size) :
    Calls Try.prog 125 #[.int .i64 k, .pointer (some ⟨c, 0, none⟩)] w fun e w' => e = .returned (.bool (fitsB m k)) ∧ Below w.heap.size w w' := by
  have D := Lib.hid (fun w => discFor_any m k w hm k1 k2)
  have S := Lib.hid (fun w => showsDisc_any m k w hm k1 k2)
  generalize txt (discL m k) = x at *
  generalize fitsB m k = b at *
  go_enter Try.func125, Try.ntmps125
  go_wp2_with fail
  go_region_held3 (fun w' => w'.cell? ⟨c, 0, none⟩ = some (.string m)) (go_keep)
    (first | (go_at_call 122; refine (D.out _).mono ?_; rintro e u ⟨rfl, hb⟩; have hcu := (hb.cell (p := ⟨c, 0, none⟩) hlt).trans hc) | (go_at_call 121; refine (S.out _).mono ?_; rintro e u2 ⟨rfl, hb2⟩; have hcu2 := (hb2.cell (p := ⟨c, 0, none⟩) (Nat.lt_of_lt_of_le hlt hb.size)).trans hcu))
  go_wp2
  go_ret
  exact ⟨rfl, bTrans (undrew hb) hb2⟩

/-- spec.FewestPictures. -/
theorem specFewest_any (s : ByteArray) (w : World) (hs : s.size ≤ maxLen) :
    Calls Try.prog 77 #[.string s] w fun e w' => e = .returned (numV s (firstN (fitsB s) s.size : Nat)) ∧ Below w.heap.size w w' := by
  have A1 := Lib.hid (fun w => l06Ok_any s w hs)
  cases h1 : motB s
  · rw [numV_no h1]
    rw [h1] at A1
    go_enter Try.func77, Try.ntmps77
    go_wp2_with fail
    refine (A1.out _).mono ?_
    rintro e u ⟨rfl, rfl⟩
    go_wp2_with fail
    go_ret2
    exact ⟨rfl, Below.refl _ _⟩
  · rw [numV_yes h1]
    obtain ⟨s1, s2⟩ := motB_size h1
    have HD := Lib.hid (fun k (k1 : 1 ≤ k) (k2 : k ≤ 24) w => l06Disc_any s k w h1 k1 k2)
    have HU := Lib.hid (fun n (h2 : 1 ≤ n) h3 h4 => firstN_unique (P := fitsB s) (m := s.size) (n := n) s1 (fits_self h1) h2 h3 h4)
    have HE := Lib.hid (fits_self h1)
    have DY := Lib.hid (fun k => discV_yes (m := s) (p := k))
    have DN := Lib.hid (fun k => discV_no (m := s) (p := k))
    rw [h1] at A1
    generalize firstN (fitsB s) s.size = F at *
    go_enter Try.func77, Try.ntmps77
    go_wp2_with fail
    refine (A1.out _).mono ?_
    rintro e u ⟨rfl, rfl⟩
    go_wp2_with fail
    go_loopw [4] (fun i wr => ∃ k : Nat, 1 ≤ k ∧ k ≤ s.size ∧ i = .int .i64 k ∧ Hid (Below w.heap.size w wr) ∧ Hid (∀ j, 1 ≤ j → j < k → fitsB s j = false)) (fun i _ => s.size - (intOf i).toNat)
    case atStart => exact ⟨1, Nat.le_refl _, s1, rfl, Lib.hid (Below.refl _ _), Lib.hid (fun j h1 h2 => by omega)⟩
    case round =>
      obtain ⟨k, k1, k2, rfl, HB, HK⟩ := hrel
      by_cases hlt : k < s.size
      · have D := Lib.hid (HD.out k k1 (by omega))
        cases hf : fitsB s k
        · rw [DN.out k hf] at D
          have HC := Lib.hid (fun j (j1 : 1 ≤ j) (hj : j < k + 1) => show fitsB s j = false by
            by_cases e : j = k
            · rw [e]; exact hf
            · exact HK.out j j1 (by omega))
          go_wp2_with fail
          refine (D.out _).mono ?_
          rintro e u ⟨rfl, hb⟩
          have HB2 := Lib.hid (bTrans HB.out hb)
          clear hb
          go_wp2_with fail
          go_roundw
          case rel => exact ⟨k + 1, by omega, by omega, by go_num, HB2, HC⟩
          case measure => simp [intOf]; omega
        · rw [DY.out k hf] at D
          have HC := Lib.hid (HU.out k k1 hf HK.out)
          generalize txt (discL s k) = x at *
          go_wp2_with fail
          refine (D.out _).mono ?_
          rintro e u ⟨rfl, hb⟩
          have HB2 := Lib.hid (bTrans HB.out hb)
          clear hb
          go_wp2_with fail
          go_ret2
          exact ⟨ret_pair (by exact_mod_cast HC.out), HB2.out⟩
      · have hks : k = s.size := by omega
        have HC := Lib.hid (HU.out k k1 (by rw [hks]; exact HE.out) HK.out)
        have HX := Lib.hid hks
        clear hks
        go_wp2
        go_ret2
        exact ⟨ret_pair (by rw [← HX.out]; exact_mod_cast HC.out), HB.out⟩

theorem numsEnter (args : Array Value) (w : World) : (callFunc 153 args).run Try.prog w = .ok (.enter 153 args) w := enters_of Try.func153 (by kernel_rfl) rfl args w

/-- impl.least of the numbers of pictures. -/
theorem leastF_any (c m : Nat) (P : Nat → Bool) (w : World) (m1 : 1 ≤ m) (m2 : m ≤ 24) (hP : P m = true)
    (hH : ∀ k W, 1 ≤ k → k ≤ m → Below w.heap.size w W → Calls Try.prog 125 #[.int .i64 (k : Nat), .pointer (some ⟨c, 0, none⟩)] W fun e W' => e = .returned (.bool (P k)) ∧ Below W.heap.size W W') :
    Calls Try.prog 123 #[.func (.func 153) #[] #[.pointer (some ⟨w.heap.size, 0, none⟩), .pointer (some ⟨w.heap.size + 1, 0, none⟩)]] ((w.alloc (.cells #[.int .i64 m] 2)).alloc (.cells #[.func (.func 125) #[] #[.pointer (some ⟨c, 0, none⟩)]] 101))
      fun e w' => e = .returned (.int .i64 (firstN P m : Nat)) ∧ Below w.heap.size w w' := by
  rw [← numL_first m1 hP]
  have b0 := (Boxed.new w 2 (.int .i64 m)).alloc (.cells #[.func (.func 125) #[] #[.pointer (some ⟨c, 0, none⟩)]] 101)
  have b1 := Boxed.new (w.alloc (.cells #[.int .i64 m] 2)) 101 (.func (.func 125) #[] #[.pointer (some ⟨c, 0, none⟩)])
  simp only [World.size_alloc] at b1
  have hB : Below w.heap.size w ((w.alloc (.cells #[.int .i64 m] 2)).alloc (.cells #[.func (.func 125) #[] #[.pointer (some ⟨c, 0, none⟩)]] 101)) := ((Below.refl _ w).alloc (Nat.le_refl _) _).alloc (by simp) _
  refine (leastI_any _ _ numsEnter (fun _ => True) m _ _ (fun l J Jx W hW hJ _ hY h0 => nums1_inF 2 (by omega) l w.heap.size (w.heap.size + 1) c m P _ m2 (by simp; omega) (by simp) b0.cell b1.cell (fun k W k1 k2 hb => hH k W k1 k2 (bTrans hB hb)) J Jx hY W hW hJ h0)).mono ?_
  rintro e u ⟨rfl, hb⟩
  exact ⟨rfl, bTrans hB hb⟩

set_option maxHeartbeats 1000000 in
/-- impl.FewestPictures. -/
theorem implFewest_any (s : ByteArray) (w : World) (hs : s.size ≤ maxLen) :
    Calls Try.prog 64 #[.string s] w fun e w' => e = .returned (numV s (firstN (fitsB s) s.size : Nat)) ∧ Below w.heap.size w w' := by
  have A1 := Lib.hid (fun w => implMotion_any s w hs)
  have hmf : ∀ (fn : Fn) (first cap : Array Value) (w : World), (Instr.makeFunc fn first cap).run Try.prog w = .ok (.func fn first cap) w := fun _ _ _ _ => rfl
  have b0 := Boxed.new w 9 (.string s)
  have hB0 : Below w.heap.size w (w.alloc (.cells #[.string s] 9)) := (Below.refl _ w).alloc (Nat.le_refl _) _
  cases h1 : motB s
  · rw [numV_no h1]
    rw [h1] at A1
    have HB0 := Lib.hid hB0
    clear hB0 b0
    go_enter Try.func64, Try.ntmps64
    go_wp2_with fail
    refine (A1.out _).mono ?_
    rintro e u ⟨rfl, hb1⟩
    go_wp2_with fail
    go_ret2
    exact ⟨rfl, bTrans HB0.out hb1⟩
  · rw [numV_yes h1]
    obtain ⟨s1, s2⟩ := motB_size h1
    have HF := Lib.hid (fun k (k1 : 1 ≤ k) (k2 : k ≤ 24) c w hc hl => few1_any s k c w h1 k1 k2 hc hl)
    have L := Lib.hid (fun c w hH => leastF_any c s.size (fitsB s) w s1 s2 (fits_self h1) hH)
    rw [h1] at A1
    have HB0 := Lib.hid hB0
    have B0 := Lib.hid b0
    clear hB0 b0
    generalize fitsB s = P at *
    go_enter Try.func64, Try.ntmps64
    go_wp2_with fail
    refine (A1.out _).mono ?_
    rintro e u ⟨rfl, hb1⟩
    have k0 := boxBelow B0.out hb1
    have c0 := k0.cell
    have hlt := k0.lt
    have HB1 := Lib.hid (bTrans HB0.out hb1)
    clear hb1 HB0 B0
    go_wp2_with fail
    refine (numbersWith_any _ _ _ _).mono ?_
    rintro e u2 ⟨rfl, rfl⟩
    go_wp2_with fail
    refine (L.out w.heap.size u (fun k W k1 k2 hb => HF.out k k1 (by omega) w.heap.size W ((boxBelow k0 hb).cell) (Nat.lt_of_lt_of_le hlt hb.size))).mono ?_
    rintro e u3 ⟨rfl, hb3⟩
    go_wp2_with fail
    go_ret2
    exact ⟨rfl, bTrans HB1.out hb3⟩

theorem againRem {s : ByteArray} {k : Nat} (h : ((s.size : Int) % (k : Int) == 0) = false) : againB s k = false := by
  have h1 : ¬ s.size % k = 0 := fun e => by
    have h2 : (s.size : Int) % (k : Int) = 0 := by exact_mod_cast e
    rw [h2] at h
    cases h
  simp [againB, h1]
theorem againYes {s : ByteArray} {k : Nat} (h : ((s.size : Int) % (k : Int) == 0) = true) : againB s k = ((rotB s k).toList == s.toList) := by
  have h1 : s.size % k = 0 := by
    have h2 : (s.size : Int) % (k : Int) = 0 := by simpa using h
    exact_mod_cast h2
  simp [againB, h1, eqT]

set_option maxHeartbeats 2000000 in
/-- The function that impl.PeriodOf hands on. -/
theorem per1_any (m : ByteArray) (k c c2 : Nat) (w : World) (s2 : m.size ≤ 24) (k1 : 1 ≤ k) (k2 : k ≤ m.size) (hc : w.cell? ⟨c, 0, none⟩ = some (.int .i64 m.size)) (hc2 : w.cell? ⟨c2, 0, none⟩ = some (.string m)) :
    Calls Try.prog 128 #[.int .i64 k, .pointer (some ⟨c, 0, none⟩), .pointer (some ⟨c2, 0, none⟩)] w fun e w' => e = .returned (.bool (againB m k)) ∧ Below w.heap.size w w' := by
  have B := Lib.hid (fun w => begunAt_any m k w k2 s2)
  have k0 : ¬ (k : Int) = 0 := by omega
  have k0n : ¬ k = 0 := by omega
  cases h : ((m.size : Int) % (k : Int) == 0)
  · have HA := Lib.hid (againRem h)
    go_enter Try.func128, Try.ntmps128
    go_wp2_with fail
    go_quiet (fail)
    go_wp2
    go_ret
    exact ⟨ret_bool HA.out.symm, bDrewN (Below.refl _ _) _⟩
  · have HA := Lib.hid (againYes h)
    generalize rotB m k = r at *
    go_enter Try.func128, Try.ntmps128
    go_wp2_with fail
    go_quiet ((go_at_call 129; exact Calls.quiet_of (B.out _)))
    go_wp2
    go_ret
    exact ⟨ret_bool HA.out.symm, bDrewN (Below.refl _ _) _⟩

/-- impl.least of the periods. -/
theorem leastP_any (c c2 m : Nat) (P : Nat → Bool) (w : World) (m1 : 1 ≤ m) (m2 : m ≤ 24) (hP : P m = true)
    (hH : ∀ k W, 1 ≤ k → k ≤ m → Below w.heap.size w W → Calls Try.prog 128 #[.int .i64 (k : Nat), .pointer (some ⟨c, 0, none⟩), .pointer (some ⟨c2, 0, none⟩)] W fun e W' => e = .returned (.bool (P k)) ∧ Below W.heap.size W W') :
    Calls Try.prog 123 #[.func (.func 153) #[] #[.pointer (some ⟨w.heap.size, 0, none⟩), .pointer (some ⟨w.heap.size + 1, 0, none⟩)]] ((w.alloc (.cells #[.int .i64 m] 2)).alloc (.cells #[.func (.func 128) #[] #[.pointer (some ⟨c, 0, none⟩), .pointer (some ⟨c2, 0, none⟩)]] 101))
      fun e w' => e = .returned (.int .i64 (firstN P m : Nat)) ∧ Below w.heap.size w w' := by
  rw [← numL_first m1 hP]
  have b0 := (Boxed.new w 2 (.int .i64 m)).alloc (.cells #[.func (.func 128) #[] #[.pointer (some ⟨c, 0, none⟩), .pointer (some ⟨c2, 0, none⟩)]] 101)
  have b1 := Boxed.new (w.alloc (.cells #[.int .i64 m] 2)) 101 (.func (.func 128) #[] #[.pointer (some ⟨c, 0, none⟩), .pointer (some ⟨c2, 0, none⟩)])
  simp only [World.size_alloc] at b1
  have hB : Below w.heap.size w ((w.alloc (.cells #[.int .i64 m] 2)).alloc (.cells #[.func (.func 128) #[] #[.pointer (some ⟨c, 0, none⟩), .pointer (some ⟨c2, 0, none⟩)]] 101)) := ((Below.refl _ w).alloc (Nat.le_refl _) _).alloc (by simp) _
  refine (leastI_any _ _ numsEnter (fun _ => True) m _ _ (fun l J Jx W hW hJ _ hY h0 => nums1_inP 2 (by omega) l w.heap.size (w.heap.size + 1) c c2 m P _ m2 (by simp; omega) (by simp) b0.cell b1.cell (fun k W k1 k2 hb => hH k W k1 k2 (bTrans hB hb)) J Jx hY W hW hJ h0)).mono ?_
  rintro e u ⟨rfl, hb⟩
  exact ⟨rfl, bTrans hB hb⟩

set_option maxHeartbeats 1000000 in
/-- impl.PeriodOf. -/
theorem implPeriod_any (s : ByteArray) (w : World) (hs : s.size ≤ maxLen) :
    Calls Try.prog 66 #[.string s] w fun e w' => e = .returned (numV s (firstN (againB s) s.size : Nat)) ∧ Below w.heap.size w w' := by
  have A1 := Lib.hid (fun w => implMotion_any s w hs)
  have hmf : ∀ (fn : Fn) (first cap : Array Value) (w : World), (Instr.makeFunc fn first cap).run Try.prog w = .ok (.func fn first cap) w := fun _ _ _ _ => rfl
  have b0 := Boxed.new w 9 (.string s)
  have hB0 : Below w.heap.size w (w.alloc (.cells #[.string s] 9)) := (Below.refl _ w).alloc (Nat.le_refl _) _
  cases h1 : motB s
  · rw [numV_no h1]
    rw [h1] at A1
    have HB0 := Lib.hid hB0
    clear hB0 b0
    go_enter Try.func66, Try.ntmps66
    go_wp2_with fail
    refine (A1.out _).mono ?_
    rintro e u ⟨rfl, hb1⟩
    go_wp2_with fail
    go_ret2
    exact ⟨rfl, bTrans HB0.out hb1⟩
  · rw [numV_yes h1]
    obtain ⟨s1, s2⟩ := motB_size h1
    have HF := Lib.hid (fun k (k1 : 1 ≤ k) (k2 : k ≤ s.size) c c2 w hc hc2 => per1_any s k c c2 w s2 k1 k2 hc hc2)
    have L := Lib.hid (fun c c2 w hH => leastP_any c c2 s.size (againB s) w s1 s2 (againB_size s) hH)
    rw [h1] at A1
    have HB0 := Lib.hid hB0
    have B0 := Lib.hid b0
    clear hB0 b0
    generalize againB s = P at *
    go_enter Try.func66, Try.ntmps66
    go_wp2_with fail
    refine (A1.out _).mono ?_
    rintro e u ⟨rfl, hb1⟩
    have k0 := boxBelow B0.out hb1
    have c0 := k0.cell
    have HB1 := Lib.hid (bTrans HB0.out hb1)
    have k1 := k0.alloc (.cells #[.int .i64 s.size] 2)
    have k2 := Boxed.new u 2 (.int .i64 s.size)
    have HB2 := Lib.hid (bAlloc HB1.out (.cells #[.int .i64 s.size] 2))
    have KK := Lib.hid (And.intro k1 k2)
    clear hb1 HB0 B0 k1 k2 k0
    go_wp2_with fail
    refine (numbersWith_any _ _ _ _).mono ?_
    rintro e u2 ⟨rfl, rfl⟩
    go_wp2_with fail
    have L2 := L.out u.heap.size w.heap.size (u.alloc (.cells #[.int .i64 s.size] 2)) (fun k W k1 k2 hb => HF.out k k1 k2 u.heap.size w.heap.size W ((boxBelow KK.out.2 hb).cell) ((boxBelow KK.out.1 hb).cell))
    rw [World.size_alloc] at L2
    refine L2.mono ?_
    clear L2
    rintro e u3 ⟨rfl, hb3⟩
    have HB3 := Lib.hid (HB2.out.trans (hb3.mono (by have := HB1.out.size; omega)))
    clear hb3
    go_wp2_with fail
    go_ret2
    exact ⟨rfl, HB3.out⟩

/-- laws.FnExactPeriodOf. -/
theorem law_PeriodOf (s : ByteArray) (w : World) (hs : s.size ≤ maxLen) :
    Calls Try.prog 13 #[.string s] w fun e w' => e = .returned (.bool true) ∧ Below w.heap.size w w' := by
  by_cases hl : 1048576 < s.size
  · exact lawPeriodOf_big0 s w hs hl
  · exact lawPeriodOf_of s _ _ w hs hl (fun u => specPeriod_any s u hs) (fun u => implPeriod_any s u hs)

/-- laws.FnExactFewestPictures. -/
theorem law_FewestPictures (s : ByteArray) (w : World) (hs : s.size ≤ maxLen) :
    Calls Try.prog 12 #[.string s] w fun e w' => e = .returned (.bool true) ∧ Below w.heap.size w w' := by
  by_cases hl : 1048576 < s.size
  · exact lawFewestPictures_big0 s w hs hl
  · exact lawFewestPictures_of s _ _ w hs hl (fun u => specFewest_any s u hs) (fun u => implFewest_any s u hs)

end Go.Proofs.Ytibafngidpmgdaa
