/- FewestBlades: the program, the model, the statement. -/
import Derived.Test.YtflgjohknjgdcaaNum9
import Derived.Test.YtflgjohknjgdcaaBldOp
import Derived.Test.YtflgjohknjgdcaaBldLaws1
import Derived.Laws.Cover1
import Derived.LoopTactic
import Derived.BigQuiet
import Derived.RegionTactic
import Derived.Deep.QuietTactic
import Derived.Outline
import Derived.Lib.Hide
import Derived.Below
import Derived.KernelRfl
namespace Go.Proofs.Ytflgjohknjgdcaa
set_option linter.unusedSimpArgs false
set_option linter.unusedVariables false
open Go.RowKit Go.Shelf
attribute [local go_sem] Oper.semAt_some

/-- What FewestBlades answers of a rate and a number that may be asked. -/
def fewV (P : Nat → Bool) : Value := match numN P 12 with
  | [] => .tuple #[.int .i64 0, .int .i64 3]
  | x :: _ => .tuple #[.int .i64 x, .int .i64 0]
theorem fewV_none {P : Nat → Bool} (h : numN P 12 = []) : fewV P = .tuple #[.int .i64 0, .int .i64 3] := by rw [fewV, h]
theorem fewV_at {P : Nat → Bool} {k : Nat} (hk : k < 12) (hP : P (k + 1) = true) (h0 : numN P k = []) : fewV P = .tuple #[.int .i64 (k + 1 : Nat), .int .i64 0] := by
  obtain ⟨l, hl⟩ := numN_more P (k + 1) (12 - (k + 1))
  rw [show k + 1 + (12 - (k + 1)) = 12 by omega, numN_yes hP, h0] at hl
  rw [fewV, hl]
  rfl

theorem implFew_bad (n d l : Int) (w : World) (h2 : okB n d = false) :
    Calls Try.prog 22 #[fr n d, .int .i64 l] w fun e w' => e = .returned (.tuple #[.int .i64 0, .int .i64 1]) ∧ Below w.heap.size w w' := by
  go_enter Try.func22, Try.ntmps22
  go_wp2_with fail
  refine (validFraction_any _ _ _).mono ?_
  rintro e u1 ⟨rfl, hb1⟩
  obtain ⟨a0, z0, f0⟩ : Bx u1 (w.heap.size + 1 + 1) (.int .i64 0) := bxOf hb1 (by refine ⟨?_, ?_, ?_⟩ <;> go_simp)
  obtain ⟨a1, z1, f1⟩ : Bx u1 (w.heap.size + 1 + 1 + 1) (.int .i64 0) := bxOf hb1 (by refine ⟨?_, ?_, ?_⟩ <;> go_simp)
  go_wp2_with fail
  refine bodyPost_ret (v := _) (by simp [results, Try.results22, go_sem, a0, a1, z0, z1, Nat.ne_of_lt z0, Nat.ne_of_lt z1]) rfl ⟨rfl, ?_⟩
  repeat (first | exact Below.refl _ _ | refine bSet ?_ (by first | (simp; done) | (simp; omega)) _ | refine bAlloc ?_ _ | refine bTrans ?_ hb1)

set_option maxHeartbeats 1000000 in
theorem implFew_off (n d l : Int) (w : World) (h2 : okB n d = true) (h3 : (rateB n d && inB l 1 200) = false) :
    Calls Try.prog 22 #[fr n d, .int .i64 l] w fun e w' => e = .returned (.tuple #[.int .i64 0, .int .i64 2]) ∧ Below w.heap.size w w' := by
  have I := Lib.hid (fun w => isLeast_any l w)
  cases h4 : rateB n d
  · clear h3
    go_enter Try.func22, Try.ntmps22
    go_wp2_with fail
    refine (validFraction_any _ _ _).mono ?_
    rintro e u1 ⟨rfl, hb1⟩
    have P0 : Bk u1 w.heap.size n d := bkOf hb1 (by refine ⟨?_, ?_, ?_, ?_, ?_⟩ <;> go_simp)
    have P1 : Bx u1 (w.heap.size + 1) (.int .i64 l) := bxOf hb1 (by refine ⟨?_, ?_, ?_⟩ <;> go_simp)
    have P2 : Bx u1 (w.heap.size + 1 + 1) (.int .i64 0) := bxOf hb1 (by refine ⟨?_, ?_, ?_⟩ <;> go_simp)
    have P3 : Bx u1 (w.heap.size + 1 + 1 + 1) (.int .i64 0) := bxOf hb1 (by refine ⟨?_, ?_, ?_⟩ <;> go_simp)
    obtain ⟨a0, b0, f0, g0, z0⟩ := P0
    go_wp2_with fail
    refine (wheelRate_any _ _ _).mono ?_
    rintro e u2 ⟨rfl, hb2⟩
    obtain ⟨a2, z2, f2⟩ := bxOf hb2 P2
    obtain ⟨a3, z3, f3⟩ := bxOf hb2 P3
    go_wp2_with fail
    refine bodyPost_ret (v := _) (by simp [results, Try.results22, go_sem, a2, a3, z2, z3, Nat.ne_of_lt z2, Nat.ne_of_lt z3]) rfl ⟨rfl, ?_⟩
    repeat (first | exact Below.refl _ _ | refine bSet ?_ (by first | (simp; done) | (simp; omega)) _ | refine bAlloc ?_ _ | refine bTrans ?_ hb2 | refine bTrans ?_ hb1)
  · have h5 : inB l 1 200 = false := by simpa [h4] using h3
    rw [h5] at I
    clear h3
    go_enter Try.func22, Try.ntmps22
    go_wp2_with fail
    refine (validFraction_any _ _ _).mono ?_
    rintro e u1 ⟨rfl, hb1⟩
    have P0 : Bk u1 w.heap.size n d := bkOf hb1 (by refine ⟨?_, ?_, ?_, ?_, ?_⟩ <;> go_simp)
    have P1 : Bx u1 (w.heap.size + 1) (.int .i64 l) := bxOf hb1 (by refine ⟨?_, ?_, ?_⟩ <;> go_simp)
    have P2 : Bx u1 (w.heap.size + 1 + 1) (.int .i64 0) := bxOf hb1 (by refine ⟨?_, ?_, ?_⟩ <;> go_simp)
    have P3 : Bx u1 (w.heap.size + 1 + 1 + 1) (.int .i64 0) := bxOf hb1 (by refine ⟨?_, ?_, ?_⟩ <;> go_simp)
    obtain ⟨a0, b0, f0, g0, z0⟩ := P0
    go_wp2_with fail
    refine (wheelRate_any _ _ _).mono ?_
    rintro e u2 ⟨rfl, hb2⟩
    obtain ⟨a1, z1, f1⟩ := bxOf hb2 P1
    obtain ⟨a2, z2, f2⟩ := bxOf hb2 P2
    obtain ⟨a3, z3, f3⟩ := bxOf hb2 P3
    go_wp2_with fail
    refine (I.out _).mono ?_
    rintro e u ⟨rfl, rfl⟩
    go_wp2_with fail
    refine bodyPost_ret (v := _) (by simp [results, Try.results22, go_sem, a2, a3, z2, z3, Nat.ne_of_lt z2, Nat.ne_of_lt z3]) rfl ⟨rfl, ?_⟩
    repeat (first | exact Below.refl _ _ | refine bSet ?_ (by first | (simp; done) | (simp; omega)) _ | refine bAlloc ?_ _ | refine bTrans ?_ hb2 | refine bTrans ?_ hb1)

theorem specFew_bad (n d l : Int) (w : World) (hn : I64 n) (h2 : okB n d = false) :
    Calls Try.prog 23 #[fr n d, .int .i64 l] w fun e w' => e = .returned (.tuple #[.int .i64 0, .int .i64 1]) ∧ Below w.heap.size w w' := by
  obtain ⟨w1, w2⟩ := hn
  go_enter Try.func23, Try.ntmps23
  go_wp2_with fail
  refine (l02Ok_any n d _ (by omega) (by omega)).mono ?_
  rintro e u1 ⟨rfl, hb1⟩
  go_wp2_with fail
  go_ret2
  refine ⟨rfl, ?_⟩
  repeat (first | exact Below.refl _ _ | refine bAlloc ?_ _ | refine bTrans ?_ hb1)

theorem specFew_off (n d l : Int) (w : World) (hn : I64 n) (h2 : okB n d = true) (h3 : (rateB n d && inB l 1 200) = false) :
    Calls Try.prog 23 #[fr n d, .int .i64 l] w fun e w' => e = .returned (.tuple #[.int .i64 0, .int .i64 2]) ∧ Below w.heap.size w w' := by
  have hn' := hn
  obtain ⟨w1, w2⟩ := hn
  have I := Lib.hid (fun w => l09Least_any l w)
  cases h4 : rateB n d
  · clear h3
    go_enter Try.func23, Try.ntmps23
    go_wp2_with fail
    refine (l02Ok_any n d _ (by omega) (by omega)).mono ?_
    rintro e u1 ⟨rfl, hb1⟩
    obtain ⟨a0, b0, f0, g0, z0⟩ : Bk u1 w.heap.size n d := bkOf hb1 (by refine ⟨?_, ?_, ?_, ?_, ?_⟩ <;> go_simp)
    go_wp2_with fail
    refine (l09Rate_any n d _ hn' h2).mono ?_
    rintro e u2 ⟨rfl, hb2⟩
    go_wp2_with fail
    go_ret2
    refine ⟨rfl, ?_⟩
    repeat (first | exact Below.refl _ _ | refine bAlloc ?_ _ | refine bTrans ?_ hb2 | refine bTrans ?_ hb1)
  · have h5 : inB l 1 200 = false := by simpa [h4] using h3
    rw [h5] at I
    clear h3
    go_enter Try.func23, Try.ntmps23
    go_wp2_with fail
    refine (l02Ok_any n d _ (by omega) (by omega)).mono ?_
    rintro e u1 ⟨rfl, hb1⟩
    obtain ⟨a0, b0, f0, g0, z0⟩ : Bk u1 w.heap.size n d := bkOf hb1 (by refine ⟨?_, ?_, ?_, ?_, ?_⟩ <;> go_simp)
    go_wp2_with fail
    refine (l09Rate_any n d _ hn' h2).mono ?_
    rintro e u2 ⟨rfl, hb2⟩
    go_wp2_with fail
    refine (I.out _).mono ?_
    rintro e u ⟨rfl, rfl⟩
    go_wp2_with fail
    go_ret2
    refine ⟨rfl, ?_⟩
    repeat (first | exact Below.refl _ _ | refine bAlloc ?_ _ | refine bTrans ?_ hb2 | refine bTrans ?_ hb1)

theorem fewP_eq (n d l : Int) {k : Nat} (k1 : 1 ≤ k) (k2 : k ≤ 12) : fewP n d l k = (decide ((1000 : Int) % (k : Int) = 0) && decide (n * k ≥ l * d)) := by
  have h : inB (k : Int) 1 12 = true := inB_iff.2 (by omega)
  rw [fewP, countB, h, Bool.true_and]

set_option maxHeartbeats 2000000 in
theorem specFew_yes (n d l : Int) (w : World) (hn : I64 n) (h2 : okB n d = true) (h3 : rateB n d = true) (h4 : inB l 1 200 = true) :
    Calls Try.prog 23 #[fr n d, .int .i64 l] w fun e w' => e = .returned (fewV (fewP n d l)) ∧ Below w.heap.size w w' := by
  have hn' := hn
  obtain ⟨w1, w2⟩ := hn
  have lb := rateB_bd h3
  obtain ⟨l1, l2⟩ := inB_iff.1 h4
  have ld := mulBd (x := l) (y := d) 200 1000 (by omega) (by omega) (by omega) (by omega)
  have I := Lib.hid (fun w => l09Least_any l w)
  rw [h4] at I
  go_enter Try.func23, Try.ntmps23
  go_wp2_with fail
  refine (l02Ok_any n d _ (by omega) (by omega)).mono ?_
  rintro e u1 ⟨rfl, hb1⟩
  have P0 : Bk u1 w.heap.size n d := bkOf hb1 (by refine ⟨?_, ?_, ?_, ?_, ?_⟩ <;> go_simp)
  have Q0 := P0
  obtain ⟨a0, b0, f0, g0, z0⟩ := Q0
  go_wp2_with fail
  refine (l09Rate_any n d _ hn' h2).mono ?_
  rintro e u2 ⟨rfl, hb2⟩
  clear a0 b0 f0 g0 z0
  obtain ⟨a0, b0, f0, g0, z0⟩ := bkOf hb2 P0
  have HB := Lib.hid (bTrans (bTrans (bAlloc (Below.refl w.heap.size w) _) hb1) hb2)
  clear hb1 hb2 P0
  go_wp2_with fail
  refine (I.out _).mono ?_
  rintro e u ⟨rfl, rfl⟩
  go_wp2_with fail
  go_loop [6] (fun s => ∃ k : Nat, k ≤ 12 ∧ s = .int .i64 (k + 1 : Nat) ∧ Hid (numN (fewP n d l) k = [])) (fun s => 13 - (intOf s).toNat)
  case atStart => exact ⟨0, by omega, rfl, Lib.hid rfl⟩
  case round =>
    obtain ⟨k, hk, rfl, HN⟩ := hrel
    by_cases hlt : k < 12
    · have hE := fewP_eq n d l (k := k + 1) (by omega) (by omega)
      have HY := Lib.hid (fun (h : fewP n d l (k + 1) = true) => fewV_at hlt h HN.out)
      have HX := Lib.hid (fun (h : fewP n d l (k + 1) = false) => (numN_no h).trans HN.out)
      obtain ⟨q, hq⟩ : ∃ q, k + 1 = q := ⟨_, rfl⟩
      rw [hq] at hE HY HX ⊢
      have q1 : 1 ≤ q := by omega
      have q2 : q ≤ 12 := by omega
      have q0 : ¬ (q : Int) = 0 := by omega
      have nq := mulBd (x := n) (y := (q : Int)) 1000 12 (by omega) (by omega) (by omega) (by omega)
      have hb : n * (q : Int) ≤ 12000 := by omega
      by_cases hm : (1000 : Int) % (q : Int) = 0
      · by_cases hg : l * d ≤ n * (q : Int)
        · have HV := Lib.hid (HY.out (by rw [hE]; simp [hm, hg]))
          clear hE
          go_wp2_with fail
          go_ret2
          exact ⟨by rw [HV.out]; rfl, HB.out⟩
        · have HV := Lib.hid (HX.out (by rw [hE]; simp [hm, hg]))
          clear hE
          go_wp2_with fail
          go_round
          case rel => exact ⟨k + 1, by omega, by rw [hq]; go_num, Lib.hid (by rw [hq]; exact HV.out)⟩
          case measure => simp [intOf]; omega
      · have HV := Lib.hid (HX.out (by rw [hE]; simp [hm]))
        clear hE
        go_wp2_with fail
        go_round
        case rel => exact ⟨k + 1, by omega, by rw [hq]; go_num, Lib.hid (by rw [hq]; exact HV.out)⟩
        case measure => simp [intOf]; omega
    · have : k = 12 := by omega
      subst this
      have HV := Lib.hid (fewV_none HN.out)
      go_wp2_with fail
      go_ret2
      exact ⟨by rw [HV.out]; rfl, HB.out⟩

set_option maxRecDepth 100000 in
set_option maxHeartbeats 4000000 in
theorem implFew_yes (n d l : Int) (w : World) (h2 : okB n d = true) (h3 : rateB n d = true) (h4 : inB l 1 200 = true) :
    Calls Try.prog 22 #[fr n d, .int .i64 l] w fun e w' => e = .returned (fewV (fewP n d l)) ∧ Below w.heap.size w w' := by
  have hlb := inB_iff.1 h4
  have hmf : ∀ (fn : Fn) (first cap : Array Value) (w : World), (Instr.makeFunc fn first cap).run Try.prog w = .ok (.func fn first cap) w := fun _ _ _ _ => rfl
  have VF := Lib.hid (fun w => validFraction_any n d w)
  rw [h2] at VF
  have WR := Lib.hid (fun w => wheelRate_any n d w)
  rw [h3] at WR
  have IL := Lib.hid (fun w => isLeast_any l w)
  rw [h4] at IL
  have H3 := Lib.hid h3
  clear h2 h3 h4
  refine (callsIn_wide (n := 3)).1 ?_
  have h1 : 1 ≤ 3 := by omega
  refine callsIn_of_wp_marks Try.func22 rfl trivial ?_ rfl
  simp only [Try.ntmps22, List.size_toArray, List.length_cons, List.length_nil, Nat.reduceAdd, Nat.reduceSub, Array.replicate_succ, Array.replicate_zero, List.push_toArray, List.append_toArray, List.nil_append, List.cons_append]
  gi_wp2_with (first
    | (refine ⟨trivial, ?_⟩; gi_at_call 56; refine (callsIn_wide.2 (VF.out _)).mono ?_; rintro e u1 ⟨rfl, hb1⟩; have P0 : Bk u1 w.heap.size n d := bkOf hb1 (by refine ⟨?_, ?_, ?_, ?_, ?_⟩ <;> go_simp); have P1 : Bx u1 (w.heap.size + 1) (.int .i64 l) := bxOf hb1 (by refine ⟨?_, ?_, ?_⟩ <;> go_simp); have HB1 := Lib.hid hb1; obtain ⟨a0, b0, f0, g0, z0⟩ := id P0)
    | (refine ⟨trivial, ?_⟩; gi_at_call 57; refine (callsIn_wide.2 (WR.out _)).mono ?_; rintro e u2 ⟨rfl, hb2⟩; have HB2 := Lib.hid hb2; obtain ⟨a1, z1, f1⟩ := bxOf hb2 P1)
    | (refine ⟨trivial, ?_⟩; gi_at_call 58; refine (callsIn_wide.2 (IL.out _)).mono ?_; rintro e u ⟨rfl, rfl⟩)
    | (refine ⟨trivial, ?_⟩; gi_at_call 62; refine (callsIn_wide.2 (numbersWith9 12 _ _ _)).mono ?_; rintro e u ⟨rfl, rfl⟩))
  have hb1 := HB1.out
  have hb2 := HB2.out
  have r0 := (Boxed.new ((w.alloc (.cells #[.int .i64 n, .int .i64 d] 27)).alloc (.cells #[.int .i64 l] 2)) 2 (.int .i64 0)).alloc (.cells #[.int .i64 0] 2)
  have r1 := Boxed.new (((w.alloc (.cells #[.int .i64 n, .int .i64 d] 27)).alloc (.cells #[.int .i64 l] 2)).alloc (.cells #[.int .i64 0] 2)) 2 (.int .i64 0)
  simp only [World.size_alloc] at r0 r1
  have q0 := ((box9 (box9 r0 hb1) hb2).alloc (.cells #[.int .i64 12] 2)).alloc (.cells #[.func (.func 63) #[] #[.pointer (some ⟨w.heap.size, 0, none⟩), .pointer (some ⟨w.heap.size + 1, 0, none⟩)]] 75)
  have q1 := ((box9 (box9 r1 hb1) hb2).alloc (.cells #[.int .i64 12] 2)).alloc (.cells #[.func (.func 63) #[] #[.pointer (some ⟨w.heap.size, 0, none⟩), .pointer (some ⟨w.heap.size + 1, 0, none⟩)]] 75)
  have hB0 : Below w.heap.size w ((u2.alloc (.cells #[.int .i64 12] 2)).alloc (.cells #[.func (.func 63) #[] #[.pointer (some ⟨w.heap.size, 0, none⟩), .pointer (some ⟨w.heap.size + 1, 0, none⟩)]] 75)) := bAlloc (bAlloc (bTrans (bTrans (bAlloc (bAlloc (bAlloc (bAlloc (Below.refl _ _) _) _) _) _) hb1) hb2) _) _
  have hw2 : Below u2.heap.size u2 ((u2.alloc (.cells #[.int .i64 12] 2)).alloc (.cells #[.func (.func 63) #[] #[.pointer (some ⟨w.heap.size, 0, none⟩), .pointer (some ⟨w.heap.size + 1, 0, none⟩)]] 75)) := bAlloc (bAlloc (Below.refl _ _) _) _
  have p0 := bkOf hw2 (bkOf hb2 P0)
  have p1 := bxOf hw2 (bxOf hb2 P1)
  have m0 := (Boxed.new u2 2 (.int .i64 12)).alloc (.cells #[.func (.func 63) #[] #[.pointer (some ⟨w.heap.size, 0, none⟩), .pointer (some ⟨w.heap.size + 1, 0, none⟩)]] 75)
  have m1 := Boxed.new (u2.alloc (.cells #[.int .i64 12] 2)) 75 (.func (.func 63) #[] #[.pointer (some ⟨w.heap.size, 0, none⟩), .pointer (some ⟨w.heap.size + 1, 0, none⟩)])
  simp only [World.size_alloc] at m1
  have hz : w.heap.size + 1 + 1 + 1 < u2.heap.size := (box9 (box9 r1 hb1) hb2).lt
  have hseq : SeqStopsK Fence.wide 2 Try.prog 91 #[.pointer (some ⟨u2.heap.size, 0, none⟩), .pointer (some ⟨u2.heap.size + 1, 0, none⟩)] (fun x : Int => #[.int .i64 x]) (Below (((u2.alloc (.cells #[.int .i64 12] 2)).alloc (.cells #[.func (.func 63) #[] #[.pointer (some ⟨w.heap.size, 0, none⟩), .pointer (some ⟨w.heap.size + 1, 0, none⟩)]] 75))).heap.size) (fun xs => xs = numN (fewP n d l) 12) (fun pre => ∃ k, k < 12 ∧ fewP n d l (k + 1) = true ∧ pre = numN (fewP n d l) (k + 1)) 12 ((u2.alloc (.cells #[.int .i64 12] 2)).alloc (.cells #[.func (.func 63) #[] #[.pointer (some ⟨w.heap.size, 0, none⟩), .pointer (some ⟨w.heap.size + 1, 0, none⟩)]] 75)) :=
    fun lv J Jx W hW hJ _ hY h0 => nums1_in9 2 (by omega) lv u2.heap.size (u2.heap.size + 1) w.heap.size (w.heap.size + 1) 12 (fewP n d l) ((u2.alloc (.cells #[.int .i64 12] 2)).alloc (.cells #[.func (.func 63) #[] #[.pointer (some ⟨w.heap.size, 0, none⟩), .pointer (some ⟨w.heap.size + 1, 0, none⟩)]] 75)) (by omega) (by simp; omega) (by simp) m0.cell m1.cell (fun k W k1 k2 hb => few9_any n d l k w.heap.size (w.heap.size + 1) W H3.out hlb k1 k2 (bkOf hb p0) (bxOf hb p1).1) J Jx hY W hW hJ h0
  clear hb1 hb2 r0 r1 hw2 p0 p1 m0 m1 P0 P1 HB1 HB2 a0 b0 f0 g0 z0 a1 z1 f1
  refine wpIn_rangeFunc_ownF rfl h1 (gf := 91) (lb := #[.pointer (some ⟨u2.heap.size, 0, none⟩), .pointer (some ⟨u2.heap.size + 1, 0, none⟩)]) rfl trivial (enters_of Try.func91 (by kernel_rfl) rfl) hseq belowK_t (belowK_b (Nat.le_refl _)) (Below.refl _ _) (fun _ => rfl)
    (fun pre W => (pre = [] ∧ Boxed W (w.heap.size + 1 + 1) 2 (.int .i64 0) ∧ Boxed W (w.heap.size + 1 + 1 + 1) 2 (.int .i64 0)) ∧ Below w.heap.size w W)
    (fun c pre W => (c = .ret ∧ (∃ x : Int, pre = [x] ∧ Boxed W (w.heap.size + 1 + 1) 2 (.int .i64 x)) ∧ Boxed W (w.heap.size + 1 + 1 + 1) 2 (.int .i64 0)) ∧ Below w.heap.size w W)
    (OwnFrom.and (Own.from (fun s A B row hs hg hr => ⟨hs.1, boxed_own _ _ (fun _ => _) s A B row hs.2.1 hg hr, boxed_own _ _ (fun _ => _) s A B row hs.2.2 hg hr⟩) _) (ownFrom_below (Nat.le_refl _) (by simp; omega)))
    (fun c => OwnFrom.and (Own.from (fun s A B row hs hg hr => ⟨hs.1, (let ⟨x, h1, h2⟩ := hs.2.1; ⟨x, h1, boxed_own _ _ (fun _ => _) s A B row h2 hg hr⟩), boxed_own _ _ (fun _ => _) s A B row hs.2.2 hg hr⟩) _) (ownFrom_below (Nat.le_refl _) (by simp; omega)))
    ⟨⟨rfl, q0, q1⟩, hB0⟩
    (fun x => { tmps := #[fr n d, .int .i64 l, .pointer (some ⟨w.heap.size, 0, none⟩), .pointer (some ⟨w.heap.size + 1, 0, none⟩), .pointer (some ⟨w.heap.size + 1 + 1, 0, none⟩), .pointer (some ⟨w.heap.size + 1 + 1 + 1, 0, none⟩), .func (.func 91) #[] #[.pointer (some ⟨u2.heap.size, 0, none⟩), .pointer (some ⟨u2.heap.size + 1, 0, none⟩)], .int .i64 x, fr n d, .bool true, .bool false, fr n d, .bool true, .bool false, .bool false, .int .i64 l, .bool true, .bool false, .bool false, .func (.func 63) #[] #[.pointer (some ⟨w.heap.size, 0, none⟩), .pointer (some ⟨w.heap.size + 1, 0, none⟩)], .func (.func 91) #[] #[.pointer (some ⟨u2.heap.size, 0, none⟩), .pointer (some ⟨u2.heap.size + 1, 0, none⟩)], .func (.func 91) #[] #[.pointer (some ⟨u2.heap.size, 0, none⟩), .pointer (some ⟨u2.heap.size + 1, 0, none⟩)], .int .i64 x, undef], defers := [] }) ?assign ?body ?done ?stop
  case assign =>
    intro lv x W K hK
    gi_wp2
    exact hK
  case body =>
    rintro lv pre x W ⟨⟨hp, hv, hf⟩, hB⟩ _
    have c0 := hv.cell
    have c1 := hf.cell
    have f0 := hv.frozen
    have f1 := hf.frozen
    have KS : KeepsOthers W ((W.setCell ⟨w.heap.size + 1 + 1, 0, none⟩ (.int .i64 x)).setCell ⟨w.heap.size + 1 + 1 + 1, 0, none⟩ (.int .i64 0)) := (KeepsOthers.setCell _ _ _).trans (KeepsOthers.setCell _ _ _)
    have BS := (hB.setCell (p := ⟨w.heap.size + 1 + 1, 0, none⟩) (by simp; omega) (.int .i64 x)).setCell (p := ⟨w.heap.size + 1 + 1 + 1, 0, none⟩) (by simp; omega) (.int .i64 0)
    have V1 := (hv.set (.int .i64 x)).other (B' := w.heap.size + 1 + 1 + 1) (by omega) (.int .i64 0)
    have V2 := (hf.other (B' := w.heap.size + 1 + 1) (by omega) (.int .i64 x)).set (.int .i64 0)
    subst hp
    gi_wp2
    exact ⟨KS, ⟨rfl, ⟨x, rfl, V1⟩, V2⟩, BS⟩
  case done =>
    rintro D ys W hD rfl ⟨⟨hne, hv, hf⟩, hB⟩ hK
    have c0 := hv.cell
    have c1 := hf.cell
    have f0 := hv.frozen
    have f1 := hf.frozen
    have HT := Lib.hid (fewV_none hne)
    have V1 := (hv.set (.int .i64 0)).other (B' := w.heap.size + 1 + 1 + 1) (by omega) (.int .i64 3)
    have V2 := (hf.other (B' := w.heap.size + 1 + 1) (by omega) (.int .i64 0)).set (.int .i64 3)
    have BS := (hB.setCell (p := ⟨w.heap.size + 1 + 1, 0, none⟩) (by simp; omega) (.int .i64 0)).setCell (p := ⟨w.heap.size + 1 + 1 + 1, 0, none⟩) (by simp; omega) (.int .i64 3)
    gi_wp2
    have hK' := ((KeepsOthers.setCell W ⟨w.heap.size + 1 + 1, 0, none⟩ (.int .i64 0)).trans (KeepsOthers.setCell _ ⟨w.heap.size + 1 + 1 + 1, 0, none⟩ (.int .i64 3))).same D _ hK rfl
    refine ⟨by simp, .inl ⟨_, _, rfl, run_takeDeferred hK', ?_⟩⟩
    have hc5 := cell_kept V1.cell (grownBy_putObj' _ D (.deferred none)) (fun r e => by cases e; exact ⟨_, hK', rfl⟩)
    have hc6 := cell_kept V2.cell (grownBy_putObj' _ D (.deferred none)) (fun r e => by cases e; exact ⟨_, hK', rfl⟩)
    refine ⟨.tuple #[.int .i64 0, .int .i64 3], ?_, by rw [HT.out], BS.trans (belowK_b (w := w) (Nat.le_refl _) _ D _ _ (by simp at hD; omega) hK' rfl rfl)⟩
    simp [results, Try.f22, go_sem, hc5, hc6]
  case stop =>
    rintro D c pre W hD ⟨k, hk, hPk, hpre⟩ ⟨⟨rfl, ⟨x, hx, hv⟩, hf⟩, hB⟩ hK
    have hlist : numN (fewP n d l) k ++ [((k + 1 : Nat) : Int)] = [] ++ [x] := by rw [← numN_yes hPk, ← hpre, hx]; rfl
    obtain ⟨h0, hxs⟩ := List.append_inj' hlist rfl
    have hx1 : x = ((k + 1 : Nat) : Int) := by simpa using hxs.symm
    have HT := Lib.hid (fewV_at hk hPk h0)
    rw [← hx1] at HT
    gi_wp2
    refine ⟨by simp, .inl ⟨_, _, rfl, run_takeDeferred hK, ?_⟩⟩
    have hc5 := cell_kept hv.cell (grownBy_putObj' _ D (.deferred none)) (fun r e => by cases e; exact ⟨_, hK, rfl⟩)
    have hc6 := cell_kept hf.cell (grownBy_putObj' _ D (.deferred none)) (fun r e => by cases e; exact ⟨_, hK, rfl⟩)
    refine ⟨.tuple #[.int .i64 x, .int .i64 0], ?_, by rw [HT.out], hB.trans (belowK_b (w := w) (Nat.le_refl _) W D _ _ (by simp at hD; omega) hK rfl rfl)⟩
    simp [results, Try.f22, go_sem, hc5, hc6]

/-- The statement's walk, out of the two functions. -/
theorem lawFewestBlades_of (n d l : Int) (x y : Int) (w : World)
    (hs : ∀ w : World, Calls Try.prog 23 #[fr n d, .int .i64 l] w fun e w' => e = .returned (.tuple #[.int .i64 x, .int .i64 y]) ∧ Below w.heap.size w w')
    (hi : ∀ w : World, Calls Try.prog 22 #[fr n d, .int .i64 l] w fun e w' => e = .returned (.tuple #[.int .i64 x, .int .i64 y]) ∧ Below w.heap.size w w') :
    Calls Try.prog 11 #[fr n d, .int .i64 l] w fun e w' => e = .returned (.bool true) ∧ Below w.heap.size w w' := by
  have S := Lib.hid hs
  have I := Lib.hid hi
  clear hs hi
  go_enter Try.func11, Try.ntmps11
  go_wp2_with fail
  refine (toFraction_any _ _ _).mono ?_
  rintro e u1 ⟨rfl, hb1⟩
  have P0 : Bk u1 w.heap.size n d := bkOf hb1 (bkNew _ _ _ _)
  go_wp2_with fail
  refine (S.out _).mono ?_
  rintro e u2 ⟨rfl, hb2⟩
  have P1 := bkOf hb2 P0
  obtain ⟨c0, c1, f0, f1, z0⟩ := P1
  go_wp2_with fail
  refine (toFraction_any _ _ _).mono ?_
  rintro e u3 ⟨rfl, hb3⟩
  go_wp2_with fail
  refine (I.out _).mono ?_
  rintro e u4 ⟨rfl, hb4⟩
  go_wp2_with fail
  go_ret
  exact ⟨rfl, bTrans (bTrans (bTrans (bTrans (bAlloc (Below.refl _ _) _) hb1) hb2) hb3) hb4⟩

theorem fewV_form (P : Nat → Bool) : ∃ x y : Int, fewV P = .tuple #[.int .i64 x, .int .i64 y] := by
  unfold fewV
  split
  · exact ⟨_, _, rfl⟩
  · exact ⟨_, _, rfl⟩

/-- laws.FnExactFewestBlades. -/
theorem law_FewestBlades (n d l : Int) (w : World) (hn : I64 n) (_hd : I64 d) (_hl : I64 l) :
    Calls Try.prog 11 #[fr n d, .int .i64 l] w fun e w' => e = .returned (.bool true) ∧ Below w.heap.size w w' := by
  cases h2 : okB n d
  · exact lawFewestBlades_of n d l _ 1 w (fun w => specFew_bad n d l w hn h2) (fun w => implFew_bad n d l w h2)
  · cases h3 : rateB n d && inB l 1 200
    · exact lawFewestBlades_of n d l _ 2 w (fun w => specFew_off n d l w hn h2 h3) (fun w => implFew_off n d l w h2 h3)
    · rw [Bool.and_eq_true] at h3
      obtain ⟨x, y, hV⟩ := fewV_form (fewP n d l)
      exact lawFewestBlades_of n d l x y w (fun w => by rw [← hV]; exact specFew_yes n d l w hn h2 h3.1 h3.2) (fun w => by rw [← hV]; exact implFew_yes n d l w h2 h3.1 h3.2)

end Go.Proofs.Ytflgjohknjgdcaa
