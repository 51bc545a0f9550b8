/- Poses between two poses: plain mathematics; the model. -/
import Derived.Test.YtibafngidpmgdaaProg
import Derived.Test.YtibafngidpmgdaaDiscMath
import Derived.Test.YtibafngidpmgdaaPose
import Derived.Test.YtibafngidpmgdaaKeys
import Derived.OwnWalk
import Derived.Laws.AppendOwn
import Derived.Laws.OwnMore
import Derived.Deep.RegionWith
import Derived.Deep.DrawnRows
import Derived.Deep.RegionHeld3
import Derived.Tactics
import Derived.Tactics2
import Derived.WalkKit
import Derived.LoopTactic
import Derived.BigQuiet
import Derived.RegionTactic
import Derived.Deep.QuietTactic
import Derived.IntWalk
import Derived.Outline
import Derived.Lib.Hide
import Derived.Below
import Derived.KernelRfl
namespace Go.Proofs.Ytibafngidpmgdaa
set_option linter.unusedSimpArgs false
set_option linter.unusedVariables false
open Go.RowKit

/-- The number at the part m of n from a to b. -/
def mixN (a b m n : Int) : Int := near (a * (n - m) + b * m) n
def mixP (p q : Pt) (m n : Int) : Pt := (mixN p.1 q.1 m n, mixN p.2 q.2 m n)
/-- The pose at the part m of n from one to another one. -/
def mixL (ps qs : List Pt) (m n : Int) (k : Nat) : List Pt := (List.range k).map fun i => mixP (ps.getD i (0, 0)) (qs.getD i (0, 0)) m n

theorem mixL_length (ps qs : List Pt) (m n : Int) (k : Nat) : (mixL ps qs m n k).length = k := by simp [mixL]
theorem mixL_succ (ps qs : List Pt) (m n : Int) (k : Nat) : mixL ps qs m n (k + 1) = mixL ps qs m n k ++ [mixP (ps.getD k (0, 0)) (qs.getD k (0, 0)) m n] := by
  unfold mixL
  rw [List.range_succ, List.map_append]
  rfl
theorem mixL_get (ps qs : List Pt) (m n : Int) (k i : Nat) (h : i < k) : (mixL ps qs m n k).getD i (0, 0) = mixP (ps.getD i (0, 0)) (qs.getD i (0, 0)) m n := by
  unfold mixL
  rw [List.getD_eq_getElem?_getD, List.getElem?_map, List.getElem?_range h]
  rfl

/-- What is weighed is between 0 and a thousand parts. -/
theorem weigh_bd {a b m n : Int} (a0 : 0 ≤ a) (a1 : a ≤ 1000) (b0 : 0 ≤ b) (b1 : b ≤ 1000) (m0 : 0 ≤ m) (m1 : m ≤ n) (n1 : n ≤ 10000) :
    0 ≤ a * (n - m) ∧ a * (n - m) ≤ 10000000 ∧ 0 ≤ b * m ∧ b * m ≤ 10000000 ∧ a * (n - m) + b * m ≤ 1000 * n := by
  have h1 := Int.mul_nonneg a0 (show 0 ≤ n - m by omega)
  have h2 := Int.mul_nonneg b0 m0
  have h3 := Int.mul_le_mul_of_nonneg_right a1 (show 0 ≤ n - m by omega)
  have h4 := Int.mul_le_mul_of_nonneg_right b1 m0
  omega
theorem near_at {y n : Int} (h : 1 ≤ n) : near (y * n) n = y := by
  unfold near
  rw [show 2 * (y * n) + n = n + (2 * n) * y by rw [Int.mul_comm y n, Int.mul_assoc]; omega, Int.add_mul_ediv_left _ _ (by omega), Int.ediv_eq_zero_of_lt (by omega) (by omega)]
  omega
theorem near_mono {x y n : Int} (h : 1 ≤ n) (hxy : x ≤ y) : near x n ≤ near y n := by
  unfold near
  exact Int.ediv_le_ediv (by omega) (by omega)
theorem mix_start {a b n : Int} (h : 1 ≤ n) : mixN a b 0 n = a := by
  unfold mixN
  rw [Int.sub_zero, Int.mul_zero, Int.add_zero, near_at h]
theorem mix_end {a b n : Int} (h : 1 ≤ n) : mixN a b n n = b := by
  unfold mixN
  rw [Int.sub_self, Int.mul_zero, Int.zero_add, near_at h]
theorem mix_between {a b m n : Int} (m0 : 0 ≤ m) (m1 : m ≤ n) (n1 : 1 ≤ n) : min a b ≤ mixN a b m n ∧ mixN a b m n ≤ max a b := by
  have e1 : min a b * n = min a b * (n - m) + min a b * m := by rw [← Int.mul_add]; congr 1; omega
  have e2 : max a b * n = max a b * (n - m) + max a b * m := by rw [← Int.mul_add]; congr 1; omega
  have h1 := Int.mul_le_mul_of_nonneg_right (show min a b ≤ a by omega) (show 0 ≤ n - m by omega)
  have h2 := Int.mul_le_mul_of_nonneg_right (show min a b ≤ b by omega) m0
  have h3 := Int.mul_le_mul_of_nonneg_right (show a ≤ max a b by omega) (show 0 ≤ n - m by omega)
  have h4 := Int.mul_le_mul_of_nonneg_right (show b ≤ max a b by omega) m0
  have l := near_mono n1 (show min a b * n ≤ a * (n - m) + b * m by omega)
  have u := near_mono n1 (show a * (n - m) + b * m ≤ max a b * n by omega)
  rw [near_at n1] at l u
  exact ⟨l, u⟩
theorem mixP_start {p q : Pt} {n : Int} (h : 1 ≤ n) : mixP p q 0 n = p := by simp [mixP, mix_start h]
theorem mixP_end {p q : Pt} {n : Int} (h : 1 ≤ n) : mixP p q n n = q := by simp [mixP, mix_end h]

/-- A contract that leaves the world alone, met in a region that draws behind other draws. -/
theorem quietEq2 {P : Program} {f : FuncId} {args : Array Value} {w : World} {b n : Nat} {v : Value} (h : Calls P f args (w.drewN (b + n)) fun e u => e = .returned v ∧ w.drewN (b + n) = u) :
    Calls P f args (w.drewN (b + n)) fun e u => e = .returned v ∧ ∃ m, u = w.drewN (b + m) := h.mono fun _ _ hh => ⟨hh.1, n, hh.2.symm⟩

/-- spec.l00Floor, of a number that is not negative. -/
theorem floorP_pos (n d : Int) (w : World) (n0 : 0 ≤ n) (n1 : n ≤ 1000000000000) (d0 : 1 ≤ d) (d1 : d ≤ 1000000000000) :
    Calls Try.prog 160 #[.int .i64 n, .int .i64 d] w fun e w' => e = .returned (.int .i64 (n / d)) ∧ w = w' := by
  have h1 := Int.emod_nonneg n (show d ≠ 0 by omega)
  have h2 := Int.ediv_nonneg n0 (show 0 ≤ d by omega)
  have h3 := Int.ediv_le_self d n0
  have h0 : ¬ d = 0 := by omega
  go_enter Try.func160, Try.ntmps160
  go_wp2
  go_ret
  exact ⟨rfl, rfl⟩

/-- spec.l00Round, of a number that is not negative. -/
theorem roundP_pos (x s : Int) (w : World) (x0 : 0 ≤ x) (x1 : x ≤ 100000000000) (s0 : 1 ≤ s) (s1 : s ≤ 100000000000) :
    Calls Try.prog 147 #[.int .i64 x, .int .i64 s] w fun e w' => e = .returned (.int .i64 (near x s)) ∧ w = w' := by
  go_enter Try.func147, Try.ntmps147
  go_wp2_with fail
  refine (floorP_pos _ _ _ (by omega) (by omega) (by omega) (by omega)).mono ?_
  rintro e u ⟨rfl, rfl⟩
  go_wp2_with fail
  go_ret
  exact ⟨rfl, rfl⟩

/-- Two new cells: what an append reads. -/
theorem two_new (w : World) (x y : Int) (t : TypeId) : ∀ j u, [Value.int .i64 x, Value.int .i64 y][j]? = some u → (w.alloc (.cells #[.int .i64 x, .int .i64 y] t)).cell? ((⟨w.heap.size, 0, none⟩ : Addr).add j) = some u := by
  intro j u hj
  match j, hj with
  | 0, hj =>
    simp at hj
    subst hj
    simp [Addr.add]
  | 1, hj =>
    simp at hj
    subst hj
    simp [Addr.add]
theorem two_oneCell (x y : Int) : ∀ u ∈ [Value.int .i64 x, Value.int .i64 y], u.oneCell' = true := by
  intro u h
  simp at h
  rcases h with rfl | rfl <;> rfl

set_option maxHeartbeats 2000000 in
set_option maxRecDepth 100000 in
/-- spec.l04Between. -/
theorem l04Between_any (A A' : Option Addr) (n c c' : Nat) (ps qs : List Pt) (m N : Int) (w : World) (hv : Rd w A n ps) (hu : Rd w A' n qs) (hp : poseB ps = true) (hq : poseB qs = true) (m0 : 0 ≤ m) (m1 : m ≤ N) (n0 : 1 ≤ N) (n1 : N ≤ 10000) :
    Calls Try.prog 107 #[.slice A n c, .slice A' n c', .int .i64 m, .int .i64 N] w fun e w' => ∃ v, e = .returned v ∧ Pts w' w.heap.size v (mixL ps qs m N n) ∧ Below w.heap.size w w' := by
  obtain ⟨i0, hi, hz0, hz1, hz2⟩ := info_parts infoPt
  have HLn := Lib.hid hv.1
  have HLm := Lib.hid hu.1
  have HV := Lib.hid hv
  have HU := Lib.hid hu
  have hn := hv.2.1
  have HP := Lib.hid (poseB_get hp)
  have HQ := Lib.hid (poseB_get hq)
  clear hv hu hp hq
  go_enter Try.func107, Try.ntmps107
  go_wp2
  go_loopw [10, 9] (fun i v wr => ∃ k : Nat, k ≤ n ∧ i = .int .i64 k ∧ Hid (wr.ownsRow w.heap.size 57 2 v k (flat (mixL ps qs m N k))) ∧ Hid (Below w.heap.size w wr)) (fun i _ _ => n - (intOf i).toNat)
  case atStart => exact ⟨0, Nat.zero_le _, rfl, Lib.hid (World.ownsRow_lit w #[] 0 (Nat.le_refl _) (Nat.zero_le _) rfl), Lib.hid (bAlloc (Below.refl _ _) _)⟩
  case round =>
    obtain ⟨k, hk, rfl, HO, HB⟩ := hrel
    by_cases hlt : k < n
    · obtain ⟨_, _, h3⟩ := HV.out.below HB.out
      obtain ⟨_, _, h4⟩ := HU.out.below HB.out
      rcases h3 with h0 | ⟨g, rfl, hg, h3⟩
      · omega
      rcases h4 with h0 | ⟨d, rfl, hd, h4⟩
      · omega
      obtain ⟨c0, c1⟩ := h3 k hlt
      obtain ⟨c2, c3⟩ := h4 k hlt
      have q1 := HP.out k (by rw [HLn.out]; exact hlt)
      have q2 := HQ.out k (by rw [HLm.out]; exact hlt)
      have HS := Lib.hid (mixL_succ ps qs m N k)
      have HM := Lib.hid (show mixP (ps.getD k (0, 0)) (qs.getD k (0, 0)) m N = (near ((ps.getD k (0, 0)).1 * (N - m) + (qs.getD k (0, 0)).1 * m) N, near ((ps.getD k (0, 0)).2 * (N - m) + (qs.getD k (0, 0)).2 * m) N) from rfl)
      obtain ⟨b1, b2, b3, b4, b5⟩ := weigh_bd (a := (ps.getD k (0, 0)).1) (b := (qs.getD k (0, 0)).1) (by omega) (by omega) (by omega) (by omega) m0 m1 n1
      obtain ⟨d1, d2, d3, d4, d5⟩ := weigh_bd (a := (ps.getD k (0, 0)).2) (b := (qs.getD k (0, 0)).2) (by omega) (by omega) (by omega) (by omega) m0 m1 n1
      clear h3 h4
      generalize (ps.getD k (0, 0)).1 = x at *
      generalize (ps.getD k (0, 0)).2 = y at *
      generalize (qs.getD k (0, 0)).1 = x' at *
      generalize (qs.getD k (0, 0)).2 = y' at *
      have hbz := HB.out.size
      have r1 := Lib.hid (fun w => roundP_pos (x * (N - m) + x' * m) N w (by omega) (by omega) (by omega) (by omega))
      have r2 := Lib.hid (fun w => roundP_pos (y * (N - m) + y' * m) N w (by omega) (by omega) (by omega) (by omega))
      have w0 : IntKind.i64.wrap (N - m) = N - m := IntWalk.i64_in _ (by omega)
      have w1 : IntKind.i64.wrap (x * (N - m)) = x * (N - m) := IntWalk.i64_in _ (by omega)
      have w2 : IntKind.i64.wrap (x' * m) = x' * m := IntWalk.i64_in _ (by omega)
      have w3 : IntKind.i64.wrap (x * (N - m) + x' * m) = x * (N - m) + x' * m := IntWalk.i64_in _ (by omega)
      have w4 : IntKind.i64.wrap (y * (N - m)) = y * (N - m) := IntWalk.i64_in _ (by omega)
      have w5 : IntKind.i64.wrap (y' * m) = y' * m := IntWalk.i64_in _ (by omega)
      have w6 : IntKind.i64.wrap (y * (N - m) + y' * m) = y * (N - m) + y' * m := IntWalk.i64_in _ (by omega)
      go_wp2
      go_quiet ((go_at_call 147; exact quietEq (r1.out _)))
      go_wp2
      go_quiet ((go_at_call 147; exact quietEq2 (r2.out _)))
      clear w0 w1 w2 w3 w4 w5 w6 b1 b2 b3 b4 b5 d1 d2 d3 d4 d5 c0 c1 c2 c3
      generalize near (x * (N - m) + x' * m) N = X at *
      generalize near (y * (N - m) + y' * m) N = Y at *
      go_wp2_with (first | (at_builtin; refine wpList_append_own _ rfl _ _ 24 rfl w.heap.size 57 i0 (fr 0 0) 2 16 Try.underlying24 hi hz0 hz1 hz2 rfl (by decide) _ _ _ rfl ((ownsDrewN HO.out _).alloc _) ⟨wr.heap.size, 0, none⟩ 1 1 [.int .i64 X, .int .i64 Y] rfl rfl (two_new _ _ _ _) (two_oneCell _ _) (by unfold maxLen; omega) (by omega) (by simp; omega) ?_; intro v' w1 hown' hgrow hnil) | fail)
      have HO' := Lib.hid hown'
      have HB' := Lib.hid (Below.grown (bAlloc (bDrewN HB.out _) _) hgrow (by simp; omega) (fun j hj => (World.ownsRow.lt HO.out j hj).1))
      clear hown' hgrow hnil
      go_wp2
      go_roundw
      case rel => exact ⟨k + 1, by omega, by go_num, Lib.hid (by rw [HS.out, flat_append, HM.out]; exact HO'.out), HB'⟩
      case measure => simp [intOf]; omega
    · have : k = n := by omega
      subst this
      go_wp2
      go_ret
      refine ⟨_, rfl, ?_, HB.out⟩
      unfold Pts
      rw [mixL_length]
      exact HO.out

end Go.Proofs.Ytibafngidpmgdaa
