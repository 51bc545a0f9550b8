/- The picture that is seen at a flash, in the program and in the model; and the statement's own walk. -/
import Derived.Test.YtibafngidpmgdaaProg
import Derived.Test.YtibafngidpmgdaaDisc
import Derived.Test.YtibafngidpmgdaaTwo
import Derived.Deep.RegionWith
import Derived.Deep.DrawnRows
import Derived.Laws.StructEq
import Derived.Tactics
import Derived.Tactics2
import Derived.WalkKit
import Derived.LoopTactic
import Derived.BigQuiet
import Derived.RegionTactic
import Derived.BigRegion
import Derived.ChangeAlike
import Derived.Deep.QuietTactic
import Derived.Deep.RegionHeld3
import Derived.Deep.DeepCutAuto
import Derived.Outline
import Derived.Lib.Hide
import Derived.Below
import Derived.KernelRfl
namespace Go.Proofs.Ytibafngidpmgdaa
set_option linter.unusedSimpArgs false
set_option linter.unusedVariables false
open Go.RowKit

theorem store_func {P : Program} {w : World} {a : Addr} {m : Mode} (fn : Fn) (first captured : Array Value) : (store a (.func fn first captured) m).run P w = stored P w a (.func fn first captured) m := run_store P w a _ m rfl
attribute [local go_sem] store_func

/-- What impl.flashes has laid from block b on: the pictures, the slits, the residue's slits, the residue. -/
def Fl (w : World) (b : Nat) (p s : Int) : Prop :=
  w.cell? ⟨b, 0, none⟩ = some (.int .i64 p) ∧ w.cell? ⟨b + 1, 0, none⟩ = some (.int .i64 s) ∧ w.cell? ⟨b + 2, 0, none⟩ = some (.int .i64 s) ∧
  w.cell? ⟨b + 3, 0, none⟩ = some (.func (.func 166) #[] #[.pointer (some ⟨b + 2, 0, none⟩)]) ∧ b + 3 < w.heap.size
theorem Fl.below {w u : World} {b : Nat} {p s : Int} (h : Fl w b p s) (hb : Below w.heap.size w u) : Fl u b p s := by
  obtain ⟨h1, h2, h3, h4, h5⟩ := h
  exact ⟨(hb.cell (by simp; omega)).trans h1, (hb.cell (by simp; omega)).trans h2, (hb.cell (by simp; omega)).trans h3, (hb.cell (by simp; omega)).trans h4, Nat.lt_of_lt_of_le h5 hb.size⟩

/-- impl.residues, the world written out. -/
theorem residues_at (s : Int) (w : World) :
    Calls Try.prog 164 #[.int .i64 s] w fun e w' => e = .returned (.func (.func 166) #[] #[.pointer (some ⟨w.heap.size, 0, none⟩)]) ∧ w.alloc (.cells #[.int .i64 s] 2) = w' := by
  have hmf : ∀ (fn : Fn) (first cap : Array Value) (w : World), (Instr.makeFunc fn first cap).run Try.prog w = .ok (.func fn first cap) w := fun _ _ _ _ => rfl
  go_enter Try.func164, Try.ntmps164
  go_wp2
  go_ret
  exact ⟨rfl, rfl⟩

set_option maxHeartbeats 1000000 in
/-- impl.flashes. -/
theorem flashes_any (p s : Int) (w : World) :
    Calls Try.prog 161 #[.int .i64 p, .int .i64 s] w fun e w' =>
      e = .returned (.func (.func 165) #[] #[.pointer (some ⟨w.heap.size, 0, none⟩), .pointer (some ⟨w.heap.size + 3, 0, none⟩), .pointer (some ⟨w.heap.size + 1, 0, none⟩)]) ∧ Fl w' w.heap.size p s ∧ Below w.heap.size w w' := by
  have hmf : ∀ (fn : Fn) (first cap : Array Value) (w : World), (Instr.makeFunc fn first cap).run Try.prog w = .ok (.func fn first cap) w := fun _ _ _ _ => rfl
  go_enter Try.func161, Try.ntmps161
  go_wp2_with fail
  refine (residues_at s _).mono ?_
  rintro e u1 ⟨rfl, rfl⟩
  go_wp2_with fail
  go_ret
  refine ⟨rfl, ⟨?_, ?_, ?_, ?_, ?_⟩, ?_⟩
  · go_simp
  · go_simp
  · go_simp
  · go_simp
  · go_simp
  · repeat (first | exact Below.refl _ _ | refine bSet ?_ (by first | (simp; done) | (simp; omega)) _ | refine bAlloc ?_ _)

/-- The picture seen behind x parts, and by how many parts it is off. -/
def seenN (p s x : Int) : Int := near x s % p
def offN (s x : Int) : Int := resid (-x) s

theorem seen_facts {p s x : Int} (h : discB p s = true) (x0 : 0 ≤ x) (x1 : x ≤ 48000000) :
    -48 ≤ offN s x ∧ offN s x ≤ 48 ∧ 0 ≤ x + offN s x ∧ (x + offN s x) / s = near x s ∧ 0 ≤ near x s ∧ near x s ≤ 48000001 ∧ 0 ≤ seenN p s x ∧ seenN p s x < p := by
  obtain ⟨p1, p2, s1, s2⟩ := discB_bd h
  obtain ⟨n1, n2, n3⟩ := near_back x0 s1
  obtain ⟨n4, n5⟩ := near_bd x0 x1 s1
  have hr := resid_bd (-x) s1
  have h1 := Int.emod_nonneg (near x s) (show p ≠ 0 by omega)
  have h2 := Int.emod_lt_of_pos (near x s) (show 0 < p by omega)
  unfold offN seenN
  exact ⟨by omega, by omega, n2, n1, n3, by omega, h1, h2⟩

set_option maxHeartbeats 1000000 in
/-- The function that impl.flashes hands back: its body. -/
theorem flash_any (p s k x : Int) (b : Nat) (w : World) (hf : Fl w b p s) (h : discB p s = true) (hk : k * p = x) (x0 : 0 ≤ x) (x1 : x ≤ 48000000) :
    Calls Try.prog 165 #[.int .i64 k, .pointer (some ⟨b, 0, none⟩), .pointer (some ⟨b + 3, 0, none⟩), .pointer (some ⟨b + 1, 0, none⟩)] w fun e w' => e = .returned (.tuple #[.int .i64 (seenN p s x), .int .i64 (offN s x)]) ∧ ∃ n, w' = w.drewN n := by
  obtain ⟨c0, c1, c2, c3, z⟩ := hf
  obtain ⟨o1, o2, o3, o4, o5, o6, o7, o8⟩ := seen_facts h x0 x1
  obtain ⟨p1, p2, s1, s2⟩ := discB_bd h
  have R := Lib.hid (fun w hc => residue_any (-x) s (b + 2) w hc s1 s2 (by omega) (by omega))
  have hp0 : ¬ p = 0 := by omega
  have hs0 : ¬ s = 0 := by omega
  have hS := Lib.hid (show seenN p s x = near x s % p from rfl)
  have hO : resid (-x) s = offN s x := rfl
  rw [hO] at R
  clear hO
  generalize offN s x = o at *
  generalize near x s = y at *
  go_enter Try.func165, Try.ntmps165
  go_wp2_with fail
  refine (R.out _ c2).mono ?_
  rintro e u ⟨rfl, rfl⟩
  go_wp2
  go_quiet (fail)
  go_wp2
  go_ret2
  exact ⟨by rw [hS.out]; rfl, _, rfl⟩

/-- spec.l00Floor, of a number that is not negative. -/
theorem floor_pos (n d : Int) (w : World) (n0 : 0 ≤ n) (n1 : n ≤ 1000000000000) (d0 : 1 ≤ d) (d1 : d ≤ 1000000000000) :
    Calls Try.prog 160 #[.int .i64 n, .int .i64 d] w fun e w' => e = .returned (.int .i64 (n / d)) ∧ w = w' := by
  have h1 := Int.emod_nonneg n (show d ≠ 0 by omega)
  have h2 := Int.ediv_nonneg n0 (show 0 ≤ d by omega)
  have h3 := Int.ediv_le_self d n0
  have h0 : ¬ d = 0 := by omega
  go_enter Try.func160, Try.ntmps160
  go_wp2
  go_ret
  exact ⟨rfl, rfl⟩

/-- spec.l00Round, of a number that is not negative. -/
theorem round_pos (x s : Int) (w : World) (x0 : 0 ≤ x) (x1 : x ≤ 100000000000) (s0 : 1 ≤ s) (s1 : s ≤ 100000000000) :
    Calls Try.prog 147 #[.int .i64 x, .int .i64 s] w fun e w' => e = .returned (.int .i64 (near x s)) ∧ w = w' := by
  go_enter Try.func147, Try.ntmps147
  go_wp2_with fail
  refine (floor_pos _ _ _ (by omega) (by omega) (by omega) (by omega)).mono ?_
  rintro e u ⟨rfl, rfl⟩
  go_wp2_with fail
  go_ret
  exact ⟨rfl, rfl⟩

/-- spec.l03Near. -/
theorem l03Near_any (p s k x : Int) (w : World) (h : discB p s = true) (hk : k * p = x) (x0 : 0 ≤ x) (x1 : x ≤ 48000000) :
    Calls Try.prog 162 #[.int .i64 p, .int .i64 s, .int .i64 k] w fun e w' => e = .returned (.int .i64 (near x s)) ∧ w = w' := by
  obtain ⟨p1, p2, s1, s2⟩ := discB_bd h
  go_enter Try.func162, Try.ntmps162
  go_wp2_with fail
  refine (round_pos _ _ _ (by omega) (by omega) (by omega) (by omega)).mono ?_
  rintro e u ⟨rfl, rfl⟩
  go_wp2_with fail
  go_ret
  exact ⟨rfl, rfl⟩

/-- spec.l03Seen. -/
theorem l03Seen_any (p s k x : Int) (w : World) (h : discB p s = true) (hk : k * p = x) (x0 : 0 ≤ x) (x1 : x ≤ 48000000) :
    Calls Try.prog 155 #[.int .i64 p, .int .i64 s, .int .i64 k] w fun e w' => e = .returned (.int .i64 (seenN p s x)) ∧ w = w' := by
  obtain ⟨o1, o2, o3, o4, o5, o6, o7, o8⟩ := seen_facts h x0 x1
  obtain ⟨p1, p2, s1, s2⟩ := discB_bd h
  have hp0 : ¬ p = 0 := by omega
  have hS := Lib.hid (show seenN p s x = near x s % p from rfl)
  go_enter Try.func155, Try.ntmps155
  go_wp2_with fail
  refine (l03Near_any p s k x _ h hk x0 x1).mono ?_
  rintro e u ⟨rfl, rfl⟩
  go_wp2_with fail
  go_ret
  exact ⟨by rw [hS.out]; rfl, rfl⟩

/-- What SeenAt takes. -/
def flashB (p s k : Int) : Bool := discB p s && inB k 0 1000000
theorem flash_bd {p s k : Int} (h : flashB p s k = true) : discB p s = true ∧ 0 ≤ k ∧ k ≤ 1000000 ∧ 0 ≤ k * p ∧ k * p ≤ 48000000 := by
  simp only [flashB, Bool.and_eq_true] at h
  obtain ⟨h1, h2⟩ := h
  obtain ⟨k0, k1⟩ := inB_iff.1 h2
  obtain ⟨p1, p2, s1, s2⟩ := discB_bd h1
  have m1 := mul_bd (x := k) (y := p) (m := 1000000) (k := 48) (by omega) (by omega) (by omega) (by omega)
  have m2 : 0 ≤ k * p := Int.mul_nonneg k0 (by omega)
  exact ⟨h1, k0, k1, m2, by omega⟩

def seenV (p s x : Int) : Value := .tuple #[.int .i64 (seenN p s x), fr ((offN s x).tdiv (divI (offN s x) s)) (s.tdiv (divI (offN s x) s)), .int .i64 0]

end Go.Proofs.Ytibafngidpmgdaa
