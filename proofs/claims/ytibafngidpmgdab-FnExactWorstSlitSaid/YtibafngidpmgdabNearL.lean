/- nearestDistance hands over the least distance. -/
import Derived.Test.YtibafngidpmgdabPlaceB
namespace Go.Proofs.Ytibafngidpmgdab
open Go.Conc
set_option linter.unusedSimpArgs false
set_option linter.unusedVariables false

theorem Callee.mono {P : Program} {f : FuncId} {args : Array Value} {w : World} {R R' : Value → World → Prop} (h : Callee P f args w R) (hr : ∀ v w', R v w' → R' v w') : Callee P f args w R' :=
  ⟨h.1, fun main c cs Stop nx hl => h.2 main c cs Stop (fun v w' hv => nx v w' (hr v w' hv)) hl⟩

/-- The distances are those of the specification. -/
theorem nearestD_ev (r h s x : Int) (tv : Value) (p : Nat) (w : World) (hv : Row0 w tv (placesL r p)) (r1 : 100 ≤ r ∧ r ≤ 10000) (p1 : 1 ≤ p ∧ p ≤ 48) (x1 : 0 ≤ x ∧ x ≤ r) :
    Callee Try.prog 101 #[dr r h s, tv, .int .i64 x] w fun v w' => v = .int .i64 (leastD r x (placesL r p) r) ∧ Old w w' := by
  have hlen := placesL_length r p
  have hb : ∀ j, j < (placesL r p).length → 0 ≤ (placesL r p).getD j 0 ∧ (placesL r p).getD j 0 ≤ r := fun j hj => placesL_bd r p r1.1 (by omega) j (by omega)
  refine (nearest_ev r h s x tv (placesL r p) w hv (by omega) (by omega) (by omega) (by omega) (fun k => ?_)).mono fun v w' ⟨⟨k, hk, k1, k2, e⟩, o⟩ => ⟨?_, o⟩
  · have hi := ringI_idx k ((placesL r p).length : Int) (by omega)
    have := hb (k % ((placesL r p).length : Int)).toNat (by omega)
    unfold ringI
    omega
  · rw [e, near_least r x (placesL r p) k (by omega) x1 hb (fun i j hij hj => placesL_mono r p (by omega) i j hij hj) hk k1 k2]
end Go.Proofs.Ytibafngidpmgdab
