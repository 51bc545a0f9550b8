/- A call of one goroutine only leaves: from 'alone at the return' to 'only leaving at the return'. -/
import Derived.Handed
import Derived.Conc.LeavingOf
namespace Go.Proofs.Ytibafngidpmgdab
open Go.Conc

theorem leaving_of_alone {P : Program} {last : Machine} {w : World} {t : Trace} (h : aloneAtReturn P last w t) : leavingAtReturn P last w t := by
  obtain ⟨⟨h1, h2⟩, h3, h4⟩ := h
  refine ⟨h3, ⟨fun g hg => ⟨0, ?_⟩, h2⟩, h4⟩
  simp only [Machine.othersDone, List.all_eq_true, beq_iff_eq] at h1
  exact h1 g hg

theorem leaving_of_handed {a : Assume} {C : Checked} {os : Os} {f : FuncId} {r : Reach} {Pre : World → Array Value → Prop} {Post : World → Array Value → Value → World → Prop}
    (h : ReturnsInHanded a C os f r Pre Post) : ReturnsInLeavingWide a C os f r Pre Post :=
  fun enter => (h enter).mono (fun _ _ _ x => leaving_of_alone x) (fun _ x => x)

end Go.Proofs.Ytibafngidpmgdab
