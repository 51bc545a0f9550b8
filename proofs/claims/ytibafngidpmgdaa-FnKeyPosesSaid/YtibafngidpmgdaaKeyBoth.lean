/- What both the program and the model tell of all poses, stretched and needless keys. -/
import Derived.Test.YtibafngidpmgdaaProg
import Derived.Test.YtibafngidpmgdaaInts
import Derived.Test.YtibafngidpmgdaaAllLaw
import Derived.Test.YtibafngidpmgdaaStretchLaw
import Derived.Test.YtibafngidpmgdaaNeedLaw
import Derived.Test.YtibafngidpmgdaaAtLaw
import Derived.Deep.AppendLies
import Derived.Deep.DrawnRows
import Derived.Test.YtibafngidpmgdaaHold
import Derived.IntWalk
import Derived.WalkSpells
import Derived.OwnWalk
import Derived.Laws.AppendOwn
import Derived.Laws.OwnMore
import Derived.Deep.RegionWith
import Derived.Deep.DrawnRows
import Derived.Deep.RegionHeld3
import Derived.Tactics
import Derived.Tactics2
import Derived.WalkKit
import Derived.LoopTactic
import Derived.BigQuiet
import Derived.RegionTactic
import Derived.Deep.QuietTactic
import Derived.Outline
import Derived.Lib.Hide
import Derived.Below
import Derived.KernelRfl
namespace Go.Proofs.Ytibafngidpmgdaa
set_option linter.unusedSimpArgs false
set_option linter.unusedVariables false
open Go.RowKit

theorem sameB_refl (ps : List Pt) : sameB ps ps = true := by unfold sameB; exact decide_eq_true rfl
/-- spec.SamePose and impl.SamePose, of one pose twice. -/
theorem specSame1 (A A' : Option Addr) (n c c' : Nat) (ps : List Pt) (w : World) (hv : Rd w A n ps) (hu : Rd w A' n ps) :
    Calls Try.prog 45 #[.slice A n c, .slice A' n c'] w fun e w' => e = .returned (.bool true) ∧ ∃ d, w' = w.drewN d := by
  have h := specSamePose_any A A' n n c c' ps ps w hv hu
  rwa [sameB_refl] at h

/-- What both AllPoses tell. -/
theorem all_both (n : Nat) (ks : List Key) (s : Int) (hn : ks.length = n) : ∃ z qs, (∀ (E : Option Addr) (f : Nat) (u : World), RdK u E n ks → Calls Try.prog 52 #[.slice E n f, .int .i64 s] u (AllR u z qs)) ∧
    (∀ (E : Option Addr) (f : Nat) (u : World), RdK u E n ks → Calls Try.prog 53 #[.slice E n f, .int .i64 s] u (AllR u z qs)) ∧ qs.length ≤ 100 ∧ totQ qs ≤ 800 ∧
    (z = 0 → keysB ks = true ∧ 1 ≤ n ∧ 0 ≤ tk ks 0 ∧ 1 ≤ s ∧ s ≤ 10000 ∧ ∀ i, i < qs.length → qs.getD i [] = poseAtN ks (tk ks 0 + (i : Int) * s) ∧ 0 ≤ (i : Int) * s ∧ tk ks 0 + (i : Int) * s ≤ 10000 ∧ inB (tk ks 0 + (i : Int) * s) (tk ks 0) (tk ks (n - 1)) = true) := by
  cases h : keysB ks
  · exact ⟨1, [], fun E f u r => implAll_bad E n f ks s u r h, fun E f u r => specAll_bad E n f ks s u r h, by simp, by simp [totQ], fun h => by cases h⟩
  · cases hr : inB s 1 10000
    · exact ⟨2, [], fun E f u r => implAll_range E n f ks s u r h hr, fun E f u r => specAll_range E n f ks s u r h hr, by simp, by simp [totQ], fun h => by cases h⟩
    · by_cases hm : allM (tk ks (n - 1) - tk ks 0) s ≤ 100
      · have h8 := totAll ks h (tk ks 0) s (allM (tk ks (n - 1) - tk ks 0) s)
        have hl := keysB_len h
        rw [hn] at hl
        have hko := (keysB_ok h).2.2
        have hT0 : 0 ≤ tk ks 0 := (hko 0 (by omega)).1
        have hT1 : tk ks (n - 1) ≤ 10000 := (hko (n - 1) (by omega)).2.1
        have hT2 : tk ks 0 ≤ tk ks (n - 1) := by
          by_cases h1 : n = 1
          · subst h1; exact Int.le_refl _
          · exact Int.le_of_lt (tk_lt hko (by omega) (by omega))
        obtain ⟨s1, s2⟩ := inB_iff.1 hr
        refine ⟨0, allN ks (tk ks 0) s (allM (tk ks (n - 1) - tk ks 0) s), fun E f u r => implAll_ok E n f ks s u r h hr _ rfl hm, fun E f u r => specAll_ok E n f ks s u r h hr _ rfl hm, by rw [allN_length]; exact hm, by omega, fun _ => ⟨by first | rfl | exact h, hl.1, hT0, s1, s2, fun i hi => ?_⟩⟩
        rw [allN_length] at hi
        have hb := (allM_iff (d := tk ks (n - 1) - tk ks 0) (s := s) s1 (by omega) i).2 hi
        have hp : 0 ≤ (i : Int) * s := Int.mul_nonneg (by omega) (by omega)
        refine ⟨?_, hp, by omega, inB_iff.2 ⟨by omega, by omega⟩⟩
        unfold allN
        rw [List.getD_eq_getElem?_getD, List.getElem?_map, List.getElem?_range hi]
        rfl
      · exact ⟨5, [], fun E f u r => implAll_full E n f ks s u r h hr hm, fun E f u r => specAll_full E n f ks s u r h hr hm, by simp, by simp [totQ], fun h => by cases h⟩

/-- What both StretchKeys tell. -/
theorem str_both (n : Nat) (ks : List Key) (s : Int) (hn : ks.length = n) : ∃ z qs, (∀ (E : Option Addr) (f : Nat) (u : World), RdK u E n ks → Calls Try.prog 29 #[.slice E n f, .int .i64 s] u (StrR u z qs)) ∧
    (∀ (E : Option Addr) (f : Nat) (u : World), RdK u E n ks → Calls Try.prog 27 #[.slice E n f, .int .i64 s] u (StrR u z qs)) ∧ qs.length ≤ 1000 ∧ totK qs ≤ 100000 ∧
    (∀ i, i < qs.length → i < n ∧ (qs.getD i k0).2 = (ks.getD i k0).2) := by
  cases h : keysB ks
  · exact ⟨1, [], fun E f u r => implStr_bad E n f ks s u r h, fun E f u r => specStr_bad E n f ks s u r h, by simp, by simp [totK], fun i hi => by simp at hi⟩
  · cases hr : inB s 1 100
    · exact ⟨2, [], fun E f u r => implStr_range E n f ks s u r h hr, fun E f u r => specStr_range E n f ks s u r h hr, by simp, by simp [totK], fun i hi => by simp at hi⟩
    · cases hk : keysB (strL ks (tk ks 0) s)
      · exact ⟨5, [], fun E f u r => implStr_ok E n f ks s u r h hr 5 [] (.inl ⟨hk, rfl, rfl⟩), fun E f u r => specStr_ok E n f ks s u r h hr 5 [] (.inl ⟨hk, rfl, rfl⟩), by simp, by simp [totK], fun i hi => by simp at hi⟩
      · have hl := (keysB_len h).2
        have htk := totK_keys h
        refine ⟨0, strL ks (tk ks 0) s, fun E f u r => implStr_ok E n f ks s u r h hr 0 _ (.inr ⟨hk, rfl, rfl⟩), fun E f u r => specStr_ok E n f ks s u r h hr 0 _ (.inr ⟨hk, rfl, rfl⟩), by rw [strL_length]; omega, by rw [strL_tot]; omega, fun i hi => ?_⟩
        rw [strL_length] at hi
        exact ⟨by omega, by rw [strL_get _ _ _ _ hi]⟩

theorem needL_bd (ks : List Key) : ∀ (k : Nat) (x : Int), x ∈ needL ks k → 1 ≤ x ∧ x + 1 ≤ k
  | 0, x, h => by simp [needL] at h
  | k + 1, x, h => by
    rw [needL] at h
    split at h
    · rename_i hc
      rcases List.mem_append.1 h with h1 | h1
      · have := needL_bd ks k x h1
        omega
      · simp at h1
        omega
    · have := needL_bd ks k x h
      omega

/-- What both NeedlessKeys tell. -/
theorem need_both (n : Nat) (ks : List Key) (hn : ks.length = n) : ∃ z qs, (∀ (E : Option Addr) (f : Nat) (u : World), RdK u E n ks → Calls Try.prog 56 #[.slice E n f] u (NeedR u z qs)) ∧
    (∀ (E : Option Addr) (f : Nat) (u : World), RdK u E n ks → Calls Try.prog 57 #[.slice E n f] u (NeedR u z qs)) ∧ qs.length ≤ 1000 ∧
    (∀ i, i < qs.length → 1 ≤ qs.getD i 0 ∧ qs.getD i 0 + 1 < n) := by
  cases h : keysB ks
  · exact ⟨1, [], fun E f u r => implNeed_bad E n f ks u r h, fun E f u r => specNeed_bad E n f ks u r h, by simp, fun i hi => by simp at hi⟩
  · have h8 := needL_length ks (n - 1)
    have hl := (keysB_len h).2
    refine ⟨0, needL ks (n - 1), fun E f u r => implNeed_ok E n f ks u r h _ rfl, fun E f u r => specNeed_ok E n f ks u r h _ rfl, by omega, fun i hi => ?_⟩
    have hm : (needL ks (n - 1)).getD i 0 ∈ needL ks (n - 1) := by
      rw [List.getD_eq_getElem?_getD, List.getElem?_eq_getElem hi]
      exact List.getElem_mem hi
    have := needL_bd ks (n - 1) _ hm
    omega

end Go.Proofs.Ytibafngidpmgdaa
