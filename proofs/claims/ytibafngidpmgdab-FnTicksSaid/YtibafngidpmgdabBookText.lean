/- The pages for scenes: plain mathematics; a builder that is written. -/
import Derived.Test.YtibafngidpmgdabScnTop
import Derived.Test.YtibafngidpmgdabBuild
import Derived.Test.YtibafngidpmgdabBookMath
import Derived.Lib.Repeat
import Derived.Lib.Strings
import Derived.Lib.FrozenHead2
import Derived.OwnWalk
import Derived.Tactics
import Derived.Tactics2
import Derived.WalkKit
import Derived.Outline
import Derived.Lib.Hide
import Derived.Below
import Derived.KernelRfl
namespace Go.Proofs.Ytibafngidpmgdab
set_option linter.unusedSimpArgs false
set_option linter.unusedVariables false
open Go.RowKit

/-- The letters of the pages of the first scenes. -/
def bookB (ps : List Scn) (e : Int) : Nat → List UInt8
  | 0 => []
  | k + 1 => bookB ps e k ++ Lib.repeatL (ps.getD k s0).1.data.toList (cnt (ps.getD k s0).2 e).toNat
theorem bookB_length {ps : List Scn} {e : Int} (h : scnsB ps = true) (e1 : 1 ≤ e) (e2 : e ≤ 100) : ∀ k, k ≤ ps.length → ((bookB ps e k).length : Int) = sumC (fun x => cnt x.2 e) (ps.take k)
  | 0, _ => by simp [bookB, sumC]
  | k + 1, hk => by
    have h1 := bookB_length h e1 e2 k (by omega)
    obtain ⟨⟨h2, _⟩, t1, t2⟩ := scns_scene h (k := k) (by omega)
    have h3 := cnt_bd t1 t2 e1 e2
    rw [sumC_take _ ps k (by omega), bookB, List.length_append, Lib.repeatL_length]
    rw [← size_list] at h2
    rw [h2, ← h1]
    omega
theorem bookB_le {ps : List Scn} {e : Int} (h : scnsB ps = true) (e1 : 1 ≤ e) (e2 : e ≤ 100) (k : Nat) (hk : k ≤ ps.length) : (bookB ps e k).length ≤ 12000 := by
  have h1 := bookB_length h e1 e2 k hk
  have h2 := pages_bd (ticksIn h) (scnsB_len h).2 e1 e2 k
  omega
/-- The pages. -/
def bookT (ps : List Scn) (e : Int) : ByteArray := if code8 ps e = 0 then txt (bookB ps e ps.length) else ⟨#[]⟩

/-- What holds some bytes holds them where its blocks are as they were. -/
theorem Holds.below {B b : Nat} {bs : List Value} {w u : World} (h : Holds B b bs w) (hb : Below w.heap.size w u) : Holds B b bs u := by
  have key : ∀ p, Lib.BuilderAtF 68 5 B b p bs w → Lib.BuilderAtF 68 5 B b p bs u := by
    rintro p ⟨hB, v, hbk, hown, hne⟩
    have hlt : b < w.heap.size := (Array.getElem?_eq_some_iff.1 hbk).1
    refine ⟨hB, v, (hb.block b hlt).trans hbk, ?_, hne⟩
    refine ⟨hown.1, ?_⟩
    rcases hown.2 with h0 | ⟨g, cap, cur, fz, hv, hBg, hg, r⟩
    · exact .inl h0
    · exact .inr ⟨g, cap, cur, fz, hv, hBg, (hb.block g (Array.getElem?_eq_some_iff.1 hg).1).trans hg, r⟩
  rcases h with h | h
  · exact .inl (key _ h)
  · exact .inr (key _ h)

set_option maxHeartbeats 1000000 in
/-- WriteString: the builder holds so many bytes more. -/
theorem writeString_any (B b : Nat) (bs : List Value) (s : ByteArray) (w : World) (h : Holds B b bs w) (hlen : bs.length + s.size ≤ 140737488355328) (hBw : B ≤ w.heap.size) :
    Calls Try.prog 50 #[.pointer (some ⟨b, 0, none⟩), .string s] w fun e w' => e = .returned (.tuple #[.int .i64 s.size, .nilIface]) ∧ Holds B b (bs ++ Lib.strCells s) w' ∧ Below B w w' := by
  obtain ⟨i0, hi, hz0, hz1, hz2⟩ := info_parts byteInfo
  go_enter Try.func50, Try.ntmps50
  go_wp2_with (go_at_call 86; refine (check_any B b bs _ h).mono ?_)
  rintro e w1 ⟨rfl, h1, hb1⟩
  obtain ⟨hB, v, hbk, hown, hne⟩ := h1
  have c0 : w1.cell? ⟨b, 0, none⟩ = some (.pointer (some ⟨b, 0, none⟩)) := by rw [Lib.cell_of_heap hbk]; rfl
  have c1 : w1.cell? ⟨b, 1, none⟩ = some v := by rw [Lib.cell_of_heap hbk]; rfl
  go_wp2_with (at_builtin; refine Lib.wpList_append_own_stringF _ rfl _ _ 22 9 rfl B 5 i0 Try.underlying22 Try.underlying9 hi hz0 hz1 hz2 _ _ _ rfl hown s rfl ?c3 ?c4 ?c5 ?_)
  case c3 => unfold maxLen; omega
  case c4 => omega
  case c5 => have := hb1.size; omega
  intro v' w2 hown' hgrow _
  have hlt : b < w1.heap.size := by
    rcases Nat.lt_or_ge b w1.heap.size with h' | h'
    · exact h'
    · simp [Array.getElem?_eq_none h'] at hbk
  have hb2 : w2.heap[b]? = some (.cells #[.pointer (some ⟨b, 0, none⟩), v] 68 (0, 0)) := by
    rw [hgrow.block b hlt (fun e => hne e.symm)]
    exact hbk
  have d0 : w2.cell? ⟨b, 0, none⟩ = some (.pointer (some ⟨b, 0, none⟩)) := by rw [Lib.cell_of_heap hb2]; rfl
  have d1 : w2.cell? ⟨b, 1, none⟩ = some v := by rw [Lib.cell_of_heap hb2]; rfl
  have f1 : w2.frozen? ⟨b, 1, none⟩ = false := Lib.frozen_of_heap hb2 1
  obtain ⟨ao, n', cap, rfl⟩ : ∃ ao n' cap, v' = .slice ao n' cap := by
    rcases hown'.2 with ⟨hv, _⟩ | ⟨g, cap, cur, fz, hv, _⟩
    · exact ⟨_, _, _, hv⟩
    · exact ⟨_, _, _, hv⟩
  go_wp2
  go_ret2
  refine ⟨rfl, Or.inr ?_, ?_⟩
  · exact Lib.BuilderAtF.put (T := 68) (e := 5) hB hb2 (bs' := bs ++ Lib.strCells s) (by simpa [Lib.strCells_length] using hown') (by decide)
  · exact (hb1.grown hgrow (by have := hb1.size; omega) (fun k hk => (hown.lt k hk).1)).setCell (p := ⟨b, 1, none⟩) hB _

end Go.Proofs.Ytibafngidpmgdab
