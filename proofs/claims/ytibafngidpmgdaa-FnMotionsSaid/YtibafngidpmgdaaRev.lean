/- slices.Reverse of letters; a motion backwards. -/
import Derived.Test.YtibafngidpmgdaaMotRow
import Derived.Laws.IdiomStrings
import Derived.OwnWalk
import Derived.Tactics
import Derived.Tactics2
import Derived.WalkKit
import Derived.LoopTactic
import Derived.BigQuiet
import Derived.RegionTactic
import Derived.BigRegion
import Derived.Deep.QuietTactic
import Derived.Outline
import Derived.Lib.Hide
import Derived.Below
import Derived.KernelRfl
namespace Go.Proofs.Ytibafngidpmgdaa
set_option linter.unusedSimpArgs false
set_option linter.unusedVariables false
open Go.RowKit

/-- Letters of which the first k and the last k have changed their places. -/
def revF (l : List UInt8) (k : Nat) (j : Nat) : UInt8 := if j < k ∨ l.length ≤ j + k then l.getD (l.length - 1 - j) 0 else l.getD j 0
theorem revF_start (l : List UInt8) : rowL (revF l 0) l.length = l := by
  apply List.ext_getElem
  · rw [rowL_length]
  · intro j h1 h2
    simp only [rowL, List.getElem_map, List.getElem_range, revF]
    rw [if_neg (by omega), List.getD_eq_getElem?_getD, List.getElem?_eq_getElem h2]
    rfl
theorem revF_end (l : List UInt8) (k : Nat) (h : l.length ≤ 2 * k + 1) : rowL (revF l k) l.length = l.reverse := by
  apply List.ext_getElem
  · rw [rowL_length, List.length_reverse]
  · intro j h1 h2
    rw [rowL_length] at h1
    simp only [rowL, List.getElem_map, List.getElem_range, revF, List.getElem_reverse]
    by_cases e : j < k ∨ l.length ≤ j + k
    · rw [if_pos e, List.getD_eq_getElem?_getD, List.getElem?_eq_getElem (by omega)]
      rfl
    · rw [if_neg e, List.getD_eq_getElem?_getD, List.getElem?_eq_getElem (by omega)]
      have : j = l.length - 1 - j := by omega
      simp only [Option.getD_some]
      congr 1
theorem revF_step (l : List UInt8) (k : Nat) (h : 2 * k + 1 < l.length) :
    ((rowL (revF l k) l.length).set k (l.getD (l.length - 1 - k) 0)).set (l.length - 1 - k) (l.getD k 0) = rowL (revF l (k + 1)) l.length := by
  rw [rowL_set _ _ (by omega), rowL_set _ _ (by omega)]
  refine rowL_congr fun j hj => ?_
  unfold revF
  by_cases e1 : j = l.length - 1 - k
  · rw [if_pos e1, if_pos (by omega)]
    congr 1
    omega
  · rw [if_neg e1]
    by_cases e2 : j = k
    · rw [if_pos e2, if_pos (by omega), e2]
    · rw [if_neg e2]
      by_cases e3 : j < k ∨ l.length ≤ j + k
      · rw [if_pos e3, if_pos (by omega)]
      · rw [if_neg e3, if_neg (by omega)]

theorem grownThen0 {w u x : World} {r : Option Nat} (h : w.grownBy u r) (k : u.grownBy x r) : w.grownBy x r :=
  ⟨k.os.trans h.os, k.tape.trans h.tape, k.output.trans h.output, Nat.le_trans h.size k.size, fun j hj hne => (k.block j (Nat.lt_of_lt_of_le hj h.size) hne).trans (h.block j hj hne)⟩
theorem grownDrew {w u : World} {r : Option Nat} (h : w.grownBy u r) : w.grownBy u.drew r := ⟨h.os, h.tape, h.output, h.size, h.block⟩
theorem grownSet0 (w : World) (g k : Nat) (u : Value) : w.grownBy (w.setCell ⟨g, k, none⟩ u) (some g) :=
  ⟨rfl, rfl, rfl, by simp [World.setCell], fun i hi hne => Below.heap_setCell w ⟨g, k, none⟩ u i (fun e => hne (by rw [e]))⟩

/-- A row of letters as the call may write it. -/
def BRow (w : World) (g n : Nat) (f : Nat → UInt8) : Prop := ∀ j, j < n → w.cell? ⟨g, j, none⟩ = some (.int .u8 (f j).toNat) ∧ w.frozen? ⟨g, j, none⟩ = false
theorem BRow.set {w : World} {g n : Nat} {f : Nat → UInt8} (h : BRow w g n f) {i : Nat} (hi : i < n) (c : UInt8) : BRow (w.setCell ⟨g, i, none⟩ (.int .u8 c.toNat)) g n (fun j => if j = i then c else f j) := by
  intro j hj
  refine ⟨?_, ?_⟩
  · by_cases e : j = i
    · subst e
      simp only [if_true]
      exact World.cell?_setCell_same' _ _ _ (by rw [(h j hj).1]; rfl)
    · simp only [if_neg e]
      rw [World.cell?_setCell_other _ _ _ _ (fun x => by injection x; omega)]
      exact (h j hj).1
  · rw [World.frozen?_setCell]
    exact (h j hj).2
theorem BRow.congr {w : World} {g n : Nat} {f f' : Nat → UInt8} (h : BRow w g n f) (e : ∀ j, j < n → f j = f' j) : BRow w g n f' := by
  intro j hj
  rw [← e j hj]
  exact h j hj
theorem BRow.drew {w : World} {g n : Nat} {f : Nat → UInt8} (h : BRow w g n f) : BRow w.drew g n f := h
theorem BRow.below {w u : World} {g n : Nat} {f : Nat → UInt8} (h : BRow w g n f) (hg : g < w.heap.size) (hb : Below w.heap.size w u) : BRow u g n f := by
  intro j hj
  refine ⟨(World.cell?_of_block (hb.block g hg)).trans (h j hj).1, ?_⟩
  rw [← (h j hj).2]
  unfold World.frozen?
  rw [hb.block g hg]
theorem revF_set (l : List UInt8) (k : Nat) (h : 2 * k + 1 < l.length) (j : Nat) (hj : j < l.length) :
    (fun j => if j = l.length - 1 - k then l.getD k 0 else (fun j => if j = k then l.getD (l.length - 1 - k) 0 else revF l k j) j) j = revF l (k + 1) j := by
  have h1 := congrArg (fun r => List.getD r j 0) (revF_step l k h)
  rw [rowL_set _ _ (by omega), rowL_set _ _ (by omega), rowL_get _ hj, rowL_get _ hj] at h1
  exact h1
theorem revF_last (l : List UInt8) (k : Nat) (h : l.length ≤ 2 * k + 1) (j : Nat) (hj : j < l.length) : revF l k j = l.reverse.getD j 0 := by
  rw [← revF_end l k h, rowL_get _ hj]
theorem revF_first (l : List UInt8) (j : Nat) (hj : j < l.length) : l.getD j 0 = revF l 0 j := by
  have h1 := congrArg (fun r => List.getD r j 0) (revF_start l)
  rw [rowL_get _ hj] at h1
  exact h1.symm

set_option maxHeartbeats 2000000 in
/-- slices.Reverse. -/
theorem reverse_any (g cap : Nat) (l : List UInt8) (w : World) (hl : l.length ≤ 1000) (h : BRow w g l.length (fun j => l.getD j 0)) :
    Calls Try.prog 157 #[.slice (some ⟨g, 0, none⟩) l.length cap] w fun e w' => e = .returned (.tuple #[]) ∧ BRow w' g l.length (fun j => l.reverse.getD j 0) ∧ w.grownBy w' (some g) := by
  have RS := Lib.hid (revF_set l)
  have RE := Lib.hid (revF_last l)
  have H0 := Lib.hid (h.congr fun j hj => revF_first l j hj)
  clear h
  have HF := Lib.hid (fun k j (h : ¬ (j < k ∨ l.length ≤ j + k)) => show revF l k j = l.getD j 0 from if_neg h)
  obtain ⟨n, hn⟩ : ∃ n, l.length = n := ⟨_, rfl⟩
  rw [hn] at hl RS RE H0 HF
  rw [hn]
  clear hn
  go_enter Try.func157, Try.ntmps157
  go_wp2
  go_loopw [2, 3] (fun i j wr => ∃ k : Nat, 2 * k ≤ n + 1 ∧ i = .int .i64 k ∧ j = .int .i64 ((n : Int) - 1 - k) ∧ Hid (BRow wr g n (revF l k)) ∧ Hid (w.grownBy wr (some g))) (fun i _ _ => n - (intOf i).toNat)
  case atStart => exact ⟨0, by omega, rfl, by go_num, H0, Lib.hid ⟨rfl, rfl, rfl, Nat.le_refl _, fun _ _ _ => rfl⟩⟩
  case round =>
    obtain ⟨k, hk, rfl, rfl, HO, HG⟩ := hrel
    by_cases hlt : 2 * k + 1 < n
    · obtain ⟨m, hm⟩ : ∃ m, n - 1 - k = m := ⟨_, rfl⟩
      have e1 : (n : Int) - 1 - k = (m : Int) := by omega
      rw [e1]
      have hkm : k < m := by omega
      have hmn : m < n := by omega
      have hkm2 : ¬ k = m := by omega
      have hkm3 : ¬ m = k := by omega
      obtain ⟨hc1, hf1⟩ := HO.out k (by omega)
      obtain ⟨hc2, hf2⟩ := HO.out m hmn
      rw [HF.out k k (by omega)] at hc1
      rw [HF.out k m (by omega)] at hc2
      have S3 := ((HO.out.set (i := k) (by omega) (l.getD m 0)).set (i := m) hmn (l.getD k 0)).congr (f' := revF l (k + 1)) (by rw [← hm]; exact RS.out k hlt)
      have H1 := Lib.hid S3
      have H2 := Lib.hid (grownThen0 (grownThen0 HG.out (grownSet0 wr g k (.int .u8 (l.getD m 0).toNat))) (grownSet0 _ g m (.int .u8 (l.getD k 0).toNat)))
      clear S3
      generalize ((l.getD k 0).toNat : Int) = x at *
      generalize ((l.getD m 0).toNat : Int) = y at *
      go_wp2
      go_region
      all_goals go_wp2
      all_goals go_roundw
      case rel => exact ⟨k + 1, by omega, by go_num, by go_num, Lib.hid H1.out.drew, Lib.hid (grownDrew H2.out)⟩
      case measure => simp [intOf]; omega
    · have H1 := Lib.hid (HO.out.congr fun j hj => RE.out k (by omega) j hj)
      go_wp2
      go_end0
      exact ⟨rfl, H1.out, HG.out⟩

/-- string(b) of letters in a row. -/
theorem textRow (g n : Nat) (l : List UInt8) (cap : Nat) (w : World) (hl : l.length = n) (h : BRow w g n (fun j => l.getD j 0)) :
    (convert 40 9 (.slice (some ⟨g, 0, none⟩) n cap)).run Try.prog w = .ok (.string (txt l)) w := by
  subst hl
  rw [run_convert_bytes_string w _ _ _ _ _ _ Try.underlying40 Try.underlying5 Try.underlying9]
  have hc : ∀ j u, (Lib.byteCells l)[j]? = some u → w.cell? ((⟨g, 0, none⟩ : Addr).add j) = some u := by
    intro j u hj
    have hj2 : j < l.length := by
      rw [← Lib.byteCells_length l]
      exact (List.getElem?_eq_some_iff.1 hj).1
    rw [byteGet l hj2] at hj
    rw [← hj]
    have h1 := (h j hj2).1
    have h3 : ((⟨g, 0, none⟩ : Addr).add j) = ⟨g, j, none⟩ := by
      by_cases e : j = 0
      · subst e; simp [Addr.add]
      · simp [Addr.add, e]
    rw [h3]
    exact h1
  have hl := run_loadCells_list (P := Try.prog) (w := w) (⟨g, 0, none⟩ : Addr) (Lib.byteCells l) hc
  have e : (Lib.byteCells l) = (l.map fun c => (c.toNat : Int)).map (Value.int .u8) := by simp [Lib.byteCells]
  rw [Lib.byteCells_length] at hl
  rw [e] at hl
  rw [run_bytesToString w _ l.length cap _ hl, bytePush]
  have e2 : ByteArray.empty.data ++ l.toArray = l.toArray := by
    show (#[] : Array UInt8) ++ l.toArray = l.toArray
    simp
  rw [e2]
  rfl

/-- []byte(s). -/
theorem bytesOf (s : ByteArray) (w : World) : ∃ w1 cap, (convert 9 40 (.string s)).run Try.prog w = .ok (.slice (some ⟨w.heap.size, 0, none⟩) s.size cap) w1 ∧
    BRow w1 w.heap.size s.size (letter s) ∧ Below w.heap.size w w1 ∧ w.heap.size < w1.heap.size := by
  refine ⟨_, _, run_bytes_of_string w _ _ _ s Try.underlying9 Try.underlying40 Try.underlying5, ?_, ?_, ?_⟩
  · intro j hj
    have hj2 : j < s.data.size := hj
    refine ⟨?_, ?_⟩
    · have h1 := bytesRow_at s (grownCap w s.size 0 5) j hj2
      have h2 : (s.data[j]'hj2) = letter s j := letter_of hj
      rw [h2] at h1
      exact (World.cell?_alloc_mark w.drew _ _ _ j).trans h1
    · refine (World.frozen?_alloc_mark w.drew _ _ _ _ j).trans ?_
      have h3 : s.data.size ≤ (bytesRow s (grownCap w s.size 0 5)).size := by
        unfold bytesRow
        rw [Array.size_append, Array.size_map]
        omega
      simp
      omega
  · exact (Below.refl _ _).drew.alloc (by simp) _
  · simp

/-- impl.backwards. -/
theorem backwards_any (s : ByteArray) (w : World) (s1 : 1 ≤ s.size) (s2 : s.size ≤ 24) :
    Calls Try.prog 133 #[.string s] w fun e w' => e = .returned (.string (backB s)) ∧ Below w.heap.size w w' := by
  obtain ⟨w1, cap, hcv, hr, hb, hlt⟩ := bytesOf s w
  have R := Lib.hid (reverse_any w.heap.size cap s.data.toList w1 (by rw [size_list]; omega) (by rw [size_list]; exact hr))
  rw [size_list] at R
  have hl2 : s.data.toList.reverse.length = s.size := by rw [List.length_reverse, size_list]
  have HL := Lib.hid hl2
  have HB := Lib.hid hb
  clear hr hb hl2
  go_enter Try.func133, Try.ntmps133
  go_wp2_with fail
  refine R.out.mono ?_
  rintro e u ⟨rfl, h2, h3⟩
  have hcv2 := textRow w.heap.size s.size _ cap u HL.out h2
  have HB2 := Lib.hid (Below.grown HB.out h3 (by omega) (fun j hj => by injection hj; omega))
  clear h2 h3
  go_wp2_with fail
  go_ret
  exact ⟨rfl, HB2.out⟩

end Go.Proofs.Ytibafngidpmgdaa
