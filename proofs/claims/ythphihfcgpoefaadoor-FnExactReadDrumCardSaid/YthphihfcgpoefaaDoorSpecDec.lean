/- spec.Decimal: the digits are put in front of those that are there. -/
import Derived.Test.YthphihfcgpoefaaDoorLeaf
import Derived.Test.YthphihfcgpoefaaDoorDigits
import Derived.Test.YthphihfcgpoefaaDoorBuild
import Derived.Tactics
import Derived.Tactics2
import Derived.WalkKit
import Derived.LoopTactic
import Derived.OwnWalk
import Derived.Laws.AppendOwn
import Derived.Laws.OwnMore
import Derived.Laws.BytesString
import Derived.Laws.Cells
import Derived.Lib.RuneBytes
import Derived.Outline
import Derived.Lib.Hide
import Derived.Below
import Derived.KernelRfl
namespace Go.Proofs.YthphihfcgpoefaaDoor
open Go.RowKit
set_option linter.unusedSimpArgs false
set_option linter.unusedVariables false

theorem pushAll (l : List UInt8) : ∀ s : ByteArray, (l.map fun c => (c.toNat : Int)).foldl (fun r n => r.push (UInt8.ofNat n.toNat)) s = ⟨s.data ++ l.toArray⟩ := by
  induction l with
  | nil => intro s; simp
  | cons c l ih =>
    intro s
    simp only [List.map_cons, List.foldl_cons]
    rw [ih]
    have e : UInt8.ofNat ((c.toNat : Int)).toNat = c := by simp
    rw [e]
    simp [ByteArray.push, ← Array.toList_inj]

/-- string(b) of a row that the call made. -/
theorem string_of_own (B g : Nat) (l : List UInt8) (cap : Nat) (w : World) (hown : w.ownsRow B 5 1 (.slice (some ⟨g, 0, none⟩) l.length cap) l.length (Lib.byteCells l)) :
    (convert 45 9 (.slice (some ⟨g, 0, none⟩) l.length cap)).run Tryd.prog w = .ok (.string ⟨l.toArray⟩) w := by
  rw [run_convert_bytes_string w _ _ _ _ _ _ Tryd.underlying45 Tryd.underlying5 Tryd.underlying9]
  have hc := hown.cells (g := g) rfl
  have hl := run_loadCells_list (P := Tryd.prog) (w := w) (⟨g, 0, none⟩ : Addr) (Lib.byteCells l) hc
  have e : (Lib.byteCells l) = (l.map fun c => (c.toNat : Int)).map (Value.int .u8) := by simp [Lib.byteCells]
  rw [Lib.byteCells_length] at hl
  rw [e] at hl
  rw [run_bytesToString w _ l.length cap _ hl, pushAll]
  have e2 : ByteArray.empty.data ++ l.toArray = l.toArray := by
    show (#[] : Array UInt8) ++ l.toArray = l.toArray
    simp
  rw [e2]

theorem ret_str {a b : ByteArray} (h : a = b) : Ending.returned (.string a) = .returned (.string b) := by rw [h]
theorem minus_bytes (l : List UInt8) : (⟨#[45]⟩ ++ ⟨l.toArray⟩ : ByteArray) = ⟨(45 :: l).toArray⟩ := by
  apply ByteArray.ext
  simp [← Array.toList_inj]

theorem bytes_one (l : List UInt8) : ∀ u ∈ Lib.byteCells l, u.oneCell' = true := by
  intro u hu
  simp only [Lib.byteCells, List.mem_map] at hu
  obtain ⟨x, _, rfl⟩ := hu
  rfl

set_option maxRecDepth 100000 in
/-- spec.l01Dec. -/
theorem l01Dec_any (n : Int) (w : World) (h1 : -9223372036854775808 ≤ n) (h2 : n ≤ 9223372036854775807) :
    Calls Tryd.prog 14 #[.int .i64 n] w fun e w' => e = .returned (.string ⟨(decText n).toArray⟩) ∧ Below w.heap.size w w' := by
  obtain ⟨i0, hi, hz0, hz1, hz2⟩ := info_parts byteInfo
  have hD := Lib.hid (digs0_length (n := n.natAbs) (by omega))
  go_enter Tryd.func14, Tryd.ntmps14
  go_wp2_with fail
  go_loopw [3, 4, 5] (fun o k d wr => ∃ (a : Int) (l : List UInt8) (g cap : Nat), k = .int .i64 a ∧ o = .slice (some ⟨g, 0, none⟩) l.length cap ∧ -9223372036854775808 ≤ a ∧ a ≤ 9223372036854775807 ∧ wr.ownsRow w.heap.size 5 1 o l.length (Lib.byteCells l) ∧ Hid (digs0 a.natAbs ++ l = digs0 n.natAbs) ∧ Below w.heap.size w wr ∧ (0 ≤ n → 0 ≤ a) ∧ (n < 0 → a ≤ 0)) (fun _ k _ _ => (intOf k).natAbs)
  case atStart => exact ⟨n, [], w.heap.size, 0, rfl, rfl, h1, h2, World.ownsRow_lit w #[] 0 (Nat.le_refl _) (Nat.zero_le _) rfl, Lib.hid (by simp), (Below.refl _ _).alloc (Nat.le_refl _) _, fun h => h, fun h => by omega⟩
  case round =>
    obtain ⟨a, l, g, cap, rfl, rfl, a1, a2, hown, HI, hb, s1, s2⟩ := hrel
    have hwz : w.heap.size ≤ wr.heap.size := hb.size
    have hll : l.length ≤ 20 := by
      have h3 := congrArg List.length HI.out
      have h4 := hD.out
      simp at h3
      omega
    by_cases ha : a = 0
    · subst ha
      have hl : l = digs0 n.natAbs := by
        have h3 := HI.out
        simpa [digs0_zero] using h3
      clear HI
      by_cases hn0 : n = 0
      · subst hn0
        have hl0 : l = [] := by rw [hl]; rfl
        subst hl0
        have HD0 := Lib.hid (show decText 0 = [48] by rw [decText_pos (by omega)]; show digs 0 = _; rw [digs_small (by omega)]; rfl)
        clear hl
        go_wp2
        go_ret
        exact ⟨ret_str (by rw [HD0.out]), hb⟩
      · rw [digs0_of (by omega)] at hl
        have hp1 := digs_length_pos n.natAbs
        have hlen : ¬ (l.length : Int) = 0 := by rw [hl]; omega
        have hlb : ((l.length : Int) == 0) = false := beq_eq_false_iff_ne.2 hlen
        have hcv := string_of_own w.heap.size g l cap wr hown
        have HL := Lib.hid hl
        clear hl hp1 hlen
        by_cases hng : n < 0
        · have HD0 := Lib.hid (decText_neg hng)
          go_wp2
          go_ret
          exact ⟨ret_str (by rw [HD0.out, ← HL.out]; exact minus_bytes l), hb⟩
        · have HD0 := Lib.hid (decText_pos hng)
          go_wp2
          go_ret
          exact ⟨ret_str (by rw [HD0.out, ← HL.out]), hb⟩
    · by_cases hp : 0 ≤ a
      · obtain ⟨m, rfl⟩ := Int.eq_ofNat_of_zero_le hp
        have hm : 1 ≤ m := by omega
        have hne : ((m : Int) != 0) = true := by rw [bne_iff_ne]; omega
        clear ha
        go_wp2_with (at_builtin; refine wpList_append_own _ rfl _ _ 45 rfl w.heap.size 5 i0 (.int .u8 0) 1 1 Tryd.underlying45 hi hz0 hz1 hz2 rfl (by decide) _ 1 [.int .u8 (48 + (m : Int) % 10)] rfl (World.ownsRow_lit wr #[.int .u8 (48 + (m : Int) % 10)] 1 hwz (by decide) rfl) ⟨g, 0, none⟩ l.length cap (Lib.byteCells l) rfl (by simp [Lib.byteCells]) ((hown.alloc _).cells (g := g) rfl) (bytes_one l) (by unfold maxLen; omega) (by omega) (by simp; omega) ?_)
        intro v' w2 hown' hgrow _
        obtain ⟨g2, cap2, rfl⟩ : ∃ g2 cap2, v' = .slice (some ⟨g2, 0, none⟩) (1 + l.length) cap2 := by
          rcases hown'.2 with ⟨_, hl⟩ | ⟨g2, cap2, cur, hv, _⟩
          · omega
          · exact ⟨g2, cap2, hv⟩
        have hc2 : Lib.byteCells (dig m :: l) = .int .u8 (48 + (m : Int) % 10) :: Lib.byteCells l := by
          rw [Lib.byteCells, List.map_cons, ← Lib.byteCells]
          have h7 : ((dig m).toNat : Int) = (48 + (m : Int) % 10) := by rw [dig_toNat]; omega
          rw [h7]
        have hown2 : w2.ownsRow w.heap.size 5 1 (.slice (some ⟨g2, 0, none⟩) (l.length + 1) cap2) (l.length + 1) (Lib.byteCells (dig m :: l)) := by
          rw [hc2, Nat.add_comm l.length 1]
          simpa using hown'
        have HO := Lib.hid hown2
        clear hown2 hown' hc2
        go_wp2
        go_roundw
        case rel =>
          refine ⟨((m : Int) / 10), dig m :: l, g2, cap2, by go_num, by rw [List.length_cons, Nat.add_comm], by omega, by omega, by rw [Nat.add_comm 1 l.length]; exact HO.out, Lib.hid ?_, (hb.alloc hwz _).grown hgrow (by simp; omega) (fun k hk => by simp [Value.ownBlock] at hk; omega), by omega, by omega⟩
          have h3 := HI.out
          rw [digs0_step (show (m : Int).natAbs ≠ 0 by omega)] at h3
          rw [show (((m : Int) / 10)).natAbs = m / 10 from by omega, ← h3, show (m : Int).natAbs = m from by omega]
          simp
        case measure => simp [intOf]; omega
      · obtain ⟨m, rfl⟩ : ∃ m : Nat, a = -(m : Int) := ⟨a.natAbs, by omega⟩
        have hm : 1 ≤ m := by omega
        have hp' : (m : Int) ≠ 0 := by omega
        by_cases hd : m % 10 = 0
        · have hne : (-(m : Int) != 0) = true := by rw [bne_iff_ne]; omega
          have t1 : (m : Int) % 10 = 0 := by omega
          clear ha
          go_wp2_with (at_builtin; refine wpList_append_own _ rfl _ _ 45 rfl w.heap.size 5 i0 (.int .u8 0) 1 1 Tryd.underlying45 hi hz0 hz1 hz2 rfl (by decide) _ 1 [.int .u8 48] rfl (World.ownsRow_lit wr #[.int .u8 48] 1 hwz (by decide) rfl) ⟨g, 0, none⟩ l.length cap (Lib.byteCells l) rfl (by simp [Lib.byteCells]) ((hown.alloc _).cells (g := g) rfl) (bytes_one l) (by unfold maxLen; omega) (by omega) (by simp; omega) ?_)
          intro v' w2 hown' hgrow _
          obtain ⟨g2, cap2, rfl⟩ : ∃ g2 cap2, v' = .slice (some ⟨g2, 0, none⟩) (1 + l.length) cap2 := by
            rcases hown'.2 with ⟨_, hl⟩ | ⟨g2, cap2, cur, hv, _⟩
            · omega
            · exact ⟨g2, cap2, hv⟩
          have hc2 : Lib.byteCells (dig m :: l) = .int .u8 48 :: Lib.byteCells l := by
            rw [Lib.byteCells, List.map_cons, ← Lib.byteCells]
            have h7 : ((dig m).toNat : Int) = 48 := by rw [dig_toNat]; omega
            rw [h7]
          have hown2 : w2.ownsRow w.heap.size 5 1 (.slice (some ⟨g2, 0, none⟩) (l.length + 1) cap2) (l.length + 1) (Lib.byteCells (dig m :: l)) := by
            rw [hc2, Nat.add_comm l.length 1]
            simpa using hown'
          have HO := Lib.hid hown2
          clear hown2 hown' hc2
          go_wp2
          go_roundw
          case rel =>
            refine ⟨(-((m : Int) / 10)), dig m :: l, g2, cap2, by go_num, by rw [List.length_cons, Nat.add_comm], by omega, by omega, by rw [Nat.add_comm 1 l.length]; exact HO.out, Lib.hid ?_, (hb.alloc hwz _).grown hgrow (by simp; omega) (fun k hk => by simp [Value.ownBlock] at hk; omega), by omega, by omega⟩
            have h3 := HI.out
            rw [digs0_step (show (-(m : Int)).natAbs ≠ 0 by omega)] at h3
            rw [show ((-((m : Int) / 10))).natAbs = m / 10 from by omega, ← h3, show (-(m : Int)).natAbs = m from by omega]
            simp
          case measure => simp [intOf]; omega
  
        · have hne : (-(m : Int) != 0) = true := by rw [bne_iff_ne]; omega
          have t1 : 0 < (m : Int) % 10 := by omega
          clear ha
          go_wp2_with (at_builtin; refine wpList_append_own _ rfl _ _ 45 rfl w.heap.size 5 i0 (.int .u8 0) 1 1 Tryd.underlying45 hi hz0 hz1 hz2 rfl (by decide) _ 1 [.int .u8 (48 + (m : Int) % 10)] rfl (World.ownsRow_lit wr #[.int .u8 (48 + (m : Int) % 10)] 1 hwz (by decide) rfl) ⟨g, 0, none⟩ l.length cap (Lib.byteCells l) rfl (by simp [Lib.byteCells]) ((hown.alloc _).cells (g := g) rfl) (bytes_one l) (by unfold maxLen; omega) (by omega) (by simp; omega) ?_)
          intro v' w2 hown' hgrow _
          obtain ⟨g2, cap2, rfl⟩ : ∃ g2 cap2, v' = .slice (some ⟨g2, 0, none⟩) (1 + l.length) cap2 := by
            rcases hown'.2 with ⟨_, hl⟩ | ⟨g2, cap2, cur, hv, _⟩
            · omega
            · exact ⟨g2, cap2, hv⟩
          have hc2 : Lib.byteCells (dig m :: l) = .int .u8 (48 + (m : Int) % 10) :: Lib.byteCells l := by
            rw [Lib.byteCells, List.map_cons, ← Lib.byteCells]
            have h7 : ((dig m).toNat : Int) = (48 + (m : Int) % 10) := by rw [dig_toNat]; omega
            rw [h7]
          have hown2 : w2.ownsRow w.heap.size 5 1 (.slice (some ⟨g2, 0, none⟩) (l.length + 1) cap2) (l.length + 1) (Lib.byteCells (dig m :: l)) := by
            rw [hc2, Nat.add_comm l.length 1]
            simpa using hown'
          have HO := Lib.hid hown2
          clear hown2 hown' hc2
          go_wp2
          go_roundw
          case rel =>
            refine ⟨(-((m : Int) / 10)), dig m :: l, g2, cap2, by go_num, by rw [List.length_cons, Nat.add_comm], by omega, by omega, by rw [Nat.add_comm 1 l.length]; exact HO.out, Lib.hid ?_, (hb.alloc hwz _).grown hgrow (by simp; omega) (fun k hk => by simp [Value.ownBlock] at hk; omega), by omega, by omega⟩
            have h3 := HI.out
            rw [digs0_step (show (-(m : Int)).natAbs ≠ 0 by omega)] at h3
            rw [show ((-((m : Int) / 10))).natAbs = m / 10 from by omega, ← h3, show (-(m : Int)).natAbs = m from by omega]
            simp
          case measure => simp [intOf]; omega
  

end Go.Proofs.YthphihfcgpoefaaDoor
