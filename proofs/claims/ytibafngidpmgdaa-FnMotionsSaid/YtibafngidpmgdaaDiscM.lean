/- A disc for a motion: in the model and in the program; DiscFor's statement. -/
import Derived.Test.YtibafngidpmgdaaMotRow
import Derived.Test.YtibafngidpmgdaaMotLaws
import Derived.Maps.Own
import Derived.Maps.OwnSet
import Derived.Maps.Views
import Derived.OwnWalk
import Derived.Tactics
import Derived.Tactics2
import Derived.WalkKit
import Derived.LoopTactic
import Derived.BigQuiet
import Derived.RegionTactic
import Derived.Deep.QuietTactic
import Derived.Outline
import Derived.Lib.Hide
import Derived.Below
import Derived.KernelRfl
namespace Go.Proofs.Ytibafngidpmgdaa
set_option linter.unusedSimpArgs false
set_option linter.unusedVariables false
open Go.RowKit Go.Maps Go.WideMaps

/-- A row of letters of the call's own, place by place. -/
abbrev RowF (w : World) (B g n : Nat) (f : Nat → UInt8) : Prop := w.ownsRow B 5 1 (.slice (some ⟨g, 0, none⟩) n n) n (Lib.byteCells (rowL f n))
theorem RowF.cell {w : World} {B g n : Nat} {f : Nat → UInt8} (h : RowF w B g n f) {i : Nat} (hi : i < n) : w.cell? ⟨g, i, none⟩ = some (.int .u8 (f i).toNat) := by
  rw [World.ownsRow.cellAt h i (by omega), byteGet _ (by rw [rowL_length]; exact hi), rowL_get _ hi]
theorem RowF.frozen {w : World} {B g n : Nat} {f : Nat → UInt8} (h : RowF w B g n f) (i : Nat) : w.frozen? ⟨g, i, none⟩ = false := World.ownsRow.frozenAt h i
theorem RowF.set {w : World} {B g n : Nat} {f f' : Nat → UInt8} (h : RowF w B g n f) {i : Nat} (hi : i < n) (c : UInt8) (e : ∀ j, j < n → (if j = i then c else f j) = f' j) :
    RowF (w.setCell ⟨g, i, none⟩ (.int .u8 c.toNat)) B g n f' ∧ w.grownBy (w.setCell ⟨g, i, none⟩ (.int .u8 c.toNat)) (some g) := by
  obtain ⟨h1, h2⟩ := World.ownsRow.stored h i (.int .u8 c.toNat)
  rw [byteSet, rowL_set _ _ hi, rowL_congr e] at h1
  exact ⟨h1, h2⟩
theorem RowF.congr {w : World} {B g n : Nat} {f f' : Nat → UInt8} (h : RowF w B g n f) (e : ∀ j, j < n → f j = f' j) : RowF w B g n f' := by
  unfold RowF
  rw [← rowL_congr e]
  exact h
theorem RowF.drewN {w : World} {B g n : Nat} {f : Nat → UInt8} (h : RowF w B g n f) (k : Nat) : RowF (w.drewN k) B g n f := h
theorem grownDrewN {w u : World} {r : Option Nat} (h : w.grownBy u r) (n : Nat) : w.grownBy (u.drewN n) r := ⟨h.os, h.tape, h.output, h.size, h.block⟩

theorem mustL_step (m : ByteArray) (p k j : Nat) : (if j = seenK p m.size k then letter m k else mustL m p k j) = mustL m p (k + 1) j := rfl
theorem fillTo_step (L : Nat → UInt8) (q : Nat) (c : UInt8) (hc : fillL L q = c) (g : Nat → UInt8) (j : Nat) : (if j = q then c else (fun j => if j < q then fillL L j else g j) j) = (fun j => if j < q + 1 then fillL L j else g j) j := by
  simp only
  by_cases e : j = q
  · rw [if_pos e, if_pos (by omega), e, hc]
  · rw [if_neg e]
    by_cases h : j < q
    · rw [if_pos h, if_pos (by omega)]
    · rw [if_neg h, if_neg (by omega)]
theorem fillTo_end (L : Nat → UInt8) (p : Nat) (g : Nat → UInt8) (j : Nat) (hj : j < p) : (fun j => if j < p then fillL L j else g j) j = fillL L j := if_pos hj
theorem byteZero {c : UInt8} : ((c.toNat : Int) = 0) ↔ c = 0 := by
  constructor
  · intro h
    have h1 : c.toNat = 0 := by omega
    exact UInt8.toNat_inj.1 (by rw [h1]; rfl)
  · intro h
    subst h
    rfl
theorem byteSame {a b : UInt8} : ((a.toNat : Int) = (b.toNat : Int)) ↔ a = b := by
  constructor
  · intro h
    exact UInt8.toNat_inj.1 (by exact_mod_cast h)
  · intro h
    rw [h]

/-- What l06Disc returns. -/
def discV (m : ByteArray) (p : Nat) : Value := .tuple #[.string (if fitsB m p = true then txt (discL m p) else ⟨#[]⟩), .bool (fitsB m p)]
theorem discV_yes {m : ByteArray} {p : Nat} (h : fitsB m p = true) : discV m p = .tuple #[.string (txt (discL m p)), .bool true] := by simp [discV, h]
theorem discV_no {m : ByteArray} {p : Nat} (h : fitsB m p = false) : discV m p = .tuple #[.string ⟨#[]⟩, .bool false] := by simp [discV, h]

set_option maxHeartbeats 4000000 in
/-- spec.l06Disc. -/
theorem l06Disc_any (m : ByteArray) (p : Nat) (w : World) (hm : motB m = true) (p1 : 1 ≤ p) (p2 : p ≤ 24) :
    Calls Try.prog 138 #[.string m, .int .i64 p] w fun e w' => e = .returned (discV m p) ∧ Below w.heap.size w w' := by
  obtain ⟨s1, s2⟩ := motB_size hm
  obtain ⟨i0, hi, hz0, hz1, hz2⟩ := info_parts infoU8
  have hby : i0.bytes * p ≤ 281474976710656 := by rw [hz2]; omega
  have Q := Lib.hid (fun k => seenK_lt (p := p) m.size k p1)
  have K := Lib.hid (fun k w (hk : k < m.size) => seenK_any p m.size k w p1 (by omega) s1 (by omega) hk)
  have LP := Lib.hid (fun k (hk : k < m.size) => letter_pos hm hk)
  have F0 := Lib.hid (fitsF_zero (seenK p m.size) (letter m))
  have FS := Lib.hid (fun k (hk : k < m.size) (h : fitsF (seenK p m.size) (letter m) k = true) hc => fitsF_step h hc (fun j hj => letter_pos hm (by omega)))
  have FC := Lib.hid (fun k (hk : k < m.size) (h0 : mustL m p k (seenK p m.size k) ≠ 0) (h1 : mustL m p k (seenK p m.size k) ≠ letter m k) => discV_no (m := m) (p := p) (fitsF_clash hk h0 h1))
  have DY := Lib.hid (discV_yes (m := m) (p := p))
  have MS := Lib.hid (mustL_step m p)
  generalize hV : discV m p = V at *
  clear hV
  go_enter Try.func138, Try.ntmps138
  go_wp2_with (at_make; refine wpList_make_full _ rfl _ _ 40 rfl w.heap.size 5 i0 (.int .u8 0) 1 Try.underlying40 hi hz0 hz1 .i64 .i64 (p : Int) (p : Int) p rfl rfl rfl rfl hby (by unfold maxLen; omega) (Nat.le_refl _) ?_; intro w1 hown1 hgrow1)
  have hg1 : w.heap.size < w1.heap.size := (World.ownsRow.lt hown1 _ rfl).2
  have HO1 : Hid (RowF w1 w.heap.size w.heap.size p (mustL m p 0)) := Lib.hid (by
    have h1 := hown1
    rw [byteZeros] at h1
    exact h1)
  have HB1 := Lib.hid (Below.grown (Below.refl w.heap.size w) hgrow1 (Nat.le_refl _) (fun k hk => by cases hk))
  clear hown1 hgrow1
  go_wp2_with fail
  go_loopw [8] (fun i wr => ∃ k : Nat, k ≤ m.size ∧ i = .int .i64 k ∧ Hid (RowF wr w.heap.size w.heap.size p (mustL m p k)) ∧ Hid (Below w.heap.size w wr) ∧ Hid (fitsF (seenK p m.size) (letter m) k = true)) (fun i _ => m.size - (intOf i).toNat)
  case atStart => exact ⟨0, Nat.zero_le _, rfl, HO1, HB1, F0⟩
  case round =>
    obtain ⟨k, hk, rfl, HO, HB, HF⟩ := hrel
    by_cases hlt : k < m.size
    · have hq := Q.out k
      have hlk := letter_of hlt
      have hc := HO.out.cell hq
      have hf := HO.out.frozen (seenK p m.size k)
      have Kk := Lib.hid (fun w => K.out k w hlt)
      have ST := Lib.hid (fun c (hc : c = letter m k) => HO.out.set hq c (f' := mustL m p (k + 1)) (fun j _ => by rw [hc]; exact MS.out k j))
      have FSk := Lib.hid (FS.out k hlt HF.out)
      have FCk := Lib.hid (FC.out k hlt)
      have hbz := HB.out.size
      change Hid ((mustL m p k (seenK p m.size k) = 0 ∨ mustL m p k (seenK p m.size k) = letter m k) → _) at FSk
      generalize hcv : mustL m p k (seenK p m.size k) = c at *
      clear hcv
      generalize seenK p m.size k = q at *
      by_cases z1 : c = 0
      · have d1 : ((c.toNat : Int) != 0) = false := by rw [byteZero.2 z1]; rfl
        have FN := Lib.hid (FSk.out (.inl z1))
        obtain ⟨S1, S2⟩ := ST.out _ hlk
        have H1 := Lib.hid S1
        have H2 := Lib.hid S2
        clear S1 S2 ST hlk FSk FCk z1
        generalize (c.toNat : Int) = cn at *
        go_wp2_with fail
        refine (Kk.out _).mono ?_
        rintro e u ⟨rfl, rfl⟩
        go_wp2_with fail
        go_quiet (fail)
        go_wp2
        go_roundw
        case rel => exact ⟨k + 1, by omega, by go_num, Lib.hid (H1.out.drewN _), Lib.hid (Below.grown HB.out (grownDrewN H2.out _) hbz (fun j hj => by injection hj; omega)), FN⟩
        case measure => simp [intOf]; omega
      · have d1 : ((c.toNat : Int) != 0) = true := by rw [bne_iff_ne]; exact fun h => z1 (byteZero.1 h)
        by_cases z2 : c = letter m k
        · have d2 : ((c.toNat : Int) != ((m[k]'hlt).toNat : Int)) = false := by rw [hlk, z2]; simp
          have FN := Lib.hid (FSk.out (.inr z2))
          obtain ⟨S1, S2⟩ := ST.out _ hlk
          have H1 := Lib.hid S1
          have H2 := Lib.hid S2
          clear S1 S2 ST hlk FSk FCk z1 z2
          generalize (c.toNat : Int) = cn at *
          go_wp2_with fail
          refine (Kk.out _).mono ?_
          rintro e u ⟨rfl, rfl⟩
          go_wp2_with fail
          go_quiet (fail)
          go_wp2
          go_roundw
          case rel => exact ⟨k + 1, by omega, by go_num, Lib.hid (H1.out.drewN _), Lib.hid (Below.grown HB.out (grownDrewN H2.out _) hbz (fun j hj => by injection hj; omega)), FN⟩
          case measure => simp [intOf]; omega
        · have d2 : ((c.toNat : Int) != ((m[k]'hlt).toNat : Int)) = true := by
            rw [hlk, bne_iff_ne]
            exact fun h => z2 (byteSame.1 h)
          have HV := Lib.hid (FCk.out z1 z2)
          clear ST hlk FSk FCk z1 z2
          generalize (c.toNat : Int) = cn at *
          go_wp2_with fail
          refine (Kk.out _).mono ?_
          rintro e u ⟨rfl, rfl⟩
          go_wp2_with fail
          go_quiet (fail)
          go_wp2
          go_ret2
          exact ⟨by rw [HV.out]; rfl, bDrewN HB.out _⟩
    · have hks : k = m.size := by omega
      subst hks
      have DV := Lib.hid (DY.out HF.out)
      have HL : Hid (RowF wr w.heap.size w.heap.size p (fun j => if j < 1 then fillL (mustL m p m.size) j else mustL m p m.size j)) := Lib.hid (HO.out.congr fun j hj => by
        by_cases e : j < 1
        · have : j = 0 := by omega
          subst this
          rfl
        · rw [if_neg e])
      have HD := Lib.hid (show discL m p = rowL (fillL (mustL m p m.size)) p from rfl)
      have FZ := Lib.hid (fun r => show fillL (mustL m p m.size) (r + 1) = if mustL m p m.size (r + 1) = 0 then fillL (mustL m p m.size) r else mustL m p m.size (r + 1) from rfl)
      have BB := Lib.hid HB.out
      clear HO HF DY FC FS F0 HB1 HO1 HB
      generalize mustL m p m.size = L at *
      generalize discL m p = dl at *
      go_wp2
      go_loopw [10] (fun i wr => ∃ k : Nat, 1 ≤ k ∧ k ≤ p ∧ i = .int .i64 k ∧ Hid (RowF wr w.heap.size w.heap.size p (fun j => if j < k then fillL L j else L j)) ∧ Hid (Below w.heap.size w wr)) (fun i _ => p - (intOf i).toNat)
      case atStart => exact ⟨1, Nat.le_refl _, p1, rfl, HL, BB⟩
      case round =>
        obtain ⟨k, k1, k2, rfl, HO, HB⟩ := hrel
        by_cases hlt2 : k < p
        · obtain ⟨r, hr⟩ : ∃ r, k = r + 1 := ⟨k - 1, by omega⟩
          have hrp : r < p := by omega
          have e1 : (k : Int) - 1 = (r : Int) := by omega
          have hc := HO.out.cell hlt2
          have hc2 := HO.out.cell hrp
          have hf := HO.out.frozen k
          have hbz := HB.out.size
          rw [if_neg (by omega)] at hc
          rw [if_pos (by omega)] at hc2
          have FZr := FZ.out r
          rw [← hr] at FZr
          by_cases z : L k = 0
          · rw [if_pos z] at FZr
            obtain ⟨S1, S2⟩ := HO.out.set hlt2 (fillL L r) (f' := fun j => if j < k + 1 then fillL L j else L j) (fun j _ => fillTo_step L k _ FZr L j)
            have H1 := Lib.hid S1
            have H2 := Lib.hid S2
            have d1 : ((L k).toNat : Int) = 0 := byteZero.2 z
            rw [d1] at hc
            clear S1 S2 FZr z d1 hr
            generalize ((fillL L r).toNat : Int) = cn at *
            go_wp2
            go_roundw
            case rel => exact ⟨k + 1, by omega, by omega, by go_num, Lib.hid H1.out, Lib.hid (Below.grown HB.out H2.out hbz (fun j hj => by injection hj; omega))⟩
            case measure => simp [intOf]; omega
          · rw [if_neg z] at FZr
            have H1 : Hid (RowF wr w.heap.size w.heap.size p (fun j => if j < k + 1 then fillL L j else L j)) := Lib.hid (HO.out.congr fun j _ => by
              by_cases e : j = k
              · subst e
                rw [if_neg (by omega), if_pos (by omega), FZr]
              · by_cases h : j < k
                · rw [if_pos h, if_pos (by omega)]
                · rw [if_neg h, if_neg (by omega)])
            have d1 : (((L k).toNat : Int) == 0) = false := beq_eq_false_iff_ne.2 fun h => z (byteZero.1 h)
            clear FZr z hr
            generalize ((L k).toNat : Int) = cn at *
            go_wp2
            go_roundw
            case rel => exact ⟨k + 1, by omega, by omega, by go_num, H1, HB⟩
            case measure => simp [intOf]; omega
        · have hkp : k = p := by omega
          have HO' := Lib.hid (HO.out.congr (f' := fillL L) fun j hj => if_pos (by omega))
          have hcv := textOwn _ w.heap.size p _ p wr (rowL_length _ _) HO'.out
          rw [← HD.out] at hcv
          clear hkp
          go_wp2
          go_ret2
          exact ⟨by rw [DV.out]; rfl, HB.out⟩

end Go.Proofs.Ytibafngidpmgdaa
