/- The text of a fraction, read: both agree; the statement's own walk. -/
import Derived.Test.YtmgkoijnjhfinaaDoorProg
import Derived.Test.YtmgkoijnjhfinaaDoorReadFr2
import Derived.Test.YtmgkoijnjhfinaaDoorFracMath
import Derived.Test.YtmgkoijnjhfinaaDoorRead
import Derived.Test.YtmgkoijnjhfinaaDoorFull
import Derived.Laws.AppendOwn
import Derived.Laws.OwnMore
import Derived.OwnWalk
import Derived.Tactics
import Derived.Tactics2
import Derived.WalkKit
import Derived.LoopTactic
import Derived.BigQuiet
import Derived.RegionTactic
import Derived.Deep.QuietTactic
import Derived.Outline
import Derived.Lib.Hide
import Derived.Below
import Derived.KernelRfl
namespace Go.Proofs.YtmgkoijnjhfinaaDoor
set_option linter.unusedSimpArgs false
set_option linter.unusedVariables false
open Go.RowKit

theorem decText_one : decText 1 = [49] := by
  rw [decText_pos (by omega)]
  show digs 1 = _
  rw [digs_small (by omega)]
  rfl
theorem one_S : (⟨#[49]⟩ : ByteArray) = decS 1 := by unfold decS; rw [decText_one]
theorem decS_size (n : Int) : 1 ≤ (decS n).size := by
  have := dec_pos n
  unfold decS
  rw [size_of_text]
  exact this
theorem textB_ok {n d : Int} (h : okB n d = true) : textB n d = fracB n d := by rw [textB, h]; rfl
theorem textB_no {n d : Int} (h : okB n d = false) : textB n d = ⟨#[]⟩ := by rw [textB, h]; rfl
theorem same_text (a : ByteArray) : (a.toList == a.toList) = true := by simp
theorem list_of (l : List UInt8) : (⟨l.toArray⟩ : ByteArray).data.toList = l := by simp
theorem dec18 : (10 : Nat) ^ 18 = 1000000000000000000 := by decide
theorem i64_dec {n : Int} (h : n.natAbs < 10 ^ 18) : I64 n := by rw [dec18] at h; unfold I64; omega
theorem i64_zero : I64 0 := by unfold I64; omega
theorem i64_one : I64 1 := by unfold I64; omega

/-- A text that has the form of a fraction's but is none: its parts are no fraction. -/
theorem no_whole {s : ByteArray} (h : NoFrac s) {n : Int} (hn : n.natAbs < 10 ^ 18) (e : decS n = s) : okB n 1 = false := by
  cases hk : okB n 1
  · rfl
  · exact absurd ((frac_whole hk rfl).trans e) (h n 1 hk)
theorem no_parts {s : ByteArray} (h : NoFrac s) {n d : Int} (hd : ¬ d = 1) (e : s.data.toList = decText n ++ 47 :: decText d) : okB n d = false := by
  cases hk : okB n d
  · rfl
  · exact absurd (text_bytes ((frac_parts hk hd).trans e.symm)) (h n d hk)
theorem text_not_whole {s : ByteArray} (h : NoFrac s) {n : Int} (hn : n.natAbs < 10 ^ 18) (e : decS n = s) : textB n 1 ≠ s := by
  rw [textB_no (no_whole h hn e)]
  intro e2
  have h1 := decS_size n
  rw [e, ← e2] at h1
  exact absurd h1 (by decide)
theorem text_not_parts {s : ByteArray} (h : NoFrac s) {n d : Int} (hn : n.natAbs < 10 ^ 18) (e : s.data.toList = decText n ++ 47 :: decText d) : textB n d ≠ s := by
  intro e2
  cases hk : okB n d
  · rw [textB_no hk] at e2
    rw [← e2] at e
    have := congrArg List.length e
    simp at this
  · rw [textB_ok hk] at e2
    by_cases hd : d = 1
    · subst hd
      rw [frac_whole hk rfl] at e2
      rw [← e2] at e
      have := congrArg List.length e
      unfold decS at this
      simp at this
    · exact h n d hk e2

/-- impl.ReadFraction of a fraction's text. -/
theorem implReadFr_yes (n d : Int) (w : World) (h : okB n d = true) (hs : (fracB n d).size ≤ 1048576) (hm : ∃ m, w.cell? ⟨0, 0, none⟩ = some (.int .i64 m)) :
    Calls Tryd.prog 14 #[.string (fracB n d)] w fun e w' => e = .returned (.tuple #[fr n d, .bool true]) ∧ Below w.heap.size w w' := by
  obtain ⟨k1, k2, k3⟩ := ok_small h
  have p1 := i64_dec k1
  have p2 := i64_dec k2
  by_cases hd : d = 1
  · subst hd
    have e := frac_whole h rfl
    refine implFr_miss_ok (fracB n 1) n (textB n 1) w hs hm p1 ?_ ?_ ?_ (fun w => implText_any n 1 w p1.1 p1.2) ?_
    · rw [e]; exact cut_none (by unfold decS; rw [list_of]; exact dec_noslash' n)
    · intro u _; rw [e]; exact implRead_yes n u k1
    · intro u _; rw [one_S]; exact implRead_yes 1 u (by decide)
    · rw [textB_ok h]; exact same_text _
  · have e := frac_parts h hd
    refine implFr_hit_ok (fracB n d) (decS n) (decS d) n d (textB n d) w hs hm p1 p2 ?_ ?_ ?_ (fun w => implText_any n d w p1.1 p1.2) ?_
    · rw [e]; unfold decS; rw [list_of, list_of]; exact cut_one (dec_noslash' n)
    · intro u _; exact implRead_yes n u k1
    · intro u _; exact implRead_yes d u k2
    · rw [textB_ok h]; exact same_text _

/-- impl.ReadFraction of any other text. -/
theorem implReadFr_no (s : ByteArray) (w : World) (h : NoFrac s) (hs : s.size ≤ 1048576) (hm : ∃ m, w.cell? ⟨0, 0, none⟩ = some (.int .i64 m)) (tp tq : TypeId) (p q : Value)
    (hv1 : ∀ u, Below w.heap.size w u → u.var? Tryd.prog "strconv.ErrSyntax" = some #[.iface tp p]) (hv2 : ∀ u, Below w.heap.size w u → u.var? Tryd.prog "strconv.ErrRange" = some #[.iface tq q]) :
    Calls Tryd.prog 14 #[.string s] w fun e w' => e = .returned (.tuple #[fr 0 0, .bool false]) ∧ Below w.heap.size w w' := by
  have rd : ∀ t : ByteArray, t.size ≤ 1048576 → (∃ n : Int, n.natAbs < 10 ^ 18 ∧ decS n = t) ∨ ∀ u, Below w.heap.size w u → Calls Tryd.prog 17 #[.string t] u fun e w' => e = .returned (.tuple #[.int .i64 0, .bool false]) ∧ Below u.heap.size u w' := by
    intro t ht
    by_cases hd : ∃ n : Int, n.natAbs < 10 ^ 18 ∧ decS n = t
    · exact .inl hd
    · exact .inr (fun u hu => implRead_no t u (by omega) (fun n hn e => hd ⟨n, hn, e⟩) tp tq p q (hv1 u hu) (hv2 u hu))
  rcases cut_cases s.data.toList with hc | ⟨a, r, hc, e⟩
  · rcases rd s hs with ⟨n, hn, e⟩ | hno
    · refine implFr_miss_ne s n (textB n 1) w hs hm (i64_dec hn) hc ?_ ?_ (fun w => implText_any n 1 w (i64_dec hn).1 (i64_dec hn).2) (neq_text (text_not_whole h hn e))
      · intro u _; rw [← e]; exact implRead_yes n u hn
      · intro u _; rw [one_S]; exact implRead_yes 1 u (by decide)
    · refine implFr_miss_no s 0 w hs hm i64_zero hc hno ?_
      intro u _; rw [one_S]; exact implRead_yes 1 u (by decide)
  · have hz := size_list s
    rw [e] at hz
    simp at hz
    have hc2 : Lib.cut s.data.toList [47] = ((⟨a.toArray⟩ : ByteArray).data.toList, (⟨r.toArray⟩ : ByteArray).data.toList, true) := by rw [list_of, list_of]; exact hc
    rcases rd ⟨a.toArray⟩ (by rw [size_of_text]; omega) with ⟨n, hn, ea⟩ | hno
    · rcases rd ⟨r.toArray⟩ (by rw [size_of_text]; omega) with ⟨d, hd, er⟩ | hno2
      · have e2 : s.data.toList = decText n ++ 47 :: decText d := by
          have h1 := congrArg (fun b : ByteArray => b.data.toList) ea
          have h2 := congrArg (fun b : ByteArray => b.data.toList) er
          simp only [list_of, decS] at h1 h2
          rw [e, h1, h2]
        refine implFr_hit_ne s ⟨a.toArray⟩ ⟨r.toArray⟩ n d (textB n d) w hs hm (i64_dec hn) (i64_dec hd) hc2 ?_ ?_ (fun w => implText_any n d w (i64_dec hn).1 (i64_dec hn).2) (neq_text (text_not_parts h hn e2))
        · intro u _; rw [← ea]; exact implRead_yes n u hn
        · intro u _; rw [← er]; exact implRead_yes d u hd
      · refine implFr_hit_no2 s ⟨a.toArray⟩ ⟨r.toArray⟩ n 0 w hs hm (i64_dec hn) i64_zero hc2 ?_ hno2
        intro u _; rw [← ea]; exact implRead_yes n u hn
    · rcases rd ⟨r.toArray⟩ (by rw [size_of_text]; omega) with ⟨d, hd, er⟩ | hno2
      · refine implFr_hit_no s ⟨a.toArray⟩ ⟨r.toArray⟩ 0 d true w hs hm i64_zero (i64_dec hd) hc2 hno ?_
        intro u _; rw [← er]; exact implRead_yes d u hd
      · exact implFr_hit_no s ⟨a.toArray⟩ ⟨r.toArray⟩ 0 0 false w hs hm i64_zero i64_zero hc2 hno hno2

/-- spec.ReadFraction of a fraction's text. -/
theorem specReadFr_yes (n d : Int) (w : World) (h : okB n d = true) (hs : (fracB n d).size ≤ 1048576) :
    Calls Tryd.prog 18 #[.string (fracB n d)] w fun e w' => e = .returned (.tuple #[fr n d, .bool true]) ∧ Below w.heap.size w w' := by
  obtain ⟨k1, k2, k3⟩ := ok_small h
  have p1 := i64_dec k1
  have p2 := i64_dec k2
  by_cases hd : d = 1
  · subst hd
    have e := frac_whole h rfl
    exact specFr_one_ok (fracB n 1) (decS n) n w hs (by rw [e]; exact pieces_none (by unfold decS; rw [list_of]; exact dec_noslash n)) p1 h (fun w => number_yes n w k1)
  · have e := frac_parts h hd
    exact specFr_two_ok (fracB n d) (decS n) (decS d) n d w hs (pieces_one e rfl (dec_noslash n) (dec_noslash d)) p1 p2 hd h (fun w => number_yes n w k1) (fun w => number_yes d w k2)

/-- spec.ReadFraction of any other text. -/
theorem specReadFr_no (s : ByteArray) (w : World) (h : NoFrac s) (hs : s.size ≤ 1048576) :
    Calls Tryd.prog 18 #[.string s] w fun e w' => e = .returned (.tuple #[fr 0 0, .bool false]) ∧ Below w.heap.size w w' := by
  have rd : ∀ t : ByteArray, t.size ≤ 1048576 → (∃ n : Int, n.natAbs < 10 ^ 18 ∧ decS n = t) ∨ ∀ u, Calls Tryd.prog 31 #[.string t] u fun e w' => e = .returned (.tuple #[.int .i64 0, .bool false]) ∧ Below u.heap.size u w' := by
    intro t ht
    by_cases hd : ∃ n : Int, n.natAbs < 10 ^ 18 ∧ decS n = t
    · exact .inl hd
    · exact .inr (fun u => number_no t u (by omega) (fun n hn e => hd ⟨n, hn, e⟩))
  rcases pieces_cases 47 s with hp | ⟨x, y, c, hc, hp, e⟩ | ⟨x, r, hp, hr⟩
  · rcases rd s hs with ⟨n, hn, e⟩ | hno
    · exact specFr_one_bad s s n w hs hp (i64_dec hn) (no_whole h hn e) (fun w => by rw [← e]; exact number_yes n w hn)
    · exact specFr_one_no s s 0 w hs hp i64_zero hno
  · have hc2 : c = 47 := UInt8.toNat_inj.1 hc
    subst hc2
    have hz := size_list s
    rw [e] at hz
    simp only [List.length_append, List.length_cons, ← size_list] at hz
    rcases rd x (by omega) with ⟨n, hn, ea⟩ | hno
    · rcases rd y (by omega) with ⟨d, hd, er⟩ | hno2
      · by_cases h1 : d = 1
        · exact specFr_two_unit s x y n d w hs hp (i64_dec hn) (i64_dec hd) h1 (fun w => by rw [← ea]; exact number_yes n w hn) (fun w => by rw [← er]; exact number_yes d w hd)
        · have e2 : s.data.toList = decText n ++ 47 :: decText d := by
            rw [e, ← ea, ← er]
            unfold decS
            rw [list_of, list_of]
          exact specFr_two_bad s x y n d w hs hp (i64_dec hn) (i64_dec hd) h1 (no_parts h h1 e2) (fun w => by rw [← ea]; exact number_yes n w hn) (fun w => by rw [← er]; exact number_yes d w hd)
      · exact specFr_two_no2 s x y n 0 w hs hp (i64_dec hn) i64_zero (fun w => by rw [← ea]; exact number_yes n w hn) hno2
    · rcases rd y (by omega) with ⟨d, hd, er⟩ | hno2
      · exact specFr_two_no s x y 0 d true w hs hp i64_zero (i64_dec hd) hno (fun w => by rw [← er]; exact number_yes d w hd)
      · exact specFr_two_no s x y 0 0 false w hs hp i64_zero i64_zero hno hno2
  · have hx : x.size ≤ 1048576 := by
      have hm : x ∈ piecesB 47 s := by rw [hp]; exact List.mem_cons_self
      unfold piecesB at hm
      obtain ⟨z, _, rfl⟩ := List.mem_map.1 hm
      unfold piece
      rw [ByteArray.size_extract]
      omega
    rcases rd x hx with ⟨n, hn, ea⟩ | hno
    · exact specFr_more s x n r w hs true hp hr (i64_dec hn) (fun w => by rw [← ea]; exact number_yes n w hn)
    · exact specFr_more s x 0 r w hs false hp hr i64_zero hno

end Go.Proofs.YtmgkoijnjhfinaaDoor
