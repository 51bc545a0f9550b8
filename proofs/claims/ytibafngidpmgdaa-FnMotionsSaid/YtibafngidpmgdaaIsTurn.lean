/- impl.isTurn: a range over a function whose body returns; SameMotion, LooksBack, FirstTurn in the program, and their statements. -/
import Derived.Test.YtibafngidpmgdaaLeast
namespace Go.Proofs.Ytibafngidpmgdaa
set_option linter.unusedSimpArgs false
set_option linter.unusedVariables false
open Go.RowKit Go.Shelf
attribute [local go_sem] Oper.semAt_some

theorem turnsT_mem {s x : ByteArray} {n : Nat} : x ∈ turnsT s n ↔ ∃ k, k < n ∧ rotB s k = x := by
  unfold turnsT
  rw [List.mem_map]
  constructor
  · rintro ⟨k, h1, h2⟩; exact ⟨k, List.mem_range.1 h1, h2⟩
  · rintro ⟨k, h1, h2⟩; exact ⟨k, List.mem_range.2 h1, h2⟩

set_option maxRecDepth 100000 in
set_option maxHeartbeats 4000000 in
/-- impl.isTurn. -/
theorem isTurn_any (a b : ByteArray) (w : World) (s2 : a.size ≤ 24) :
    Calls Try.prog 130 #[.string a, .string b] w fun e w' => e = .returned (.bool (turnB a b)) ∧ Below w.heap.size w w' := by
  refine (callsIn_wide (n := 3)).1 ?_
  have h1 : 1 ≤ 3 := by omega
  refine callsIn_of_wp_marks Try.func130 rfl trivial ?_ rfl
  simp only [Try.ntmps130, List.size_toArray, List.length_cons, List.length_nil, Nat.reduceAdd, Nat.reduceSub, Array.replicate_succ, Array.replicate_zero, List.push_toArray, List.append_toArray, List.nil_append, List.cons_append]
  gi_wp2_with (refine ⟨trivial, ?_⟩; gi_at_call 132; refine (callsIn_wide.2 (turnsOf_any a _)).mono ?_; rintro e w' ⟨rfl, rfl⟩)
  have b0 := ((Boxed.new w 9 (.string b)).alloc (.cells #[.bool false] 4)).alloc (.cells #[.string a] 9)
  have b1 := (Boxed.new (w.alloc (.cells #[.string b] 9)) 4 (.bool false)).alloc (.cells #[.string a] 9)
  have b2 := Boxed.new ((w.alloc (.cells #[.string b] 9)).alloc (.cells #[.bool false] 4)) 9 (.string a)
  simp only [World.size_alloc] at b1 b2
  have hB0 : Below w.heap.size w (((w.alloc (.cells #[.string b] 9)).alloc (.cells #[.bool false] 4)).alloc (.cells #[.string a] 9)) := (((Below.refl _ w).alloc (Nat.le_refl _) _).alloc (by simp) _).alloc (by simp; omega) _
  have hseq := turns_stops 2 (by omega) (w.heap.size + 1 + 1) a (((w.alloc (.cells #[.string b] 9)).alloc (.cells #[.bool false] 4)).alloc (.cells #[.string a] 9)) s2 (by simp) b2.cell
  refine wpIn_rangeFunc_ownF rfl h1 (gf := 156) (lb := #[.pointer (some ⟨w.heap.size + 1 + 1, 0, none⟩)]) rfl trivial (enters_of Try.func156 (by kernel_rfl) rfl) hseq belowK_t (belowK_b (Nat.le_refl _)) (Below.refl _ _) (fun _ => rfl)
    (fun pre W => ((∀ x ∈ pre, eqT x b = false) ∧ Boxed W w.heap.size 9 (.string b) ∧ Boxed W (w.heap.size + 1) 4 (.bool false)) ∧ Below w.heap.size w W)
    (fun c pre W => (c = .ret ∧ (∃ x ∈ pre, eqT x b = true) ∧ Boxed W (w.heap.size + 1) 4 (.bool true)) ∧ Below w.heap.size w W)
    (OwnFrom.and (Own.from (fun s A B row hs hg hr => ⟨hs.1, boxed_own _ _ (fun _ => _) s A B row hs.2.1 hg hr, boxed_own _ _ (fun _ => _) s A B row hs.2.2 hg hr⟩) _) (ownFrom_below (Nat.le_refl _) (by simp; omega)))
    (fun c => OwnFrom.and (Own.from (fun s A B row hs hg hr => ⟨hs.1, hs.2.1, boxed_own _ _ (fun _ => _) s A B row hs.2.2 hg hr⟩) _) (ownFrom_below (Nat.le_refl _) (by simp; omega)))
    ⟨⟨by simp, b0, b1⟩, hB0⟩
    (fun x => { tmps := #[.string a, .string b, undef, .pointer (some ⟨w.heap.size, 0, none⟩), .pointer (some ⟨w.heap.size + 1, 0, none⟩), .string x, .string a, .func (.func 156) #[] #[.pointer (some ⟨w.heap.size + 1 + 1, 0, none⟩)], .string x, undef, undef, undef], defers := [] }) ?assign ?body ?done ?stop
  case assign =>
    intro l x W K hK
    gi_wp2
    exact hK
  case body =>
    rintro l pre x W ⟨⟨hp, hv, hf⟩, hB⟩ _
    have c0 := hv.cell
    have c1 := hf.cell
    have f1 := hf.frozen
    have hzz : w.heap.size ≤ W.heap.size := hB.size
    have KS : KeepsOthers W (W.setCell ⟨w.heap.size + 1, 0, none⟩ (.bool true)) := KeepsOthers.setCell _ _ _
    have BS := hB.setCell (p := ⟨w.heap.size + 1, 0, none⟩) (by simp) (.bool true)
    have V := hf.set (.bool true)
    cases c : (x.toList == b.toList)
    · have hc : eqT x b = false := c
      gi_wp2
      exact ⟨KeepsOthers.refl _, Below.refl _ _, ⟨fun y hy => (List.mem_append.1 hy).elim (hp y) (fun e => by simp at e; subst e; exact hc), hv, hf⟩, hB⟩
    · have hc : eqT x b = true := c
      gi_wp2
      exact ⟨KS, ⟨rfl, ⟨x, List.mem_append.2 (.inr (by simp)), hc⟩, V⟩, BS⟩
  case done =>
    rintro D ys W hD rfl ⟨⟨hne, hv, hf⟩, hB⟩ hK
    have c1 := hf.cell
    have f1 := hf.frozen
    have ht : turnB a b = false := turnB_no fun k hk => hne _ (turnsT_mem.2 ⟨k, hk, rfl⟩)
    gi_wp2
    have hK' := (KeepsOthers.setCell W ⟨w.heap.size + 1, 0, none⟩ (.bool false)).same D _ hK rfl
    refine ⟨by simp, .inl ⟨_, _, rfl, run_takeDeferred hK', ?_⟩⟩
    have hc5 := cell_kept (hf.set (.bool false)).cell (grownBy_putObj' _ D (.deferred none)) (fun r e => by cases e; exact ⟨_, hK', rfl⟩)
    refine ⟨.bool false, ?_, by rw [ht], (hB.setCell (p := ⟨w.heap.size + 1, 0, none⟩) (by simp) _).trans (belowK_b (w := w) (Nat.le_refl _) _ D _ _ (by simp at hD; omega) hK' rfl rfl)⟩
    simp [results, Try.f130, go_sem, hc5]
  case stop =>
    rintro D c pre W hD ⟨k, hk, rfl⟩ ⟨⟨rfl, ⟨x, hx, hxb⟩, hf⟩, hB⟩ hK
    have ht : turnB a b = true := by
      obtain ⟨j, hj, rfl⟩ := turnsT_mem.1 hx
      exact turnB_hit (by omega) hxb
    gi_wp2
    refine ⟨by simp, .inl ⟨_, _, rfl, run_takeDeferred hK, ?_⟩⟩
    have hc5 := cell_kept hf.cell (grownBy_putObj' _ D (.deferred none)) (fun r e => by cases e; exact ⟨_, hK, rfl⟩)
    refine ⟨.bool true, ?_, by rw [ht], hB.trans (belowK_b (w := w) (Nat.le_refl _) W D _ _ (by simp at hD; omega) hK rfl rfl)⟩
    simp [results, Try.f130, go_sem, hc5]

/-- impl.SameMotion. -/
theorem implSame_any (a b : ByteArray) (w : World) (ha : a.size ≤ maxLen) (hb : b.size ≤ maxLen) :
    Calls Try.prog 67 #[.string a, .string b] w fun e w' => e = .returned (sameV a b) ∧ Below w.heap.size w w' := by
  have A1 := Lib.hid (fun w => implMotion_any a w ha)
  have B1 := Lib.hid (fun w => implMotion_any b w hb)
  cases h1 : motB a
  · rw [sameV_a h1]
    rw [h1] at A1
    go_enter Try.func67, Try.ntmps67
    go_wp2_with fail
    refine (A1.out _).mono ?_
    rintro e u ⟨rfl, hb1⟩
    go_wp2_with fail
    go_ret2
    exact ⟨rfl, hb1⟩
  · cases h2 : motB b
    · rw [sameV_b h2]
      rw [h1] at A1
      rw [h2] at B1
      go_enter Try.func67, Try.ntmps67
      go_wp2_with fail
      refine (A1.out _).mono ?_
      rintro e u ⟨rfl, hb1⟩
      go_wp2_with fail
      refine (B1.out _).mono ?_
      rintro e u2 ⟨rfl, hb2⟩
      go_wp2_with fail
      go_ret2
      exact ⟨rfl, bTrans hb1 hb2⟩
    · rw [sameV_yes h1 h2]
      have S := Lib.hid (fun w => isTurn_any a b w (motB_size h1).2)
      rw [h1] at A1
      rw [h2] at B1
      generalize turnB a b = t at *
      go_enter Try.func67, Try.ntmps67
      go_wp2_with fail
      refine (A1.out _).mono ?_
      rintro e u ⟨rfl, hb1⟩
      go_wp2_with fail
      refine (B1.out _).mono ?_
      rintro e u2 ⟨rfl, hb2⟩
      go_wp2_with fail
      refine (S.out _).mono ?_
      rintro e u3 ⟨rfl, hb3⟩
      go_wp2_with fail
      go_ret2
      exact ⟨rfl, bTrans (bTrans hb1 hb2) hb3⟩

/-- impl.LooksBack. -/
theorem implLooks_any (s : ByteArray) (w : World) (hs : s.size ≤ maxLen) :
    Calls Try.prog 70 #[.string s] w fun e w' => e = .returned (looksV s) ∧ Below w.heap.size w w' := by
  have A1 := Lib.hid (fun w => implMotion_any s w hs)
  cases h1 : motB s
  · rw [looksV_no h1]
    rw [h1] at A1
    go_enter Try.func70, Try.ntmps70
    go_wp2_with fail
    refine (A1.out _).mono ?_
    rintro e u ⟨rfl, hb1⟩
    go_wp2_with fail
    go_ret2
    exact ⟨rfl, hb1⟩
  · rw [looksV_yes h1]
    obtain ⟨s1, s2⟩ := motB_size h1
    have B1 := Lib.hid (fun w => backwards_any s w s1 s2)
    have S := Lib.hid (fun w => isTurn_any s (backB s) w s2)
    rw [h1] at A1
    generalize turnB s (backB s) = t at *
    generalize backB s = b at *
    go_enter Try.func70, Try.ntmps70
    go_wp2_with fail
    refine (A1.out _).mono ?_
    rintro e u ⟨rfl, hb1⟩
    go_wp2_with fail
    refine (B1.out _).mono ?_
    rintro e u2 ⟨rfl, hb2⟩
    go_wp2_with fail
    refine (S.out _).mono ?_
    rintro e u3 ⟨rfl, hb3⟩
    go_wp2_with fail
    go_ret2
    exact ⟨rfl, bTrans (bTrans hb1 hb2) hb3⟩

theorem turnsEnter (args : Array Value) (w : World) : (callFunc 156 args).run Try.prog w = .ok (.enter 156 args) w := enters_of Try.func156 (by kernel_rfl) rfl args w

/-- impl.FirstTurn. -/
theorem implFirst_any (s : ByteArray) (w : World) (hs : s.size ≤ maxLen) :
    Calls Try.prog 68 #[.string s] w fun e w' => e = .returned (textV s (firstT s)) ∧ Below w.heap.size w w' := by
  have A1 := Lib.hid (fun w => implMotion_any s w hs)
  cases h1 : motB s
  · rw [textV_no h1]
    rw [h1] at A1
    go_enter Try.func68, Try.ntmps68
    go_wp2_with fail
    refine (A1.out _).mono ?_
    rintro e u ⟨rfl, hb1⟩
    go_wp2_with fail
    go_ret2
    exact ⟨rfl, hb1⟩
  · rw [textV_yes h1]
    obtain ⟨s1, s2⟩ := motB_size h1
    have L := Lib.hid (fun w b hb hc => leastT_any 156 _ turnsEnter _ _ _ w (turns_stops 2 (by omega) b s w s2 hb hc))
    change Hid (∀ w b hb hc, Calls _ _ _ w fun e w' => e = .returned (.string (firstT s)) ∧ _) at L
    rw [h1] at A1
    generalize firstT s = t at *
    go_enter Try.func68, Try.ntmps68
    go_wp2_with fail
    refine (A1.out _).mono ?_
    rintro e u ⟨rfl, hb1⟩
    go_wp2_with fail
    refine (turnsOf_any s _).mono ?_
    rintro e u2 ⟨rfl, rfl⟩
    go_wp2_with fail
    refine (L.out _ u.heap.size (by simp) (Boxed.new u 9 (.string s)).cell).mono ?_
    rintro e u3 ⟨rfl, hb3⟩
    go_wp2_with fail
    go_ret2
    exact ⟨rfl, bTrans (bAlloc hb1 _) hb3⟩

/-- laws.FnExactSameMotion. -/
theorem law_SameMotion (a b : ByteArray) (w : World) (ha : a.size ≤ maxLen) (hb : b.size ≤ maxLen) :
    Calls Try.prog 14 #[.string a, .string b] w fun e w' => e = .returned (.bool true) ∧ Below w.heap.size w w' := by
  by_cases hl : 1048576 < a.size
  · exact lawSameMotion_big0 a b w ha hb hl
  · by_cases hl2 : 1048576 < b.size
    · exact lawSameMotion_big1 a b w ha hb hl hl2
    · exact lawSameMotion_of a b _ _ w ha hb hl hl2 (fun u => specSame_any a b u ha hb) (fun u => implSame_any a b u ha hb)
/-- laws.FnExactLooksBack. -/
theorem law_LooksBack (s : ByteArray) (w : World) (hs : s.size ≤ maxLen) :
    Calls Try.prog 17 #[.string s] w fun e w' => e = .returned (.bool true) ∧ Below w.heap.size w w' := by
  by_cases hl : 1048576 < s.size
  · exact lawLooksBack_big0 s w hs hl
  · exact lawLooksBack_of s _ _ w hs hl (fun u => specLooks_any s u hs) (fun u => implLooks_any s u hs)
/-- laws.FnExactFirstTurn. -/
theorem law_FirstTurn (s : ByteArray) (w : World) (hs : s.size ≤ maxLen) :
    Calls Try.prog 15 #[.string s] w fun e w' => e = .returned (.bool true) ∧ Below w.heap.size w w' := by
  by_cases hl : 1048576 < s.size
  · exact lawFirstTurn_big0 s w hs hl
  · exact lawFirstTurn_of s _ _ w hs hl (fun u => specFirst_any s u hs) (fun u => implFirst_any s u hs)

end Go.Proofs.Ytibafngidpmgdaa
