/- impl.least at numbers and at texts, impl.isTurn: what ranges over an iterator. -/
import Derived.Test.YtibafngidpmgdaaSeqT
namespace Go.Proofs.Ytibafngidpmgdaa
set_option linter.unusedSimpArgs false
set_option linter.unusedVariables false
open Go.RowKit Go.Shelf
attribute [local go_sem] Oper.semAt_some

set_option maxRecDepth 100000 in
set_option maxHeartbeats 4000000 in
/-- impl.least, of numbers. -/
theorem leastI_any (gf : Nat) (lb : Array Value) (eg : ∀ args w, (callFunc gf args).run Try.prog w = .ok (.enter gf args) w) (Sp : List Int → Prop) (N : Nat) (xs : List Int) (w : World)
    (hseq : SeqStopsK Fence.wide 2 Try.prog gf lb (fun x : Int => #[.int .i64 x]) (Below w.heap.size) (fun ys => ys = xs) Sp N w) :
    Calls Try.prog 123 #[.func (.func gf) #[] lb] w fun e w' => e = .returned (.int .i64 (leastOf ltI 0 xs)) ∧ Below w.heap.size w w' := by
  refine (callsIn_wide (n := 3)).1 ?_
  have h1 : 1 ≤ 3 := by omega
  refine callsIn_of_wp_marks Try.func123 rfl trivial ?_ rfl
  simp only [Try.ntmps123, List.size_toArray, List.length_cons, List.length_nil, Nat.reduceAdd, Nat.reduceSub, Array.replicate_succ, Array.replicate_zero, List.push_toArray, List.append_toArray, List.nil_append, List.cons_append]
  gi_wp2
  have b0 := Boxed.new w 2 (.int .i64 0)
  have b1 := Boxed.new (w.alloc (.cells #[.int .i64 0] 2)) 4 (.bool true)
  have b2 := b0.alloc (.cells #[.bool true] 4)
  rw [World.size_alloc] at b1
  have hB0 : Below w.heap.size w ((w.alloc (.cells #[.int .i64 0] 2)).alloc (.cells #[.bool true] 4)) :=
    ((Below.refl _ w).alloc (Nat.le_refl _) _).alloc (by simp) _
  refine wpIn_rangeFunc_ownF rfl h1 (gf := gf) (lb := lb) rfl trivial eg hseq belowK_t (belowK_b (by simp; omega)) hB0 (fun _ => rfl)
    (fun pre W => (Boxed W w.heap.size 2 (.int .i64 (leastOf ltI 0 pre)) ∧ Boxed W (w.heap.size + 1) 4 (.bool pre.isEmpty)) ∧ Below w.heap.size w W)
    (fun _ _ _ => False)
    (OwnFrom.and (Own.from (fun s A B row hs hg hr => ⟨boxed_own _ _ (fun _ => _) s A B row hs.1 hg hr, boxed_own _ _ (fun _ => _) s A B row hs.2 hg hr⟩) _) (ownFrom_below (Nat.le_refl _) (by simp; omega)))
    (fun _ _ _ _ _ hs _ _ => hs)
    ⟨⟨b2, b1⟩, hB0⟩
    (fun x => { tmps := #[.func (.func gf) #[] lb, undef, .int .i64 0, .pointer (some ⟨w.heap.size, 0, none⟩), .pointer (some ⟨w.heap.size + 1, 0, none⟩), .int .i64 x, .func (.func gf) #[] lb, .int .i64 x, undef, undef, undef, undef, undef, undef, undef, undef], defers := [] }) ?assign ?body ?done ?stop
  case assign =>
    intro l x W K hK
    gi_wp2
    exact hK
  case body =>
    rintro l pre x W ⟨⟨hv, hf⟩, hB⟩ _
    have c0 := hv.cell
    have c1 := hf.cell
    have f0 := hv.frozen
    have f1 := hf.frozen
    have KS : KeepsOthers W ((W.setCell ⟨w.heap.size, 0, none⟩ (.int .i64 x)).setCell ⟨w.heap.size + 1, 0, none⟩ (.bool false)) := (KeepsOthers.setCell _ _ _).trans (KeepsOthers.setCell _ _ _)
    have BS : ∀ n₀, n₀ = w.heap.size → Below n₀ W ((W.setCell ⟨w.heap.size, 0, none⟩ (.int .i64 x)).setCell ⟨w.heap.size + 1, 0, none⟩ (.bool false)) := fun n₀ e => by
      subst e
      exact ((Below.refl _ W).setCell (p := ⟨w.heap.size, 0, none⟩) (Nat.le_refl _) _).setCell (p := ⟨w.heap.size + 1, 0, none⟩) (by simp) _
    have V1 := (hv.set (.int .i64 x)).other (B' := w.heap.size + 1) (by omega) (.bool false)
    have V2 := (hf.other (B' := w.heap.size) (by omega) (.int .i64 x)).set (.bool false)
    have he : (pre ++ [x]).isEmpty = false := by cases pre <;> rfl
    cases hp : pre.isEmpty
    · rw [hp] at c1
      have hn : pre ≠ [] := by intro e; rw [e] at hp; cases hp
      have HS := leastOf_snoc ltI 0 pre x hn
      have KR : KeepsOthers W W := KeepsOthers.refl _
      generalize hm : leastOf ltI 0 pre = m at *
      by_cases hx : x < m
      · rw [if_pos (by simp [ltI, hx])] at HS
        gi_wp2
        exact ⟨KS, BS _ rfl, ⟨by rw [HS]; exact V1, by rw [he]; exact V2⟩, hB.trans (BS _ rfl)⟩
      · rw [if_neg (by simp [ltI, hx])] at HS
        gi_wp2
        exact ⟨KR, Below.refl _ _, ⟨by rw [HS]; exact hv, by rw [he, ← hp]; exact hf⟩, hB⟩
    · rw [hp] at c1
      have hn : pre = [] := List.isEmpty_iff.1 hp
      have HS : leastOf ltI 0 (pre ++ [x]) = x := by rw [hn]; rfl
      rw [hn] at hv
      gi_wp2
      exact ⟨KS, BS _ rfl, ⟨by rw [HS]; exact V1, by rw [he]; exact V2⟩, hB.trans (BS _ rfl)⟩
  case done =>
    rintro D ys W hD rfl ⟨⟨hv, hf⟩, hB⟩ hK
    have c0 := hv.cell
    gi_wp2
    refine ⟨by simp, .inl ⟨_, _, rfl, run_takeDeferred hK, ?_⟩⟩
    exact ⟨_, results_tmp rfl _ _ _, rfl, hB.trans (belowK_b (w := w) (Nat.le_refl _) W D _ _ (by simp at hD; omega) hK rfl rfl)⟩
  case stop =>
    rintro D c pre W hD _ h _
    exact h.elim

set_option maxRecDepth 100000 in
set_option maxHeartbeats 4000000 in
/-- impl.least, of texts. -/
theorem leastT_any (gf : Nat) (lb : Array Value) (eg : ∀ args w, (callFunc gf args).run Try.prog w = .ok (.enter gf args) w) (Sp : List ByteArray → Prop) (N : Nat) (xs : List ByteArray) (w : World)
    (hseq : SeqStopsK Fence.wide 2 Try.prog gf lb (fun x : ByteArray => #[.string x]) (Below w.heap.size) (fun ys => ys = xs) Sp N w) :
    Calls Try.prog 131 #[.func (.func gf) #[] lb] w fun e w' => e = .returned (.string (leastOf ltT ⟨#[]⟩ xs)) ∧ Below w.heap.size w w' := by
  refine (callsIn_wide (n := 3)).1 ?_
  have h1 : 1 ≤ 3 := by omega
  refine callsIn_of_wp_marks Try.func131 rfl trivial ?_ rfl
  simp only [Try.ntmps131, List.size_toArray, List.length_cons, List.length_nil, Nat.reduceAdd, Nat.reduceSub, Array.replicate_succ, Array.replicate_zero, List.push_toArray, List.append_toArray, List.nil_append, List.cons_append]
  gi_wp2
  have b0 := Boxed.new w 9 (.string ⟨#[]⟩)
  have b1 := Boxed.new (w.alloc (.cells #[.string ⟨#[]⟩] 9)) 4 (.bool true)
  have b2 := b0.alloc (.cells #[.bool true] 4)
  rw [World.size_alloc] at b1
  have hB0 : Below w.heap.size w ((w.alloc (.cells #[.string ⟨#[]⟩] 9)).alloc (.cells #[.bool true] 4)) :=
    ((Below.refl _ w).alloc (Nat.le_refl _) _).alloc (by simp) _
  refine wpIn_rangeFunc_ownF rfl h1 (gf := gf) (lb := lb) rfl trivial eg hseq belowK_t (belowK_b (by simp; omega)) hB0 (fun _ => rfl)
    (fun pre W => (Boxed W w.heap.size 9 (.string (leastOf ltT ⟨#[]⟩ pre)) ∧ Boxed W (w.heap.size + 1) 4 (.bool pre.isEmpty)) ∧ Below w.heap.size w W)
    (fun _ _ _ => False)
    (OwnFrom.and (Own.from (fun s A B row hs hg hr => ⟨boxed_own _ _ (fun _ => _) s A B row hs.1 hg hr, boxed_own _ _ (fun _ => _) s A B row hs.2 hg hr⟩) _) (ownFrom_below (Nat.le_refl _) (by simp; omega)))
    (fun _ _ _ _ _ hs _ _ => hs)
    ⟨⟨b2, b1⟩, hB0⟩
    (fun x => { tmps := #[.func (.func gf) #[] lb, undef, .string ⟨#[]⟩, .pointer (some ⟨w.heap.size, 0, none⟩), .pointer (some ⟨w.heap.size + 1, 0, none⟩), .string x, .func (.func gf) #[] lb, .string x, undef, undef, undef, undef, undef, undef, undef, undef], defers := [] }) ?assign ?body ?done ?stop
  case assign =>
    intro l x W K hK
    gi_wp2
    exact hK
  case body =>
    rintro l pre x W ⟨⟨hv, hf⟩, hB⟩ _
    have c0 := hv.cell
    have c1 := hf.cell
    have f0 := hv.frozen
    have f1 := hf.frozen
    have KS : KeepsOthers W ((W.setCell ⟨w.heap.size, 0, none⟩ (.string x)).setCell ⟨w.heap.size + 1, 0, none⟩ (.bool false)) := (KeepsOthers.setCell _ _ _).trans (KeepsOthers.setCell _ _ _)
    have BS : ∀ n₀, n₀ = w.heap.size → Below n₀ W ((W.setCell ⟨w.heap.size, 0, none⟩ (.string x)).setCell ⟨w.heap.size + 1, 0, none⟩ (.bool false)) := fun n₀ e => by
      subst e
      exact ((Below.refl _ W).setCell (p := ⟨w.heap.size, 0, none⟩) (Nat.le_refl _) _).setCell (p := ⟨w.heap.size + 1, 0, none⟩) (by simp) _
    have V1 := (hv.set (.string x)).other (B' := w.heap.size + 1) (by omega) (.bool false)
    have V2 := (hf.other (B' := w.heap.size) (by omega) (.string x)).set (.bool false)
    have he : (pre ++ [x]).isEmpty = false := by cases pre <;> rfl
    cases hp : pre.isEmpty
    · rw [hp] at c1
      have hn : pre ≠ [] := by intro e; rw [e] at hp; cases hp
      have HS := leastOf_snoc ltT ⟨#[]⟩ pre x hn
      have KR : KeepsOthers W W := KeepsOthers.refl _
      generalize hm : leastOf ltT ⟨#[]⟩ pre = m at *
      cases hx : Op.bytesLess x.toList m.toList
      · rw [if_neg (by rw [show ltT x m = false from hx]; simp)] at HS
        gi_wp2
        exact ⟨KR, Below.refl _ _, ⟨by rw [HS]; exact hv, by rw [he, ← hp]; exact hf⟩, hB⟩
      · rw [if_pos (show ltT x m = true from hx)] at HS
        gi_wp2
        exact ⟨KS, BS _ rfl, ⟨by rw [HS]; exact V1, by rw [he]; exact V2⟩, hB.trans (BS _ rfl)⟩
    · rw [hp] at c1
      have hn : pre = [] := List.isEmpty_iff.1 hp
      have HS : leastOf ltT ⟨#[]⟩ (pre ++ [x]) = x := by rw [hn]; rfl
      rw [hn] at hv
      gi_wp2
      exact ⟨KS, BS _ rfl, ⟨by rw [HS]; exact V1, by rw [he]; exact V2⟩, hB.trans (BS _ rfl)⟩
  case done =>
    rintro D ys W hD rfl ⟨⟨hv, hf⟩, hB⟩ hK
    have c0 := hv.cell
    gi_wp2
    refine ⟨by simp, .inl ⟨_, _, rfl, run_takeDeferred hK, ?_⟩⟩
    exact ⟨_, results_tmp rfl _ _ _, rfl, hB.trans (belowK_b (w := w) (Nat.le_refl _) W D _ _ (by simp at hD; omega) hK rfl rfl)⟩
  case stop =>
    rintro D c pre W hD _ h _
    exact h.elim

end Go.Proofs.Ytibafngidpmgdaa
