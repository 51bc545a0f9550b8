/- What the laws draw: numbers; beside the fractions' draws (Small). -/
import Derived.Test.YtflgjohknjgdcaaProg
import Derived.Test.YtflgjohknjgdcaaLeaf
import Derived.Test.YtflgjohknjgdcaaLists
import Derived.Test.YtflgjohknjgdcaaHold
import Derived.Test.YtflgjohknjgdcaaSmall
import Derived.Laws.AppendOwn
import Derived.Laws.OwnMore
import Derived.IntWalk
import Derived.WalkSpells
import Derived.OwnWalk
import Derived.Deep.RegionWith
import Derived.Deep.DrawnRows
import Derived.Deep.RegionHeld3
import Derived.Tactics
import Derived.Tactics2
import Derived.WalkKit
import Derived.LoopTactic
import Derived.BigQuiet
import Derived.RegionTactic
import Derived.Deep.QuietTactic
import Derived.Outline
import Derived.Lib.Hide
import Derived.Below
import Derived.KernelRfl
namespace Go.Proofs.Ytflgjohknjgdcaa
set_option linter.unusedSimpArgs false
set_option linter.unusedVariables false
open Go.RowKit


/-- A source of choices of which no more than K bytes have been read. -/
def Sc (w : World) (b K : Nat) : Prop := ∃ a len cap k seed zs, k ≤ K ∧ Src w b a len cap k seed ∧ Row w a len cap zs ∧ (cap ≠ 0 → ∀ x, a = some x → x.block < b)
theorem Sc.lt {w : World} {b K : Nat} (h : Sc w b K) : b < w.heap.size := by
  obtain ⟨a, len, cap, k, seed, zs, hk, hs, hr, ha⟩ := h
  exact hs.lt
theorem Sc.mono {w : World} {b K K' : Nat} (h : Sc w b K) (hK : K ≤ K') : Sc w b K' := by
  obtain ⟨a, len, cap, k, seed, zs, hk, hs, hr, ha⟩ := h
  exact ⟨a, len, cap, k, seed, zs, Nat.le_trans hk hK, hs, hr, ha⟩
theorem Sc.below {w u : World} {b K : Nat} (h : Sc w b K) (hb : Below w.heap.size w u) : Sc u b K := by
  obtain ⟨a, len, cap, k, seed, zs, hk, hs, hr, ha⟩ := h
  exact ⟨a, len, cap, k, seed, zs, hk, hs.below hb, hr.below hb, ha⟩
theorem Sc.chg {S : Nat → Prop} {w u : World} {b K : Nat} (h : Sc w b K) (c : Chg S w u) (hS : ∀ k, S k → b < k) : Sc u b K := by
  obtain ⟨a, len, cap, k, seed, zs, hk, hs, hr, ha⟩ := h
  refine ⟨a, len, cap, k, seed, zs, hk, ?_, ?_, ha⟩
  · unfold Src at *
    rw [c.block b (Array.getElem?_eq_some_iff.1 hs).1 (fun e => by have := hS b e; omega)]
    exact hs
  · rcases hr with h | ⟨x, off, rfl, h1, h2, h3, h4, h5, h6⟩
    · exact .inl h
    · by_cases h0 : cap = 0
      · exact .inl ⟨by omega, h0⟩
      · refine .inr ⟨x, off, rfl, h1, h2, h3, Nat.lt_of_lt_of_le h4 c.size, fun i hi => ?_, h6⟩
        have hx := ha h0 _ rfl
        rw [World.cell?_of_block (w := w) (c.block x h4 (fun e => by have := hS x e; simp at hx; omega))]
        exact h5 i hi
theorem chgOnly {b : Nat} {w u : World} (h : Only b w u) : Chg (fun k => k = b) w u := ⟨h.os, h.tape, h.output, h.size, fun k hk hn => h.block k hk (fun e => hn (by injection e))⟩

/-- What a draw of a number leaves. -/
def PickR (w : World) (b K : Nat) (hi : Int) (e : Ending) (w' : World) : Prop := ∃ v : Int, 0 ≤ v ∧ v ≤ hi ∧ e = .returned (.int .i64 v) ∧ Sc w' b K ∧ Only b w w'

/-- l00Src.pick. -/
theorem pickS (n : Int) (b K : Nat) (w : World) (hn1 : 1 ≤ n) (hn2 : n ≤ 60000) (h : Sc w b K) (hK : K ≤ 900000) :
    Calls Try.prog 73 #[.pointer (some ⟨b, 0, none⟩), .int .i64 n] w (PickR w b (K + 2) (n - 1)) := by
  obtain ⟨a, len, cap, k, seed, zs, hk, hs, hr, ha⟩ := h
  have hne : cap ≠ 0 → ∀ x, a = some x → x.block ≠ b := fun h0 x hx => by have := ha h0 x hx; omega
  by_cases h1 : n = 1
  · subst h1
    have H := Lib.hid (show Sc w b (K + 2) from ⟨a, len, cap, k, seed, zs, by omega, hs, hr, ha⟩)
    clear hs hr ha hne
    go_enter Try.func73, Try.ntmps73
    go_wp2
    go_ret
    exact ⟨0, by omega, by omega, rfl, H.out, Only.refl _ _⟩
  by_cases h2 : n ≤ 200
  · refine (pick_small n b a len cap k seed zs w (by omega) h2 hs hr (by omega)).mono ?_
    rintro e u ⟨v, seed2, v0, v1, rfl, hs2, ho⟩
    exact ⟨v, v0, v1, rfl, ⟨a, len, cap, k + 1, seed2, zs, by omega, hs2, hr.keep ho hne, ha⟩, ho⟩
  · have HS := Lib.hid hs
    have HR := Lib.hid hr
    have HA := Lib.hid ha
    have HN := Lib.hid hne
    clear hs hr ha hne
    go_enter Try.func73, Try.ntmps73
    go_wp2_with fail
    refine (next_any b a len cap k seed zs _ HS.out HR.out (by omega)).mono ?_
    rintro e u ⟨v, seed2, v0, v1, rfl, hs2, ho⟩
    have HS2 := Lib.hid hs2
    have HR2 := Lib.hid (HR.out.keep ho HN.out)
    clear hs2
    go_wp2_with fail
    refine (next_any b a len cap (k + 1) seed2 zs _ HS2.out HR2.out (by omega)).mono ?_
    rintro e u2 ⟨v2, seed3, v20, v21, rfl, hs3, ho2⟩
    have HS3 := Lib.hid hs3
    have HR3 := Lib.hid (HR2.out.keep ho2 HN.out)
    clear hs3
    have hw1 : IntKind.i64.wrap (v * 256) = v * 256 := IntWalk.i64_in _ (by omega)
    have hw2 : IntKind.i64.wrap (v * 256 + v2) = v * 256 + v2 := IntWalk.i64_in _ (by omega)
    go_wp2
    go_ret
    have hm := Int.emod_nonneg (v * 256 + v2) (show n ≠ 0 by omega)
    have hm2 := Int.emod_lt_of_pos (v * 256 + v2) (show 0 < n by omega)
    exact ⟨(v * 256 + v2) % n, hm, by omega, ret_int (by first | rfl | omega), ⟨a, len, cap, k + 1 + 1, seed3, zs, by omega, HS3.out, HR3.out, HA.out⟩, ho.trans ho2⟩

/-- l00Src.one. -/
theorem oneS (n : Int) (b K : Nat) (w : World) (hn1 : 1 ≤ n) (hn2 : n ≤ 60000) (h : Sc w b K) (hK : K ≤ 900000) :
    Calls Try.prog 71 #[.pointer (some ⟨b, 0, none⟩), .int .i64 n] w fun e w' => ∃ t : Bool, e = .returned (.bool t) ∧ Sc w' b (K + 2) ∧ Only b w w' := by
  have P := Lib.hid (pickS n b K w hn1 hn2 h hK)
  clear h
  go_enter Try.func71, Try.ntmps71
  go_wp2_with fail
  refine P.out.mono ?_
  rintro e u ⟨v, v0, v1, rfl, hs, ho⟩
  have HS := Lib.hid hs
  clear hs P
  go_wp2
  go_ret
  exact ⟨_, rfl, HS.out, ho⟩

/-- l00Src.among. -/
theorem amongS (b K B : Nat) (v : Value) (xs : List Int) (w : World) (hx : Ints w B v xs) (h1 : 1 ≤ xs.length) (h2 : xs.length ≤ 100) (hB : b < B) (h : Sc w b K) (hK : K ≤ 900000) :
    Calls Try.prog 88 #[.pointer (some ⟨b, 0, none⟩), v] w fun e w' => ∃ j : Nat, j < xs.length ∧ e = .returned (.int .i64 (xs.getD j 0)) ∧ Sc w' b (K + 2) ∧ Only b w w' := by
  rcases hx.view with ⟨rfl, rfl⟩ | ⟨g, cap, rfl, hB2, hg, hm, hc, hf⟩
  · simp at h1
  · have P := Lib.hid (pickS xs.length b K w (by omega) (by omega) h hK)
    have HC := Lib.hid hc
    clear hx hc hf h
    go_enter Try.func88, Try.ntmps88
    go_wp2_with fail
    refine P.out.mono ?_
    rintro e u ⟨x, x0, x1, rfl, hs, ho⟩
    have HS := Lib.hid hs
    obtain ⟨j, rfl⟩ : ∃ j : Nat, x = j := ⟨x.toNat, by omega⟩
    have c0 : u.cell? ⟨g, j, none⟩ = some (.int .i64 (xs.getD j 0)) := by
      rw [World.cell?_of_block (w := w) (ho.block g hg (fun e => by injection e; omega))]
      exact HC.out j (by omega)
    have y1 : (j : Int) < xs.length := by omega
    have hj := Lib.hid (show j < xs.length by omega)
    generalize hz : xs.getD j 0 = z at *
    have HZ := Lib.hid hz
    clear hs P hz
    go_wp2
    go_ret
    exact ⟨j, hj.out, by rw [HZ.out]; rfl, HS.out, ho⟩


/-- spec.l00From, over a slice of bytes that came in. -/
theorem fromS (a : Option Addr) (len cap : Nat) (zs : List Int) (w : World) (hr : Row w a len cap zs) :
    Calls Try.prog 52 #[.slice a len cap] w fun e w' => e = .returned (.pointer (some ⟨w.heap.size, 0, none⟩)) ∧ Sc w' w.heap.size 0 ∧ Below w.heap.size w w' ∧ w'.heap.size = w.heap.size + 1 := by
  refine (from_any a len cap w).mono ?_
  rintro e u ⟨rfl, rfl⟩
  have hB : Below w.heap.size w (w.alloc (.cells #[.slice a len cap, .int .i64 0, .int .u64 0] 97)) := bAlloc (Below.refl _ _) _
  refine ⟨rfl, ⟨a, len, cap, 0, 0, zs, Nat.le_refl _, ?_, hr.below hB, ?_⟩, hB, by simp⟩
  · show (w.heap.push _)[w.heap.size]? = _
    rw [Array.getElem?_push, if_pos (by simp)]
    rfl
  · intro h0 x hx
    rcases hr with ⟨_, h⟩ | ⟨c, off, h, _, _, _, h4, _⟩
    · exact absurd h h0
    · rw [h] at hx
      cases hx
      exact h4

theorem onlyGrown {b : Nat} {a w u : World} {v : Value} (h : Only b a w) (g : w.grownBy u v.ownBlock) (hv : ∀ k, own1 v k → a.heap.size ≤ k) : Only b a u :=
  ⟨g.os.trans h.os, g.tape.trans h.tape, g.output.trans h.output, Nat.le_trans h.size g.size, fun i hi hne => (g.block i (Nat.lt_of_lt_of_le hi h.size) (fun e => by have := hv i e.symm; omega)).trans (h.block i hi hne)⟩

end Go.Proofs.Ytflgjohknjgdcaa
