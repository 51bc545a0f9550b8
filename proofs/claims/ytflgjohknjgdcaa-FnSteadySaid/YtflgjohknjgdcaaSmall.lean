/- The small fractions and numbers that the statements draw. -/
import Derived.Test.YtflgjohknjgdcaaProg
import Derived.Test.YtflgjohknjgdcaaSrc
import Derived.Test.YtflgjohknjgdcaaA2
import Derived.Test.YtflgjohknjgdcaaFull
import Derived.Test.YtflgjohknjgdcaaNum
import Derived.Deep.RegionWith
import Derived.Deep.DrawnRows
import Derived.Laws.StructEq
import Derived.Tactics
import Derived.Tactics2
import Derived.WalkKit
import Derived.LoopTactic
import Derived.BigQuiet
import Derived.RegionTactic
import Derived.BigRegion
import Derived.Deep.QuietTactic
import Derived.Outline
import Derived.Lib.Hide
import Derived.Below
import Derived.KernelRfl
namespace Go.Proofs.Ytflgjohknjgdcaa
open Go.RowKit
set_option linter.unusedSimpArgs false
set_option linter.unusedVariables false

theorem bkOnly {b c : Nat} {W u : World} {x y : Int} (hb : Only b W u) (hc : c ≠ b) (h : Bk W c x y) : Bk u c x y := by
  obtain ⟨h1, h2, h3, h4, h5⟩ := h
  have hk := hb.block c h5 (fun e => hc (by injection e))
  exact ⟨by rw [World.cell?_of_block (w := W) hk]; exact h1, by rw [World.cell?_of_block (w := W) hk]; exact h2, by rw [World.frozen?_of_block (w := W) hk]; exact h3, by rw [World.frozen?_of_block (w := W) hk]; exact h4, Nat.lt_of_lt_of_le h5 hb.size⟩

theorem Only.alloc {b : Nat} {a w : World} (h : Only b a w) (o : Obj) : Only b a (w.alloc o) :=
  ⟨h.os, h.tape, h.output, by have := h.size; simp; omega, fun i hi hne => by
    rw [← h.block i hi hne]
    have := h.size
    show (w.heap.push o)[i]? = _
    rw [Array.getElem?_push, if_neg (by omega)]⟩
theorem Only.setNew {b : Nat} {a w : World} (h : Only b a w) {p : Addr} (hp : a.heap.size ≤ p.block) (u : Value) : Only b a (w.setCell p u) :=
  ⟨h.os, h.tape, h.output, by simpa [World.setCell] using h.size, fun i hi hne => (Below.heap_setCell w p u i (by omega)).trans (h.block i hi hne)⟩

theorem Src.alloc {w : World} {b : Nat} {a : Option Addr} {len cap k : Nat} {seed : Int} (h : Src w b a len cap k seed) (o : Obj) : Src (w.alloc o) b a len cap k seed := by
  have hb := h.lt
  unfold Src at *
  show (w.heap.push o)[b]? = _
  rw [Array.getElem?_push, if_neg (by omega)]
  exact h

theorem belowOnly {w u : World} (h : Below w.heap.size w u) {b : Nat} (hb : b < w.heap.size) : Only b w u :=
  ⟨h.os, h.tape, h.output, h.size, fun i hi _ => h.block i hi⟩

theorem Src.below {w u : World} {b : Nat} {a : Option Addr} {len cap k : Nat} {seed : Int} (h : Src w b a len cap k seed) (hb : Below w.heap.size w u) : Src u b a len cap k seed := by
  have := hb.block b h.lt
  unfold Src at *
  rw [this, h]

theorem Row.below {w u : World} {a : Option Addr} {len cap : Nat} {zs : List Int} (h : Row w a len cap zs) (k : Below w.heap.size w u) : Row u a len cap zs := by
  rcases h with h | ⟨c, off, rfl, h1, h2, h3, h4, h5, h6⟩
  · exact .inl h
  · refine .inr ⟨c, off, rfl, h1, h2, h3, Nat.lt_of_lt_of_le h4 k.size, fun i hi => ?_, h6⟩
    rw [World.cell?_of_block (w := w) (k.block c h4)]
    exact h5 i hi

theorem Row.only {b : Nat} {w w' : World} {a : Option Addr} {len cap : Nat} {zs : List Int} (h : Row w a len cap zs) (k : Only b w w') (hb : cap ≠ 0 → ∀ x, a = some x → x.block ≠ b) : Row w' a len cap zs := h.keep k hb

theorem lowest_small {n d : Int} (h1 : -1000000 ≤ n) (h2 : n ≤ 1000000) (h3 : 1 ≤ d) (h4 : d ≤ 1000000) :
    okB (n.tdiv (divI n d)) (d.tdiv (divI n d)) = true := by
  have p := tdiv_divI_pos (n := n) (show 0 < d by omega)
  have c := lowest_coprime (n := n) (show d ≠ 0 by omega)
  obtain ⟨t1, t2⟩ := tdivI_le n d
  unfold okB
  rw [inB_iff.2 (by omega), inB_iff.2 (by omega), decide_eq_true c]
  rfl

/-- What a drawn fraction is. -/
def DrawnFr (b : Nat) (a : Option Addr) (len cap k : Nat) (w : World) (e : Ending) (w' : World) : Prop :=
  ∃ n d seed : Int, e = .returned (fr n d) ∧ okB n d = true ∧ -44 ≤ n ∧ n ≤ 44 ∧ 1 ≤ d ∧ d ≤ 20 ∧ Src w' b a len cap k seed ∧ Only b w w'

/-- spec.l02Draw. -/
theorem l02Draw_any (b : Nat) (a : Option Addr) (len cap k : Nat) (seed : Int) (zs : List Int) (w : World) (h : Src w b a len cap k seed) (hr : Row w a len cap zs) (ha : cap ≠ 0 → ∀ x, a = some x → x.block ≠ b) (hk : k ≤ 999990) :
    Calls Try.prog 101 #[.pointer (some ⟨b, 0, none⟩)] w (DrawnFr b a len cap (k + 2) w) := by
  have hb := h.lt
  have H := Lib.hid h
  clear h
  go_enter Try.func101, Try.ntmps101
  go_wp2_with fail
  refine (pick_small 60 b a len cap k seed zs _ (by omega) (by omega) (H.out.alloc _) (hr.keep (Only.alloc (Only.refl b w) _) ha) (by omega)).mono ?_
  rintro e u1 ⟨x, s1, x0, x1, rfl, g1, o1⟩
  have R1 := hr.keep (Only.trans (Only.alloc (Only.refl b w) _) o1) ha
  have B1 : Bk u1 w.heap.size 0 0 := bkOnly o1 (by omega) (by refine ⟨?_, ?_, ?_, ?_, ?_⟩ <;> go_simp)
  have G1 := Lib.hid g1
  clear g1
  go_wp2_with fail
  refine (pick_small 20 b a len cap (k + 1) s1 zs _ (by omega) (by omega) G1.out R1 (by omega)).mono ?_
  rintro e u2 ⟨y, s2, y0, y1, rfl, g2, o2⟩
  have B2 := bkOnly o2 (by omega) B1
  have G2 := Lib.hid g2
  clear g2
  go_wp2_with fail
  refine (l02Make_any _ _ _ (by omega) (by omega) (by omega) (by omega)).mono ?_
  rintro e u3 ⟨rfl, hb3⟩
  have B3 := bkOf hb3 B2
  have o3 : Only b u2 u3 := belowOnly hb3 G2.out.lt
  have G3 := Lib.hid (G2.out.below hb3)
  have ok := lowest_small (n := x - 15) (d := 1 + y) (by omega) (by omega) (by omega) (by omega)
  obtain ⟨t1, t2⟩ := tdivI_le (x - 15) (1 + y)
  have p := tdiv_divI_pos (n := x - 15) (show 0 < 1 + y by omega)
  generalize (x - 15).tdiv (divI (x - 15) (1 + y)) = n at *
  generalize (1 + y).tdiv (divI (x - 15) (1 + y)) = d at *
  obtain ⟨c2, c3, f2, f3, z2⟩ := B3
  have hne : ¬ w.heap.size = b := by omega
  have hne2 : ¬ b = w.heap.size := by omega
  go_wp2_with fail
  refine bodyPost_ret (v := _) (by simp [results, Try.results101, go_sem, c2, c3, z2, Nat.ne_of_lt z2]) rfl ⟨n, d, s2, rfl, ok, by omega, by omega, by omega, by omega, ?_, ?_⟩
  · have g := G3.out
    unfold Src at *
    simp [World.setCell, Array.getElem?_modify, hne, hne2, g]
    omega
  · have h0 : Only b w u3 := Only.trans (Only.trans (Only.trans (Only.alloc (Only.refl b w) _) o1) o2) o3
    repeat (first | exact h0 | refine Only.drewN ?_ _ | refine Only.setNew ?_ (by first | (simp; done) | (simp; omega)) _)

end Go.Proofs.Ytflgjohknjgdcaa
