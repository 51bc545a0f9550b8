/- The text of a fraction, read: the statement's own walk. -/
import Derived.Test.YtmgkoijnjhfinaaDoorProg
import Derived.Test.YtmgkoijnjhfinaaDoorReadFr3
import Derived.Test.YtmgkoijnjhfinaaDoorFracMath
import Derived.Test.YtmgkoijnjhfinaaDoorRead
import Derived.Test.YtmgkoijnjhfinaaDoorFull
import Derived.Laws.AppendOwn
import Derived.Laws.OwnMore
import Derived.OwnWalk
import Derived.Tactics
import Derived.Tactics2
import Derived.WalkKit
import Derived.LoopTactic
import Derived.BigQuiet
import Derived.RegionTactic
import Derived.Deep.QuietTactic
import Derived.Outline
import Derived.Lib.Hide
import Derived.Below
import Derived.KernelRfl
namespace Go.Proofs.YtmgkoijnjhfinaaDoor
set_option linter.unusedSimpArgs false
set_option linter.unusedVariables false
open Go.RowKit

theorem lawReadFr_of (s : ByteArray) (x y : Int) (b : Bool) (w : World) (hs0 : s.size ≤ 1048576)
    (hs : ∀ w : World, Calls Tryd.prog 18 #[.string s] w fun e w' => e = .returned (.tuple #[fr x y, .bool b]) ∧ Below w.heap.size w w')
    (hi : ∀ u : World, Below w.heap.size w u → Calls Tryd.prog 14 #[.string s] u fun e w' => e = .returned (.tuple #[fr x y, .bool b]) ∧ Below u.heap.size u w') :
    Calls Tryd.prog 5 #[.string s] w fun e w' => e = .returned (.bool true) ∧ Below w.heap.size w w' := by
  have S := Lib.hid hs
  have I := Lib.hid hi
  clear hs hi
  cases b
  all_goals
    go_enter Tryd.func5, Tryd.ntmps5
    go_wp2_with fail
    refine (S.out _).mono ?_
    rintro e u1 ⟨rfl, hb1⟩
    go_wp2_with fail
    have H : Below w.heap.size w (u1.alloc (.cells #[.int .i64 x, .int .i64 y] 25)) := bAlloc hb1 _
    have A3 : Bk (u1.alloc (.cells #[.int .i64 x, .int .i64 y] 25)) u1.heap.size x y := by refine ⟨?_, ?_, ?_, ?_, ?_⟩ <;> go_simp
    generalize u1.alloc (.cells #[.int .i64 x, .int .i64 y] 25) = v1 at *
    generalize u1.heap.size = g3 at *
    refine (I.out _ H).mono ?_
    rintro e u2 ⟨rfl, hb2⟩
    have A3 := bkOf hb2 A3
    have H := bTrans H hb2
    obtain ⟨i0, i1, j0, j1, l5⟩ := id A3
    have q1 := Nat.ne_of_lt l5
    go_wp2_with fail
    refine (eqFraction_same _ _ _).mono ?_
    rintro e u3 ⟨rfl, hb3⟩
    go_wp2_with fail
    go_ret
    exact ⟨rfl, bTrans (bAlloc H _) hb3⟩

theorem lawReadFr_long (s : ByteArray) (w : World) (hs : 1048576 < s.size) (hm : s.size ≤ maxLen) :
    Calls Tryd.prog 5 #[.string s] w fun e w' => e = .returned (.bool true) ∧ Below w.heap.size w w' := by
  unfold maxLen at hm
  go_enter Tryd.func5, Tryd.ntmps5
  go_wp2_with fail
  go_ret
  exact ⟨rfl, Below.refl _ _⟩

theorem maxLen_below {w u : World} (h : ∃ m, w.cell? ⟨0, 0, none⟩ = some (.int .i64 m)) (hb : Below w.heap.size w u) : ∃ m, u.cell? ⟨0, 0, none⟩ = some (.int .i64 m) := by
  obtain ⟨m, hm⟩ := h
  exact ⟨m, (hb.cell (p := ⟨0, 0, none⟩) (World.block_lt_of_cell? w _ hm)).trans hm⟩

/-- laws.FnExactReadFraction, where the library's variables hold what they are laid with. -/
theorem law_ReadFraction (s : ByteArray) (w : World) (hm : s.size ≤ maxLen) (hl : ∃ m, w.cell? ⟨0, 0, none⟩ = some (.int .i64 m)) (tp tq : TypeId) (p q : Value)
    (hv1 : ∀ u, Below w.heap.size w u → u.var? Tryd.prog "strconv.ErrSyntax" = some #[.iface tp p]) (hv2 : ∀ u, Below w.heap.size w u → u.var? Tryd.prog "strconv.ErrRange" = some #[.iface tq q]) :
    Calls Tryd.prog 5 #[.string s] w fun e w' => e = .returned (.bool true) ∧ Below w.heap.size w w' := by
  by_cases hs : s.size ≤ 1048576
  · by_cases hd : ∃ n d : Int, okB n d = true ∧ fracB n d = s
    · obtain ⟨n, d, hk, rfl⟩ := hd
      exact lawReadFr_of (fracB n d) n d true w hs (fun w => specReadFr_yes n d w hk hs) (fun u hu => implReadFr_yes n d u hk hs (maxLen_below hl hu))
    · have hN : NoFrac s := fun n d hk e => hd ⟨n, d, hk, e⟩
      exact lawReadFr_of s 0 0 false w hs (fun w => specReadFr_no s w hN hs) (fun u hu => implReadFr_no s u hN hs (maxLen_below hl hu) tp tq p q (fun x hx => hv1 x (bTrans hu hx)) (fun x hx => hv2 x (bTrans hu hx)))
  · exact lawReadFr_long s w (by omega) hm

end Go.Proofs.YtmgkoijnjhfinaaDoor
