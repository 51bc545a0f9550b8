/- Decimal forms read back: the statement's own walk. -/
import Derived.Test.YtmgkoijnjhfinaaDoorProg
import Derived.Test.YtmgkoijnjhfinaaDoorSpecRead
import Derived.Tactics
import Derived.Tactics2
import Derived.WalkKit
import Derived.BigQuiet
import Derived.RegionTactic
import Derived.Deep.QuietTactic
import Derived.Outline
import Derived.Lib.Hide
import Derived.Below
import Derived.KernelRfl
namespace Go.Proofs.YtmgkoijnjhfinaaDoor
open Go.RowKit
set_option linter.unusedSimpArgs false
set_option linter.unusedVariables false

theorem specReadDecimal_of (s : ByteArray) (n : Int) (b : Bool) (w : World)
    (h : ∀ w : World, Calls Tryd.prog 31 #[.string s] w fun e w' => e = .returned (.tuple #[.int .i64 n, .bool b]) ∧ Below w.heap.size w w') :
    Calls Tryd.prog 16 #[.string s] w fun e w' => e = .returned (.tuple #[.int .i64 n, .bool b]) ∧ Below w.heap.size w w' := by
  have C := Lib.hid h
  clear h
  go_enter Tryd.func16, Tryd.ntmps16
  go_wp2_with fail
  refine (C.out _).mono ?_
  rintro e u1 ⟨rfl, hb1⟩
  go_wp2_with fail
  refine bodyPost_ret (v := .tuple #[.int .i64 n, .bool b]) (by simp [results, Tryd.results16, go_sem]) rfl ⟨rfl, hb1⟩

set_option maxRecDepth 100000 in
theorem lawReadDecimal_of (s : ByteArray) (n : Int) (b : Bool) (w : World) (hs : s.size ≤ 1048576)
    (h : ∀ w : World, Calls Tryd.prog 16 #[.string s] w fun e w' => e = .returned (.tuple #[.int .i64 n, .bool b]) ∧ Below w.heap.size w w')
    (k : ∀ u : World, Below w.heap.size w u → Calls Tryd.prog 17 #[.string s] u fun e w' => e = .returned (.tuple #[.int .i64 n, .bool b]) ∧ Below u.heap.size u w') :
    Calls Tryd.prog 4 #[.string s] w fun e w' => e = .returned (.bool true) ∧ Below w.heap.size w w' := by
  have C := Lib.hid h
  have K := Lib.hid k
  clear h k
  cases b
  all_goals
    go_enter Tryd.func4, Tryd.ntmps4
    go_wp2_with fail
    refine (C.out _).mono ?_
    rintro e u1 ⟨rfl, hb1⟩
    go_wp2_with fail
    refine (K.out _ hb1).mono ?_
    rintro e u2 ⟨rfl, hb2⟩
    go_wp2_with fail
    go_ret
    exact ⟨rfl, bTrans hb1 hb2⟩

theorem lawReadDecimal_long (s : ByteArray) (w : World) (hs : 1048576 < s.size) (hm : s.size ≤ maxLen) :
    Calls Tryd.prog 4 #[.string s] w fun e w' => e = .returned (.bool true) ∧ Below w.heap.size w w' := by
  unfold maxLen at hm
  go_enter Tryd.func4, Tryd.ntmps4
  go_wp2_with fail
  go_ret
  exact ⟨rfl, Below.refl _ _⟩

/-- laws.FnExactReadDecimal, where both sentinels hold something in every world that lies above this one. -/
theorem law_ReadDecimal (s : ByteArray) (w : World) (hm : s.size ≤ maxLen) (tp tq : TypeId) (p q : Value)
    (hv1 : ∀ u, Below w.heap.size w u → u.var? Tryd.prog "strconv.ErrSyntax" = some #[.iface tp p]) (hv2 : ∀ u, Below w.heap.size w u → u.var? Tryd.prog "strconv.ErrRange" = some #[.iface tq q]) :
    Calls Tryd.prog 4 #[.string s] w fun e w' => e = .returned (.bool true) ∧ Below w.heap.size w w' := by
  by_cases hs : s.size ≤ 1048576
  · by_cases hd : ∃ n : Int, n.natAbs < 10 ^ 18 ∧ decS n = s
    · obtain ⟨n, hn, rfl⟩ := hd
      exact lawReadDecimal_of (decS n) n true w hs (fun w => specReadDecimal_of _ n true w (fun w => number_yes n w hn)) (fun u _ => implRead_yes n u hn)
    · have hN : NoDec s := fun n hn e => hd ⟨n, hn, e⟩
      exact lawReadDecimal_of s 0 false w hs (fun w => specReadDecimal_of s 0 false w (fun w => number_no s w (by omega) hN)) (fun u hu => implRead_no s u (by omega) hN tp tq p q (hv1 u hu) (hv2 u hu))
  · exact lawReadDecimal_long s w (by omega) hm

end Go.Proofs.YtmgkoijnjhfinaaDoor
