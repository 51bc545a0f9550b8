/- The program's head, its signs laid open once: what the statements' frames ask of it. -/
import Derived.Test.YtflgjohknjgdcaaRows
import Derived.JoinedOf
import Derived.KernelRfl
namespace Go.Proofs.Ytflgjohknjgdcaa
set_option linter.unusedSimpArgs false
set_option linter.unusedVariables false

/-- The first three words of the program's head, and what is behind them. -/
def head1 : List Char := List.map Char.ofNat [104, 97, 114, 110, 101, 115, 115]
def head2 : List Char := List.map Char.ofNat [99, 50, 102, 99, 55, 56, 100, 99, 54, 53, 57, 53, 55, 57, 97, 99, 57, 55, 57, 101, 97, 52, 50, 50, 53, 50, 52, 98, 101, 98, 97, 50, 57, 48, 97, 102, 56, 99, 57, 97, 101, 52, 99, 51, 57, 52, 102, 102, 52, 53, 48, 54, 56, 52, 52, 99, 52, 55, 48, 100, 100, 52, 51, 57]
def head3 : List Char := List.map Char.ofNat [99, 117, 116]
def head4 : List Char := List.map Char.ofNat [97, 116, 32, 108, 111, 111, 112, 46, 101, 120, 97, 109, 112, 108, 101, 47, 103, 48, 49, 48, 54, 51, 47, 108, 97, 119, 115, 46, 70, 110, 83, 116, 101, 97, 100, 121, 32, 108, 111, 111, 112, 46, 101, 120, 97, 109, 112, 108, 101, 47, 103, 48, 49, 48, 54, 51, 47, 108, 97, 119, 115, 46, 70, 110, 87, 104, 101, 101, 108, 115, 79, 102, 76, 105, 103, 104, 116, 32, 108, 111, 111, 112, 46, 101, 120, 97, 109, 112, 108, 101, 47, 103, 48, 49, 48, 54, 51, 47, 108, 97, 119, 115, 46, 70, 110, 79, 102, 102, 115, 101, 116, 115, 32, 108, 111, 111, 112, 46, 101, 120, 97, 109, 112, 108, 101, 47, 103, 48, 49, 48, 54, 51, 47, 108, 97, 119, 115, 46, 70, 110, 69, 120, 97, 99, 116, 86, 97, 108, 105, 100, 66, 108, 97, 100, 101, 115, 32, 108, 111, 111, 112, 46, 101, 120, 97, 109, 112, 108, 101, 47, 103, 48, 49, 48, 54, 51, 47, 108, 97, 119, 115, 46, 70, 110, 69, 120, 97, 99, 116, 73, 115, 79, 112, 101, 110, 65, 116, 32, 108, 111, 111, 112, 46, 101, 120, 97, 109, 112, 108, 101, 47, 103, 48, 49, 48, 54, 51, 47, 108, 97, 119, 115, 46, 70, 110, 69, 120, 97, 99, 116, 70, 108, 105, 99, 107, 101, 114, 82, 97, 116, 101, 32, 108, 111, 111, 112, 46, 101, 120, 97, 109, 112, 108, 101, 47, 103, 48, 49, 48, 54, 51, 47, 108, 97, 119, 115, 46, 70, 110, 69, 120, 97, 99, 116, 73, 115, 83, 116, 101, 97, 100, 121, 32, 108, 111, 111, 112, 46, 101, 120, 97, 109, 112, 108, 101, 47, 103, 48, 49, 48, 54, 51, 47, 108, 97, 119, 115, 46, 70, 110, 69, 120, 97, 99, 116, 83, 108, 111, 119, 101, 115, 116, 83, 116, 101, 97, 100, 121, 32, 108, 111, 111, 112, 46, 101, 120, 97, 109, 112, 108, 101, 47, 103, 48, 49, 48, 54, 51, 47, 108, 97, 119, 115, 46, 70, 110, 69, 120, 97, 99, 116, 70, 101, 119, 101, 115, 116, 66, 108, 97, 100, 101, 115, 32, 108, 111, 111, 112, 46, 101, 120, 97, 109, 112, 108, 101, 47, 103, 48, 49, 48, 54, 51, 47, 108, 97, 119, 115, 46, 70, 110, 69, 120, 97, 99, 116, 76, 105, 116, 83, 104, 97, 114, 101, 32, 108, 111, 111, 112, 46, 101, 120, 97, 109, 112, 108, 101, 47, 103, 48, 49, 48, 54, 51, 47, 108, 97, 119, 115, 46, 70, 110, 69, 120, 97, 99, 116, 76, 111, 110, 103, 101, 115, 116, 68, 97, 114, 107, 32, 108, 111, 111, 112, 46, 101, 120, 97, 109, 112, 108, 101, 47, 103, 48, 49, 48, 54, 51, 47, 108, 97, 119, 115, 46, 70, 110, 69, 120, 97, 99, 116, 79, 112, 101, 110, 80, 97, 114, 116, 115, 32, 108, 111, 111, 112, 46, 101, 120, 97, 109, 112, 108, 101, 47, 103, 48, 49, 48, 54, 51, 47, 108, 97, 119, 115, 46, 70, 110, 69, 120, 97, 99, 116, 84, 119, 111, 87, 104, 101, 101, 108, 115, 32, 108, 111, 111, 112, 46, 101, 120, 97, 109, 112, 108, 101, 47, 103, 48, 49, 48, 54, 51, 47, 108, 97, 119, 115, 46, 70, 110, 69, 120, 97, 99, 116, 66, 101, 115, 116, 79, 102, 102, 115, 101, 116]
def blank : Char := Char.ofNat 32
theorem headIs : Try.pinned.checked.prog.initOrder = String.ofList (head1 ++ blank :: (head2 ++ blank :: (head3 ++ blank :: head4))) := by kernel_rfl
theorem headList : Try.pinned.checked.prog.initOrder.toList = head1 ++ blank :: (head2 ++ blank :: (head3 ++ blank :: head4)) := by rw [headIs, String.toList_ofList]

theorem words_cons : ∀ (w r : List Char), w.all (fun c => !(c == blank)) = true → wordsSigns (w ++ blank :: r) = w :: wordsSigns r
  | [], r, _ => rfl
  | c :: w, r, h => by
    simp only [List.all_cons, Bool.and_eq_true] at h
    have hc : c ≠ blank := by
      intro e
      rw [e] at h
      simp at h
    have ih := words_cons w r h.2
    rw [List.cons_append, wordsSigns.eq_3 _ _ (fun e => hc e), ih]

/-- Of a program with this head. -/
theorem headWords {Q : Program} (h : Q.initOrder.toList = head1 ++ blank :: (head2 ++ blank :: (head3 ++ blank :: head4))) : wordsSigns Q.initOrder.toList = head1 :: head2 :: head3 :: wordsSigns head4 := by
  rw [h, words_cons head1 _ (by kernel_rfl), words_cons head2 _ (by kernel_rfl), words_cons head3 _ (by kernel_rfl)]
theorem headMakeQ {Q : Program} (h : Q.initOrder.toList = head1 ++ blank :: (head2 ++ blank :: (head3 ++ blank :: head4))) : Q.make = some Make.cut := by
  unfold Program.make
  rw [headWords h]
  generalize wordsSigns head4 = r
  kernel_rfl
theorem headLiftedQ {Q : Program} (h : Q.initOrder.toList = head1 ++ blank :: (head2 ++ blank :: (head3 ++ blank :: head4))) : Q.liftsFinal = false := by
  unfold Program.liftsFinal Program.headLifts
  rw [headWords h]
  generalize wordsSigns head4 = r
  kernel_rfl
theorem headEnterQ {Q : Program} (h : Q.initOrder.toList = head1 ++ blank :: (head2 ++ blank :: (head3 ++ blank :: head4))) (h1 : Q.laysLater = false) (h2 : Q.bearsReflect = false) (h3 : Q.doorFits [] = true) : Q.mayEnter = true := by
  unfold Program.mayEnter
  rw [headWords h, h1, h2]
  generalize wordsSigns head4 = r
  refine Eq.trans (b := Q.doorFits []) ?_ h3
  kernel_rfl
theorem headMake : Try.pinned.checked.prog.make = some Make.cut := headMakeQ headList
theorem headLifted : Try.pinned.checked.prog.liftsFinal = false := headLiftedQ headList
theorem headEnter : Try.pinned.checked.prog.mayEnter = true := headEnterQ headList (by kernel_rfl) (by kernel_rfl) (by kernel_rfl)

end Go.Proofs.Ytflgjohknjgdcaa
