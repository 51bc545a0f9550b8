/- The program's head, its signs laid open once: what the statements' frames ask of it. -/
import Derived.Test.YtibafngidpmgdabRows
import Derived.JoinedOf
import Derived.KernelRfl
namespace Go.Proofs.Ytibafngidpmgdab
set_option linter.unusedSimpArgs false
set_option linter.unusedVariables false

/-- The first three words of the program's head, and what is behind them. -/
def head1 : List Char := List.map Char.ofNat [104, 97, 114, 110, 101, 115, 115]
def head2 : List Char := List.map Char.ofNat [55, 54, 100, 99, 57, 49, 52, 99, 97, 102, 48, 52, 49, 100, 51, 99, 51, 51, 48, 56, 101, 100, 56, 102, 101, 98, 54, 56, 98, 56, 101, 55, 102, 53, 53, 98, 101, 52, 52, 55, 99, 102, 56, 53, 56, 54, 53, 99, 52, 57, 50, 100, 97, 48, 49, 57, 49, 102, 57, 56, 99, 100, 99, 98]
def head3 : List Char := List.map Char.ofNat [99, 117, 116]
def head4 : List Char := List.map Char.ofNat [97, 116, 32, 108, 111, 111, 112, 46, 101, 120, 97, 109, 112, 108, 101, 47, 103, 48, 49, 48, 54, 51, 47, 108, 97, 119, 115, 46, 70, 110, 66, 111, 111, 107, 115, 32, 108, 111, 111, 112, 46, 101, 120, 97, 109, 112, 108, 101, 47, 103, 48, 49, 48, 54, 51, 47, 108, 97, 119, 115, 46, 70, 110, 84, 105, 99, 107, 115, 32, 108, 111, 111, 112, 46, 101, 120, 97, 109, 112, 108, 101, 47, 103, 48, 49, 48, 54, 51, 47, 108, 97, 119, 115, 46, 70, 110, 69, 120, 97, 99, 116, 86, 97, 108, 105, 100, 83, 99, 101, 110, 101, 115, 32, 108, 111, 111, 112, 46, 101, 120, 97, 109, 112, 108, 101, 47, 103, 48, 49, 48, 54, 51, 47, 108, 97, 119, 115, 46, 70, 110, 69, 120, 97, 99, 116, 83, 97, 109, 101, 83, 99, 101, 110, 101, 115, 32, 108, 111, 111, 112, 46, 101, 120, 97, 109, 112, 108, 101, 47, 103, 48, 49, 48, 54, 51, 47, 108, 97, 119, 115, 46, 70, 110, 69, 120, 97, 99, 116, 83, 99, 101, 110, 101, 115, 79, 102, 32, 108, 111, 111, 112, 46, 101, 120, 97, 109, 112, 108, 101, 47, 103, 48, 49, 48, 54, 51, 47, 108, 97, 119, 115, 46, 70, 110, 69, 120, 97, 99, 116, 80, 97, 103, 101, 65, 116, 32, 108, 111, 111, 112, 46, 101, 120, 97, 109, 112, 108, 101, 47, 103, 48, 49, 48, 54, 51, 47, 108, 97, 119, 115, 46, 70, 110, 69, 120, 97, 99, 116, 69, 120, 97, 99, 116, 84, 105, 99, 107, 32, 108, 111, 111, 112, 46, 101, 120, 97, 109, 112, 108, 101, 47, 103, 48, 49, 48, 54, 51, 47, 108, 97, 119, 115, 46, 70, 110, 69, 120, 97, 99, 116, 66, 111, 111, 107, 70, 111, 114, 32, 108, 111, 111, 112, 46, 101, 120, 97, 109, 112, 108, 101, 47, 103, 48, 49, 48, 54, 51, 47, 108, 97, 119, 115, 46, 70, 110, 69, 120, 97, 99, 116, 69, 114, 114, 111, 114, 79, 102, 66, 111, 111, 107, 32, 108, 111, 111, 112, 46, 101, 120, 97, 109, 112, 108, 101, 47, 103, 48, 49, 48, 54, 51, 47, 108, 97, 119, 115, 46, 70, 110, 69, 120, 97, 99, 116, 66, 101, 115, 116, 84, 105, 99, 107, 32, 108, 111, 111, 112, 46, 101, 120, 97, 109, 112, 108, 101, 47, 103, 48, 49, 48, 54, 51, 47, 108, 97, 119, 115, 46, 70, 110, 69, 120, 97, 99, 116, 76, 101, 110, 103, 116, 104, 79, 102, 83, 99, 101, 110, 101, 115, 32, 108, 111, 111, 112, 46, 101, 120, 97, 109, 112, 108, 101, 47, 103, 48, 49, 48, 54, 51, 47, 108, 97, 119, 115, 46, 70, 110, 69, 120, 97, 99, 116, 87, 111, 114, 115, 116, 83, 108, 105, 116]
def blank : Char := Char.ofNat 32
theorem headIs : Try.pinned.checked.prog.initOrder = String.ofList (head1 ++ blank :: (head2 ++ blank :: (head3 ++ blank :: head4))) := by kernel_rfl
theorem headList : Try.pinned.checked.prog.initOrder.toList = head1 ++ blank :: (head2 ++ blank :: (head3 ++ blank :: head4)) := by rw [headIs, String.toList_ofList]

theorem words_cons : ∀ (w r : List Char), w.all (fun c => !(c == blank)) = true → wordsSigns (w ++ blank :: r) = w :: wordsSigns r
  | [], r, _ => rfl
  | c :: w, r, h => by
    simp only [List.all_cons, Bool.and_eq_true] at h
    have hc : c ≠ blank := by
      intro e
      rw [e] at h
      simp at h
    have ih := words_cons w r h.2
    rw [List.cons_append, wordsSigns.eq_3 _ _ (fun e => hc e), ih]

/-- Of a program with this head. -/
theorem headWords {Q : Program} (h : Q.initOrder.toList = head1 ++ blank :: (head2 ++ blank :: (head3 ++ blank :: head4))) : wordsSigns Q.initOrder.toList = head1 :: head2 :: head3 :: wordsSigns head4 := by
  rw [h, words_cons head1 _ (by kernel_rfl), words_cons head2 _ (by kernel_rfl), words_cons head3 _ (by kernel_rfl)]
theorem headMakeQ {Q : Program} (h : Q.initOrder.toList = head1 ++ blank :: (head2 ++ blank :: (head3 ++ blank :: head4))) : Q.make = some Make.cut := by
  unfold Program.make
  rw [headWords h]
  generalize wordsSigns head4 = r
  kernel_rfl
theorem headLiftedQ {Q : Program} (h : Q.initOrder.toList = head1 ++ blank :: (head2 ++ blank :: (head3 ++ blank :: head4))) : Q.liftsFinal = false := by
  unfold Program.liftsFinal Program.headLifts
  rw [headWords h]
  generalize wordsSigns head4 = r
  kernel_rfl
theorem headEnterQ {Q : Program} (h : Q.initOrder.toList = head1 ++ blank :: (head2 ++ blank :: (head3 ++ blank :: head4))) (h1 : Q.laysLater = false) (h2 : Q.bearsReflect = false) (h3 : Q.doorFits [] = true) : Q.mayEnter = true := by
  unfold Program.mayEnter
  rw [headWords h, h1, h2]
  generalize wordsSigns head4 = r
  refine Eq.trans (b := Q.doorFits []) ?_ h3
  kernel_rfl
theorem headMake : Try.pinned.checked.prog.make = some Make.cut := headMakeQ headList
theorem headLifted : Try.pinned.checked.prog.liftsFinal = false := headLiftedQ headList
theorem headEnter : Try.pinned.checked.prog.mayEnter = true := headEnterQ headList (by kernel_rfl) (by kernel_rfl) (by kernel_rfl)

end Go.Proofs.Ytibafngidpmgdab
