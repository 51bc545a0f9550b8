/- Places of pictures: in the program and in the model; and the statement's own walk. -/
import Derived.Test.YtmgkoijnjhfinaaProg
import Derived.Test.YtmgkoijnjhfinaaOrder
import Derived.Maps.Own
import Derived.Maps.OwnSet
import Derived.Maps.Views
import Derived.Tactics
import Derived.Tactics2
import Derived.WalkKit
import Derived.LoopTactic
import Derived.BigQuiet
import Derived.RegionTactic
import Derived.Deep.QuietTactic
import Derived.Outline
import Derived.Lib.Hide
import Derived.Below
import Derived.KernelRfl
namespace Go.Proofs.Ytmgkoijnjhfinaa
set_option linter.unusedSimpArgs false
set_option linter.unusedVariables false
open Go.RowKit Go.Maps Go.WideMaps

theorem same_int (a b : Int) : (Lit.int .i64 a).sameKey (.int .i64 b) = decide (a = b) := by
  by_cases h : a = b <;> simp [Lit.sameKey, h]

/-- The first of many numbers, each once: what a set that is filled from all of them has. -/
theorem fold_keys (f : Nat → Int) (t : Nat) (hinj : ∀ i j, i < j → j < t → f i ≠ f j) (hagain : ∀ k, ∃ i, i < t ∧ f i = f k) :
    ∀ k, ((List.range k).map (fun j : Nat => Lit.int .i64 (f j))).foldl addKey [] = (List.range (min k t)).map (fun j : Nat => Lit.int .i64 (f j))
  | 0 => by simp
  | k + 1 => by
    rw [List.range_succ, List.map_append, List.foldl_append, fold_keys f t hinj hagain k]
    simp only [List.map_cons, List.map_nil, List.foldl_cons, List.foldl_nil, addKey, List.any_map]
    by_cases hk : k < t
    · rw [if_neg, Nat.min_eq_left (by omega), Nat.min_eq_left (by omega), List.range_succ, List.map_append]
      · rfl
      · rw [Nat.min_eq_left (by omega)]
        simp only [List.any_eq_true, List.mem_range, Function.comp, same_int, decide_eq_true_eq]
        rintro ⟨i, hi, e⟩
        exact hinj i k hi hk e
    · rw [if_pos, Nat.min_eq_right (by omega), Nat.min_eq_right (by omega)]
      rw [Nat.min_eq_right (by omega)]
      simp only [List.any_eq_true, List.mem_range, Function.comp, same_int, decide_eq_true_eq]
      obtain ⟨i, hi, e⟩ := hagain k
      exact ⟨i, hi, e⟩

/-- The places of pictures at the first flashes. -/
def keysTo (p s : Int) (n : Nat) : List Lit := (List.range n).map fun j : Nat => Lit.int .i64 (offAt p s j)
theorem keysTo_succ (p s : Int) (n : Nat) : keysTo p s (n + 1) = keysTo p s n ++ [Lit.int .i64 (offAt p s n)] := by
  unfold keysTo
  rw [List.range_succ, List.map_append]
  rfl
def Places (p s : Int) (n : Nat) : DataW Unit := setOf (.lit (.bool true)) (keysTo p s n)
theorem Places_succ (p s : Int) (n : Nat) : Places p s (n + 1) = (Places p s n).put (.int .i64 (offAt p s n)) (.lit (.bool true)) := by
  unfold Places
  rw [keysTo_succ, setOf_snoc]
theorem keys_lit (p s : Int) (n : Nat) : ∀ x ∈ keysTo p s n, WideAt.IsKeyLit x := by
  intro x hx
  unfold keysTo at hx
  obtain ⟨j, _, rfl⟩ := List.mem_map.1 hx
  trivial
theorem places_size (p s : Nat) (hs : 1 ≤ s) : Maps.size (Places p s s) = s / Nat.gcd p s := by
  have ht := ghost_t p s hs
  unfold Places
  rw [size_setOf _ _ (keys_lit p s s)]
  unfold keysTo
  rw [fold_keys (fun j => offAt p s j) (s / Nat.gcd p s) (fun i j hi hj => offAt_inj p s i j hs hi hj) (fun k => offAt_again p s k hs), List.length_map, List.length_range]
  omega

theorem keyLaw : Keyed Try.prog 2 := int_keyed Try.underlying2

theorem keyOk (x : Int) (h : -48 ≤ x ∧ x ≤ 48) : keyOf Try.prog 2 (.int .i64 x) = some (.int .i64 x) := keyOf_int_mk Try.underlying2 (WalkArith.wf_i64 (by omega))

theorem implGhosts_no (p s : Int) (w : World) (h : discB p s = false) :
    Calls Try.prog 25 #[.int .i64 p, .int .i64 s] w fun e w' => e = .returned (.tuple #[.int .i64 0, .int .i64 2]) ∧ Below w.heap.size w w' := by
  go_enter Try.func25, Try.ntmps25
  go_wp2_with fail
  refine (isDisc_any _ _ _).mono ?_
  rintro e u ⟨rfl, rfl⟩
  go_wp2_with fail
  go_ret2
  exact ⟨rfl, Below.refl _ _⟩

theorem specGhosts_no (p s : Int) (w : World) (h : discB p s = false) :
    Calls Try.prog 39 #[.int .i64 p, .int .i64 s] w fun e w' => e = .returned (.tuple #[.int .i64 0, .int .i64 2]) ∧ Below w.heap.size w w' := by
  go_enter Try.func39, Try.ntmps39
  go_wp2_with fail
  refine (l03Code_no _ _ _ h).mono ?_
  rintro e u ⟨rfl, rfl⟩
  go_wp2_with fail
  go_ret2
  exact ⟨rfl, Below.refl _ _⟩

theorem specGhosts_yes (p s : Nat) (w : World) (h : discB p s = true) :
    Calls Try.prog 39 #[.int .i64 p, .int .i64 s] w fun e w' => e = .returned (.tuple #[.int .i64 ((s / Nat.gcd p s : Nat) : Int), .int .i64 0]) ∧ Below w.heap.size w w' := by
  obtain ⟨p1, p2, s1, s2⟩ := discB_bd h
  have g1 := Nat.gcd_pos_of_pos_right p (show 0 < s by omega)
  have g2 := Nat.gcd_le_right p (show 0 < s by omega)
  have hd := Nat.div_le_self s (Nat.gcd p s)
  have hcast : ((s / Nat.gcd p s : Nat) : Int) = (s : Int) / (Nat.gcd p s : Nat) := Int.natCast_ediv _ _
  have hn : 0 ≤ (s : Int) / (Nat.gcd p s : Nat) := by rw [← hcast]; exact Int.natCast_nonneg _
  have hn2 : (s : Int) / (Nat.gcd p s : Nat) ≤ 48 := by
    rw [← hcast]
    clear hcast hn
    generalize s / Nat.gcd p s = q at *
    omega
  have G := Lib.hid (fun w => l00Gcd_any p s w (by omega) (by omega))
  rw [hcast]
  clear hcast hd
  generalize Nat.gcd p s = g at *
  have hg0 : ¬ (g : Int) = 0 := by omega
  go_enter Try.func39, Try.ntmps39
  go_wp2_with fail
  refine (l03Code_yes _ _ _ h).mono ?_
  rintro e u ⟨rfl, rfl⟩
  go_wp2_with fail
  refine (G.out _).mono ?_
  rintro e u ⟨rfl, rfl⟩
  go_wp2_with fail
  go_ret2
  exact ⟨rfl, Below.refl _ _⟩

set_option maxHeartbeats 2000000 in
theorem implGhosts_yes (p n : Nat) (w : World) (h : discB p n = true) :
    Calls Try.prog 25 #[.int .i64 p, .int .i64 n] w fun e w' => e = .returned (.tuple #[.int .i64 ((n / Nat.gcd p n : Nat) : Int), .int .i64 0]) ∧ Below w.heap.size w w' := by
  obtain ⟨p1, p2, s1, s2⟩ := discB_bd h
  have T := Lib.hid (fun (k : Nat) (hk : (k : Int) < n) => turn_bd h k hk)
  have hmm := @run_makeMap Try.prog
  rw [← places_size p n (by omega)]
  go_enter Try.func25, Try.ntmps25
  go_wp2_with fail
  refine (isDisc_any _ _ _).mono ?_
  rintro e u ⟨rfl, rfl⟩
  go_wp2_with fail
  refine (flashes_any p n _).mono ?_
  rintro e u1 ⟨rfl, hf, hb1⟩
  have HF := Lib.hid hf
  have hz := hf.2.2.2.2
  have HB1 := Lib.hid hb1
  have hsz := hb1.size
  clear hf hb1
  go_wp2
  go_loopw [20] (fun i wr => ∃ k : Nat, k ≤ n ∧ i = .int .i64 k ∧ Hid (wr.ownsMap Try.prog 2 (plainElem Try.prog 4) u1.heap.size k (Places p n k)) ∧ Hid (Below w.heap.size w wr) ∧ Hid (Fl wr w.heap.size p n)) (fun i _ => n - (intOf i).toNat)
  case atStart => exact ⟨0, Nat.zero_le _, rfl, Lib.hid (World.ownsMap_made _ _ _ _), Lib.hid (HB1.out.alloc hsz _), Lib.hid (HF.out.below (bAlloc (Below.refl _ _) _))⟩
  case round =>
    obtain ⟨k, hk, rfl, HO, HB, HFl⟩ := hrel
    by_cases hlt : k < n
    · obtain ⟨x0, x1⟩ := T.out k (by omega)
      have hbz := HB.out.size
      obtain ⟨o1, o2, _⟩ := seen_facts h x0 x1
      have F := Lib.hid (fun u hf => flash_any p n k ((k : Int) * p) w.heap.size u hf h rfl x0 x1)
      have hkey := keyOk (offN n ((k : Int) * p)) ⟨o1, o2⟩
      have HP := Lib.hid (show Places p n (k + 1) = (Places p n k).put (.int .i64 (offN n ((k : Int) * p))) (.lit (.bool true)) from Places_succ p n k)
      generalize seenN p n ((k : Int) * p) = y at *
      generalize offN n ((k : Int) * p) = o at *
      go_wp2_with fail
      refine (F.out _ HFl.out).mono ?_
      rintro e u ⟨rfl, m, rfl⟩
      have HO' : Hid ((wr.drewN m).ownsMap Try.prog 2 (plainElem Try.prog 4) u1.heap.size k (Places p n k)) := Lib.hid HO.out
      go_wp2_with (first | (at_mapUpdate; refine wpList_mapUpdate_own _ rfl _ _ _ 68 rfl 2 4 keyLaw Try.underlying68 (plainElem (H := Unit) Try.prog 4) u1.heap.size k _ rfl HO'.out (by unfold maxLen; omega) _ _ _ rfl rfl hkey _ [] (plainElem_bool Try.underlying4 true) ?_; intro w1 hown1 hgrow1) | fail)
      have H1 := Lib.hid hown1
      have H2 := Lib.hid hgrow1
      clear hown1 hgrow1
      go_wp2
      go_roundw
      case rel => exact ⟨k + 1, by omega, by go_num, Lib.hid (by rw [HP.out]; exact H1.out), Lib.hid (Below.grown (bDrewN HB.out m) H2.out hbz (fun j hj => by injection hj; omega)), Lib.hid ((HFl.out.drewN m).grown H2.out (fun j hj => by injection hj; omega))⟩
      case measure => simp [intOf]; omega
    · have : k = n := by omega
      subst this
      go_wp2_with (first | (at_len; refine wpList_len_own _ rfl _ 68 rfl 2 4 Try.underlying68 _ u1.heap.size k _ rfl HO.out ?_) | fail)
      go_ret2
      exact ⟨rfl, HB.out⟩

theorem lawGhosts_of (p s x z : Int) (w : World)
    (hs : ∀ w : World, Calls Try.prog 39 #[.int .i64 p, .int .i64 s] w fun e w' => e = .returned (.tuple #[.int .i64 x, .int .i64 z]) ∧ Below w.heap.size w w')
    (hi : ∀ w : World, Calls Try.prog 25 #[.int .i64 p, .int .i64 s] w fun e w' => e = .returned (.tuple #[.int .i64 x, .int .i64 z]) ∧ Below w.heap.size w w') :
    Calls Try.prog 9 #[.int .i64 p, .int .i64 s] w fun e w' => e = .returned (.bool true) ∧ Below w.heap.size w w' := by
  have S := Lib.hid hs
  have I := Lib.hid hi
  clear hs hi
  go_enter Try.func9, Try.ntmps9
  go_wp2_with fail
  refine (S.out _).mono ?_
  rintro e u1 ⟨rfl, hb1⟩
  go_wp2_with fail
  refine (I.out _).mono ?_
  rintro e u2 ⟨rfl, hb2⟩
  go_wp2_with fail
  go_ret
  exact ⟨rfl, bTrans hb1 hb2⟩

/-- laws.FnExactGhostsOf. -/
theorem law_GhostsOf (p s : Int) (w : World) (_hp : I64 p) (_hs : I64 s) :
    Calls Try.prog 9 #[.int .i64 p, .int .i64 s] w fun e w' => e = .returned (.bool true) ∧ Below w.heap.size w w' := by
  cases h : discB p s
  · exact lawGhosts_of p s 0 2 w (fun w => specGhosts_no p s w h) (fun w => implGhosts_no p s w h)
  · obtain ⟨p1, p2, s1, s2⟩ := discB_bd h
    obtain ⟨n, rfl⟩ := Int.eq_ofNat_of_zero_le (show 0 ≤ s by omega)
    obtain ⟨m, rfl⟩ := Int.eq_ofNat_of_zero_le (show 0 ≤ p by omega)
    exact lawGhosts_of m n _ 0 w (fun w => specGhosts_yes m n w h) (fun w => implGhosts_yes m n w h)

end Go.Proofs.Ytmgkoijnjhfinaa
