/- Plain mathematics of rows of digits, the lowest first; the walk of the document's less. -/
import Derived.Test.YthbabhbfpcfenabDoorKWalkA
import Derived.Test.YthbabhbfpcfenabDoorHNum
namespace Go.Proofs.YthbabhbfpcfenabDoor
open Go.RowKit
set_option linter.unusedVariables false
set_option linter.unusedSimpArgs false

theorem le_nil : le [] = 0 := rfl
theorem le_cons (d : Nat) (l : List Nat) : le (d :: l) = d + 10 * le l := rfl
theorem le_app (a b : List Nat) : le (a ++ b) = le a + 10 ^ a.length * le b := by
  induction a with
  | nil => simp [le_nil]
  | cons x a ih =>
    rw [List.cons_append, le_cons, ih, le_cons, List.length_cons, Nat.pow_succ, Nat.mul_add, Nat.mul_comm (10 ^ a.length) 10, Nat.mul_assoc, Nat.add_assoc]
theorem le_bound (l : List Nat) (h : ∀ x ∈ l, x < 10) : le l < 10 ^ l.length := by
  induction l with
  | nil => simp [le_nil]
  | cons x l ih =>
    have h1 := ih fun y hy => h y (by simp [hy])
    have h2 := h x (by simp)
    rw [le_cons, List.length_cons, Nat.pow_succ]; omega
theorem le_drop (xs : List Nat) (j : Nat) : le (xs.drop j) = xs.getD j 0 + 10 * le (xs.drop (j + 1)) := by
  rcases Nat.lt_or_ge j xs.length with h | h
  · rw [List.drop_eq_getElem_cons h, le_cons, List.getD_eq_getElem?_getD, List.getElem?_eq_getElem h, Option.getD_some]
  · rw [List.drop_eq_nil_of_le h, List.drop_eq_nil_of_le (by omega), List.getD_eq_getElem?_getD, List.getElem?_eq_none h]
    simp [le_nil]
theorem le_split (xs : List Nat) (j : Nat) : le xs = le (xs.take j) + 10 ^ j * le (xs.drop j) := by
  rcases Nat.lt_or_ge j xs.length with h | h
  · conv => lhs; rw [← List.take_append_drop j xs]
    rw [le_app, List.length_take, Nat.min_eq_left (by omega)]
  · rw [List.take_of_length_le h, List.drop_eq_nil_of_le h]
    simp [le_nil]
theorem le_take_lt (xs : List Nat) (h : ∀ x ∈ xs, x < 10) (j : Nat) : le (xs.take j) < 10 ^ j := by
  have := le_bound (xs.take j) fun x hx => h x (List.mem_of_mem_take hx)
  exact Nat.lt_of_lt_of_le this (Nat.pow_le_pow_right (by decide) (by rw [List.length_take]; omega))
theorem le_lt_of {xs ys : List Nat} (hx : ∀ x ∈ xs, x < 10) {j : Nat} (h : le (xs.drop (j + 1)) = le (ys.drop (j + 1))) (hlt : xs.getD j 0 < ys.getD j 0) : le xs < le ys := by
  have a := le_take_lt xs hx j
  have e1 := le_split xs j
  have e2 := le_split ys j
  have d1 := le_drop xs j
  have d2 := le_drop ys j
  have h1 : le (xs.drop j) + 1 ≤ le (ys.drop j) := by omega
  have h2 := Nat.mul_le_mul_left (10 ^ j) h1
  rw [Nat.mul_add, Nat.mul_one] at h2
  omega
theorem getD_lt {xs : List Nat} (h : ∀ x ∈ xs, x < 10) (j : Nat) : xs.getD j 0 < 10 := by
  rcases Nat.lt_or_ge j xs.length with hj | hj
  · rw [List.getD_eq_getElem?_getD, List.getElem?_eq_getElem hj, Option.getD_some]
    exact h _ (List.getElem_mem hj)
  · rw [List.getD_eq_getElem?_getD, List.getElem?_eq_none hj]; decide
theorem getD_past {xs : List Nat} {j : Nat} (hj : xs.length ≤ j) : xs.getD j 0 = 0 := by
  rw [List.getD_eq_getElem?_getD, List.getElem?_eq_none hj]; rfl
theorem take_succ_le (xs : List Nat) (j : Nat) : le (xs.take (j + 1)) = le (xs.take j) + 10 ^ j * xs.getD j 0 := by
  rcases Nat.lt_or_ge j xs.length with h | h
  · rw [List.take_succ_eq_append_getElem h, le_snoc, List.length_take, Nat.min_eq_left (by omega), List.getD_eq_getElem?_getD, List.getElem?_eq_getElem h, Option.getD_some, Nat.mul_comm]
  · rw [List.take_of_length_le h, List.take_of_length_le (by omega), getD_past h, Nat.mul_zero, Nat.add_zero]
/-- A digit of a row, or 0 behind it, as the walks read it. -/
def DigAt (w : World) (ao : Option Addr) (n j x : Nat) : Prop := (j < n ∧ ∃ g, ao = some ⟨g, 0, none⟩ ∧ w.cell? ⟨g, j, none⟩ = some (.int .u8 (x : Int))) ∨ (n ≤ j ∧ x = 0)
theorem Nm.at {w : World} {B : Nat} {ao : Option Addr} {n c : Nat} {xs : List Nat} (h : Nm w B ao n c xs) (j : Nat) : DigAt w ao n j (xs.getD j 0) := by
  have hl := h.len
  rcases Nat.lt_or_ge j n with hj | hj
  · obtain ⟨g, rfl, -, -⟩ := h.head (by omega)
    exact .inl ⟨hj, g, rfl, h.cell j hj⟩
  · exact .inr ⟨hj, getD_past (by omega)⟩
set_option maxRecDepth 1000000 in
set_option maxHeartbeats 6400000 in
theorem kless_any {B B2 n c n2 c2 : Nat} {ao ao2 : Option Addr} {xs ys : List Nat} (w : World) (h : Nm w B ao n c xs) (k : Nm w B2 ao2 n2 c2 ys) (hn : n ≤ 100000) (hn2 : n2 ≤ 100000) :
    Calls Tryd.prog 21 #[.slice ao n c, .slice ao2 n2 c2] w fun e w' => e = .returned (.bool (decide (le xs < le ys))) ∧ w' = w := by
  have HD : Hid (∀ j, DigAt w ao n j (xs.getD j 0) ∧ DigAt w ao2 n2 j (ys.getD j 0) ∧ xs.getD j 0 < 10 ∧ ys.getD j 0 < 10) := fun j => ⟨h.at j, k.at j, getD_lt h.lim j, getD_lt k.lim j⟩
  have HL : Hid (∀ j, le (xs.drop (j + 1)) = le (ys.drop (j + 1)) → (xs.getD j 0 < ys.getD j 0 → decide (le xs < le ys) = true) ∧ (ys.getD j 0 < xs.getD j 0 → decide (le xs < le ys) = false) ∧ (xs.getD j 0 = ys.getD j 0 → le (xs.drop j) = le (ys.drop j))) := fun j hj => by
    refine ⟨fun hlt => ?_, fun hlt => ?_, fun he => ?_⟩
    · exact decide_eq_true (le_lt_of h.lim hj hlt)
    · have := le_lt_of k.lim hj.symm hlt
      exact decide_eq_false (by omega)
    · rw [le_drop xs j, le_drop ys j, hj, he]
  have HE : Hid (le (xs.drop 0) = le (ys.drop 0) → decide (le xs < le ys) = false) := fun he => by
    rw [List.drop_zero, List.drop_zero] at he
    exact decide_eq_false (by omega)
  have HM : Hid (∀ m, n ≤ m → n2 ≤ m → le (xs.drop m) = le (ys.drop m)) := fun m h1 h2 => by
    have a := h.len
    have b := k.len
    rw [List.drop_eq_nil_of_le (by omega), List.drop_eq_nil_of_le (by omega)]
  clear h k
  generalize decide (le xs < le ys) = R at *
  obtain ⟨m, hm0, hm1, hm2⟩ : ∃ m, ((n < n2 ∧ m = n2) ∨ (¬ n < n2 ∧ m = n)) ∧ n ≤ m ∧ n2 ≤ m := by
    by_cases hlt : n < n2
    · exact ⟨n2, .inl ⟨hlt, rfl⟩, by omega, by omega⟩
    · exact ⟨n, .inr ⟨hlt, rfl⟩, by omega, by omega⟩
  have HM' : Hid (le (xs.drop m) = le (ys.drop m)) := HM.out m hm1 hm2
  have hm3 : m ≤ 100000 := by omega
  clear HM
  go_enter Tryd.func21, Tryd.ntmps21
  rcases hm0 with ⟨hlt, rfl⟩ | ⟨hlt, rfl⟩
  · have hltI : (n : Int) < m := by omega
    go_wp2
    go_loopg [6, 7, 8] m (fun g iv xv yv wr => wr = w ∧ ∃ k : Nat, iv = .int .i64 ((k : Int) - 1) ∧ k ≤ g ∧ k ≤ m ∧ Hid (le (xs.drop k) = le (ys.drop k)))
    case atStart => exact ⟨rfl, m, rfl, Nat.le_refl _, Nat.le_refl _, HM'⟩
    case round =>
      obtain ⟨rfl, k, rfl, hkg, hkm, HK⟩ := hrel
      cases k with
      | zero =>
        have e := HE.out HK.out
        subst e
        go_wp2
        go_ret
        exact ⟨rfl, rfl⟩
      | succ j =>
        obtain ⟨hd1, hd2, hd3, hd4⟩ := HD.out j
        have HLj : Hid ((xs.getD j 0 < ys.getD j 0 → R = true) ∧ (ys.getD j 0 < xs.getD j 0 → R = false) ∧ (xs.getD j 0 = ys.getD j 0 → le (xs.drop j) = le (ys.drop j))) := HL.out j HK.out
        clear HD HL HE HK HM'
        generalize xs.getD j 0 = x at *
        generalize ys.getD j 0 = y at *
        have hj0 : ¬ ((j : Int) + 1 - 1 < 0) := by omega
        rcases hd1 with ⟨a1, g1, rfl, a2⟩ | ⟨a1, rfl⟩ <;> rcases hd2 with ⟨b1, g2, rfl, b2⟩ | ⟨b1, rfl⟩
        · have a1I : (j : Int) < n := by omega
          have b1I : (j : Int) < m := by omega
          rcases Nat.lt_trichotomy x y with hxy | hxy | hxy
          · have e := HLj.out.1 hxy
            subst e
            have q1 : ((x : Nat) : Int) < (y : Nat) := by omega
            go_wp2
            all_goals go_ret
            all_goals exact ⟨by first | rfl | (show Ending.returned (.bool (decide (x < y))) = _; rw [decide_eq_true (by omega)]), rfl⟩
          · have HK2 : Hid (le (xs.drop j) = le (ys.drop j)) := HLj.out.2.2 hxy
            clear HLj
            subst hxy
            go_wp2
            go_roundg (gk - 1)
            case measure => omega
            case rel => exact ⟨rfl, j, by go_num, by omega, by omega, HK2⟩
          · have e := HLj.out.2.1 hxy
            subst e
            have q1 : ((y : Nat) : Int) < (x : Nat) := by omega
            go_wp2
            all_goals go_ret
            all_goals exact ⟨by first | rfl | (show Ending.returned (.bool (decide (x < y))) = _; rw [decide_eq_false (by omega)]), rfl⟩
        · have a1I : (j : Int) < n := by omega
          have b1I : ¬ (j : Int) < m := by omega
          rcases Nat.lt_trichotomy x 0 with hxy | hxy | hxy
          · exact absurd hxy (Nat.not_lt_zero _)
          · have HK2 : Hid (le (xs.drop j) = le (ys.drop j)) := HLj.out.2.2 hxy
            clear HLj
            subst hxy
            go_wp2
            go_roundg (gk - 1)
            case measure => omega
            case rel => exact ⟨rfl, j, by go_num, by omega, by omega, HK2⟩
          · have e := HLj.out.2.1 hxy
            subst e
            have q1 : ((0 : Nat) : Int) < (x : Nat) := by omega
            go_wp2
            all_goals go_ret
            all_goals exact ⟨by first | rfl | (show Ending.returned (.bool (decide (x < 0))) = _; rw [decide_eq_false (by omega)]), rfl⟩
        · have a1I : ¬ (j : Int) < n := by omega
          have b1I : (j : Int) < m := by omega
          rcases Nat.lt_trichotomy 0 y with hxy | hxy | hxy
          · have e := HLj.out.1 hxy
            subst e
            have q1 : ((0 : Nat) : Int) < (y : Nat) := by omega
            go_wp2
            all_goals go_ret
            all_goals exact ⟨by first | rfl | (show Ending.returned (.bool (decide (0 < y))) = _; rw [decide_eq_true (by omega)]), rfl⟩
          · have HK2 : Hid (le (xs.drop j) = le (ys.drop j)) := HLj.out.2.2 hxy
            clear HLj
            subst hxy
            go_wp2
            go_roundg (gk - 1)
            case measure => omega
            case rel => exact ⟨rfl, j, by go_num, by omega, by omega, HK2⟩
          · exact absurd hxy (Nat.not_lt_zero _)
        · have a1I : ¬ (j : Int) < n := by omega
          have b1I : ¬ (j : Int) < m := by omega
          rcases Nat.lt_trichotomy 0 0 with hxy | hxy | hxy
          · exact absurd hxy (Nat.not_lt_zero _)
          · have HK2 : Hid (le (xs.drop j) = le (ys.drop j)) := HLj.out.2.2 hxy
            clear HLj
            clear hxy
            go_wp2
            go_roundg (gk - 1)
            case measure => omega
            case rel => exact ⟨rfl, j, by go_num, by omega, by omega, HK2⟩
          · exact absurd hxy (Nat.not_lt_zero _)
  · have hltI : ¬ (m : Int) < n2 := by omega
    go_wp2
    go_loopg [6, 7, 8] m (fun g iv xv yv wr => wr = w ∧ ∃ k : Nat, iv = .int .i64 ((k : Int) - 1) ∧ k ≤ g ∧ k ≤ m ∧ Hid (le (xs.drop k) = le (ys.drop k)))
    case atStart => exact ⟨rfl, m, rfl, Nat.le_refl _, Nat.le_refl _, HM'⟩
    case round =>
      obtain ⟨rfl, k, rfl, hkg, hkm, HK⟩ := hrel
      cases k with
      | zero =>
        have e := HE.out HK.out
        subst e
        go_wp2
        go_ret
        exact ⟨rfl, rfl⟩
      | succ j =>
        obtain ⟨hd1, hd2, hd3, hd4⟩ := HD.out j
        have HLj : Hid ((xs.getD j 0 < ys.getD j 0 → R = true) ∧ (ys.getD j 0 < xs.getD j 0 → R = false) ∧ (xs.getD j 0 = ys.getD j 0 → le (xs.drop j) = le (ys.drop j))) := HL.out j HK.out
        clear HD HL HE HK HM'
        generalize xs.getD j 0 = x at *
        generalize ys.getD j 0 = y at *
        have hj0 : ¬ ((j : Int) + 1 - 1 < 0) := by omega
        rcases hd1 with ⟨a1, g1, rfl, a2⟩ | ⟨a1, rfl⟩ <;> rcases hd2 with ⟨b1, g2, rfl, b2⟩ | ⟨b1, rfl⟩
        · have a1I : (j : Int) < m := by omega
          have b1I : (j : Int) < n2 := by omega
          rcases Nat.lt_trichotomy x y with hxy | hxy | hxy
          · have e := HLj.out.1 hxy
            subst e
            have q1 : ((x : Nat) : Int) < (y : Nat) := by omega
            go_wp2
            all_goals go_ret
            all_goals exact ⟨by first | rfl | (show Ending.returned (.bool (decide (x < y))) = _; rw [decide_eq_true (by omega)]), rfl⟩
          · have HK2 : Hid (le (xs.drop j) = le (ys.drop j)) := HLj.out.2.2 hxy
            clear HLj
            subst hxy
            go_wp2
            go_roundg (gk - 1)
            case measure => omega
            case rel => exact ⟨rfl, j, by go_num, by omega, by omega, HK2⟩
          · have e := HLj.out.2.1 hxy
            subst e
            have q1 : ((y : Nat) : Int) < (x : Nat) := by omega
            go_wp2
            all_goals go_ret
            all_goals exact ⟨by first | rfl | (show Ending.returned (.bool (decide (x < y))) = _; rw [decide_eq_false (by omega)]), rfl⟩
        · have a1I : (j : Int) < m := by omega
          have b1I : ¬ (j : Int) < n2 := by omega
          rcases Nat.lt_trichotomy x 0 with hxy | hxy | hxy
          · exact absurd hxy (Nat.not_lt_zero _)
          · have HK2 : Hid (le (xs.drop j) = le (ys.drop j)) := HLj.out.2.2 hxy
            clear HLj
            subst hxy
            go_wp2
            go_roundg (gk - 1)
            case measure => omega
            case rel => exact ⟨rfl, j, by go_num, by omega, by omega, HK2⟩
          · have e := HLj.out.2.1 hxy
            subst e
            have q1 : ((0 : Nat) : Int) < (x : Nat) := by omega
            go_wp2
            all_goals go_ret
            all_goals exact ⟨by first | rfl | (show Ending.returned (.bool (decide (x < 0))) = _; rw [decide_eq_false (by omega)]), rfl⟩
        · have a1I : ¬ (j : Int) < m := by omega
          have b1I : (j : Int) < n2 := by omega
          rcases Nat.lt_trichotomy 0 y with hxy | hxy | hxy
          · have e := HLj.out.1 hxy
            subst e
            have q1 : ((0 : Nat) : Int) < (y : Nat) := by omega
            go_wp2
            all_goals go_ret
            all_goals exact ⟨by first | rfl | (show Ending.returned (.bool (decide (0 < y))) = _; rw [decide_eq_true (by omega)]), rfl⟩
          · have HK2 : Hid (le (xs.drop j) = le (ys.drop j)) := HLj.out.2.2 hxy
            clear HLj
            subst hxy
            go_wp2
            go_roundg (gk - 1)
            case measure => omega
            case rel => exact ⟨rfl, j, by go_num, by omega, by omega, HK2⟩
          · exact absurd hxy (Nat.not_lt_zero _)
        · have a1I : ¬ (j : Int) < m := by omega
          have b1I : ¬ (j : Int) < n2 := by omega
          rcases Nat.lt_trichotomy 0 0 with hxy | hxy | hxy
          · exact absurd hxy (Nat.not_lt_zero _)
          · have HK2 : Hid (le (xs.drop j) = le (ys.drop j)) := HLj.out.2.2 hxy
            clear HLj
            clear hxy
            go_wp2
            go_roundg (gk - 1)
            case measure => omega
            case rel => exact ⟨rfl, j, by go_num, by omega, by omega, HK2⟩
          · exact absurd hxy (Nat.not_lt_zero _)
end Go.Proofs.YthbabhbfpcfenabDoor
