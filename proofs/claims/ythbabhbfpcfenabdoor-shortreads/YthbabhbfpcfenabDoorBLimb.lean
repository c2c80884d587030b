/- Limbs: the mathematics, the rows in memory, and the walks of limbOf, cut, limbsOf. -/
import Derived.Test.YthbabhbfpcfenabDoorBWalkA
import Derived.OwnWalk
import Derived.WalkSmall
namespace Go.Proofs.YthbabhbfpcfenabDoor
open Go.RowKit
set_option linter.unusedVariables false

/-- The number that a row of limbs is. -/
def lv : List Nat → Nat
  | [] => 0
  | x :: l => x + 1000000000 * lv l
theorem lv_append (a b : List Nat) : lv (a ++ b) = lv a + 1000000000 ^ a.length * lv b := by
  induction a with
  | nil => simp [lv]
  | cons x a ih =>
    rw [List.cons_append, lv, ih, lv, List.length_cons, Nat.pow_succ, Nat.mul_add, Nat.mul_comm (1000000000 ^ a.length) 1000000000, Nat.mul_assoc, Nat.add_assoc]
theorem lv_snoc (a : List Nat) (x : Nat) : lv (a ++ [x]) = lv a + 1000000000 ^ a.length * x := by rw [lv_append]; simp [lv]
theorem lv_zero (a : List Nat) : lv (a ++ [0]) = lv a := by rw [lv_snoc]; simp
/-- The cells of a row. -/
def cu (xs : List Nat) : List Value := xs.map fun x : Nat => Value.int .u32 (x : Int)
theorem cu_len (xs : List Nat) : (cu xs).length = xs.length := by simp [cu]
theorem cu_append (a b : List Nat) : cu (a ++ b) = cu a ++ cu b := by simp [cu]
theorem cu_take (xs : List Nat) (m : Nat) : cu (xs.take m) = (cu xs).take m := by simp [cu]
/-- A list of limbs in memory, in blocks from B on. -/
structure Lm (w : World) (B : Nat) (ao : Option Addr) (n c : Nat) (xs : List Nat) : Prop where
  own : w.ownsRow B 92 1 (.slice ao n c) n (cu xs)
  lim : ∀ x ∈ xs, x < 1000000000
theorem Lm.len {w : World} {B : Nat} {ao : Option Addr} {n c : Nat} {xs : List Nat} (h : Lm w B ao n c xs) : xs.length = n := by
  have := h.own.1
  rw [cu_len] at this; omega
theorem Lm.nil (w : World) (B : Nat) : Lm w B none 0 0 [] := ⟨World.ownsRow_nil _ _ _ _, fun x hx => by cases hx⟩
theorem Lm.head {w : World} {B : Nat} {ao : Option Addr} {n c : Nat} {xs : List Nat} (h : Lm w B ao n c xs) (hn : 0 < n) : ∃ g, ao = some ⟨g, 0, none⟩ ∧ B ≤ g ∧ g < w.heap.size := by
  rcases h.own.2 with ⟨h1, h2⟩ | ⟨g, cap, cur, h1, hB, hg, -⟩
  · omega
  · cases h1
    exact ⟨g, rfl, hB, (Array.getElem?_eq_some_iff.1 hg).1⟩
theorem Lm.cell {w : World} {B g n c : Nat} {xs : List Nat} (h : Lm w B (some ⟨g, 0, none⟩) n c xs) (j : Nat) (hj : j < n) : w.cell? ⟨g, j, none⟩ = some (.int .u32 ((xs.getD j 0 : Nat) : Int)) := by
  rw [h.own.cellAt j (by omega)]
  have := h.len
  have hj' : j < xs.length := by omega
  simp [cu, hj', List.getD]
theorem Lm.froz {w : World} {B g n c : Nat} {xs : List Nat} (h : Lm w B (some ⟨g, 0, none⟩) n c xs) (j : Nat) : w.frozen? ⟨g, j, none⟩ = false := h.own.frozenAt j
theorem Lm.cut {w : World} {B : Nat} {ao : Option Addr} {n c : Nat} {xs : List Nat} (h : Lm w B ao n c xs) {m : Nat} (hm : m ≤ n) : Lm w B ao m c (xs.take m) := by
  have hl := h.len
  refine ⟨⟨by rw [cu_len, List.length_take]; omega, ?_⟩, fun x hx => h.lim x (List.mem_of_mem_take hx)⟩
  rcases h.own.2 with ⟨h1, h2⟩ | ⟨g, cap, cur, h1, hB, hg, k1, k2, k3, k4⟩
  · cases h1
    exact .inl ⟨by rw [show m = 0 by omega], by omega⟩
  · cases h1
    refine .inr ⟨g, c, cur, rfl, hB, hg, by omega, k2, k3, ?_⟩
    rw [cu_take, ← k4, List.take_take]
    congr 1; omega
theorem Lm.below {w w' : World} {B : Nat} {ao : Option Addr} {n c : Nat} {xs : List Nat} (h : Lm w B ao n c xs) (b : Below w.heap.size w w') : Lm w' B ao n c xs := by
  refine ⟨⟨h.own.1, ?_⟩, h.lim⟩
  rcases h.own.2 with h1 | ⟨g, cap, cur, h1, hB, hg, k⟩
  · exact .inl h1
  · exact .inr ⟨g, cap, cur, h1, hB, (b.block g (Array.getElem?_eq_some_iff.1 hg).1).trans hg, k⟩
theorem Lm.mono {w : World} {B B' : Nat} {ao : Option Addr} {n c : Nat} {xs : List Nat} (h : Lm w B ao n c xs) (hb : B' ≤ B) : Lm w B' ao n c xs := by
  refine ⟨⟨h.own.1, ?_⟩, h.lim⟩
  rcases h.own.2 with h1 | ⟨g, cap, cur, h1, hB, k⟩
  · exact .inl h1
  · exact .inr ⟨g, cap, cur, h1, Nat.le_trans hb hB, k⟩

theorem num_take (s : ByteArray) (k : Nat) (h : k < s.size) : num (s.data.toList.take (k + 1)) = num (s.data.toList.take k) * 10 + dg (s[k]'h) := by
  have hl : k < s.data.toList.length := by rw [list_len]; exact h
  have e : s.data.toList[k]'hl = s[k]'h := rfl
  rw [List.take_succ_eq_append_getElem hl, num_snoc, e]
theorem allD_at (s : ByteArray) (hd : allD s.data.toList = true) (k : Nat) (h : k < s.size) : 48 ≤ (s[k]'h).toNat ∧ (s[k]'h).toNat ≤ 57 := by
  have hl : k < s.data.toList.length := by rw [list_len]; exact h
  have hm : (s[k]'h) ∈ s.data.toList := List.getElem_mem hl
  exact (isD_iff _).1 (allD_mem hd hm)
theorem num_take_lt (s : ByteArray) (hd : allD s.data.toList = true) (k : Nat) (h : k ≤ 8) : num (s.data.toList.take k) < 100000000 := by
  have h1 := num_lt (s.data.toList.take k) (allD_of fun x hx => allD_mem hd (List.mem_of_mem_take hx))
  have h2 : (s.data.toList.take k).length ≤ 8 := by rw [List.length_take]; omega
  exact Nat.lt_of_lt_of_le h1 (Nat.pow_le_pow_right (by decide) h2)
set_option maxRecDepth 1000000 in
set_option maxHeartbeats 400000 in
theorem limbof_any (s : ByteArray) (w : World) (hd : allD s.data.toList = true) (hz : s.size ≤ 9) :
    Calls Tryd.prog 77 #[.string s] w fun e w' => e = .returned (.int .u32 ((num s.data.toList : Nat) : Int)) ∧ w' = w := by
  have HD : Hid (allD s.data.toList = true) := hd
  clear hd
  go_enter Tryd.func77, Tryd.ntmps77
  go_wp2
  go_loopg [3, 7] s.size (fun g l i wr => wr = w ∧ ∃ k m : Nat, i = .int .i64 k ∧ l = .int .u32 (m : Int) ∧ k + g = s.size ∧ Hid (m = num (s.data.toList.take k)))
  case atStart => exact ⟨rfl, 0, 0, rfl, rfl, Nat.zero_add _, rfl⟩
  case round =>
    obtain ⟨rfl, k, m, rfl, rfl, hkg, HM⟩ := hrel
    by_cases hlt : k < s.size
    · have hltI : (k : Int) < s.size := by omega
      have hm : m < 100000000 := by rw [HM.out]; exact num_take_lt s HD.out k (by omega)
      obtain ⟨x0, x1⟩ := allD_at s HD.out k hlt
      have HN : Hid (m * 10 + ((s[k]'hlt).toNat - 48) = num (s.data.toList.take (k + 1))) := by
        show _ = _
        rw [num_take s k hlt, ← HM.out]; rfl
      clear HM
      obtain ⟨x, hx⟩ : ∃ x, (s[k]'hlt).toNat = x := ⟨_, rfl⟩
      rw [hx] at x0 x1 HN
      go_wp2
      go_roundg (gk - 1)
      case measure => omega
      case rel => exact ⟨rfl, k + 1, m * 10 + (x - 48), by go_num, by go_num, by omega, HN⟩
    · have hltI : ¬ (k : Int) < s.size := by omega
      have HF : Hid (m = num s.data.toList) := by
        show m = _
        rw [HM.out, List.take_of_length_le (by rw [list_len]; omega)]
      go_wp2
      go_ret
      rw [HF.out]
      exact ⟨rfl, rfl⟩

theorem lv_pop (xs : List Nat) (m : Nat) (hm : m < xs.length) (h0 : xs.getD m 0 = 0) : lv (xs.take (m + 1)) = lv (xs.take m) := by
  rw [List.take_succ_eq_append_getElem hm]
  have : xs[m] = 0 := by rw [← h0]; simp [List.getD, hm]
  rw [this, lv_zero]
set_option maxRecDepth 1000000 in
set_option maxHeartbeats 400000 in
theorem cut_any (B : Nat) (ao : Option Addr) (n c : Nat) (xs : List Nat) (w : World) (h : Lm w B ao n c xs) (hn : n ≤ 100000000) :
    Calls Tryd.prog 67 #[.slice ao n c] w fun e w' => (∃ m, m ≤ n ∧ e = .returned (.slice ao m c) ∧ lv (xs.take m) = lv xs) ∧ w' = w := by
  go_enter Tryd.func67, Tryd.ntmps67
  go_wp2
  go_loopg [0] n (fun g v wr => wr = w ∧ ∃ m : Nat, v = .slice ao m c ∧ m = g ∧ m ≤ n ∧ Hid (lv (xs.take m) = lv xs))
  case atStart => exact ⟨rfl, n, rfl, rfl, Nat.le_refl _, by show _ = _; rw [List.take_of_length_le (by rw [h.len]; exact Nat.le_refl _)]⟩
  case round =>
    obtain ⟨rfl, m, rfl, rfl, hmn, HL⟩ := hrel
    rcases Nat.eq_zero_or_pos m with h0 | h0
    · subst h0
      go_wp2
      go_ret
      exact ⟨⟨0, Nat.zero_le _, rfl, HL.out⟩, rfl⟩
    · obtain ⟨g, rfl, hBg, hgw⟩ := h.head (by omega)
      obtain ⟨j, rfl⟩ : ∃ j, m = j + 1 := ⟨m - 1, by omega⟩
      have hc := h.cell j (by omega)
      have HL2 : Hid (xs.getD j 0 = 0 → lv (xs.take j) = lv xs) := fun h0 => by
        rw [← lv_pop xs j (by rw [h.len]; omega) h0]; exact HL.out
      have hcap : n ≤ c := by
        rcases h.own.2 with ⟨h1, -⟩ | ⟨g', cap, cur, h1, -, -, k1, -⟩
        · cases h1
        · cases h1; exact k1
      generalize xs.getD j 0 = x at *
      by_cases hx : x = 0
      · subst hx
        have HL3 : Hid (lv (xs.take j) = lv xs) := HL2.out rfl
        go_wp2
        go_roundg j
        case measure => omega
        case rel => exact ⟨rfl, j, by go_num, rfl, by omega, HL3⟩
      · have hxI : ¬ (x : Int) = 0 := by omega
        go_wp2
        go_ret
        exact ⟨⟨j + 1, hmn, by go_num, HL.out⟩, rfl⟩
end Go.Proofs.YthbabhbfpcfenabDoor
