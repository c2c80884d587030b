/- BLimb, BLimb2, BWhole, BUpTo: these texts in one. -/
import Derived.Test.YthbabhbfpcfenaaGreatDoorPkF2
import Derived.OwnWalk
import Derived.WalkSmall
/- Limbs: the mathematics, the rows in memory, and the walks of limbOf, cut, limbsOf. -/
namespace Go.Proofs.YthbabhbfpcfenaaGreatDoor
open Go.RowKit
set_option linter.unusedVariables false

/-- The number that a row of limbs is. -/
def lv : List Nat → Nat
  | [] => 0
  | x :: l => x + 1000000000 * lv l
theorem lv_append (a b : List Nat) : lv (a ++ b) = lv a + 1000000000 ^ a.length * lv b := by
  induction a with
  | nil => simp [lv]
  | cons x a ih =>
    rw [List.cons_append, lv, ih, lv, List.length_cons, Nat.pow_succ, Nat.mul_add, Nat.mul_comm (1000000000 ^ a.length) 1000000000, Nat.mul_assoc, Nat.add_assoc]
theorem lv_snoc (a : List Nat) (x : Nat) : lv (a ++ [x]) = lv a + 1000000000 ^ a.length * x := by rw [lv_append]; simp [lv]
theorem lv_zero (a : List Nat) : lv (a ++ [0]) = lv a := by rw [lv_snoc]; simp
/-- The cells of a row. -/
def cu (xs : List Nat) : List Value := xs.map fun x : Nat => Value.int .u32 (x : Int)
theorem cu_len (xs : List Nat) : (cu xs).length = xs.length := by simp [cu]
theorem cu_append (a b : List Nat) : cu (a ++ b) = cu a ++ cu b := by simp [cu]
theorem cu_take (xs : List Nat) (m : Nat) : cu (xs.take m) = (cu xs).take m := by simp [cu]
/-- A list of limbs in memory, in blocks from B on. -/
structure Lm (w : World) (B : Nat) (ao : Option Addr) (n c : Nat) (xs : List Nat) : Prop where
  own : w.ownsRow B 156 1 (.slice ao n c) n (cu xs)
  lim : ∀ x ∈ xs, x < 1000000000
theorem Lm.len {w : World} {B : Nat} {ao : Option Addr} {n c : Nat} {xs : List Nat} (h : Lm w B ao n c xs) : xs.length = n := by
  have := h.own.1
  rw [cu_len] at this; omega
theorem Lm.nil (w : World) (B : Nat) : Lm w B none 0 0 [] := ⟨World.ownsRow_nil _ _ _ _, fun x hx => by cases hx⟩
theorem Lm.head {w : World} {B : Nat} {ao : Option Addr} {n c : Nat} {xs : List Nat} (h : Lm w B ao n c xs) (hn : 0 < n) : ∃ g, ao = some ⟨g, 0, none⟩ ∧ B ≤ g ∧ g < w.heap.size := by
  rcases h.own.2 with ⟨h1, h2⟩ | ⟨g, cap, cur, h1, hB, hg, -⟩
  · omega
  · cases h1
    exact ⟨g, rfl, hB, (Array.getElem?_eq_some_iff.1 hg).1⟩
theorem Lm.cell {w : World} {B g n c : Nat} {xs : List Nat} (h : Lm w B (some ⟨g, 0, none⟩) n c xs) (j : Nat) (hj : j < n) : w.cell? ⟨g, j, none⟩ = some (.int .u32 ((xs.getD j 0 : Nat) : Int)) := by
  rw [h.own.cellAt j (by omega)]
  have := h.len
  have hj' : j < xs.length := by omega
  simp [cu, hj', List.getD]
theorem Lm.froz {w : World} {B g n c : Nat} {xs : List Nat} (h : Lm w B (some ⟨g, 0, none⟩) n c xs) (j : Nat) : w.frozen? ⟨g, j, none⟩ = false := h.own.frozenAt j
theorem Lm.cut {w : World} {B : Nat} {ao : Option Addr} {n c : Nat} {xs : List Nat} (h : Lm w B ao n c xs) {m : Nat} (hm : m ≤ n) : Lm w B ao m c (xs.take m) := by
  have hl := h.len
  refine ⟨⟨by rw [cu_len, List.length_take]; omega, ?_⟩, fun x hx => h.lim x (List.mem_of_mem_take hx)⟩
  rcases h.own.2 with ⟨h1, h2⟩ | ⟨g, cap, cur, h1, hB, hg, k1, k2, k3, k4⟩
  · cases h1
    exact .inl ⟨by rw [show m = 0 by omega], by omega⟩
  · cases h1
    refine .inr ⟨g, c, cur, rfl, hB, hg, by omega, k2, k3, ?_⟩
    rw [cu_take, ← k4, List.take_take]
    congr 1; omega
theorem Lm.below {w w' : World} {B : Nat} {ao : Option Addr} {n c : Nat} {xs : List Nat} (h : Lm w B ao n c xs) (b : Below w.heap.size w w') : Lm w' B ao n c xs := by
  refine ⟨⟨h.own.1, ?_⟩, h.lim⟩
  rcases h.own.2 with h1 | ⟨g, cap, cur, h1, hB, hg, k⟩
  · exact .inl h1
  · exact .inr ⟨g, cap, cur, h1, hB, (b.block g (Array.getElem?_eq_some_iff.1 hg).1).trans hg, k⟩
theorem Lm.mono {w : World} {B B' : Nat} {ao : Option Addr} {n c : Nat} {xs : List Nat} (h : Lm w B ao n c xs) (hb : B' ≤ B) : Lm w B' ao n c xs := by
  refine ⟨⟨h.own.1, ?_⟩, h.lim⟩
  rcases h.own.2 with h1 | ⟨g, cap, cur, h1, hB, k⟩
  · exact .inl h1
  · exact .inr ⟨g, cap, cur, h1, Nat.le_trans hb hB, k⟩

theorem num_take (s : ByteArray) (k : Nat) (h : k < s.size) : num (s.data.toList.take (k + 1)) = num (s.data.toList.take k) * 10 + dg (s[k]'h) := by
  have hl : k < s.data.toList.length := by rw [list_len]; exact h
  have e : s.data.toList[k]'hl = s[k]'h := rfl
  rw [List.take_succ_eq_append_getElem hl, num_snoc, e]
theorem allD_at (s : ByteArray) (hd : allD s.data.toList = true) (k : Nat) (h : k < s.size) : 48 ≤ (s[k]'h).toNat ∧ (s[k]'h).toNat ≤ 57 := by
  have hl : k < s.data.toList.length := by rw [list_len]; exact h
  have hm : (s[k]'h) ∈ s.data.toList := List.getElem_mem hl
  exact (isD_iff _).1 (allD_mem hd hm)
theorem num_take_lt (s : ByteArray) (hd : allD s.data.toList = true) (k : Nat) (h : k ≤ 8) : num (s.data.toList.take k) < 100000000 := by
  have h1 := num_lt (s.data.toList.take k) (allD_of fun x hx => allD_mem hd (List.mem_of_mem_take hx))
  have h2 : (s.data.toList.take k).length ≤ 8 := by rw [List.length_take]; omega
  exact Nat.lt_of_lt_of_le h1 (Nat.pow_le_pow_right (by decide) h2)
set_option maxRecDepth 1000000 in
set_option maxHeartbeats 400000 in
theorem limbof_any (s : ByteArray) (w : World) (hd : allD s.data.toList = true) (hz : s.size ≤ 9) :
    Calls Tryz.prog 179 #[.string s] w fun e w' => e = .returned (.int .u32 ((num s.data.toList : Nat) : Int)) ∧ w' = w := by
  have HD : Hid (allD s.data.toList = true) := hd
  clear hd
  go_enter Tryz.func179, Tryz.ntmps179
  go_wp2
  go_loopg [3, 7] s.size (fun g l i wr => wr = w ∧ ∃ k m : Nat, i = .int .i64 k ∧ l = .int .u32 (m : Int) ∧ k + g = s.size ∧ Hid (m = num (s.data.toList.take k)))
  case atStart => exact ⟨rfl, 0, 0, rfl, rfl, Nat.zero_add _, rfl⟩
  case round =>
    obtain ⟨rfl, k, m, rfl, rfl, hkg, HM⟩ := hrel
    by_cases hlt : k < s.size
    · have hltI : (k : Int) < s.size := by omega
      have hm : m < 100000000 := by rw [HM.out]; exact num_take_lt s HD.out k (by omega)
      obtain ⟨x0, x1⟩ := allD_at s HD.out k hlt
      have HN : Hid (m * 10 + ((s[k]'hlt).toNat - 48) = num (s.data.toList.take (k + 1))) := by
        show _ = _
        rw [num_take s k hlt, ← HM.out]; rfl
      clear HM
      obtain ⟨x, hx⟩ : ∃ x, (s[k]'hlt).toNat = x := ⟨_, rfl⟩
      rw [hx] at x0 x1 HN
      go_wp2
      go_roundg (gk - 1)
      case measure => omega
      case rel => exact ⟨rfl, k + 1, m * 10 + (x - 48), by go_num, by go_num, by omega, HN⟩
    · have hltI : ¬ (k : Int) < s.size := by omega
      have HF : Hid (m = num s.data.toList) := by
        show m = _
        rw [HM.out, List.take_of_length_le (by rw [list_len]; omega)]
      go_wp2
      go_ret
      rw [HF.out]
      exact ⟨rfl, rfl⟩

theorem lv_pop (xs : List Nat) (m : Nat) (hm : m < xs.length) (h0 : xs.getD m 0 = 0) : lv (xs.take (m + 1)) = lv (xs.take m) := by
  rw [List.take_succ_eq_append_getElem hm]
  have : xs[m] = 0 := by rw [← h0]; simp [List.getD, hm]
  rw [this, lv_zero]
set_option maxRecDepth 1000000 in
set_option maxHeartbeats 400000 in
theorem cut_any (B : Nat) (ao : Option Addr) (n c : Nat) (xs : List Nat) (w : World) (h : Lm w B ao n c xs) (hn : n ≤ 100000000) :
    Calls Tryz.prog 178 #[.slice ao n c] w fun e w' => (∃ m, m ≤ n ∧ e = .returned (.slice ao m c) ∧ lv (xs.take m) = lv xs) ∧ w' = w := by
  go_enter Tryz.func178, Tryz.ntmps178
  go_wp2
  go_loopg [0] n (fun g v wr => wr = w ∧ ∃ m : Nat, v = .slice ao m c ∧ m = g ∧ m ≤ n ∧ Hid (lv (xs.take m) = lv xs))
  case atStart => exact ⟨rfl, n, rfl, rfl, Nat.le_refl _, by show _ = _; rw [List.take_of_length_le (by rw [h.len]; exact Nat.le_refl _)]⟩
  case round =>
    obtain ⟨rfl, m, rfl, rfl, hmn, HL⟩ := hrel
    rcases Nat.eq_zero_or_pos m with h0 | h0
    · subst h0
      go_wp2
      go_ret
      exact ⟨⟨0, Nat.zero_le _, rfl, HL.out⟩, rfl⟩
    · obtain ⟨g, rfl, hBg, hgw⟩ := h.head (by omega)
      obtain ⟨j, rfl⟩ : ∃ j, m = j + 1 := ⟨m - 1, by omega⟩
      have hc := h.cell j (by omega)
      have HL2 : Hid (xs.getD j 0 = 0 → lv (xs.take j) = lv xs) := fun h0 => by
        rw [← lv_pop xs j (by rw [h.len]; omega) h0]; exact HL.out
      have hcap : n ≤ c := by
        rcases h.own.2 with ⟨h1, -⟩ | ⟨g', cap, cur, h1, -, -, k1, -⟩
        · cases h1
        · cases h1; exact k1
      generalize xs.getD j 0 = x at *
      by_cases hx : x = 0
      · subst hx
        have HL3 : Hid (lv (xs.take j) = lv xs) := HL2.out rfl
        go_wp2
        go_roundg j
        case measure => omega
        case rel => exact ⟨rfl, j, by go_num, rfl, by omega, HL3⟩
      · have hxI : ¬ (x : Int) = 0 := by omega
        go_wp2
        go_ret
        exact ⟨⟨j + 1, hmn, by go_num, HL.out⟩, rfl⟩
end Go.Proofs.YthbabhbfpcfenaaGreatDoor

/- The walks of limbsOf, scaled, multiplied. -/
namespace Go.Proofs.YthbabhbfpcfenaaGreatDoor
open Go.RowKit
set_option linter.unusedVariables false

theorem infoU32 : (Tryz.prog.info? 156).map (fun i => (i.zero, i.size, i.bytes)) = some (some (.int .u32 0), 1, 4) := by kernel_rfl
theorem Lm.snoc {w w' : World} {B : Nat} {ao : Option Addr} {n c x : Nat} {xs : List Nat} {v : Value} (h : Lm w B ao n c xs) (hx : x < 1000000000) (h' : w'.ownsRow B 156 1 v (n + 1) (cu xs ++ [.int .u32 (x : Int)])) :
    ∃ ao' c', v = .slice ao' (n + 1) c' ∧ Lm w' B ao' (n + 1) c' (xs ++ [x]) := by
  have e : cu xs ++ [.int .u32 (x : Int)] = cu (xs ++ [x]) := by simp [cu]
  rw [e] at h'
  have hl : ∀ y ∈ xs ++ [x], y < 1000000000 := by
    intro y hy
    rcases List.mem_append.1 hy with hy | hy
    · exact h.lim y hy
    · simp at hy; omega
  rcases h'.2 with ⟨h1, h2⟩ | ⟨g, cap, cur, h1, -⟩
  · omega
  · subst h1
    exact ⟨_, _, rfl, h', hl⟩
theorem own_ge {w : World} {B n m : Nat} {e : TypeId} {v : Value} {xs : List Value} (h : w.ownsRow B e m v n xs) : ∀ k, v.ownBlock = some k → B ≤ k := fun k hk => (h.lt k hk).1

/-- How many limbs, and what is left. -/
def lim3 (n q : Nat) : Prop := (n = 0 ∧ q < 18446744073709551616) ∨ (n = 1 ∧ q < 18446744074) ∨ (n = 2 ∧ q < 19) ∨ (n = 3 ∧ q = 0)
theorem lim3_step {n q : Nat} (h : lim3 n q) (hq : 0 < q) : lim3 (n + 1) (q / 1000000000) := by
  unfold lim3 at *; omega
theorem lim3_le {n q : Nat} (h : lim3 n q) : n ≤ 3 := by unfold lim3 at h; omega
theorem limbs_step {m n q : Nat} {xs : List Nat} (hl : xs.length = n) (h : q * 1000000000 ^ n + lv xs = m) : q / 1000000000 * 1000000000 ^ (n + 1) + lv (xs ++ [q % 1000000000]) = m := by
  rw [lv_snoc, hl, Nat.pow_succ, Nat.mul_comm (1000000000 ^ n) 1000000000, ← Nat.mul_assoc, Nat.mul_comm (1000000000 ^ n) (q % 1000000000), Nat.add_left_comm, ← Nat.add_mul]
  have : q / 1000000000 * 1000000000 + q % 1000000000 = q := by omega
  rw [this]; omega
set_option maxRecDepth 1000000 in
set_option maxHeartbeats 400000 in
theorem limbsof_any (m : Nat) (w : World) (hm : m < 18446744073709551616) :
    Calls Tryz.prog 138 #[.int .u64 m] w fun e w' => (∃ ao n c, e = .returned (.slice ao n c) ∧ n ≤ 3 ∧ ∃ xs, Lm w' w.heap.size ao n c xs ∧ lv xs = m) ∧ Below w.heap.size w w' := by
  obtain ⟨i0, hi, hz0, hz1, hz2⟩ := info_parts infoU32
  go_enter Tryz.func138, Tryz.ntmps138
  go_wp2
  go_loopg [0, 3] m (fun g qv v wr => ∃ (q n c : Nat) (ao : Option Addr) (xs : List Nat), qv = .int .u64 q ∧ v = .slice ao n c ∧ q = g ∧ Hid (lim3 n q) ∧ Lm wr w.heap.size ao n c xs ∧ Below w.heap.size w wr ∧ Hid (q * 1000000000 ^ n + lv xs = m))
  case atStart => exact ⟨m, 0, 0, none, [], rfl, rfl, rfl, .inl ⟨rfl, hm⟩, Lm.nil _ _, Below.refl _ _, by show _ = _; simp [lv]⟩
  case round =>
    obtain ⟨q, n, c, ao, xs, rfl, rfl, rfl, H3, hL, hbl, HV⟩ := hrel
    have hn3 := lim3_le H3.out
    have hqm : q < 18446744073709551616 := by have := H3.out; unfold lim3 at this; omega
    by_cases hq : 0 < q
    · have hqI : 0 < (q : Int) := by omega
      have HV2 : Hid (q / 1000000000 * 1000000000 ^ (n + 1) + lv (xs ++ [q % 1000000000]) = m) := limbs_step hL.len HV.out
      have H32 : Hid (lim3 (n + 1) (q / 1000000000)) := lim3_step H3.out hq
      have hr : q % 1000000000 < 1000000000 := Nat.mod_lt _ (by decide)
      have hm1 : (q : Int) % 1000000000 = ((q % 1000000000 : Nat) : Int) := by omega
      have hm2 : (q : Int) / 1000000000 = ((q / 1000000000 : Nat) : Int) := by omega
      have hqd : q / 1000000000 < q := by omega
      have hsz := hbl.size
      clear HV H3
      generalize q % 1000000000 = r at *
      generalize q / 1000000000 = q2 at *
      go_wp2_with (at_builtin; refine wpList_append_own _ rfl _ _ 152 rfl w.heap.size 156 i0 (.int .u32 0) 1 4 Tryz.underlying152 hi hz0 hz1 hz2 rfl (by decide) _ _ _ rfl (hL.own.alloc _) ⟨wr.heap.size, 0, none⟩ 1 1 [.int .u32 (r : Int)] rfl rfl ?c1 ?c2 ?c3 ?c4 ?c5 ?_)
      case c1 =>
        intro j u hj
        match j, hj with
        | 0, hj => simp at hj; subst hj; simp [Addr.add]
      case c2 => intro u hu; simp at hu; subst hu; rfl
      case c3 => unfold maxLen; omega
      case c4 => omega
      case c5 => simp; omega
      intro v' w1 hown' hgrow _
      obtain ⟨ao', c', rfl, hL'⟩ := hL.snoc hr hown'
      have hbl' : Below w.heap.size w w1 := (hbl.alloc hsz _).grown hgrow (by simp; omega) (own_ge hL.own)
      clear hown' hgrow hL
      go_wp2
      go_roundg q2
      case measure => omega
      case rel => exact ⟨q2, n + 1, c', ao', xs ++ [r], by go_num, rfl, rfl, H32, hL', hbl', HV2⟩
    · have hqI : ¬ 0 < (q : Int) := by omega
      have HF : Hid (lv xs = m) := by
        have := HV.out
        have hq0 : q = 0 := by omega
        show lv xs = m
        rw [hq0] at this; simpa using this
      go_wp2
      go_ret
      exact ⟨⟨ao, n, c, rfl, hn3, xs, hL, HF.out⟩, hbl⟩

/-- What has been multiplied so far. -/
theorem scale_step {f k x cy : Nat} {ds ks : List Nat} (hk : ds.length = k) (h : lv ds + 1000000000 ^ k * cy = lv ks * f) (hks : ks.length = k) :
    lv (ds ++ [(x * f + cy) % 1000000000]) + 1000000000 ^ (k + 1) * ((x * f + cy) / 1000000000) = lv (ks ++ [x]) * f := by
  rw [lv_snoc, lv_snoc, hk, hks, Nat.add_mul, ← h, Nat.pow_succ, Nat.mul_assoc (1000000000 ^ k) 1000000000, Nat.add_assoc, Nat.add_assoc, ← Nat.mul_add, Nat.mul_assoc, ← Nat.mul_add]
  congr 2
  have := Nat.mod_add_div (x * f + cy) 1000000000
  omega
theorem cells_set {ds rest : List Nat} {x r k : Nat} (h : ds.length = k) : (cu (ds ++ x :: rest)).set k (.int .u32 (r : Int)) = cu ((ds ++ [r]) ++ rest) := by
  subst h; simp [cu]
theorem getD_mid {ds rest : List Nat} {x k : Nat} (h : ds.length = k) : (ds ++ x :: rest).getD k 0 = x := by
  subst h; simp [List.getD]
set_option maxRecDepth 1000000 in
set_option maxHeartbeats 800000 in
theorem scaled_any (B : Nat) (ao : Option Addr) (n c f : Nat) (xs : List Nat) (w : World) (h : Lm w B ao n c xs) (hB : B ≤ w.heap.size) (hf : f < 1000000000) (hn : n ≤ 10000000) :
    Calls Tryz.prog 164 #[.slice ao n c, .int .u32 (f : Int)] w fun e w' => (∃ ao' n' c', e = .returned (.slice ao' n' c') ∧ n' ≤ n + 1 ∧ ∃ xs', Lm w' B ao' n' c' xs' ∧ lv xs' = lv xs * f) ∧ Below B w w' := by
  obtain ⟨i0, hi, hz0, hz1, hz2⟩ := info_parts infoU32
  have hlen := h.len
  go_enter Tryz.func164, Tryz.ntmps164
  go_wp2
  go_loopg [5, 11] n (fun g cv iv wr => ∃ (k cy : Nat) (ds : List Nat), iv = .int .i64 k ∧ cv = .int .u64 cy ∧ k + g = n ∧ cy < 1000000000 ∧ ds.length = k ∧ Lm wr B ao n c (ds ++ xs.drop k) ∧ Below B w wr ∧ Hid (lv ds + 1000000000 ^ k * cy = lv (xs.take k) * f))
  case atStart => exact ⟨0, 0, [], rfl, rfl, Nat.zero_add _, by omega, rfl, h, Below.refl _ _, by show _ = _; simp [lv]⟩
  case round =>
    obtain ⟨k, cy, ds, rfl, rfl, hkg, hcy, hds, hL, hbl, HV⟩ := hrel
    by_cases hk : k < n
    · have hkI : (k : Int) < n := by omega
      obtain ⟨g, rfl, hBg, hgw⟩ := hL.head (by omega)
      have hkx : k < xs.length := by omega
      have hdrop : xs.drop k = xs[k] :: xs.drop (k + 1) := List.drop_eq_getElem_cons hkx
      have htake : xs.take (k + 1) = xs.take k ++ [xs[k]] := List.take_succ_eq_append_getElem hkx
      have hx9 : xs[k] < 1000000000 := h.lim _ (List.getElem_mem hkx)
      have hc := hL.cell k hk
      have hfr := hL.froz k
      have hg : (ds ++ xs.drop k).getD k 0 = xs[k] := by
        rw [hdrop]; exact getD_mid hds
      rw [hg] at hc
      have HV2 : Hid (lv (ds ++ [(xs[k] * f + cy) % 1000000000]) + 1000000000 ^ (k + 1) * ((xs[k] * f + cy) / 1000000000) = lv (xs.take (k + 1)) * f) := by
        show _ = _
        rw [htake]; exact scale_step hds HV.out (by rw [List.length_take]; omega)
      have hprod : xs[k] * f + cy < 1000000000000000000 := by
        have : xs[k] * f ≤ 999999999 * 999999999 := Nat.mul_le_mul (by omega) (by omega)
        omega
      have HS : Hid (∀ r : Nat, r < 1000000000 → Lm (wr.setCell ⟨g, k, none⟩ (.int .u32 (r : Int))) B (some ⟨g, 0, none⟩) n c ((ds ++ [r]) ++ xs.drop (k + 1)) ∧ Below B w (wr.setCell ⟨g, k, none⟩ (.int .u32 (r : Int)))) := fun r hr => by
        have hst := (hL.own.stored k (.int .u32 (r : Int))).1
        rw [hdrop, cells_set hds] at hst
        refine ⟨⟨hst, ?_⟩, hbl.setCell hBg _⟩
        intro y hy
        rcases List.mem_append.1 hy with hy | hy
        · rcases List.mem_append.1 hy with hy | hy
          · exact hL.lim y (List.mem_append.2 (.inl hy))
          · simp at hy; omega
        · exact h.lim y (List.mem_of_mem_drop hy)
      clear HV hL hdrop htake hg hbl
      have hmul : ((xs[k] : Nat) : Int) * (f : Int) + (cy : Int) = ((xs[k] * f + cy : Nat) : Int) := by push_cast; rfl
      generalize xs[k] = x at *
      obtain ⟨P, hP⟩ : ∃ P, x * f + cy = P := ⟨_, rfl⟩
      rw [hP] at HV2 hprod hmul
      have hxf : x * f ≤ P := by omega
      have hxfI : ((x * f : Nat) : Int) = (x : Int) * (f : Int) := by push_cast; rfl
      have h0 : 0 ≤ (x : Int) * (f : Int) := by rw [← hxfI]; omega
      have h1 : (x : Int) * (f : Int) < 1000000000000000000 := by rw [← hxfI]; omega
      clear hxfI
      have hm1 : (P : Int) % 1000000000 = ((P % 1000000000 : Nat) : Int) := by omega
      have hm2 : (P : Int) / 1000000000 = ((P / 1000000000 : Nat) : Int) := by omega
      have hr1 : P % 1000000000 < 1000000000 := Nat.mod_lt _ (by decide)
      have hr2 : P / 1000000000 < 1000000000 := by omega
      have HS2 := HS.out (P % 1000000000) hr1
      clear HS
      generalize P % 1000000000 = r at *
      generalize P / 1000000000 = q at *
      go_wp2
      go_roundg (gk - 1)
      case measure => omega
      case rel => exact ⟨k + 1, q, ds ++ [r], by go_num, by go_num, by omega, hr2, by simp [hds], HS2.1, HS2.2, HV2⟩
    · have hkI : ¬ (k : Int) < n := by omega
      have HV2 : Hid (lv (ds ++ [cy]) = lv xs * f) := by
        have := HV.out
        show _ = _
        rw [List.take_of_length_le (by omega)] at this
        rw [lv_snoc, hds]; exact this
      have hLd : Lm wr B ao n c ds := by
        have := hL
        rw [List.drop_eq_nil_of_le (by omega), List.append_nil] at this
        exact this
      have hsz := hbl.size
      clear HV hL
      go_wp2_with (at_builtin; refine wpList_append_own _ rfl _ _ 152 rfl B 156 i0 (.int .u32 0) 1 4 Tryz.underlying152 hi hz0 hz1 hz2 rfl (by decide) _ _ _ rfl (hLd.own.alloc _) ⟨wr.heap.size, 0, none⟩ 1 1 [.int .u32 (cy : Int)] rfl rfl ?c1 ?c2 ?c3 ?c4 ?c5 ?_)
      case c2 => rfl
      case c3 => unfold maxLen; omega
      case c4 => omega
      case c5 => omega
      intro v' w1 hown' hgrow _
      obtain ⟨ao', c', rfl, hL'⟩ := hLd.snoc hcy hown'
      have hbl' : Below B w w1 := (hbl.alloc (by omega) _).grown hgrow (by simp; omega) (own_ge hLd.own)
      have hC := cut_any B ao' (n + 1) c' _ w1 hL' (by omega)
      clear hown' hgrow hLd
      go_wp2_with (go_at_call 178; refine hC.mono ?_; rintro e w2 ⟨⟨m, hm, rfl, hlm⟩, rfl⟩)
      go_ret
      exact ⟨⟨ao', m, c', rfl, hm, _, hL'.cut hm, hlm.trans HV2.out⟩, hbl'⟩

theorem mul_fac {by_ f m' m : Nat} (h : f * by_ ^ (m' + 1) = by_ ^ m) : f * by_ * by_ ^ m' = by_ ^ m := by
  rw [← h, Nat.pow_succ, Nat.mul_assoc, Nat.mul_comm by_ (by_ ^ m')]
set_option maxRecDepth 1000000 in
set_option maxHeartbeats 800000 in
theorem multiplied_2 (B : Nat) (ao : Option Addr) (n c N : Nat) (xs : List Nat) (w : World) (h : Lm w B ao n c xs) (hB : B ≤ w.heap.size) (hn : n ≤ 1000) (hN : N ≤ 1200) :
    Calls Tryz.prog 140 #[.slice ao n c, .int .u32 (2 : Int), .int .i64 N] w fun e w' => (∃ ao' n' c', e = .returned (.slice ao' n' c') ∧ n' ≤ n + N ∧ ∃ xs', Lm w' B ao' n' c' xs' ∧ lv xs' = lv xs * 2 ^ N) ∧ Below B w w' := by
  go_enter Tryz.func140, Tryz.ntmps140
  go_wp2
  go_loopg [0, 2] N (fun g v nv wr => ∃ (m n' c' : Nat) (ao' : Option Addr) (ys : List Nat), v = .slice ao' n' c' ∧ nv = .int .i64 m ∧ m = g ∧ m ≤ N ∧ n' + m ≤ n + N ∧ Lm wr B ao' n' c' ys ∧ Below B w wr ∧ Hid (lv ys * 2 ^ m = lv xs * 2 ^ N))
  case atStart => exact ⟨N, n, c, ao, xs, rfl, rfl, rfl, Nat.le_refl _, Nat.le_refl _, h, Below.refl _ _, rfl⟩
  case round =>
    obtain ⟨m, n', c', ao', ys, rfl, rfl, rfl, hmN, hnm, hL, hbl, HV⟩ := hrel
    by_cases hm : 0 < m
    · have hmI : 0 < (m : Int) := by omega
      have hsz := hbl.size
      go_wp2
      go_loopg [2, 7] m (fun g2 nv2 fv wr2 => wr2 = wr ∧ ∃ (m2 f : Nat), nv2 = .int .i64 m2 ∧ fv = .int .u32 (f : Int) ∧ m2 = g2 ∧ m2 ≤ m ∧ f < 1000000000 ∧ (f = 1 ∨ m2 < m) ∧ Hid (f * 2 ^ m2 = 2 ^ m))
      case atStart => exact ⟨rfl, m, 1, rfl, rfl, rfl, Nat.le_refl _, by omega, .inl rfl, by show _ = _; rw [Nat.one_mul]⟩
      case round =>
        obtain ⟨rfl, m2, f, rfl, rfl, rfl, hm2, hf9, hpr, HP⟩ := hrel
        by_cases hgo : 0 < m2 ∧ f < 500000000
        · obtain ⟨hg1, hg2⟩ := hgo
          have hg1I : 0 < (m2 : Int) := by omega
          have hg2I : (f : Int) < 500000000 := by omega
          obtain ⟨j, rfl⟩ : ∃ j, m2 = j + 1 := ⟨m2 - 1, by omega⟩
          have HP2 : Hid (f * 2 * 2 ^ j = 2 ^ m) := mul_fac HP.out
          clear HP
          go_wp2
          go_roundg j
          case measure => omega
          case rel => exact ⟨rfl, j, f * 2, by go_num, by go_num, rfl, by omega, by omega, by omega, HP2⟩
        · have hlt : m2 < m := by omega
          have HV2 : Hid (lv ys * f * 2 ^ m2 = lv xs * 2 ^ N) := by
            show _ = _
            rw [Nat.mul_assoc, HP.out]; exact HV.out
          have hS := scaled_any B ao' n' c' f ys _ hL (by omega) hf9 (by omega)
          clear HV HP
          by_cases hg1 : 0 < m2
          · have hg1I : 0 < (m2 : Int) := by omega
            have hg2I : ¬ (f : Int) < 500000000 := by omega
            go_wp2_with (go_at_call 164; refine hS.mono ?_; rintro e w2 ⟨⟨ao2, n2, c2, rfl, hn2, zs, hL2, hz⟩, hbl2⟩)
            go_roundg m2
            case measure => omega
            case rel => exact ⟨m2, n2, c2, ao2, zs, rfl, rfl, rfl, by omega, by omega, hL2, hbl.trans hbl2, by show _ = _; rw [hz]; exact HV2.out⟩
          · have hg1I : ¬ 0 < (m2 : Int) := by omega
            go_wp2_with (go_at_call 164; refine hS.mono ?_; rintro e w2 ⟨⟨ao2, n2, c2, rfl, hn2, zs, hL2, hz⟩, hbl2⟩)
            go_roundg m2
            case measure => omega
            case rel => exact ⟨m2, n2, c2, ao2, zs, rfl, rfl, rfl, by omega, by omega, hL2, hbl.trans hbl2, by show _ = _; rw [hz]; exact HV2.out⟩
    · have hmI : ¬ 0 < (m : Int) := by omega
      have HF : Hid (lv ys = lv xs * 2 ^ N) := by
        have := HV.out
        have h0 : m = 0 := by omega
        show _ = _
        rw [h0] at this; simpa using this
      go_wp2
      go_ret
      exact ⟨⟨ao', n', c', rfl, by omega, ys, hL, HF.out⟩, hbl⟩

set_option maxRecDepth 1000000 in
set_option maxHeartbeats 800000 in
theorem multiplied_5 (B : Nat) (ao : Option Addr) (n c N : Nat) (xs : List Nat) (w : World) (h : Lm w B ao n c xs) (hB : B ≤ w.heap.size) (hn : n ≤ 1000) (hN : N ≤ 1200) :
    Calls Tryz.prog 140 #[.slice ao n c, .int .u32 (5 : Int), .int .i64 N] w fun e w' => (∃ ao' n' c', e = .returned (.slice ao' n' c') ∧ n' ≤ n + N ∧ ∃ xs', Lm w' B ao' n' c' xs' ∧ lv xs' = lv xs * 5 ^ N) ∧ Below B w w' := by
  go_enter Tryz.func140, Tryz.ntmps140
  go_wp2
  go_loopg [0, 2] N (fun g v nv wr => ∃ (m n' c' : Nat) (ao' : Option Addr) (ys : List Nat), v = .slice ao' n' c' ∧ nv = .int .i64 m ∧ m = g ∧ m ≤ N ∧ n' + m ≤ n + N ∧ Lm wr B ao' n' c' ys ∧ Below B w wr ∧ Hid (lv ys * 5 ^ m = lv xs * 5 ^ N))
  case atStart => exact ⟨N, n, c, ao, xs, rfl, rfl, rfl, Nat.le_refl _, Nat.le_refl _, h, Below.refl _ _, rfl⟩
  case round =>
    obtain ⟨m, n', c', ao', ys, rfl, rfl, rfl, hmN, hnm, hL, hbl, HV⟩ := hrel
    by_cases hm : 0 < m
    · have hmI : 0 < (m : Int) := by omega
      have hsz := hbl.size
      go_wp2
      go_loopg [2, 7] m (fun g2 nv2 fv wr2 => wr2 = wr ∧ ∃ (m2 f : Nat), nv2 = .int .i64 m2 ∧ fv = .int .u32 (f : Int) ∧ m2 = g2 ∧ m2 ≤ m ∧ f < 1000000000 ∧ (f = 1 ∨ m2 < m) ∧ Hid (f * 5 ^ m2 = 5 ^ m))
      case atStart => exact ⟨rfl, m, 1, rfl, rfl, rfl, Nat.le_refl _, by omega, .inl rfl, by show _ = _; rw [Nat.one_mul]⟩
      case round =>
        obtain ⟨rfl, m2, f, rfl, rfl, rfl, hm2, hf9, hpr, HP⟩ := hrel
        by_cases hgo : 0 < m2 ∧ f < 200000000
        · obtain ⟨hg1, hg2⟩ := hgo
          have hg1I : 0 < (m2 : Int) := by omega
          have hg2I : (f : Int) < 200000000 := by omega
          obtain ⟨j, rfl⟩ : ∃ j, m2 = j + 1 := ⟨m2 - 1, by omega⟩
          have HP2 : Hid (f * 5 * 5 ^ j = 5 ^ m) := mul_fac HP.out
          clear HP
          go_wp2
          go_roundg j
          case measure => omega
          case rel => exact ⟨rfl, j, f * 5, by go_num, by go_num, rfl, by omega, by omega, by omega, HP2⟩
        · have hlt : m2 < m := by omega
          have HV2 : Hid (lv ys * f * 5 ^ m2 = lv xs * 5 ^ N) := by
            show _ = _
            rw [Nat.mul_assoc, HP.out]; exact HV.out
          have hS := scaled_any B ao' n' c' f ys _ hL (by omega) hf9 (by omega)
          clear HV HP
          by_cases hg1 : 0 < m2
          · have hg1I : 0 < (m2 : Int) := by omega
            have hg2I : ¬ (f : Int) < 200000000 := by omega
            go_wp2_with (go_at_call 164; refine hS.mono ?_; rintro e w2 ⟨⟨ao2, n2, c2, rfl, hn2, zs, hL2, hz⟩, hbl2⟩)
            go_roundg m2
            case measure => omega
            case rel => exact ⟨m2, n2, c2, ao2, zs, rfl, rfl, rfl, by omega, by omega, hL2, hbl.trans hbl2, by show _ = _; rw [hz]; exact HV2.out⟩
          · have hg1I : ¬ 0 < (m2 : Int) := by omega
            go_wp2_with (go_at_call 164; refine hS.mono ?_; rintro e w2 ⟨⟨ao2, n2, c2, rfl, hn2, zs, hL2, hz⟩, hbl2⟩)
            go_roundg m2
            case measure => omega
            case rel => exact ⟨m2, n2, c2, ao2, zs, rfl, rfl, rfl, by omega, by omega, hL2, hbl.trans hbl2, by show _ = _; rw [hz]; exact HV2.out⟩
    · have hmI : ¬ 0 < (m : Int) := by omega
      have HF : Hid (lv ys = lv xs * 5 ^ N) := by
        have := HV.out
        have h0 : m = 0 := by omega
        show _ = _
        rw [h0] at this; simpa using this
      go_wp2
      go_ret
      exact ⟨⟨ao', n', c', rfl, by omega, ys, hL, HF.out⟩, hbl⟩

end Go.Proofs.YthbabhbfpcfenaaGreatDoor

/- The walk of whole: limbs are written as a decimal in form. -/
namespace Go.Proofs.YthbabhbfpcfenaaGreatDoor
open Go.RowKit
set_option linter.unusedVariables false

theorem infoU8 : (Tryz.prog.info? 5).map (fun i => (i.zero, i.size, i.bytes)) = some (some (.int .u8 0), 1, 1) := by kernel_rfl
/-- The cells of a row of bytes. -/
def cb (l : List UInt8) : List Value := l.map fun x : UInt8 => Value.int .u8 ((x.toNat : Nat) : Int)
theorem cb_len (l : List UInt8) : (cb l).length = l.length := by simp [cb]
/-- A row of N bytes at block g whose last ones are written. -/
def RowB (w : World) (g N m : Nat) (ds : List UInt8) : Prop := w.ownsRow g 5 1 (.slice (some ⟨g, 0, none⟩) N N) N (List.replicate m (.int .u8 0) ++ cb ds)
theorem RowB.len {w : World} {g N m : Nat} {ds : List UInt8} (h : RowB w g N m ds) : m + ds.length = N := by
  have := h.1
  rw [List.length_append, List.length_replicate, cb_len] at this; omega
theorem RowB.cell {w : World} {g N m : Nat} {ds : List UInt8} (h : RowB w g N (m + 1) ds) : w.cell? ⟨g, m, none⟩ = some (.int .u8 0) := by
  have hl := h.len
  rw [World.ownsRow.cellAt h m (by omega), List.getElem?_append_left (by simp)]
  simp
theorem RowB.froz {w : World} {g N m : Nat} {ds : List UInt8} (h : RowB w g N m ds) (j : Nat) : w.frozen? ⟨g, j, none⟩ = false := World.ownsRow.frozenAt h j
theorem RowB.put {w : World} {g N m : Nat} {ds : List UInt8} (h : RowB w g N (m + 1) ds) (x : UInt8) : RowB (w.setCell ⟨g, m, none⟩ (.int .u8 ((x.toNat : Nat) : Int))) g N m (x :: ds) := by
  have := (World.ownsRow.stored h m (.int .u8 ((x.toNat : Nat) : Int))).1
  unfold RowB
  have e : (List.replicate (m + 1) (Value.int .u8 0) ++ cb ds).set m (.int .u8 ((x.toNat : Nat) : Int)) = List.replicate m (.int .u8 0) ++ cb (x :: ds) := by
    rw [List.replicate_succ', List.append_assoc, List.set_append_right _ _ (by simp)]
    simp [cb]
  rw [e] at this
  exact this
theorem convB (W : World) (g N : Nat) (ds : List UInt8) (h : RowB W g N 0 ds) :
    (convert 74 9 (.slice (some ⟨g, 0, none⟩) N N)).run Tryz.prog W = .ok (.string ⟨ds.toArray⟩) W := by
  have hl := h.len
  have := run_convert_bytes_arg W 74 5 Tryz.underlying74 Tryz.underlying5 g 0 N N (ds.map fun x => (x.toNat : Int)) (by simp; omega) (fun i hi => by
    have hi' : i < ds.length := by omega
    rw [Nat.zero_add, World.ownsRow.cellAt h i (by omega)]
    simp [cb, hi', List.getD]) 9 Tryz.underlying9
  rw [this]
  have e : strOfNums (ds.map fun x => (x.toNat : Int)) = ⟨ds.toArray⟩ := by
    apply ByteArray.ext
    have : (ds.map fun x => (x.toNat : Int)).map (fun n : Int => UInt8.ofNat n.toNat) = ds := by
      rw [List.map_map]
      conv => rhs; rw [← List.map_id ds]
      exact List.map_congr_left fun x _ => by simp
    show ((ds.map fun x => (x.toNat : Int)).map (fun n : Int => UInt8.ofNat n.toNat)).toArray = _
    rw [this]
  rw [e]
/-- So many digits of a limb are written ahead of those of the lower ones. -/
structure WI (b x j q L : Nat) (ds : List UInt8) : Prop where
  val : num ds = b + 10 ^ L * (x % 10 ^ j)
  len : ds.length = L + j
  quo : q = x / 10 ^ j
  dig : allD ds = true
theorem WI.step {b x j q L : Nat} {ds : List UInt8} (h : WI b x j q L ds) : WI b x (j + 1) (q / 10) L (db (q % 10) :: ds) where
  val := by
    have hd : q % 10 < 10 := Nat.mod_lt _ (by decide)
    have e : x / 10 ^ j % 10 * (10 ^ L * 10 ^ j) = 10 ^ L * (10 ^ j * (x / 10 ^ j % 10)) := by rw [Nat.mul_comm, Nat.mul_assoc]
    rw [num_cons, dg_db hd, h.val, h.len, h.quo, Nat.pow_add, e, Nat.pow_succ 10 j, Nat.mod_mul, Nat.mul_add]
    generalize 10 ^ L * (10 ^ j * (x / 10 ^ j % 10)) = A
    generalize 10 ^ L * (x % 10 ^ j) = C
    omega
  len := by simp [h.len]; omega
  quo := by rw [h.quo, Nat.div_div_eq_div_mul, Nat.pow_succ]
  dig := by rw [allD_cons, isD_db (Nat.mod_lt _ (by decide)), h.dig]; rfl
theorem WI.fin {b x q L : Nat} {ds : List UInt8} (h : WI b x 9 q L ds) (hx : x < 1000000000) : num ds = b + 10 ^ L * x := by
  rw [h.val, Nat.mod_eq_of_lt (by have : (10 : Nat) ^ 9 = 1000000000 := by decide
                                  omega)]
theorem pow_limb (k : Nat) : (10 : Nat) ^ (9 * k) = 1000000000 ^ k := by rw [Nat.pow_mul]
set_option maxRecDepth 1000000 in
set_option maxHeartbeats 800000 in
theorem whole_any (B : Nat) (ao : Option Addr) (n c : Nat) (xs : List Nat) (last : Int) (w : World) (h : Lm w B ao n c xs) (hn : n ≤ 10000) (hl0 : -10000 ≤ last) (hl1 : last ≤ 6000) :
    Calls Tryz.prog 139 #[.slice ao n c, .int .i64 last] w fun e w' => e = .returned (.agg #[.string (oS (lv xs * 10 ^ (last + 10000).toNat)), .int .i64 (oP (lv xs * 10 ^ (last + 10000).toNat))]) ∧ Below w.heap.size w w' := by
  obtain ⟨i0, hi, hz0, hz1, hz2⟩ := info_parts infoU8
  have hlen := h.len
  have HR : ∀ ds : List UInt8, Hid (ds.length = 9 * n ∧ num ds = lv xs ∧ allD ds = true → ∀ w, Calls Tryz.prog 135 #[.agg #[.string ⟨ds.toArray⟩, .int .i64 (9 * (n : Int) + last)]] w fun e w' => e = .returned (.agg #[.string (oS (lv xs * 10 ^ (last + 10000).toNat)), .int .i64 (oP (lv xs * 10 ^ (last + 10000).toNat))]) ∧ Below w.heap.size w w') := fun ds ⟨h1, h2, h3⟩ w => by
    have hz := mk_size ds
    have := inform_any ⟨ds.toArray⟩ (9 * (n : Int) + last) w h3 (by omega) (by omega) (by omega)
    have e : V (⟨ds.toArray⟩ : ByteArray).data.toList (9 * (n : Int) + last) = lv xs * 10 ^ (last + 10000).toNat := by
      unfold V
      show num ds * 10 ^ (9 * (n : Int) + last - ds.length + 10000).toNat = _
      rw [h2, show 9 * (n : Int) + last - ds.length + 10000 = last + 10000 by omega]
    rw [e] at this
    exact this
  generalize lv xs * 10 ^ (last + 10000).toNat = v at *
  generalize hS : oS v = S at *
  generalize hP : oP v = P at *
  clear hS hP
  go_enter Tryz.func139, Tryz.ntmps139
  go_wp2_with (at_make; refine wpList_make_full _ rfl _ _ 74 rfl (w.heap.size + 1) 5 i0 (.int .u8 0) 1 Tryz.underlying74 hi hz0 hz1 .i64 .i64 _ _ (9 * n) rfl rfl ?c1 ?c2 ?c3 ?c4 ?c5 ?_)
  case c1 => omega
  case c2 => omega
  case c3 => rw [hz2]; omega
  case c4 => unfold maxLen; omega
  case c5 => simp
  intro w1 hown hgrow
  have hrow : RowB w1 (w.heap.size + 1) (9 * n) (9 * n) [] := by
    rw [toList_madeCells_one] at hown
    simpa [RowB, cb] using hown
  obtain ⟨W1, hW1⟩ : ∃ W1, w.alloc (Obj.cells #[Value.string { data := #[] }, Value.int IntKind.i64 0] 91) = W1 := ⟨_, rfl⟩
  have r0 : W1.cell? ⟨w.heap.size, 0, none⟩ = some (.string ⟨#[]⟩) := by rw [← hW1]; simp
  have r1 : W1.cell? ⟨w.heap.size, 1, none⟩ = some (.int .i64 0) := by rw [← hW1]; simp
  have r2 : W1.frozen? ⟨w.heap.size, 0, none⟩ = false := by rw [← hW1]; simp
  have r3 : W1.frozen? ⟨w.heap.size, 1, none⟩ = false := by rw [← hW1]; simp
  have hsW : W1.heap.size = w.heap.size + 1 := by rw [← hW1]; simp
  have hbW : Below w.heap.size w W1 := by rw [← hW1]; exact (Below.refl _ _).alloc (Nat.le_refl _) _
  rw [hW1] at hgrow
  have hb1 : Below W1.heap.size W1 w1 := (Below.refl _ _).grown hgrow (Nat.le_refl _) (fun k hk => by cases hk)
  clear hown hgrow hW1 hi hz0 hz1 hz2
  go_wp2
  go_loopg [6, 17] n (fun g av iv wr => ∃ (k : Nat) (ds : List UInt8), av = .int .i64 ((9 * (n - k) : Nat) : Int) ∧ iv = .int .i64 k ∧ k + g = n ∧ RowB wr (w.heap.size + 1) (9 * n) (9 * (n - k)) ds ∧ Below W1.heap.size W1 wr ∧ Hid (num ds = lv (xs.take k) ∧ allD ds = true))
  case atStart => exact ⟨0, [], by simp, rfl, Nat.zero_add _, hrow, hb1, rfl, rfl⟩
  case round =>
    obtain ⟨k, ds, rfl, rfl, hkg, hrow, hbl, HV⟩ := hrel
    by_cases hk : k < n
    · have hkI : (k : Int) < n := by omega
      obtain ⟨g, rfl, hBg, hgw⟩ := h.head (by omega)
      have hkx : k < xs.length := by omega
      have htake : xs.take (k + 1) = xs.take k ++ [xs[k]] := List.take_succ_eq_append_getElem hkx
      have hx9 : xs[k] < 1000000000 := h.lim _ (List.getElem_mem hkx)
      have hc : wr.cell? ⟨g, k, none⟩ = some (.int .u32 ((xs[k] : Nat) : Int)) := by
        have := h.cell k hk
        rw [List.getD_eq_getElem?_getD, List.getElem?_eq_getElem hkx, Option.getD_some] at this
        exact keep hbl (keep hbW this)
      have hds : ds.length = 9 * k := by have := hrow.len; omega
      have HI0 : Hid (WI (lv (xs.take k)) xs[k] 0 xs[k] (9 * k) ds) := ⟨by rw [HV.out.1]; simp [Nat.mod_one], by omega, by simp, HV.out.2⟩
      have HE : Hid (∀ ds2 q, WI (lv (xs.take k)) xs[k] 9 q (9 * k) ds2 → num ds2 = lv (xs.take (k + 1)) ∧ allD ds2 = true) := fun ds2 q hw => by
        refine ⟨?_, hw.dig⟩
        rw [hw.fin hx9, htake, lv_snoc, pow_limb, List.length_take, Nat.min_eq_left (by omega)]
      clear HV htake
      generalize xs[k] = x at *
      go_wp2
      go_loopg [6, 8, 21] 9 (fun g2 av2 lv2 jv wr2 => ∃ (j m q : Nat) (ds2 : List UInt8), av2 = .int .i64 (m : Int) ∧ lv2 = .int .u32 (q : Int) ∧ jv = .int .i64 (j : Int) ∧ j + g2 = 9 ∧ m + j = 9 * (n - k) ∧ q < 1000000000 ∧ RowB wr2 (w.heap.size + 1) (9 * n) m ds2 ∧ Below W1.heap.size W1 wr2 ∧ Hid (WI (lv (xs.take k)) x j q (9 * k) ds2))
      case atStart => exact ⟨0, 9 * (n - k), x, ds, rfl, rfl, rfl, rfl, rfl, hx9, hrow, hbl, HI0⟩
      case round =>
        obtain ⟨j, m, q, ds2, rfl, rfl, rfl, hjg, hmj, hq9, hrow2, hbl2, HI⟩ := hrel
        by_cases hj : j < 9
        · have hjI : (j : Int) < 9 := by omega
          obtain ⟨a, rfl⟩ : ∃ a, m = a + 1 := ⟨m - 1, by omega⟩
          have hc2 := hrow2.cell
          have hf2 := hrow2.froz a
          have ha : a < 9 * n := by omega
          have hm1 : (q : Int) % 10 = ((q % 10 : Nat) : Int) := by omega
          have hm2 : (q : Int) / 10 = ((q / 10 : Nat) : Int) := by omega
          have hd : q % 10 < 10 := Nat.mod_lt _ (by decide)
          have hqq : q / 10 < 1000000000 := by omega
          have HI2 : Hid (WI (lv (xs.take k)) x (j + 1) (q / 10) (9 * k) (db (q % 10) :: ds2)) := HI.out.step
          have HR2 : Hid (RowB (wr.setCell ⟨w.heap.size + 1, a, none⟩ (.int .u8 (48 + ((q % 10 : Nat) : Int)))) (w.heap.size + 1) (9 * n) a (db (q % 10) :: ds2)) := by
            have := hrow2.put (db (q % 10))
            rw [db_nat hd] at this
            push_cast at this ⊢
            exact this
          clear HI
          generalize hdq : q % 10 = d at *
          generalize q / 10 = q2 at *
          clear hdq
          go_wp2
          go_roundg (gk - 1)
          case measure => omega
          case rel => exact ⟨j + 1, a, q2, db d :: ds2, by go_num, by go_num, by go_num, by omega, by omega, hqq, HR2.out, hbl2.setCell (by rw [hsW]; exact Nat.le_refl _) _, HI2⟩
        · have hjI : ¬ (j : Int) < 9 := by omega
          have h9 : j = 9 := by omega
          subst h9
          have HV2 : Hid (num ds2 = lv (xs.take (k + 1)) ∧ allD ds2 = true) := HE.out ds2 q HI.out
          obtain rfl : m = 9 * (n - (k + 1)) := by omega
          clear HI HI0 HE
          go_wp2
          go_roundg (n - (k + 1))
          case measure => omega
          case rel => exact ⟨k + 1, ds2, rfl, by go_num, by omega, hrow2, hbl2, HV2⟩
    · have hkI : ¬ (k : Int) < n := by omega
      have hrow0 : RowB wr (w.heap.size + 1) (9 * n) 0 ds := by
        have := hrow
        rw [show n - k = 0 by omega] at this; exact this
      have hcv := convB wr (w.heap.size + 1) (9 * n) ds hrow0
      have hI := (HR ds).out ⟨by have := hrow0.len; omega, by
        have := HV.out.1
        rw [List.take_of_length_le (by omega)] at this; exact this, HV.out.2⟩
      have k0 := keep hbl r0
      have k1 := keep hbl r1
      have k2 := keepf hbl (p := ⟨w.heap.size, 0, none⟩) (by rw [hsW]; exact Nat.lt_succ_self _) r2
      have k3 := keepf hbl (p := ⟨w.heap.size, 1, none⟩) (by rw [hsW]; exact Nat.lt_succ_self _) r3
      have hgr : w.heap.size < wr.heap.size := by have := hbl.size; omega
      clear HV HR hrow hrow0 r0 r1 r2 r3
      generalize (⟨ds.toArray⟩ : ByteArray) = T at *
      go_wp2_with (go_at_call 135; refine (hI _).mono ?_; rintro e w5 ⟨rfl, hb5⟩; have q0 := keep hb5 k0; have q1 := keep hb5 k1; have q2 := keepf hb5 (p := ⟨w.heap.size, 0, none⟩) hgr k2; have q3 := keepf hb5 (p := ⟨w.heap.size, 1, none⟩) hgr k3)
      refine bodyPost_ret (by simp [results, Tryz.results139, go_sem, put0 q0, put1 q1]; rfl) rfl ?_
      refine ⟨rfl, ?_⟩
      have h0 : Below w.heap.size w wr := bel_call hbW hbl (Nat.le_refl _)
      have h0 := bel_call h0 hb5 (Nat.le_refl _)
      exact (h0.setCell (Nat.le_refl _) _).setCell (Nat.le_refl _) _
end Go.Proofs.YthbabhbfpcfenaaGreatDoor

/- The walk of limbsUpTo: a decimal's limbs in units of a place. -/
namespace Go.Proofs.YthbabhbfpcfenaaGreatDoor
open Go.RowKit
set_option linter.unusedVariables false

theorem repeat_zero : ∀ (k : Nat), Lib.repeatL [48] k = List.replicate k 48
  | 0 => rfl
  | k + 1 => by rw [Lib.repeatL, repeat_zero k]; rfl
theorem num_zeros_app (l : List UInt8) (k : Nat) : num (l ++ List.replicate k 48) = num l * 10 ^ k := by
  rw [num_append, num_zeros, List.length_replicate, Nat.add_zero]
theorem allD_zeros (k : Nat) : allD (List.replicate k 48) = true := allD_of fun x hx => by rw [List.eq_of_mem_replicate hx]; rfl
theorem upto_step {L : List UInt8} {t a n N : Nat} {xs : List Nat} (ha : a ≤ t) (ht : t ≤ L.length) (h9 : t - a = 9 ∨ a = 0) (hx : xs.length = n) (h : num (L.take t) * 1000000000 ^ n + lv xs = N) :
    num (L.take a) * 1000000000 ^ (n + 1) + lv (xs ++ [num ((L.take t).drop a)]) = N := by
  have e : L.take t = L.take a ++ (L.take t).drop a := by
    conv => lhs; rw [← List.take_append_drop a (L.take t), List.take_take, Nat.min_eq_left ha]
  have hl : ((L.take t).drop a).length = t - a := by rw [List.length_drop, List.length_take]; omega
  have hn : num (L.take t) = num (L.take a) * 10 ^ (t - a) + num ((L.take t).drop a) := by
    conv => lhs; rw [e]
    rw [num_append, hl]
  rw [hn, Nat.add_mul] at h
  rw [lv_snoc, hx, ← h, Nat.mul_comm (1000000000 ^ n) (num ((L.take t).drop a))]
  have : num (L.take a) * 1000000000 ^ (n + 1) = num (L.take a) * 10 ^ (t - a) * 1000000000 ^ n := by
    rcases h9 with h9 | h9
    · rw [h9, Nat.mul_assoc, Nat.pow_succ, Nat.mul_comm (1000000000 ^ n)]
    · subst h9; simp [num]
  rw [this]
  generalize num (L.take a) * 10 ^ (t - a) * 1000000000 ^ n = A
  generalize num ((L.take t).drop a) * 1000000000 ^ n = C
  omega
theorem ext_take (T : ByteArray) (a : Nat) : (T.extract 0 a).data.toList = T.data.toList.take a := ext_list T a
theorem ext_ext (T : ByteArray) (u : ByteArray) (a : Nat) (h : u = T.extract 0 u.size) (ha : a ≤ u.size) : u.extract 0 a = T.extract 0 a := by
  apply ByteArray.ext
  apply Array.ext'
  rw [ext_list, ext_list]
  conv => lhs; rw [h, ext_list, List.take_take, Nat.min_eq_left ha]
theorem ext_size0 (u : ByteArray) (a : Nat) (h : a ≤ u.size) : (u.extract 0 a).size = a := by rw [ByteArray.size_extract]; omega
set_option maxRecDepth 1000000 in
set_option maxHeartbeats 1600000 in
theorem limbsupto_any (s : ByteArray) (p last : Int) (w : World) (hd : allD s.data.toList = true) (hs : s.size ≤ 20000) (hp0 : -20000 ≤ p) (hp1 : p ≤ 20000) (hl : last ≤ p - s.size) (hl0 : -20000 ≤ last) :
    Calls Tryz.prog 163 #[.agg #[.string s, .int .i64 p], .int .i64 last] w fun e w' => (∃ ao n c, e = .returned (.slice ao n c) ∧ 9 * (n : Int) ≤ p - last + 8 ∧ ∃ xs, Lm w' w.heap.size ao n c xs ∧ lv xs = num s.data.toList * 10 ^ (p - s.size - last).toNat) ∧ Below w.heap.size w w' := by
  obtain ⟨i0, hi, hz0, hz1, hz2⟩ := info_parts infoU32
  obtain ⟨z, hz⟩ : ∃ z : Nat, p - s.size - last = (z : Int) := ⟨(p - s.size - last).toNat, by omega⟩
  have hLP : ∀ w, Calls Tryz.prog 161 #[.agg #[.string s, .int .i64 p]] w fun e w' => e = .returned (.int .i64 (p - s.size)) ∧ Below w.heap.size w w' := fun w => lastplace_any s p w (by omega) (by omega) (by omega)
  have hR : ∀ w, Calls Tryz.prog 120 #[.string ⟨#[48]⟩, .int .i64 (p - s.size - last)] w fun e w' => e = .returned (.string ⟨(List.replicate z 48).toArray⟩) ∧ Below w.heap.size w w' := fun w => by
    have := Tryz.strings_Repeat ⟨#[48]⟩ z w (by omega) (by show 1 * z ≤ _; omega)
    rw [hz, ← repeat_zero]; exact this
  have hzz : (⟨(List.replicate z 48).toArray⟩ : ByteArray).size = z := by rw [mk_size, List.length_replicate]
  obtain ⟨T, hT⟩ : ∃ T, s ++ (⟨(List.replicate z 48).toArray⟩ : ByteArray) = T := ⟨_, rfl⟩
  have hTl : T.data.toList = s.data.toList ++ List.replicate z 48 := by rw [← hT, app_list]
  have hTs : T.size = s.size + z := by rw [← hT, app_size, hzz]
  have HN : Hid (num T.data.toList = num s.data.toList * 10 ^ (p - s.size - last).toNat) := by
    show _ = _
    rw [hTl, num_zeros_app, hz]; rfl
  have HD : Hid (allD T.data.toList = true) := by
    show _ = _
    rw [hTl, allD_append, hd, allD_zeros]; rfl
  have HTS : Hid ((T.size : Int) = p - last) := by show _ = _; rw [hTs]; push_cast; omega
  have hsum : ¬ 9223372036854775807 < s.size + (⟨(List.replicate z 48).toArray⟩ : ByteArray).size := by omega
  have hT1 : T.size ≤ 100000 := by omega
  clear hTl hTs hd hz hzz
  generalize (⟨(List.replicate z 48).toArray⟩ : ByteArray) = Z at *
  go_enter Tryz.func163, Tryz.ntmps163
  go_wp2
  refine wp_region_above (w.alloc (.cells #[.string s, .int .i64 p] 91)) (Below.refl _ _) (by kernel_rfl) (by kernel_rfl) ?_
  intro hCl
  have f0 : ∀ x : Cl (w.alloc (.cells #[.string s, .int .i64 p] 91)), x.w.cell? ⟨w.heap.size, 0, none⟩ = some (.string s) := fun x => x.cell (by simp)
  have f1 : ∀ x : Cl (w.alloc (.cells #[.string s, .int .i64 p] 91)), x.w.cell? ⟨w.heap.size, 1, none⟩ = some (.int .i64 p) := fun x => x.cell (by simp)
  repeat (go_big_quiet_step ((first | (go_at_call 161; exact Cl.call (hLP _)) | (go_at_call 120; exact Cl.call (hR _)))))
  refine wpQuiet_nil ?_
  intro _ hw'
  obtain ⟨y, hx⟩ := hw'
  subst hx
  have hby : Below w.heap.size w y.w := bel_call ((Below.refl _ _).alloc (Nat.le_refl _) _) y.below (Nat.le_refl _)
  clear f0 f1 hCl
  generalize y.w = w1 at *
  clear hLP hR hT hsum y
  go_wp2
  go_loopg [5, 6] T.size (fun g tv v wr => ∃ (u : ByteArray) (n c : Nat) (ao : Option Addr) (xs : List Nat), tv = .string u ∧ v = .slice ao n c ∧ u.size = g ∧ u.size ≤ T.size ∧ 9 * n + u.size ≤ T.size + 8 ∧ (0 < u.size → 9 * n + u.size ≤ T.size) ∧ Lm wr w.heap.size ao n c xs ∧ Below w.heap.size w wr ∧ Hid (u = T.extract 0 u.size) ∧ Hid (num (T.data.toList.take u.size) * 1000000000 ^ n + lv xs = num T.data.toList))
  case atStart =>
    refine ⟨T, 0, 0, none, [], rfl, rfl, rfl, Nat.le_refl _, by omega, fun _ => by omega, Lm.nil _ _, hby, (extract_all T).symm, ?_⟩
    show _ = _
    rw [← list_len T, List.take_length]; simp [lv]
  case round =>
    obtain ⟨u, n, c, ao, xs, rfl, rfl, rfl, huT, hn8, hn9, hL, hbl, HU, HV⟩ := hrel
    by_cases hu : 0 < u.size
    · have huI : 0 < (u.size : Int) := by omega
      have hsz := hbl.size
      have hn9' := hn9 hu
      obtain ⟨a, hmx, hau, ha9⟩ : ∃ a : Nat, max ((u.size : Int) - 9) 0 = (a : Int) ∧ a < u.size ∧ (u.size - a = 9 ∨ a = 0) ∧ u.size - a ≤ 9 := by
        rcases Nat.lt_or_ge u.size 9 with h9 | h9
        · exact ⟨0, by omega, by omega, .inr rfl, by omega⟩
        · exact ⟨u.size - 9, by omega, by omega, .inl (by omega), by omega⟩
      have hseg : (u.extract a u.size).data.toList = (T.data.toList.take u.size).drop a := by
        rw [tail_list]
        conv => lhs; rw [HU.out, ext_list]
      have hsegs : (u.extract a u.size).size = u.size - a := tail_size u a
      have hsegD : allD (u.extract a u.size).data.toList = true := by
        rw [hseg]; exact allD_of fun x hx => allD_mem HD.out (List.mem_of_mem_take (List.mem_of_mem_drop hx))
      have hlim : num (u.extract a u.size).data.toList < 1000000000 := by
        have := num_lt _ hsegD
        rw [list_len, hsegs] at this
        exact Nat.lt_of_lt_of_le this (Nat.pow_le_pow_right (by decide) ha9.2)
      have hLO : ∀ w, Calls Tryz.prog 179 #[.string (u.extract a u.size)] w fun e w' => e = .returned (.int .u32 ((num (u.extract a u.size).data.toList : Nat) : Int)) ∧ w' = w := fun w => limbof_any _ w hsegD (by omega)
      have HV2 : Hid (num (T.data.toList.take a) * 1000000000 ^ (n + 1) + lv (xs ++ [num (u.extract a u.size).data.toList]) = num T.data.toList) := by
        rw [hseg]
        exact upto_step (by omega) (by rw [list_len]; exact huT) ha9.1 hL.len HV.out
      have hz2' := ext_size0 u a (by omega)
      have HU2 : Hid (u.extract 0 a = T.extract 0 a) := ext_ext T u a HU.out (by omega)
      have hnum : 9 * (n + 1) + a ≤ T.size + 8 ∧ (0 < a → 9 * (n + 1) + a ≤ T.size) := by omega
      have hauI : (a : Int) ≤ u.size := by omega
      have haz : ((a : Int)).toNat = a := by omega
      clear HV HU hseg hsegD hn9 hsegs
      generalize num (u.extract a u.size).data.toList = r at *
      generalize hsg : u.extract a u.size = sg at *
      go_wp2_with (first | (go_at_call 179; refine (hLO _).mono ?_; rintro e w4 ⟨rfl, rfl⟩) | (at_builtin; refine wpList_append_own _ rfl _ _ 152 rfl w.heap.size 156 i0 (.int .u32 0) 1 4 Tryz.underlying152 hi hz0 hz1 hz2 rfl (by decide) _ _ _ rfl (hL.own.alloc _) ⟨_, 0, none⟩ 1 1 [.int .u32 (r : Int)] rfl rfl ?c1 ?c2 ?c3 ?c4 ?c5 ?_))
      case c1 =>
        intro j u hj
        match j, hj with
        | 0, hj => simp at hj; subst hj; simp [Addr.add]
      case c2 => intro u hu; simp at hu; subst hu; rfl
      case c3 => unfold maxLen; omega
      case c4 => omega
      case c5 => simp; omega
      intro v' w1 hown' hgrow _
      obtain ⟨ao', c', rfl, hL'⟩ := hL.snoc hlim hown'
      have hbl' : Below w.heap.size w w1 := (hbl.alloc hsz _).grown hgrow (by simp; omega) (own_ge hL.own)
      clear hown' hgrow hL
      go_wp2
      go_roundg a
      case measure => omega
      case rel => exact ⟨u.extract 0 a, n + 1, c', ao', xs ++ [r], rfl, rfl, hz2', by omega, by rw [hz2']; exact hnum.1, by rw [hz2']; exact hnum.2, hL', hbl', by show _ = _; rw [hz2']; exact HU2.out, by show _ = _; rw [hz2']; exact HV2.out⟩
    · have huI : ¬ 0 < (u.size : Int) := by omega
      have hC := cut_any w.heap.size ao n c xs wr hL (by omega)
      have hu0 : u.size ≤ 0 := by omega
      have HF : Hid (lv xs = num T.data.toList) := by
        have := HV.out
        rw [show u.size = 0 by omega] at this
        show _ = _
        simpa [num] using this
      clear HV HU hn9
      go_wp2_with (go_at_call 178; refine hC.mono ?_; rintro e w2 ⟨⟨m, hm, rfl, hlm⟩, rfl⟩)
      go_ret
      exact ⟨⟨ao, m, c, rfl, by have := HTS.out; omega, _, hL.cut hm, (hlm.trans HF.out).trans HN.out⟩, hbl⟩
end Go.Proofs.YthbabhbfpcfenaaGreatDoor
