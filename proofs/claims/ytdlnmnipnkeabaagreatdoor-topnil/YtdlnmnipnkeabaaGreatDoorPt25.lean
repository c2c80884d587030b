/- BTopA, BLimb, BLimb2: these texts in one. -/
import Derived.Test.YtdlnmnipnkeabaaGreatDoorPt24
import Derived.OwnWalk
import Derived.WalkSmall
namespace Go.Proofs.YtdlnmnipnkeabaaGreatDoor
open Go.RowKit
set_option linter.unusedVariables false
theorem keeph {W w2 : World} (hb : Below W.heap.size W w2) {p : Addr} {v : Value} (h : W.cell? p = some v ∧ W.frozen? p = false) : w2.cell? p = some v ∧ w2.frozen? p = false := by
 refine ⟨keep hb h.1, ?_⟩
 have hp : p.block < W.heap.size := by
  rcases Nat.lt_or_ge p.block W.heap.size with h1 | h1
  ·exact h1
  ·have := h.1; simp [World.cell?, Array.getElem?_eq_none h1] at this
 exact (hb.frozen hp).trans h.2
theorem cs_same (W : World) (a : Addr) (v : Value) (h : (W.cell? a).isSome = true) : (W.setCell a v).cell? a = some v := by
 obtain ⟨u, hu⟩ := Option.isSome_iff_exists.1 h
 exact World.cell?_setCell_same _ _ _ hu
def BoxDe (W : World) (B : Nat) (x y : Value) : Prop := W.cell? ⟨B, 0, none⟩ = some x ∧ W.cell? ⟨B, 1, none⟩ = some y ∧ W.frozen? ⟨B, 0, none⟩ = false ∧ W.frozen? ⟨B, 1, none⟩ = false
theorem keepb {W w2 : World} (hb : Below W.heap.size W w2) {B : Nat} {x y : Value} (h : BoxDe W B x y) : BoxDe w2 B x y :=
 ⟨(keeph hb ⟨h.1, h.2.2.1⟩).1, (keeph hb ⟨h.2.1, h.2.2.2⟩).1, (keeph hb ⟨h.1, h.2.2.1⟩).2, (keeph hb ⟨h.2.1, h.2.2.2⟩).2⟩
theorem BoxDe.put {W : World} {B : Nat} {x y : Value} (h : BoxDe W B x y) (x' y' : Value) : BoxDe ((W.setCell ⟨B, 0, none⟩ x').setCell ⟨B, 1, none⟩ y') B x' y' :=
 ⟨set_otherB (by decide) (World.cell?_setCell_same _ _ _ h.1), put1 h.2.1 _ _, by rw [World.frozen?_setCell, World.frozen?_setCell]; exact h.2.2.1, by rw [World.frozen?_setCell, World.frozen?_setCell]; exact h.2.2.2⟩
theorem BoxDe.past {W : World} {B C : Nat} {x y : Value} (h : BoxDe W B x y) (hne : C ≠ B) (x' y' : Value) : BoxDe ((W.setCell ⟨C, 0, none⟩ x').setCell ⟨C, 1, none⟩ y') B x y :=
 ⟨set_past hne (set_past hne h.1), set_past hne (set_past hne h.2.1), by rw [World.frozen?_setCell, World.frozen?_setCell]; exact h.2.2.1, by rw [World.frozen?_setCell, World.frozen?_setCell]; exact h.2.2.2⟩
theorem BoxDe.reads {W : World} {B : Nat} {x y : Value} (h : BoxDe W B x y) : (∀ u, (W.setCell ⟨B, 0, none⟩ u).cell? ⟨B, 0, none⟩ = some u) ∧ (∀ u v, ((W.setCell ⟨B, 0, none⟩ u).setCell ⟨B, 1, none⟩ v).cell? ⟨B, 1, none⟩ = some v) := ⟨fun u => put0 h.1 u, fun u v => put1 h.2.1 u v⟩
def NormC (s : ByteArray) (p : Int) (S : ByteArray) (P E : Int) : Prop := ∀ w, Calls Tryz.prog 297 #[.agg #[.string s, .int .i64 p]] w fun e w' => e = .returned (.tuple #[.agg #[.string S, .int .i64 P], .int .i64 E]) ∧ Below w.heap.size w w'
theorem normC (s : ByteArray) (p : Int) (hs : s.size ≤ 9223372036854775807) : NormC s p (oS (normV s p)) (oP (normV s p)) (normE s p) := fun w => norm_any s p w hs
def bV (e : Int) (v : Nat) : Nat := if e = 0 then v else 0
end Go.Proofs.YtdlnmnipnkeabaaGreatDoor
namespace Go.Proofs.YtdlnmnipnkeabaaGreatDoor
open Go.RowKit
set_option linter.unusedVariables false
def lv : List Nat → Nat
 | [] => 0
 | x :: l => x + 1000000000 * lv l
theorem lv_append (a b : List Nat) : lv (a ++ b) = lv a + 1000000000 ^ a.length * lv b := by
 induction a with
 | nil => simp [lv]
 | cons x a ih =>
   rw [List.cons_append, lv, ih, lv, List.length_cons, Nat.pow_succ, Nat.mul_add, Nat.mul_comm (1000000000 ^ a.length) 1000000000, Nat.mul_assoc, Nat.add_assoc]
theorem lv_snoc (a : List Nat) (x : Nat) : lv (a ++ [x]) = lv a + 1000000000 ^ a.length * x := by rw [lv_append]; simp [lv]
theorem lv_zero (a : List Nat) : lv (a ++ [0]) = lv a := by rw [lv_snoc]; simp
def cu (xs : List Nat) : List Value := xs.map fun x : Nat => Value.int .u32 (x : Int)
theorem cu_len (xs : List Nat) : (cu xs).length = xs.length := by simp [cu]
theorem cu_append (a b : List Nat) : cu (a ++ b) = cu a ++ cu b := by simp [cu]
theorem cu_take (xs : List Nat) (m : Nat) : cu (xs.take m) = (cu xs).take m := by simp [cu]
structure Lm (w : World) (B : Nat) (ao : Option Addr) (n c : Nat) (xs : List Nat) : Prop where
 own : w.ownsRow B 164 1 (.slice ao n c) n (cu xs)
 lim : ∀ x ∈ xs, x < 1000000000
theorem Lm.len {w : World} {B : Nat} {ao : Option Addr} {n c : Nat} {xs : List Nat} (h : Lm w B ao n c xs) : xs.length = n := by
 have := h.own.1
 rw [cu_len] at this; omega
theorem Lm.nil (w : World) (B : Nat) : Lm w B none 0 0 [] := ⟨World.ownsRow_nil _ _ _ _, fun x hx => by cases hx⟩
theorem Lm.head {w : World} {B : Nat} {ao : Option Addr} {n c : Nat} {xs : List Nat} (h : Lm w B ao n c xs) (hn : 0 < n) : ∃ g, ao = some ⟨g, 0, none⟩ ∧ B ≤ g ∧ g < w.heap.size := by
 rcases h.own.2 with ⟨h1, h2⟩ | ⟨g, cap, cur, h1, hB, hg, -⟩
 ·omega
 ·cases h1
  exact ⟨g, rfl, hB, (Array.getElem?_eq_some_iff.1 hg).1⟩
theorem Lm.cell {w : World} {B g n c : Nat} {xs : List Nat} (h : Lm w B (some ⟨g, 0, none⟩) n c xs) (j : Nat) (hj : j < n) : w.cell? ⟨g, j, none⟩ = some (.int .u32 ((xs.getD j 0 : Nat) : Int)) := by
 rw [h.own.cellAt j (by omega)]
 have := h.len
 have hj' : j < xs.length := by omega
 simp [cu, hj', List.getD]
theorem Lm.froz {w : World} {B g n c : Nat} {xs : List Nat} (h : Lm w B (some ⟨g, 0, none⟩) n c xs) (j : Nat) : w.frozen? ⟨g, j, none⟩ = false := h.own.frozenAt j
theorem Lm.cut {w : World} {B : Nat} {ao : Option Addr} {n c : Nat} {xs : List Nat} (h : Lm w B ao n c xs) {m : Nat} (hm : m ≤ n) : Lm w B ao m c (xs.take m) := by
 have hl := h.len
 refine ⟨⟨by rw [cu_len, List.length_take]; omega, ?_⟩, fun x hx => h.lim x (List.mem_of_mem_take hx)⟩
 rcases h.own.2 with ⟨h1, h2⟩ | ⟨g, cap, cur, h1, hB, hg, k1, k2, k3, k4⟩
 ·cases h1
  exact .inl ⟨by rw [show m = 0 by omega], by omega⟩
 ·cases h1
  refine .inr ⟨g, c, cur, rfl, hB, hg, by omega, k2, k3, ?_⟩
  rw [cu_take, ← k4, List.take_take]
  congr 1; omega
theorem Lm.below {w w' : World} {B : Nat} {ao : Option Addr} {n c : Nat} {xs : List Nat} (h : Lm w B ao n c xs) (b : Below w.heap.size w w') : Lm w' B ao n c xs := by
 refine ⟨⟨h.own.1, ?_⟩, h.lim⟩
 rcases h.own.2 with h1 | ⟨g, cap, cur, h1, hB, hg, k⟩
 ·exact .inl h1
 ·exact .inr ⟨g, cap, cur, h1, hB, (b.block g (Array.getElem?_eq_some_iff.1 hg).1).trans hg, k⟩
theorem Lm.mono {w : World} {B B' : Nat} {ao : Option Addr} {n c : Nat} {xs : List Nat} (h : Lm w B ao n c xs) (hb : B' ≤ B) : Lm w B' ao n c xs := by
 refine ⟨⟨h.own.1, ?_⟩, h.lim⟩
 rcases h.own.2 with h1 | ⟨g, cap, cur, h1, hB, k⟩
 ·exact .inl h1
 ·exact .inr ⟨g, cap, cur, h1, Nat.le_trans hb hB, k⟩
theorem num_take (s : ByteArray) (k : Nat) (h : k < s.size) : num (s.data.toList.take (k + 1)) = num (s.data.toList.take k) * 10 + dgD (s[k]'h) := by
 have hl : k < s.data.toList.length := by rw [list_len]; exact h
 have e : s.data.toList[k]'hl = s[k]'h := rfl
 rw [List.take_succ_eq_append_getElem hl, num_snoc, e]
theorem allD_at (s : ByteArray) (hdB : allD s.data.toList = true) (k : Nat) (h : k < s.size) : 48 ≤ (s[k]'h).toNat ∧ (s[k]'h).toNat ≤ 57 := by
 have hl : k < s.data.toList.length := by rw [list_len]; exact h
 have hm : (s[k]'h) ∈ s.data.toList := List.getElem_mem hl
 exact (isD_iff _).1 (allD_mem hdB hm)
theorem num_take_lt (s : ByteArray) (hdB : allD s.data.toList = true) (k : Nat) (h : k ≤ 8) : num (s.data.toList.take k) < 100000000 := by
 have h1 := num_lt (s.data.toList.take k) (allD_of fun x hx => allD_mem hdB (List.mem_of_mem_take hx))
 have h2 : (s.data.toList.take k).length ≤ 8 := by rw [List.length_take]; omega
 exact Nat.lt_of_lt_of_le h1 (Nat.pow_le_pow_right (by decide) h2)
set_option maxRecDepth 1000000 in
set_option maxHeartbeats 400000 in
theorem limbof_any (s : ByteArray) (w : World) (hdB : allD s.data.toList = true) (hz : s.size ≤ 9) :
  Calls Tryz.prog 340 #[.string s] w fun e w' => e = .returned (.int .u32 ((num s.data.toList : Nat) : Int)) ∧ w' = w := by
 have HD : Hid (allD s.data.toList = true) := hdB
 clear hdB
 go_enter Tryz.func340, Tryz.ntmps340
 go_wp2
 go_loopg [3, 7] s.size (fun g l i wr => wr = w ∧ ∃ k m : Nat, i = .int .i64 k ∧ l = .int .u32 (m : Int) ∧ k + g = s.size ∧ Hid (m = num (s.data.toList.take k)))
 case atStart => exact ⟨rfl, 0, 0, rfl, rfl, Nat.zero_add _, rfl⟩
 case round =>
  obtain ⟨rfl, k, m, rfl, rfl, hkg, HM⟩ := hrel
  by_cases hlt : k < s.size
  ·have hltI : (k : Int) < s.size := by omega
   have hm : m < 100000000 := by rw [HM.out]; exact num_take_lt s HD.out k (by omega)
   obtain ⟨x0, x1⟩ := allD_at s HD.out k hlt
   have HN : Hid (m * 10 + ((s[k]'hlt).toNat - 48) = num (s.data.toList.take (k + 1))) := by
    show _ = _
    rw [num_take s k hlt, ← HM.out]; rfl
   clear HM
   obtain ⟨x, hx⟩ : ∃ x, (s[k]'hlt).toNat = x := ⟨_, rfl⟩
   rw [hx] at x0 x1 HN
   go_wp2
   go_roundg (gk - 1)
   case measure => omega
   case rel => exact ⟨rfl, k + 1, m * 10 + (x - 48), by go_num, by go_num, by omega, HN⟩
  ·have hltI : ¬ (k : Int) < s.size := by omega
   have HF : Hid (m = num s.data.toList) := by
    show m = _
    rw [HM.out, List.take_of_length_le (by rw [list_len]; omega)]
   go_wp2
   go_ret
   rw [HF.out]
   exact ⟨rfl, rfl⟩
theorem lv_pop (xs : List Nat) (m : Nat) (hm : m < xs.length) (h0 : xs.getD m 0 = 0) : lv (xs.take (m + 1)) = lv (xs.take m) := by
 rw [List.take_succ_eq_append_getElem hm]
 have : xs[m] = 0 := by rw [← h0]; simp [List.getD, hm]
 rw [this, lv_zero]
set_option maxRecDepth 1000000 in
set_option maxHeartbeats 400000 in
theorem cutl_any (B : Nat) (ao : Option Addr) (n c : Nat) (xs : List Nat) (w : World) (h : Lm w B ao n c xs) (hn : n ≤ 100000000) :
  Calls Tryz.prog 339 #[.slice ao n c] w fun e w' => (∃ m, m ≤ n ∧ e = .returned (.slice ao m c) ∧ lv (xs.take m) = lv xs) ∧ w' = w := by
 go_enter Tryz.func339, Tryz.ntmps339
 go_wp2
 go_loopg [0] n (fun g v wr => wr = w ∧ ∃ m : Nat, v = .slice ao m c ∧ m = g ∧ m ≤ n ∧ Hid (lv (xs.take m) = lv xs))
 case atStart => exact ⟨rfl, n, rfl, rfl, Nat.le_refl _, by show _ = _; rw [List.take_of_length_le (by rw [h.len]; exact Nat.le_refl _)]⟩
 case round =>
  obtain ⟨rfl, m, rfl, rfl, hmn, HL⟩ := hrel
  rcases Nat.eq_zero_or_pos m with h0 | h0
  ·subst h0
   go_wp2
   go_ret
   exact ⟨⟨0, Nat.zero_le _, rfl, HL.out⟩, rfl⟩
  ·obtain ⟨g, rfl, hBg, hgw⟩ := h.head (by omega)
   obtain ⟨j, rfl⟩ : ∃ j, m = j + 1 := ⟨m - 1, by omega⟩
   have hc := h.cell j (by omega)
   have HL2 : Hid (xs.getD j 0 = 0 → lv (xs.take j) = lv xs) := fun h0 => by
    rw [← lv_pop xs j (by rw [h.len]; omega) h0]; exact HL.out
   have hcap : n ≤ c := by
    rcases h.own.2 with ⟨h1, -⟩ | ⟨g', cap, cur, h1, -, -, k1, -⟩
    ·cases h1
    ·cases h1; exact k1
   generalize xs.getD j 0 = x at *
   by_cases hx : x = 0
   ·subst hx
    have HL3 : Hid (lv (xs.take j) = lv xs) := HL2.out rfl
    go_wp2
    go_roundg j
    case measure => omega
    case rel => exact ⟨rfl, j, by go_num, rfl, by omega, HL3⟩
   ·have hxI : ¬ (x : Int) = 0 := by omega
    go_wp2
    go_ret
    exact ⟨⟨j + 1, hmn, by go_num, HL.out⟩, rfl⟩
end Go.Proofs.YtdlnmnipnkeabaaGreatDoor
namespace Go.Proofs.YtdlnmnipnkeabaaGreatDoor
open Go.RowKit
set_option linter.unusedVariables false
theorem infoU32 : (Tryz.prog.info? 164).map (fun i => (i.zero, i.size, i.bytes)) = some (some (.int .u32 0), 1, 4) := by kernel_rfl
theorem Lm.snoc {w w' : World} {B : Nat} {ao : Option Addr} {n c x : Nat} {xs : List Nat} {v : Value} (h : Lm w B ao n c xs) (hx : x < 1000000000) (h' : w'.ownsRow B 164 1 v (n + 1) (cu xs ++ [.int .u32 (x : Int)])) :
  ∃ ao' c', v = .slice ao' (n + 1) c' ∧ Lm w' B ao' (n + 1) c' (xs ++ [x]) := by
 have e : cu xs ++ [.int .u32 (x : Int)] = cu (xs ++ [x]) := by simp [cu]
 rw [e] at h'
 have hl : ∀ y ∈ xs ++ [x], y < 1000000000 := by
  intro y hy
  rcases List.mem_append.1 hy with hy | hy
  ·exact h.lim y hy
  ·simp at hy; omega
 rcases h'.2 with ⟨h1, h2⟩ | ⟨g, cap, cur, h1, -⟩
 ·omega
 ·subst h1
  exact ⟨_, _, rfl, h', hl⟩
theorem own_ge {w : World} {B n m : Nat} {e : TypeId} {v : Value} {xs : List Value} (h : w.ownsRow B e m v n xs) : ∀ k, v.ownBlock = some k → B ≤ k := fun k hk => (h.lt k hk).1
def lim3 (n q : Nat) : Prop := (n = 0 ∧ q < 18446744073709551616) ∨ (n = 1 ∧ q < 18446744074) ∨ (n = 2 ∧ q < 19) ∨ (n = 3 ∧ q = 0)
theorem lim3_step {n q : Nat} (h : lim3 n q) (hq : 0 < q) : lim3 (n + 1) (q / 1000000000) := by
 unfold lim3 at *; omega
theorem lim3_le {n q : Nat} (h : lim3 n q) : n ≤ 3 := by unfold lim3 at h; omega
theorem limbs_step {m n q : Nat} {xs : List Nat} (hl : xs.length = n) (h : q * 1000000000 ^ n + lv xs = m) : q / 1000000000 * 1000000000 ^ (n + 1) + lv (xs ++ [q % 1000000000]) = m := by
 rw [lv_snoc, hl, Nat.pow_succ, Nat.mul_comm (1000000000 ^ n) 1000000000, ← Nat.mul_assoc, Nat.mul_comm (1000000000 ^ n) (q % 1000000000), Nat.add_left_comm, ← Nat.add_mul]
 have : q / 1000000000 * 1000000000 + q % 1000000000 = q := by omega
 rw [this]; omega
set_option maxRecDepth 1000000 in
set_option maxHeartbeats 400000 in
theorem limbsof_any (m : Nat) (w : World) (hm : m < 18446744073709551616) :
  Calls Tryz.prog 310 #[.int .u64 m] w fun e w' => (∃ ao n c, e = .returned (.slice ao n c) ∧ n ≤ 3 ∧ ∃ xs, Lm w' w.heap.size ao n c xs ∧ lv xs = m) ∧ Below w.heap.size w w' := by
 obtain ⟨i0, hi, hz0, hz1, hz2⟩ := info_parts infoU32
 go_enter Tryz.func310, Tryz.ntmps310
 go_wp2
 go_loopg [0, 3] m (fun g qv v wr => ∃ (q n c : Nat) (ao : Option Addr) (xs : List Nat), qv = .int .u64 q ∧ v = .slice ao n c ∧ q = g ∧ Hid (lim3 n q) ∧ Lm wr w.heap.size ao n c xs ∧ Below w.heap.size w wr ∧ Hid (q * 1000000000 ^ n + lv xs = m))
 case atStart => exact ⟨m, 0, 0, none, [], rfl, rfl, rfl, .inl ⟨rfl, hm⟩, Lm.nil _ _, Below.refl _ _, by show _ = _; simp [lv]⟩
 case round =>
  obtain ⟨q, n, c, ao, xs, rfl, rfl, rfl, H3, hL, hbl, HV⟩ := hrel
  have hn3 := lim3_le H3.out
  have hqm : q < 18446744073709551616 := by have := H3.out; unfold lim3 at this; omega
  by_cases hq : 0 < q
  ·have hqI : 0 < (q : Int) := by omega
   have HV2 : Hid (q / 1000000000 * 1000000000 ^ (n + 1) + lv (xs ++ [q % 1000000000]) = m) := limbs_step hL.len HV.out
   have H32 : Hid (lim3 (n + 1) (q / 1000000000)) := lim3_step H3.out hq
   have hr : q % 1000000000 < 1000000000 := Nat.mod_lt _ (by decide)
   have hm1 : (q : Int) % 1000000000 = ((q % 1000000000 : Nat) : Int) := by omega
   have hm2 : (q : Int) / 1000000000 = ((q / 1000000000 : Nat) : Int) := by omega
   have hqd : q / 1000000000 < q := by omega
   have hsz := hbl.size
   clear HV H3
   generalize q % 1000000000 = r at *
   generalize q / 1000000000 = q2 at *
   go_wp2_with (at_builtin; refine wpList_append_own _ rfl _ _ 391 rfl w.heap.size 164 i0 (.int .u32 0) 1 4 Tryz.underlying391 hi hz0 hz1 hz2 rfl (by decide) _ _ _ rfl (hL.own.alloc _) ⟨wr.heap.size, 0, none⟩ 1 1 [.int .u32 (r : Int)] rfl rfl ?c1 ?c2 ?c3 ?c4 ?c5 ?_)
   case c1 =>
    intro j u hj
    match j, hj with
    | 0, hj => simp at hj; subst hj; simp [Addr.add]
   case c2 => intro u hu; simp at hu; subst hu; rfl
   case c3 => unfold maxLen; omega
   case c4 => omega
   case c5 => simp; omega
   intro v' w1 hown' hgrow _
   obtain ⟨ao', c', rfl, hL'⟩ := hL.snoc hr hown'
   have hbl' : Below w.heap.size w w1 := (hbl.alloc hsz _).grown hgrow (by simp; omega) (own_ge hL.own)
   clear hown' hgrow hL
   go_wp2
   go_roundg q2
   case measure => omega
   case rel => exact ⟨q2, n + 1, c', ao', xs ++ [r], by go_num, rfl, rfl, H32, hL', hbl', HV2⟩
  ·have hqI : ¬ 0 < (q : Int) := by omega
   have HF : Hid (lv xs = m) := by
    have := HV.out
    have hq0 : q = 0 := by omega
    show lv xs = m
    rw [hq0] at this; simpa using this
   go_wp2
   go_ret
   exact ⟨⟨ao, n, c, rfl, hn3, xs, hL, HF.out⟩, hbl⟩
theorem scale_step {f k x cy : Nat} {ds ks : List Nat} (hk : ds.length = k) (h : lv ds + 1000000000 ^ k * cy = lv ks * f) (hks : ks.length = k) :
  lv (ds ++ [(x * f + cy) % 1000000000]) + 1000000000 ^ (k + 1) * ((x * f + cy) / 1000000000) = lv (ks ++ [x]) * f := by
 rw [lv_snoc, lv_snoc, hk, hks, Nat.add_mul, ← h, Nat.pow_succ, Nat.mul_assoc (1000000000 ^ k) 1000000000, Nat.add_assoc, Nat.add_assoc, ← Nat.mul_add, Nat.mul_assoc, ← Nat.mul_add]
 congr 2
 have := Nat.mod_add_div (x * f + cy) 1000000000
 omega
theorem cells_set {ds rest : List Nat} {x r k : Nat} (h : ds.length = k) : (cu (ds ++ x :: rest)).set k (.int .u32 (r : Int)) = cu ((ds ++ [r]) ++ rest) := by
 subst h; simp [cu]
theorem getD_mid {ds rest : List Nat} {x k : Nat} (h : ds.length = k) : (ds ++ x :: rest).getD k 0 = x := by
 subst h; simp [List.getD]
set_option maxRecDepth 1000000 in
set_option maxHeartbeats 800000 in
theorem scaled_any (B : Nat) (ao : Option Addr) (n c f : Nat) (xs : List Nat) (w : World) (h : Lm w B ao n c xs) (hB : B ≤ w.heap.size) (hf : f < 1000000000) (hn : n ≤ 10000000) :
  Calls Tryz.prog 328 #[.slice ao n c, .int .u32 (f : Int)] w fun e w' => (∃ ao' n' c', e = .returned (.slice ao' n' c') ∧ n' ≤ n + 1 ∧ ∃ xs', Lm w' B ao' n' c' xs' ∧ lv xs' = lv xs * f) ∧ Below B w w' := by
 obtain ⟨i0, hi, hz0, hz1, hz2⟩ := info_parts infoU32
 have hlen := h.len
 go_enter Tryz.func328, Tryz.ntmps328
 go_wp2
 go_loopg [5, 11] n (fun g cv iv wr => ∃ (k cy : Nat) (ds : List Nat), iv = .int .i64 k ∧ cv = .int .u64 cy ∧ k + g = n ∧ cy < 1000000000 ∧ ds.length = k ∧ Lm wr B ao n c (ds ++ xs.drop k) ∧ Below B w wr ∧ Hid (lv ds + 1000000000 ^ k * cy = lv (xs.take k) * f))
 case atStart => exact ⟨0, 0, [], rfl, rfl, Nat.zero_add _, by omega, rfl, h, Below.refl _ _, by show _ = _; simp [lv]⟩
 case round =>
  obtain ⟨k, cy, ds, rfl, rfl, hkg, hcy, hds, hL, hbl, HV⟩ := hrel
  by_cases hk : k < n
  ·have hkI : (k : Int) < n := by omega
   obtain ⟨g, rfl, hBg, hgw⟩ := hL.head (by omega)
   have hkx : k < xs.length := by omega
   have hdrop : xs.drop k = xs[k] :: xs.drop (k + 1) := List.drop_eq_getElem_cons hkx
   have htake : xs.take (k + 1) = xs.take k ++ [xs[k]] := List.take_succ_eq_append_getElem hkx
   have hx9 : xs[k] < 1000000000 := h.lim _ (List.getElem_mem hkx)
   have hc := hL.cell k hk
   have hfr := hL.froz k
   have hg : (ds ++ xs.drop k).getD k 0 = xs[k] := by
    rw [hdrop]; exact getD_mid hds
   rw [hg] at hc
   have HV2 : Hid (lv (ds ++ [(xs[k] * f + cy) % 1000000000]) + 1000000000 ^ (k + 1) * ((xs[k] * f + cy) / 1000000000) = lv (xs.take (k + 1)) * f) := by
    show _ = _
    rw [htake]; exact scale_step hds HV.out (by rw [List.length_take]; omega)
   have hprod : xs[k] * f + cy < 1000000000000000000 := by
    have : xs[k] * f ≤ 999999999 * 999999999 := Nat.mul_le_mul (by omega) (by omega)
    omega
   have HS : Hid (∀ r : Nat, r < 1000000000 → Lm (wr.setCell ⟨g, k, none⟩ (.int .u32 (r : Int))) B (some ⟨g, 0, none⟩) n c ((ds ++ [r]) ++ xs.drop (k + 1)) ∧ Below B w (wr.setCell ⟨g, k, none⟩ (.int .u32 (r : Int)))) := fun r hr => by
    have hst := (hL.own.stored k (.int .u32 (r : Int))).1
    rw [hdrop, cells_set hds] at hst
    refine ⟨⟨hst, ?_⟩, hbl.setCell hBg _⟩
    intro y hy
    rcases List.mem_append.1 hy with hy | hy
    ·rcases List.mem_append.1 hy with hy | hy
     ·exact hL.lim y (List.mem_append.2 (.inl hy))
     ·simp at hy; omega
    ·exact h.lim y (List.mem_of_mem_drop hy)
   clear HV hL hdrop htake hg hbl
   have hmul : ((xs[k] : Nat) : Int) * (f : Int) + (cy : Int) = ((xs[k] * f + cy : Nat) : Int) := by push_cast; rfl
   generalize xs[k] = x at *
   obtain ⟨P, hP⟩ : ∃ P, x * f + cy = P := ⟨_, rfl⟩
   rw [hP] at HV2 hprod hmul
   have hxf : x * f ≤ P := by omega
   have hxfI : ((x * f : Nat) : Int) = (x : Int) * (f : Int) := by push_cast; rfl
   have h0 : 0 ≤ (x : Int) * (f : Int) := by rw [← hxfI]; omega
   have h1 : (x : Int) * (f : Int) < 1000000000000000000 := by rw [← hxfI]; omega
   clear hxfI
   have hm1 : (P : Int) % 1000000000 = ((P % 1000000000 : Nat) : Int) := by omega
   have hm2 : (P : Int) / 1000000000 = ((P / 1000000000 : Nat) : Int) := by omega
   have hr1 : P % 1000000000 < 1000000000 := Nat.mod_lt _ (by decide)
   have hr2 : P / 1000000000 < 1000000000 := by omega
   have HS2 := HS.out (P % 1000000000) hr1
   clear HS
   generalize P % 1000000000 = r at *
   generalize P / 1000000000 = q at *
   go_wp2
   go_roundg (gk - 1)
   case measure => omega
   case rel => exact ⟨k + 1, q, ds ++ [r], by go_num, by go_num, by omega, hr2, by simp [hds], HS2.1, HS2.2, HV2⟩
  ·have hkI : ¬ (k : Int) < n := by omega
   have HV2 : Hid (lv (ds ++ [cy]) = lv xs * f) := by
    have := HV.out
    show _ = _
    rw [List.take_of_length_le (by omega)] at this
    rw [lv_snoc, hds]; exact this
   have hLd : Lm wr B ao n c ds := by
    have := hL
    rw [List.drop_eq_nil_of_le (by omega), List.append_nil] at this
    exact this
   have hsz := hbl.size
   clear HV hL
   go_wp2_with (at_builtin; refine wpList_append_own _ rfl _ _ 391 rfl B 164 i0 (.int .u32 0) 1 4 Tryz.underlying391 hi hz0 hz1 hz2 rfl (by decide) _ _ _ rfl (hLd.own.alloc _) ⟨wr.heap.size, 0, none⟩ 1 1 [.int .u32 (cy : Int)] rfl rfl ?c1 ?c2 ?c3 ?c4 ?c5 ?_)
   case c2 => rfl
   case c3 => unfold maxLen; omega
   case c4 => omega
   case c5 => omega
   intro v' w1 hown' hgrow _
   obtain ⟨ao', c', rfl, hL'⟩ := hLd.snoc hcy hown'
   have hbl' : Below B w w1 := (hbl.alloc (by omega) _).grown hgrow (by simp; omega) (own_ge hLd.own)
   have hC := cutl_any B ao' (n + 1) c' _ w1 hL' (by omega)
   clear hown' hgrow hLd
   go_wp2_with (go_at_call 339; refine hC.mono ?_; rintro e w2 ⟨⟨m, hm, rfl, hlm⟩, rfl⟩)
   go_ret
   exact ⟨⟨ao', m, c', rfl, hm, _, hL'.cut hm, hlm.trans HV2.out⟩, hbl'⟩
theorem mul_fac {by_ f m' m : Nat} (h : f * by_ ^ (m' + 1) = by_ ^ m) : f * by_ * by_ ^ m' = by_ ^ m := by
 rw [← h, Nat.pow_succ, Nat.mul_assoc, Nat.mul_comm by_ (by_ ^ m')]
set_option maxRecDepth 1000000 in
set_option maxHeartbeats 800000 in
theorem multiplied_2 (B : Nat) (ao : Option Addr) (n c N : Nat) (xs : List Nat) (w : World) (h : Lm w B ao n c xs) (hB : B ≤ w.heap.size) (hn : n ≤ 1000) (hN : N ≤ 1200) :
  Calls Tryz.prog 312 #[.slice ao n c, .int .u32 (2 : Int), .int .i64 N] w fun e w' => (∃ ao' n' c', e = .returned (.slice ao' n' c') ∧ n' ≤ n + N ∧ ∃ xs', Lm w' B ao' n' c' xs' ∧ lv xs' = lv xs * 2 ^ N) ∧ Below B w w' := by
 go_enter Tryz.func312, Tryz.ntmps312
 go_wp2
 go_loopg [0, 2] N (fun g v nv wr => ∃ (m n' c' : Nat) (ao' : Option Addr) (ys : List Nat), v = .slice ao' n' c' ∧ nv = .int .i64 m ∧ m = g ∧ m ≤ N ∧ n' + m ≤ n + N ∧ Lm wr B ao' n' c' ys ∧ Below B w wr ∧ Hid (lv ys * 2 ^ m = lv xs * 2 ^ N))
 case atStart => exact ⟨N, n, c, ao, xs, rfl, rfl, rfl, Nat.le_refl _, Nat.le_refl _, h, Below.refl _ _, rfl⟩
 case round =>
  obtain ⟨m, n', c', ao', ys, rfl, rfl, rfl, hmN, hnm, hL, hbl, HV⟩ := hrel
  by_cases hm : 0 < m
  ·have hmI : 0 < (m : Int) := by omega
   have hsz := hbl.size
   go_wp2
   go_loopg [2, 7] m (fun g2 nv2 fv wr2 => wr2 = wr ∧ ∃ (m2 f : Nat), nv2 = .int .i64 m2 ∧ fv = .int .u32 (f : Int) ∧ m2 = g2 ∧ m2 ≤ m ∧ f < 1000000000 ∧ (f = 1 ∨ m2 < m) ∧ Hid (f * 2 ^ m2 = 2 ^ m))
   case atStart => exact ⟨rfl, m, 1, rfl, rfl, rfl, Nat.le_refl _, by omega, .inl rfl, by show _ = _; rw [Nat.one_mul]⟩
   case round =>
    obtain ⟨rfl, m2, f, rfl, rfl, rfl, hm2, hf9, hpr, HP⟩ := hrel
    by_cases hgo : 0 < m2 ∧ f < 500000000
    ·obtain ⟨hg1, hg2⟩ := hgo
     have hg1I : 0 < (m2 : Int) := by omega
     have hg2I : (f : Int) < 500000000 := by omega
     obtain ⟨j, rfl⟩ : ∃ j, m2 = j + 1 := ⟨m2 - 1, by omega⟩
     have HP2 : Hid (f * 2 * 2 ^ j = 2 ^ m) := mul_fac HP.out
     clear HP
     go_wp2
     go_roundg j
     case measure => omega
     case rel => exact ⟨rfl, j, f * 2, by go_num, by go_num, rfl, by omega, by omega, by omega, HP2⟩
    ·have hlt : m2 < m := by omega
     have HV2 : Hid (lv ys * f * 2 ^ m2 = lv xs * 2 ^ N) := by
      show _ = _
      rw [Nat.mul_assoc, HP.out]; exact HV.out
     have hS := scaled_any B ao' n' c' f ys _ hL (by omega) hf9 (by omega)
     clear HV HP
     by_cases hg1 : 0 < m2
     ·have hg1I : 0 < (m2 : Int) := by omega
      have hg2I : ¬ (f : Int) < 500000000 := by omega
      go_wp2_with (go_at_call 328; refine hS.mono ?_; rintro e w2 ⟨⟨ao2, n2, c2, rfl, hn2, zs, hL2, hz⟩, hbl2⟩)
      go_roundg m2
      case measure => omega
      case rel => exact ⟨m2, n2, c2, ao2, zs, rfl, rfl, rfl, by omega, by omega, hL2, hbl.trans hbl2, by show _ = _; rw [hz]; exact HV2.out⟩
     ·have hg1I : ¬ 0 < (m2 : Int) := by omega
      go_wp2_with (go_at_call 328; refine hS.mono ?_; rintro e w2 ⟨⟨ao2, n2, c2, rfl, hn2, zs, hL2, hz⟩, hbl2⟩)
      go_roundg m2
      case measure => omega
      case rel => exact ⟨m2, n2, c2, ao2, zs, rfl, rfl, rfl, by omega, by omega, hL2, hbl.trans hbl2, by show _ = _; rw [hz]; exact HV2.out⟩
  ·have hmI : ¬ 0 < (m : Int) := by omega
   have HF : Hid (lv ys = lv xs * 2 ^ N) := by
    have := HV.out
    have h0 : m = 0 := by omega
    show _ = _
    rw [h0] at this; simpa using this
   go_wp2
   go_ret
   exact ⟨⟨ao', n', c', rfl, by omega, ys, hL, HF.out⟩, hbl⟩
set_option maxRecDepth 1000000 in
set_option maxHeartbeats 800000 in
theorem multiplied_5 (B : Nat) (ao : Option Addr) (n c N : Nat) (xs : List Nat) (w : World) (h : Lm w B ao n c xs) (hB : B ≤ w.heap.size) (hn : n ≤ 1000) (hN : N ≤ 1200) :
  Calls Tryz.prog 312 #[.slice ao n c, .int .u32 (5 : Int), .int .i64 N] w fun e w' => (∃ ao' n' c', e = .returned (.slice ao' n' c') ∧ n' ≤ n + N ∧ ∃ xs', Lm w' B ao' n' c' xs' ∧ lv xs' = lv xs * 5 ^ N) ∧ Below B w w' := by
 go_enter Tryz.func312, Tryz.ntmps312
 go_wp2
 go_loopg [0, 2] N (fun g v nv wr => ∃ (m n' c' : Nat) (ao' : Option Addr) (ys : List Nat), v = .slice ao' n' c' ∧ nv = .int .i64 m ∧ m = g ∧ m ≤ N ∧ n' + m ≤ n + N ∧ Lm wr B ao' n' c' ys ∧ Below B w wr ∧ Hid (lv ys * 5 ^ m = lv xs * 5 ^ N))
 case atStart => exact ⟨N, n, c, ao, xs, rfl, rfl, rfl, Nat.le_refl _, Nat.le_refl _, h, Below.refl _ _, rfl⟩
 case round =>
  obtain ⟨m, n', c', ao', ys, rfl, rfl, rfl, hmN, hnm, hL, hbl, HV⟩ := hrel
  by_cases hm : 0 < m
  ·have hmI : 0 < (m : Int) := by omega
   have hsz := hbl.size
   go_wp2
   go_loopg [2, 7] m (fun g2 nv2 fv wr2 => wr2 = wr ∧ ∃ (m2 f : Nat), nv2 = .int .i64 m2 ∧ fv = .int .u32 (f : Int) ∧ m2 = g2 ∧ m2 ≤ m ∧ f < 1000000000 ∧ (f = 1 ∨ m2 < m) ∧ Hid (f * 5 ^ m2 = 5 ^ m))
   case atStart => exact ⟨rfl, m, 1, rfl, rfl, rfl, Nat.le_refl _, by omega, .inl rfl, by show _ = _; rw [Nat.one_mul]⟩
   case round =>
    obtain ⟨rfl, m2, f, rfl, rfl, rfl, hm2, hf9, hpr, HP⟩ := hrel
    by_cases hgo : 0 < m2 ∧ f < 200000000
    ·obtain ⟨hg1, hg2⟩ := hgo
     have hg1I : 0 < (m2 : Int) := by omega
     have hg2I : (f : Int) < 200000000 := by omega
     obtain ⟨j, rfl⟩ : ∃ j, m2 = j + 1 := ⟨m2 - 1, by omega⟩
     have HP2 : Hid (f * 5 * 5 ^ j = 5 ^ m) := mul_fac HP.out
     clear HP
     go_wp2
     go_roundg j
     case measure => omega
     case rel => exact ⟨rfl, j, f * 5, by go_num, by go_num, rfl, by omega, by omega, by omega, HP2⟩
    ·have hlt : m2 < m := by omega
     have HV2 : Hid (lv ys * f * 5 ^ m2 = lv xs * 5 ^ N) := by
      show _ = _
      rw [Nat.mul_assoc, HP.out]; exact HV.out
     have hS := scaled_any B ao' n' c' f ys _ hL (by omega) hf9 (by omega)
     clear HV HP
     by_cases hg1 : 0 < m2
     ·have hg1I : 0 < (m2 : Int) := by omega
      have hg2I : ¬ (f : Int) < 200000000 := by omega
      go_wp2_with (go_at_call 328; refine hS.mono ?_; rintro e w2 ⟨⟨ao2, n2, c2, rfl, hn2, zs, hL2, hz⟩, hbl2⟩)
      go_roundg m2
      case measure => omega
      case rel => exact ⟨m2, n2, c2, ao2, zs, rfl, rfl, rfl, by omega, by omega, hL2, hbl.trans hbl2, by show _ = _; rw [hz]; exact HV2.out⟩
     ·have hg1I : ¬ 0 < (m2 : Int) := by omega
      go_wp2_with (go_at_call 328; refine hS.mono ?_; rintro e w2 ⟨⟨ao2, n2, c2, rfl, hn2, zs, hL2, hz⟩, hbl2⟩)
      go_roundg m2
      case measure => omega
      case rel => exact ⟨m2, n2, c2, ao2, zs, rfl, rfl, rfl, by omega, by omega, hL2, hbl.trans hbl2, by show _ = _; rw [hz]; exact HV2.out⟩
  ·have hmI : ¬ 0 < (m : Int) := by omega
   have HF : Hid (lv ys = lv xs * 5 ^ N) := by
    have := HV.out
    have h0 : m = 0 := by omega
    show _ = _
    rw [h0] at this; simpa using this
   go_wp2
   go_ret
   exact ⟨⟨ao', n', c', rfl, by omega, ys, hL, HF.out⟩, hbl⟩
end Go.Proofs.YtdlnmnipnkeabaaGreatDoor
