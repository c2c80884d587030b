/- BLimb2, BWhole: these texts in one. -/
import Derived.Test.YtiagjheifblkiaaGreatDoorPt21
namespace Go.Proofs.YtiagjheifblkiaaGreatDoor
open Go.RowKit
set_option linter.unusedVariables false
theorem infoU32 : (Tryz.prog.info? 86).map (fun i => (i.zero, i.size, i.bytes)) = some (some (.int .u32 0), 1, 4) := by kernel_rfl
theorem Lm.snoc {w w' : World} {B : Nat} {ao : Option Addr} {n c x : Nat} {xs : List Nat} {v : Value} (h : Lm w B ao n c xs) (hx : x < 1000000000) (h' : w'.ownsRow B 86 1 v (n + 1) (cu xs ++ [.int .u32 (x : Int)])) :
  ∃ ao' c', v = .slice ao' (n + 1) c' ∧ Lm w' B ao' (n + 1) c' (xs ++ [x]) := by
 have e : cu xs ++ [.int .u32 (x : Int)] = cu (xs ++ [x]) := by simp [cu]
 rw [e] at h'
 have hl : ∀ y ∈ xs ++ [x], y < 1000000000 := by
  intro y hy
  rcases List.mem_append.1 hy with hy | hy
  ·exact h.lim y hy
  ·simp at hy; omega
 rcases h'.2 with ⟨h1, h2⟩ | ⟨g, cap, cur, h1, -⟩
 ·omega
 ·subst h1
  exact ⟨_, _, rfl, h', hl⟩
theorem own_ge {w : World} {B n m : Nat} {e : TypeId} {v : Value} {xs : List Value} (h : w.ownsRow B e m v n xs) : ∀ k, v.ownBlock = some k → B ≤ k := fun k hk => (h.lt k hk).1
def lim3 (n q : Nat) : Prop := (n = 0 ∧ q < 18446744073709551616) ∨ (n = 1 ∧ q < 18446744074) ∨ (n = 2 ∧ q < 19) ∨ (n = 3 ∧ q = 0)
theorem lim3_step {n q : Nat} (h : lim3 n q) (hq : 0 < q) : lim3 (n + 1) (q / 1000000000) := by
 unfold lim3 at *; omega
theorem lim3_le {n q : Nat} (h : lim3 n q) : n ≤ 3 := by unfold lim3 at h; omega
theorem limbs_step {m n q : Nat} {xs : List Nat} (hl : xs.length = n) (h : q * 1000000000 ^ n + lv xs = m) : q / 1000000000 * 1000000000 ^ (n + 1) + lv (xs ++ [q % 1000000000]) = m := by
 rw [lv_snoc, hl, Nat.pow_succ, Nat.mul_comm (1000000000 ^ n) 1000000000, ← Nat.mul_assoc, Nat.mul_comm (1000000000 ^ n) (q % 1000000000), Nat.add_left_comm, ← Nat.add_mul]
 have : q / 1000000000 * 1000000000 + q % 1000000000 = q := by omega
 rw [this]; omega
set_option maxRecDepth 1000000 in
set_option maxHeartbeats 400000 in
theorem limbsof_any (m : Nat) (w : World) (hm : m < 18446744073709551616) :
  Calls Tryz.prog 37 #[.int .u64 m] w fun e w' => (∃ ao n c, e = .returned (.slice ao n c) ∧ n ≤ 3 ∧ ∃ xs, Lm w' w.heap.size ao n c xs ∧ lv xs = m) ∧ Below w.heap.size w w' := by
 obtain ⟨i0, hi, hz0, hz1, hz2⟩ := info_parts infoU32
 go_enter Tryz.func37, Tryz.ntmps37
 go_wp2
 go_loopg [0, 3] m (fun g qv v wr => ∃ (q n c : Nat) (ao : Option Addr) (xs : List Nat), qv = .int .u64 q ∧ v = .slice ao n c ∧ q = g ∧ Hid (lim3 n q) ∧ Lm wr w.heap.size ao n c xs ∧ Below w.heap.size w wr ∧ Hid (q * 1000000000 ^ n + lv xs = m))
 case atStart => exact ⟨m, 0, 0, none, [], rfl, rfl, rfl, .inl ⟨rfl, hm⟩, Lm.nil _ _, Below.refl _ _, by show _ = _; simp [lv]⟩
 case round =>
  obtain ⟨q, n, c, ao, xs, rfl, rfl, rfl, H3, hL, hbl, HV⟩ := hrel
  have hn3 := lim3_le H3.out
  have hqm : q < 18446744073709551616 := by have := H3.out; unfold lim3 at this; omega
  by_cases hq : 0 < q
  ·have hqI : 0 < (q : Int) := by omega
   have HV2 : Hid (q / 1000000000 * 1000000000 ^ (n + 1) + lv (xs ++ [q % 1000000000]) = m) := limbs_step hL.len HV.out
   have H32 : Hid (lim3 (n + 1) (q / 1000000000)) := lim3_step H3.out hq
   have hr : q % 1000000000 < 1000000000 := Nat.mod_lt _ (by decide)
   have hm1 : (q : Int) % 1000000000 = ((q % 1000000000 : Nat) : Int) := by omega
   have hm2 : (q : Int) / 1000000000 = ((q / 1000000000 : Nat) : Int) := by omega
   have hqd : q / 1000000000 < q := by omega
   have hsz := hbl.size
   clear HV H3
   generalize q % 1000000000 = r at *
   generalize q / 1000000000 = q2 at *
   go_wp2_with (at_builtin; refine wpList_append_own _ rfl _ _ 82 rfl w.heap.size 86 i0 (.int .u32 0) 1 4 Tryz.underlying82 hi hz0 hz1 hz2 rfl (by decide) _ _ _ rfl (hL.own.alloc _) ⟨wr.heap.size, 0, none⟩ 1 1 [.int .u32 (r : Int)] rfl rfl ?c1 ?c2 ?c3 ?c4 ?c5 ?_)
   case c1 =>
    intro j u hj
    match j, hj with
    | 0, hj => simp at hj; subst hj; simp [Addr.add]
   case c2 => intro u hu; simp at hu; subst hu; rfl
   case c3 => unfold maxLen; omega
   case c4 => omega
   case c5 => simp; omega
   intro v' w1 hown' hgrow _
   obtain ⟨ao', c', rfl, hL'⟩ := hL.snoc hr hown'
   have hbl' : Below w.heap.size w w1 := (hbl.alloc hsz _).grown hgrow (by simp; omega) (own_ge hL.own)
   clear hown' hgrow hL
   go_wp2
   go_roundg q2
   case measure => omega
   case rel => exact ⟨q2, n + 1, c', ao', xs ++ [r], by go_num, rfl, rfl, H32, hL', hbl', HV2⟩
  ·have hqI : ¬ 0 < (q : Int) := by omega
   have HF : Hid (lv xs = m) := by
    have := HV.out
    have hq0 : q = 0 := by omega
    show lv xs = m
    rw [hq0] at this; simpa using this
   go_wp2
   go_ret
   exact ⟨⟨ao, n, c, rfl, hn3, xs, hL, HF.out⟩, hbl⟩
theorem scale_step {f k x cy : Nat} {ds ks : List Nat} (hk : ds.length = k) (h : lv ds + 1000000000 ^ k * cy = lv ks * f) (hks : ks.length = k) :
  lv (ds ++ [(x * f + cy) % 1000000000]) + 1000000000 ^ (k + 1) * ((x * f + cy) / 1000000000) = lv (ks ++ [x]) * f := by
 rw [lv_snoc, lv_snoc, hk, hks, Nat.add_mul, ← h, Nat.pow_succ, Nat.mul_assoc (1000000000 ^ k) 1000000000, Nat.add_assoc, Nat.add_assoc, ← Nat.mul_add, Nat.mul_assoc, ← Nat.mul_add]
 congr 2
 have := Nat.mod_add_div (x * f + cy) 1000000000
 omega
theorem cells_set {ds rest : List Nat} {x r k : Nat} (h : ds.length = k) : (cu (ds ++ x :: rest)).set k (.int .u32 (r : Int)) = cu ((ds ++ [r]) ++ rest) := by
 subst h; simp [cu]
theorem getD_mid {ds rest : List Nat} {x k : Nat} (h : ds.length = k) : (ds ++ x :: rest).getD k 0 = x := by
 subst h; simp [List.getD]
set_option maxRecDepth 1000000 in
set_option maxHeartbeats 800000 in
theorem scaled_any (B : Nat) (ao : Option Addr) (n c f : Nat) (xs : List Nat) (w : World) (h : Lm w B ao n c xs) (hB : B ≤ w.heap.size) (hf : f < 1000000000) (hn : n ≤ 10000000) :
  Calls Tryz.prog 55 #[.slice ao n c, .int .u32 (f : Int)] w fun e w' => (∃ ao' n' c', e = .returned (.slice ao' n' c') ∧ n' ≤ n + 1 ∧ ∃ xs', Lm w' B ao' n' c' xs' ∧ lv xs' = lv xs * f) ∧ Below B w w' := by
 obtain ⟨i0, hi, hz0, hz1, hz2⟩ := info_parts infoU32
 have hlen := h.len
 go_enter Tryz.func55, Tryz.ntmps55
 go_wp2
 go_loopg [5, 11] n (fun g cv iv wr => ∃ (k cy : Nat) (ds : List Nat), iv = .int .i64 k ∧ cv = .int .u64 cy ∧ k + g = n ∧ cy < 1000000000 ∧ ds.length = k ∧ Lm wr B ao n c (ds ++ xs.drop k) ∧ Below B w wr ∧ Hid (lv ds + 1000000000 ^ k * cy = lv (xs.take k) * f))
 case atStart => exact ⟨0, 0, [], rfl, rfl, Nat.zero_add _, by omega, rfl, h, Below.refl _ _, by show _ = _; simp [lv]⟩
 case round =>
  obtain ⟨k, cy, ds, rfl, rfl, hkg, hcy, hds, hL, hbl, HV⟩ := hrel
  by_cases hk : k < n
  ·have hkI : (k : Int) < n := by omega
   obtain ⟨g, rfl, hBg, hgw⟩ := hL.head (by omega)
   have hkx : k < xs.length := by omega
   have hdrop : xs.drop k = xs[k] :: xs.drop (k + 1) := List.drop_eq_getElem_cons hkx
   have htake : xs.take (k + 1) = xs.take k ++ [xs[k]] := List.take_succ_eq_append_getElem hkx
   have hx9 : xs[k] < 1000000000 := h.lim _ (List.getElem_mem hkx)
   have hc := hL.cell k hk
   have hfr := hL.froz k
   have hg : (ds ++ xs.drop k).getD k 0 = xs[k] := by
    rw [hdrop]; exact getD_mid hds
   rw [hg] at hc
   have HV2 : Hid (lv (ds ++ [(xs[k] * f + cy) % 1000000000]) + 1000000000 ^ (k + 1) * ((xs[k] * f + cy) / 1000000000) = lv (xs.take (k + 1)) * f) := by
    show _ = _
    rw [htake]; exact scale_step hds HV.out (by rw [List.length_take]; omega)
   have hprod : xs[k] * f + cy < 1000000000000000000 := by
    have : xs[k] * f ≤ 999999999 * 999999999 := Nat.mul_le_mul (by omega) (by omega)
    omega
   have HS : Hid (∀ r : Nat, r < 1000000000 → Lm (wr.setCell ⟨g, k, none⟩ (.int .u32 (r : Int))) B (some ⟨g, 0, none⟩) n c ((ds ++ [r]) ++ xs.drop (k + 1)) ∧ Below B w (wr.setCell ⟨g, k, none⟩ (.int .u32 (r : Int)))) := fun r hr => by
    have hst := (hL.own.stored k (.int .u32 (r : Int))).1
    rw [hdrop, cells_set hds] at hst
    refine ⟨⟨hst, ?_⟩, hbl.setCell hBg _⟩
    intro y hy
    rcases List.mem_append.1 hy with hy | hy
    ·rcases List.mem_append.1 hy with hy | hy
     ·exact hL.lim y (List.mem_append.2 (.inl hy))
     ·simp at hy; omega
    ·exact h.lim y (List.mem_of_mem_drop hy)
   clear HV hL hdrop htake hg hbl
   have hmul : ((xs[k] : Nat) : Int) * (f : Int) + (cy : Int) = ((xs[k] * f + cy : Nat) : Int) := by push_cast; rfl
   generalize xs[k] = x at *
   obtain ⟨P, hP⟩ : ∃ P, x * f + cy = P := ⟨_, rfl⟩
   rw [hP] at HV2 hprod hmul
   have hxf : x * f ≤ P := by omega
   have hxfI : ((x * f : Nat) : Int) = (x : Int) * (f : Int) := by push_cast; rfl
   have h0 : 0 ≤ (x : Int) * (f : Int) := by rw [← hxfI]; omega
   have h1 : (x : Int) * (f : Int) < 1000000000000000000 := by rw [← hxfI]; omega
   clear hxfI
   have hm1 : (P : Int) % 1000000000 = ((P % 1000000000 : Nat) : Int) := by omega
   have hm2 : (P : Int) / 1000000000 = ((P / 1000000000 : Nat) : Int) := by omega
   have hr1 : P % 1000000000 < 1000000000 := Nat.mod_lt _ (by decide)
   have hr2 : P / 1000000000 < 1000000000 := by omega
   have HS2 := HS.out (P % 1000000000) hr1
   clear HS
   generalize P % 1000000000 = r at *
   generalize P / 1000000000 = q at *
   go_wp2
   go_roundg (gk - 1)
   case measure => omega
   case rel => exact ⟨k + 1, q, ds ++ [r], by go_num, by go_num, by omega, hr2, by simp [hds], HS2.1, HS2.2, HV2⟩
  ·have hkI : ¬ (k : Int) < n := by omega
   have HV2 : Hid (lv (ds ++ [cy]) = lv xs * f) := by
    have := HV.out
    show _ = _
    rw [List.take_of_length_le (by omega)] at this
    rw [lv_snoc, hds]; exact this
   have hLd : Lm wr B ao n c ds := by
    have := hL
    rw [List.drop_eq_nil_of_le (by omega), List.append_nil] at this
    exact this
   have hsz := hbl.size
   clear HV hL
   go_wp2_with (at_builtin; refine wpList_append_own _ rfl _ _ 82 rfl B 86 i0 (.int .u32 0) 1 4 Tryz.underlying82 hi hz0 hz1 hz2 rfl (by decide) _ _ _ rfl (hLd.own.alloc _) ⟨wr.heap.size, 0, none⟩ 1 1 [.int .u32 (cy : Int)] rfl rfl ?c1 ?c2 ?c3 ?c4 ?c5 ?_)
   case c2 => rfl
   case c3 => unfold maxLen; omega
   case c4 => omega
   case c5 => omega
   intro v' w1 hown' hgrow _
   obtain ⟨ao', c', rfl, hL'⟩ := hLd.snoc hcy hown'
   have hbl' : Below B w w1 := (hbl.alloc (by omega) _).grown hgrow (by simp; omega) (own_ge hLd.own)
   have hC := cutl_any B ao' (n + 1) c' _ w1 hL' (by omega)
   clear hown' hgrow hLd
   go_wp2_with (go_at_call 69; refine hC.mono ?_; rintro e w2 ⟨⟨m, hm, rfl, hlm⟩, rfl⟩)
   go_ret
   exact ⟨⟨ao', m, c', rfl, hm, _, hL'.cut hm, hlm.trans HV2.out⟩, hbl'⟩
theorem mul_fac {by_ f m' m : Nat} (h : f * by_ ^ (m' + 1) = by_ ^ m) : f * by_ * by_ ^ m' = by_ ^ m := by
 rw [← h, Nat.pow_succ, Nat.mul_assoc, Nat.mul_comm by_ (by_ ^ m')]
set_option maxRecDepth 1000000 in
set_option maxHeartbeats 800000 in
theorem multiplied_2 (B : Nat) (ao : Option Addr) (n c N : Nat) (xs : List Nat) (w : World) (h : Lm w B ao n c xs) (hB : B ≤ w.heap.size) (hn : n ≤ 1000) (hN : N ≤ 1200) :
  Calls Tryz.prog 39 #[.slice ao n c, .int .u32 (2 : Int), .int .i64 N] w fun e w' => (∃ ao' n' c', e = .returned (.slice ao' n' c') ∧ n' ≤ n + N ∧ ∃ xs', Lm w' B ao' n' c' xs' ∧ lv xs' = lv xs * 2 ^ N) ∧ Below B w w' := by
 go_enter Tryz.func39, Tryz.ntmps39
 go_wp2
 go_loopg [0, 2] N (fun g v nv wr => ∃ (m n' c' : Nat) (ao' : Option Addr) (ys : List Nat), v = .slice ao' n' c' ∧ nv = .int .i64 m ∧ m = g ∧ m ≤ N ∧ n' + m ≤ n + N ∧ Lm wr B ao' n' c' ys ∧ Below B w wr ∧ Hid (lv ys * 2 ^ m = lv xs * 2 ^ N))
 case atStart => exact ⟨N, n, c, ao, xs, rfl, rfl, rfl, Nat.le_refl _, Nat.le_refl _, h, Below.refl _ _, rfl⟩
 case round =>
  obtain ⟨m, n', c', ao', ys, rfl, rfl, rfl, hmN, hnm, hL, hbl, HV⟩ := hrel
  by_cases hm : 0 < m
  ·have hmI : 0 < (m : Int) := by omega
   have hsz := hbl.size
   go_wp2
   go_loopg [2, 7] m (fun g2 nv2 fv wr2 => wr2 = wr ∧ ∃ (m2 f : Nat), nv2 = .int .i64 m2 ∧ fv = .int .u32 (f : Int) ∧ m2 = g2 ∧ m2 ≤ m ∧ f < 1000000000 ∧ (f = 1 ∨ m2 < m) ∧ Hid (f * 2 ^ m2 = 2 ^ m))
   case atStart => exact ⟨rfl, m, 1, rfl, rfl, rfl, Nat.le_refl _, by omega, .inl rfl, by show _ = _; rw [Nat.one_mul]⟩
   case round =>
    obtain ⟨rfl, m2, f, rfl, rfl, rfl, hm2, hf9, hpr, HP⟩ := hrel
    by_cases hgo : 0 < m2 ∧ f < 500000000
    ·obtain ⟨hg1, hg2⟩ := hgo
     have hg1I : 0 < (m2 : Int) := by omega
     have hg2I : (f : Int) < 500000000 := by omega
     obtain ⟨j, rfl⟩ : ∃ j, m2 = j + 1 := ⟨m2 - 1, by omega⟩
     have HP2 : Hid (f * 2 * 2 ^ j = 2 ^ m) := mul_fac HP.out
     clear HP
     go_wp2
     go_roundg j
     case measure => omega
     case rel => exact ⟨rfl, j, f * 2, by go_num, by go_num, rfl, by omega, by omega, by omega, HP2⟩
    ·have hlt : m2 < m := by omega
     have HV2 : Hid (lv ys * f * 2 ^ m2 = lv xs * 2 ^ N) := by
      show _ = _
      rw [Nat.mul_assoc, HP.out]; exact HV.out
     have hS := scaled_any B ao' n' c' f ys _ hL (by omega) hf9 (by omega)
     clear HV HP
     by_cases hg1 : 0 < m2
     ·have hg1I : 0 < (m2 : Int) := by omega
      have hg2I : ¬ (f : Int) < 500000000 := by omega
      go_wp2_with (go_at_call 55; refine hS.mono ?_; rintro e w2 ⟨⟨ao2, n2, c2, rfl, hn2, zs, hL2, hz⟩, hbl2⟩)
      go_roundg m2
      case measure => omega
      case rel => exact ⟨m2, n2, c2, ao2, zs, rfl, rfl, rfl, by omega, by omega, hL2, hbl.trans hbl2, by show _ = _; rw [hz]; exact HV2.out⟩
     ·have hg1I : ¬ 0 < (m2 : Int) := by omega
      go_wp2_with (go_at_call 55; refine hS.mono ?_; rintro e w2 ⟨⟨ao2, n2, c2, rfl, hn2, zs, hL2, hz⟩, hbl2⟩)
      go_roundg m2
      case measure => omega
      case rel => exact ⟨m2, n2, c2, ao2, zs, rfl, rfl, rfl, by omega, by omega, hL2, hbl.trans hbl2, by show _ = _; rw [hz]; exact HV2.out⟩
  ·have hmI : ¬ 0 < (m : Int) := by omega
   have HF : Hid (lv ys = lv xs * 2 ^ N) := by
    have := HV.out
    have h0 : m = 0 := by omega
    show _ = _
    rw [h0] at this; simpa using this
   go_wp2
   go_ret
   exact ⟨⟨ao', n', c', rfl, by omega, ys, hL, HF.out⟩, hbl⟩
set_option maxRecDepth 1000000 in
set_option maxHeartbeats 800000 in
theorem multiplied_5 (B : Nat) (ao : Option Addr) (n c N : Nat) (xs : List Nat) (w : World) (h : Lm w B ao n c xs) (hB : B ≤ w.heap.size) (hn : n ≤ 1000) (hN : N ≤ 1200) :
  Calls Tryz.prog 39 #[.slice ao n c, .int .u32 (5 : Int), .int .i64 N] w fun e w' => (∃ ao' n' c', e = .returned (.slice ao' n' c') ∧ n' ≤ n + N ∧ ∃ xs', Lm w' B ao' n' c' xs' ∧ lv xs' = lv xs * 5 ^ N) ∧ Below B w w' := by
 go_enter Tryz.func39, Tryz.ntmps39
 go_wp2
 go_loopg [0, 2] N (fun g v nv wr => ∃ (m n' c' : Nat) (ao' : Option Addr) (ys : List Nat), v = .slice ao' n' c' ∧ nv = .int .i64 m ∧ m = g ∧ m ≤ N ∧ n' + m ≤ n + N ∧ Lm wr B ao' n' c' ys ∧ Below B w wr ∧ Hid (lv ys * 5 ^ m = lv xs * 5 ^ N))
 case atStart => exact ⟨N, n, c, ao, xs, rfl, rfl, rfl, Nat.le_refl _, Nat.le_refl _, h, Below.refl _ _, rfl⟩
 case round =>
  obtain ⟨m, n', c', ao', ys, rfl, rfl, rfl, hmN, hnm, hL, hbl, HV⟩ := hrel
  by_cases hm : 0 < m
  ·have hmI : 0 < (m : Int) := by omega
   have hsz := hbl.size
   go_wp2
   go_loopg [2, 7] m (fun g2 nv2 fv wr2 => wr2 = wr ∧ ∃ (m2 f : Nat), nv2 = .int .i64 m2 ∧ fv = .int .u32 (f : Int) ∧ m2 = g2 ∧ m2 ≤ m ∧ f < 1000000000 ∧ (f = 1 ∨ m2 < m) ∧ Hid (f * 5 ^ m2 = 5 ^ m))
   case atStart => exact ⟨rfl, m, 1, rfl, rfl, rfl, Nat.le_refl _, by omega, .inl rfl, by show _ = _; rw [Nat.one_mul]⟩
   case round =>
    obtain ⟨rfl, m2, f, rfl, rfl, rfl, hm2, hf9, hpr, HP⟩ := hrel
    by_cases hgo : 0 < m2 ∧ f < 200000000
    ·obtain ⟨hg1, hg2⟩ := hgo
     have hg1I : 0 < (m2 : Int) := by omega
     have hg2I : (f : Int) < 200000000 := by omega
     obtain ⟨j, rfl⟩ : ∃ j, m2 = j + 1 := ⟨m2 - 1, by omega⟩
     have HP2 : Hid (f * 5 * 5 ^ j = 5 ^ m) := mul_fac HP.out
     clear HP
     go_wp2
     go_roundg j
     case measure => omega
     case rel => exact ⟨rfl, j, f * 5, by go_num, by go_num, rfl, by omega, by omega, by omega, HP2⟩
    ·have hlt : m2 < m := by omega
     have HV2 : Hid (lv ys * f * 5 ^ m2 = lv xs * 5 ^ N) := by
      show _ = _
      rw [Nat.mul_assoc, HP.out]; exact HV.out
     have hS := scaled_any B ao' n' c' f ys _ hL (by omega) hf9 (by omega)
     clear HV HP
     by_cases hg1 : 0 < m2
     ·have hg1I : 0 < (m2 : Int) := by omega
      have hg2I : ¬ (f : Int) < 200000000 := by omega
      go_wp2_with (go_at_call 55; refine hS.mono ?_; rintro e w2 ⟨⟨ao2, n2, c2, rfl, hn2, zs, hL2, hz⟩, hbl2⟩)
      go_roundg m2
      case measure => omega
      case rel => exact ⟨m2, n2, c2, ao2, zs, rfl, rfl, rfl, by omega, by omega, hL2, hbl.trans hbl2, by show _ = _; rw [hz]; exact HV2.out⟩
     ·have hg1I : ¬ 0 < (m2 : Int) := by omega
      go_wp2_with (go_at_call 55; refine hS.mono ?_; rintro e w2 ⟨⟨ao2, n2, c2, rfl, hn2, zs, hL2, hz⟩, hbl2⟩)
      go_roundg m2
      case measure => omega
      case rel => exact ⟨m2, n2, c2, ao2, zs, rfl, rfl, rfl, by omega, by omega, hL2, hbl.trans hbl2, by show _ = _; rw [hz]; exact HV2.out⟩
  ·have hmI : ¬ 0 < (m : Int) := by omega
   have HF : Hid (lv ys = lv xs * 5 ^ N) := by
    have := HV.out
    have h0 : m = 0 := by omega
    show _ = _
    rw [h0] at this; simpa using this
   go_wp2
   go_ret
   exact ⟨⟨ao', n', c', rfl, by omega, ys, hL, HF.out⟩, hbl⟩
end Go.Proofs.YtiagjheifblkiaaGreatDoor
namespace Go.Proofs.YtiagjheifblkiaaGreatDoor
open Go.RowKit
set_option linter.unusedVariables false
theorem infoU8 : (Tryz.prog.info? 5).map (fun i => (i.zero, i.size, i.bytes)) = some (some (.int .u8 0), 1, 1) := by kernel_rfl
def cb (l : List UInt8) : List Value := l.map fun x : UInt8 => Value.int .u8 ((x.toNat : Nat) : Int)
theorem cb_len (l : List UInt8) : (cb l).length = l.length := by simp [cb]
def RowB (w : World) (g N m : Nat) (ds : List UInt8) : Prop := w.ownsRow g 5 1 (.slice (some ⟨g, 0, none⟩) N N) N (List.replicate m (.int .u8 0) ++ cb ds)
theorem RowB.len {w : World} {g N m : Nat} {ds : List UInt8} (h : RowB w g N m ds) : m + ds.length = N := by
 have := h.1
 rw [List.length_append, List.length_replicate, cb_len] at this; omega
theorem RowB.cell {w : World} {g N m : Nat} {ds : List UInt8} (h : RowB w g N (m + 1) ds) : w.cell? ⟨g, m, none⟩ = some (.int .u8 0) := by
 have hl := h.len
 rw [World.ownsRow.cellAt h m (by omega), List.getElem?_append_left (by simp)]
 simp
theorem RowB.froz {w : World} {g N m : Nat} {ds : List UInt8} (h : RowB w g N m ds) (j : Nat) : w.frozen? ⟨g, j, none⟩ = false := World.ownsRow.frozenAt h j
theorem RowB.put {w : World} {g N m : Nat} {ds : List UInt8} (h : RowB w g N (m + 1) ds) (x : UInt8) : RowB (w.setCell ⟨g, m, none⟩ (.int .u8 ((x.toNat : Nat) : Int))) g N m (x :: ds) := by
 have := (World.ownsRow.stored h m (.int .u8 ((x.toNat : Nat) : Int))).1
 unfold RowB
 have e : (List.replicate (m + 1) (Value.int .u8 0) ++ cb ds).set m (.int .u8 ((x.toNat : Nat) : Int)) = List.replicate m (.int .u8 0) ++ cb (x :: ds) := by
  rw [List.replicate_succ', List.append_assoc, List.set_append_right _ _ (by simp)]
  simp [cb]
 rw [e] at this
 exact this
theorem convB (W : World) (g N : Nat) (ds : List UInt8) (h : RowB W g N 0 ds) :
  (convert 57 9 (.slice (some ⟨g, 0, none⟩) N N)).run Tryz.prog W = .ok (.string ⟨ds.toArray⟩) W := by
 have hl := h.len
 have := run_convert_bytes_arg W 57 5 Tryz.underlying57 Tryz.underlying5 g 0 N N (ds.map fun x => (x.toNat : Int)) (by simp; omega) (fun i hi => by
  have hi' : i < ds.length := by omega
  rw [Nat.zero_add, World.ownsRow.cellAt h i (by omega)]
  simp [cb, hi', List.getD]) 9 Tryz.underlying9
 rw [this]
 have e : strOfNums (ds.map fun x => (x.toNat : Int)) = ⟨ds.toArray⟩ := by
  apply ByteArray.ext
  have : (ds.map fun x => (x.toNat : Int)).map (fun n : Int => UInt8.ofNat n.toNat) = ds := by
   rw [List.map_map]
   conv => rhs; rw [← List.map_id ds]
   exact List.map_congr_left fun x _ => by simp
  show ((ds.map fun x => (x.toNat : Int)).map (fun n : Int => UInt8.ofNat n.toNat)).toArray = _
  rw [this]
 rw [e]
structure WI (b x j q L : Nat) (ds : List UInt8) : Prop where
 val : num ds = b + 10 ^ L * (x % 10 ^ j)
 len : ds.length = L + j
 quo : q = x / 10 ^ j
 dig : allD ds = true
theorem WI.step {b x j q L : Nat} {ds : List UInt8} (h : WI b x j q L ds) : WI b x (j + 1) (q / 10) L (db (q % 10) :: ds) where
 val := by
  have hdB : q % 10 < 10 := Nat.mod_lt _ (by decide)
  have e : x / 10 ^ j % 10 * (10 ^ L * 10 ^ j) = 10 ^ L * (10 ^ j * (x / 10 ^ j % 10)) := by rw [Nat.mul_comm, Nat.mul_assoc]
  rw [num_cons, dg_db hdB, h.val, h.len, h.quo, Nat.pow_add, e, Nat.pow_succ 10 j, Nat.mod_mul, Nat.mul_add]
  generalize 10 ^ L * (10 ^ j * (x / 10 ^ j % 10)) = A
  generalize 10 ^ L * (x % 10 ^ j) = C
  omega
 len := by simp [h.len]; omega
 quo := by rw [h.quo, Nat.div_div_eq_div_mul, Nat.pow_succ]
 dig := by rw [allD_cons, isD_db (Nat.mod_lt _ (by decide)), h.dig]; rfl
theorem WI.fin {b x q L : Nat} {ds : List UInt8} (h : WI b x 9 q L ds) (hx : x < 1000000000) : num ds = b + 10 ^ L * x := by
 rw [h.val, Nat.mod_eq_of_lt (by have : (10 : Nat) ^ 9 = 1000000000 := by decide
                                 omega)]
theorem pow_limb (k : Nat) : (10 : Nat) ^ (9 * k) = 1000000000 ^ k := by rw [Nat.pow_mul]
set_option maxRecDepth 1000000 in
set_option maxHeartbeats 800000 in
theorem whole_any (B : Nat) (ao : Option Addr) (n c : Nat) (xs : List Nat) (last : Int) (w : World) (h : Lm w B ao n c xs) (hn : n ≤ 10000) (hl0 : -10000 ≤ last) (hl1 : last ≤ 6000) :
  Calls Tryz.prog 38 #[.slice ao n c, .int .i64 last] w fun e w' => e = .returned (.agg #[.string (oS (lv xs * 10 ^ (last + 10000).toNat)), .int .i64 (oP (lv xs * 10 ^ (last + 10000).toNat))]) ∧ Below w.heap.size w w' := by
 obtain ⟨i0, hi, hz0, hz1, hz2⟩ := info_parts infoU8
 have hlen := h.len
 have HR : ∀ ds : List UInt8, Hid (ds.length = 9 * n ∧ num ds = lv xs ∧ allD ds = true → ∀ w, Calls Tryz.prog 44 #[.agg #[.string ⟨ds.toArray⟩, .int .i64 (9 * (n : Int) + last)]] w fun e w' => e = .returned (.agg #[.string (oS (lv xs * 10 ^ (last + 10000).toNat)), .int .i64 (oP (lv xs * 10 ^ (last + 10000).toNat))]) ∧ Below w.heap.size w w') := fun ds ⟨h1, h2, h3⟩ w => by
  have hz := mk_size ds
  have := inform_any ⟨ds.toArray⟩ (9 * (n : Int) + last) w h3 (by omega) (by omega) (by omega)
  have e : V (⟨ds.toArray⟩ : ByteArray).data.toList (9 * (n : Int) + last) = lv xs * 10 ^ (last + 10000).toNat := by
   unfold V
   show num ds * 10 ^ (9 * (n : Int) + last - ds.length + 10000).toNat = _
   rw [h2, show 9 * (n : Int) + last - ds.length + 10000 = last + 10000 by omega]
  rw [e] at this
  exact this
 generalize lv xs * 10 ^ (last + 10000).toNat = v at *
 generalize hS : oS v = S at *
 generalize hP : oP v = P at *
 clear hS hP
 go_enter Tryz.func38, Tryz.ntmps38
 go_wp2_with (at_make; refine wpList_make_full _ rfl _ _ 57 rfl (w.heap.size + 1) 5 i0 (.int .u8 0) 1 Tryz.underlying57 hi hz0 hz1 .i64 .i64 _ _ (9 * n) rfl rfl ?c1 ?c2 ?c3 ?c4 ?c5 ?_)
 case c1 => omega
 case c2 => omega
 case c3 => rw [hz2]; omega
 case c4 => unfold maxLen; omega
 case c5 => simp
 intro w1 hown hgrow
 have hrow : RowB w1 (w.heap.size + 1) (9 * n) (9 * n) [] := by
  rw [toList_madeCells_one] at hown
  simpa [RowB, cb] using hown
 obtain ⟨W1, hW1⟩ : ∃ W1, w.alloc (Obj.cells #[Value.string { data := #[] }, Value.int IntKind.i64 0] 31) = W1 := ⟨_, rfl⟩
 have r0 : W1.cell? ⟨w.heap.size, 0, none⟩ = some (.string ⟨#[]⟩) := by rw [← hW1]; simp
 have r1 : W1.cell? ⟨w.heap.size, 1, none⟩ = some (.int .i64 0) := by rw [← hW1]; simp
 have r2 : W1.frozen? ⟨w.heap.size, 0, none⟩ = false := by rw [← hW1]; simp
 have r3 : W1.frozen? ⟨w.heap.size, 1, none⟩ = false := by rw [← hW1]; simp
 have hsW : W1.heap.size = w.heap.size + 1 := by rw [← hW1]; simp
 have hbW : Below w.heap.size w W1 := by rw [← hW1]; exact (Below.refl _ _).alloc (Nat.le_refl _) _
 rw [hW1] at hgrow
 have hb1 : Below W1.heap.size W1 w1 := (Below.refl _ _).grown hgrow (Nat.le_refl _) (fun k hk => by cases hk)
 clear hown hgrow hW1 hi hz0 hz1 hz2
 go_wp2
 go_loopg [6, 17] n (fun g av iv wr => ∃ (k : Nat) (ds : List UInt8), av = .int .i64 ((9 * (n - k) : Nat) : Int) ∧ iv = .int .i64 k ∧ k + g = n ∧ RowB wr (w.heap.size + 1) (9 * n) (9 * (n - k)) ds ∧ Below W1.heap.size W1 wr ∧ Hid (num ds = lv (xs.take k) ∧ allD ds = true))
 case atStart => exact ⟨0, [], by simp, rfl, Nat.zero_add _, hrow, hb1, rfl, rfl⟩
 case round =>
  obtain ⟨k, ds, rfl, rfl, hkg, hrow, hbl, HV⟩ := hrel
  by_cases hk : k < n
  ·have hkI : (k : Int) < n := by omega
   obtain ⟨g, rfl, hBg, hgw⟩ := h.head (by omega)
   have hkx : k < xs.length := by omega
   have htake : xs.take (k + 1) = xs.take k ++ [xs[k]] := List.take_succ_eq_append_getElem hkx
   have hx9 : xs[k] < 1000000000 := h.lim _ (List.getElem_mem hkx)
   have hc : wr.cell? ⟨g, k, none⟩ = some (.int .u32 ((xs[k] : Nat) : Int)) := by
    have := h.cell k hk
    rw [List.getD_eq_getElem?_getD, List.getElem?_eq_getElem hkx, Option.getD_some] at this
    exact keep hbl (keep hbW this)
   have hds : ds.length = 9 * k := by have := hrow.len; omega
   have HI0 : Hid (WI (lv (xs.take k)) xs[k] 0 xs[k] (9 * k) ds) := ⟨by rw [HV.out.1]; simp [Nat.mod_one], by omega, by simp, HV.out.2⟩
   have HE : Hid (∀ ds2 q, WI (lv (xs.take k)) xs[k] 9 q (9 * k) ds2 → num ds2 = lv (xs.take (k + 1)) ∧ allD ds2 = true) := fun ds2 q hw => by
    refine ⟨?_, hw.dig⟩
    rw [hw.fin hx9, htake, lv_snoc, pow_limb, List.length_take, Nat.min_eq_left (by omega)]
   clear HV htake
   generalize xs[k] = x at *
   go_wp2
   go_loopg [6, 8, 21] 9 (fun g2 av2 lv2 jv wr2 => ∃ (j m q : Nat) (ds2 : List UInt8), av2 = .int .i64 (m : Int) ∧ lv2 = .int .u32 (q : Int) ∧ jv = .int .i64 (j : Int) ∧ j + g2 = 9 ∧ m + j = 9 * (n - k) ∧ q < 1000000000 ∧ RowB wr2 (w.heap.size + 1) (9 * n) m ds2 ∧ Below W1.heap.size W1 wr2 ∧ Hid (WI (lv (xs.take k)) x j q (9 * k) ds2))
   case atStart => exact ⟨0, 9 * (n - k), x, ds, rfl, rfl, rfl, rfl, rfl, hx9, hrow, hbl, HI0⟩
   case round =>
    obtain ⟨j, m, q, ds2, rfl, rfl, rfl, hjg, hmj, hq9, hrow2, hbl2, HI⟩ := hrel
    by_cases hj : j < 9
    ·have hjI : (j : Int) < 9 := by omega
     obtain ⟨a, rfl⟩ : ∃ a, m = a + 1 := ⟨m - 1, by omega⟩
     have hc2 := hrow2.cell
     have hf2 := hrow2.froz a
     have ha : a < 9 * n := by omega
     have hm1 : (q : Int) % 10 = ((q % 10 : Nat) : Int) := by omega
     have hm2 : (q : Int) / 10 = ((q / 10 : Nat) : Int) := by omega
     have hdB : q % 10 < 10 := Nat.mod_lt _ (by decide)
     have hqq : q / 10 < 1000000000 := by omega
     have HI2 : Hid (WI (lv (xs.take k)) x (j + 1) (q / 10) (9 * k) (db (q % 10) :: ds2)) := HI.out.step
     have HR2 : Hid (RowB (wr.setCell ⟨w.heap.size + 1, a, none⟩ (.int .u8 (48 + ((q % 10 : Nat) : Int)))) (w.heap.size + 1) (9 * n) a (db (q % 10) :: ds2)) := by
      have := hrow2.put (db (q % 10))
      rw [db_nat hdB] at this
      push_cast at this ⊢
      exact this
     clear HI
     generalize hdq : q % 10 = d at *
     generalize q / 10 = q2 at *
     clear hdq
     go_wp2
     go_roundg (gk - 1)
     case measure => omega
     case rel => exact ⟨j + 1, a, q2, db d :: ds2, by go_num, by go_num, by go_num, by omega, by omega, hqq, HR2.out, hbl2.setCell (by rw [hsW]; exact Nat.le_refl _) _, HI2⟩
    ·have hjI : ¬ (j : Int) < 9 := by omega
     have h9 : j = 9 := by omega
     subst h9
     have HV2 : Hid (num ds2 = lv (xs.take (k + 1)) ∧ allD ds2 = true) := HE.out ds2 q HI.out
     obtain rfl : m = 9 * (n - (k + 1)) := by omega
     clear HI HI0 HE
     go_wp2
     go_roundg (n - (k + 1))
     case measure => omega
     case rel => exact ⟨k + 1, ds2, rfl, by go_num, by omega, hrow2, hbl2, HV2⟩
  ·have hkI : ¬ (k : Int) < n := by omega
   have hrow0 : RowB wr (w.heap.size + 1) (9 * n) 0 ds := by
    have := hrow
    rw [show n - k = 0 by omega] at this; exact this
   have hcv := convB wr (w.heap.size + 1) (9 * n) ds hrow0
   have hI := (HR ds).out ⟨by have := hrow0.len; omega, by
    have := HV.out.1
    rw [List.take_of_length_le (by omega)] at this; exact this, HV.out.2⟩
   have k0 := keep hbl r0
   have k1 := keep hbl r1
   have k2 := keepf hbl (p := ⟨w.heap.size, 0, none⟩) (by rw [hsW]; exact Nat.lt_succ_self _) r2
   have k3 := keepf hbl (p := ⟨w.heap.size, 1, none⟩) (by rw [hsW]; exact Nat.lt_succ_self _) r3
   have hgr : w.heap.size < wr.heap.size := by have := hbl.size; omega
   clear HV HR hrow hrow0 r0 r1 r2 r3
   generalize (⟨ds.toArray⟩ : ByteArray) = T at *
   go_wp2_with (go_at_call 44; refine (hI _).mono ?_; rintro e w5 ⟨rfl, hb5⟩; have q0 := keep hb5 k0; have q1 := keep hb5 k1; have q2 := keepf hb5 (p := ⟨w.heap.size, 0, none⟩) hgr k2; have q3 := keepf hb5 (p := ⟨w.heap.size, 1, none⟩) hgr k3)
   refine bodyPost_ret (by simp [results, Tryz.results38, go_sem, put0 q0, put1 q1]; rfl) rfl ?_
   refine ⟨rfl, ?_⟩
   have h0 : Below w.heap.size w wr := bel_call hbW hbl (Nat.le_refl _)
   have h0 := bel_call h0 hb5 (Nat.le_refl _)
   exact (h0.setCell (Nat.le_refl _) _).setCell (Nat.le_refl _) _
end Go.Proofs.YtiagjheifblkiaaGreatDoor
