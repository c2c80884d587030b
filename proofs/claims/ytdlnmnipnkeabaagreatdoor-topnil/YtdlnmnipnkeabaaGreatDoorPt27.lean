/- BSum, BPlus, BRnd, BTopB: these texts in one. -/
import Derived.Test.YtdlnmnipnkeabaaGreatDoorPt26
import Derived.Laws.CopyOwn
import Derived.Test.YtdlnmnipnkeabaaGreatDoorPt24
import Derived.Test.YtdlnmnipnkeabaaGreatDoorPt25
namespace Go.Proofs.YtdlnmnipnkeabaaGreatDoor
open Go.RowKit
set_option linter.unusedVariables false
theorem lv_lt : ∀ (xs : List Nat), (∀ x ∈ xs, x < 1000000000) → lv xs < 1000000000 ^ xs.length
 | [], _ => by simp [lv]
 | x :: l, h => by
   have h1 := lv_lt l fun y hy => h y (by simp [hy])
   have h2 := h x (by simp)
   rw [lv, List.length_cons, Nat.pow_succ]
   omega
theorem sizeU32 : (Tryz.prog.info? 164).map (·.size) = some 1 := by kernel_rfl
theorem wpList_copy_limbs {w : World} {ops : Array Oper} {rest : List Oper} {o : Oper} {a : Act} {Q : Exit → Act → World → Prop} (hgd : o.guard = none) (d s : Operand)
  (ho : o.op = .call { callee := .builtin .copy, args := #[d, s], argTypes := #[391, 391] }) (g n B c : Nat) (ao : Option Addr) (xs : List Nat)
  (hdB : a.eval d = .slice (some ⟨g, 0, none⟩) (n + 1) (n + 1)) (hs : a.eval s = .slice ao n c) (hL : Lm w B ao n c xs) (hm : n + 1 ≤ maxLen)
  (hrow : w.ownsRow g 164 1 (.slice (some ⟨g, 0, none⟩) (n + 1) (n + 1)) (n + 1) (List.replicate (n + 1) (.int .u32 0)))
  (h : ∀ w', w'.ownsRow g 164 1 (.slice (some ⟨g, 0, none⟩) (n + 1) (n + 1)) (n + 1) (cu (xs ++ [0])) → Below g w w' → wpList Tryz.prog ops Q rest (a.put o.dst (goInt n)) w') : wpList Tryz.prog ops Q (o :: rest) a w := by
 have hlen := hL.len
 rcases Nat.eq_zero_or_pos n with h0 | h0
 ·subst h0
  obtain rfl : xs = [] := List.eq_nil_of_length_eq_zero hlen
  exact wpList_copy_nothing hgd d s 391 391 ho 164 Tryz.underlying391 sizeU32 _ _ _ _ _ _ hdB hs (by simp) (h w hrow (Below.refl _ _))
 ·obtain ⟨gs, rfl, -, -⟩ := hL.head h0
  rcases hrow.2 with ⟨h1, -⟩ | ⟨g', cap, cur, h1, -, hg, k1, k2, k3, k4⟩
  ·cases h1
  ·cases h1
   have hcl : cur.toList = List.replicate (n + 1) (.int .u32 0) := by
    rw [← k4, List.take_of_length_le (by rw [Array.length_toList]; omega)]
   refine wpList_copy_own hgd d s 391 391 ho 164 Tryz.underlying391 sizeU32 g 0 _ _ ⟨gs, 0, none⟩ _ _ hdB hs cur _ hg (cu xs) (by rw [cu_len, hlen]; simp) ?_ (by rw [cu_len, hlen, k3]; omega) ?_ ?_
   ·intro j v hj
    exact hL.own.cells rfl j v hj
   ·intro v hv
    simp only [cu, List.mem_map] at hv
    obtain ⟨x, -, rfl⟩ := hv
    rfl
   ·have e : (List.take 0 cur.toList ++ (cu xs ++ cur.toList.drop (0 + (cu xs).length))) = cu (xs ++ [0]) := by
     rw [hcl, cu_len, hlen, cu_append]; simp [cu]
    rw [e, cu_len, hlen]
    refine h _ ⟨by rw [cu_len, List.length_append, hlen]; simp, .inr ⟨g, n + 1, _, rfl, Nat.le_refl _, setRow_heap w g cur _ _ _ hg, Nat.le_refl _, hm, by simp [cu, hlen], ?_⟩⟩ (below_setRow (Below.refl _ _) (Nat.le_refl _) _)
    rw [List.take_of_length_le (by simp [cu, hlen])]
structure SA (xs ys ds : List Nat) (k cy : Nat) : Prop where
 len : ds.length = k
 lim : ∀ d ∈ ds, d < 1000000000
 val : lv ds + 1000000000 ^ k * cy = lv (xs.take k) + lv (ys.take k)
theorem lv_take_succ (xs : List Nat) (k : Nat) (hk : k < xs.length) : lv (xs.take (k + 1)) = lv (xs.take k) + 1000000000 ^ k * xs.getD k 0 := by
 rw [List.take_succ_eq_append_getElem hk, lv_snoc, List.length_take, Nat.min_eq_left (by omega), List.getD_eq_getElem?_getD, List.getElem?_eq_getElem hk, Option.getD_some]
theorem lv_take_succ' (xs : List Nat) (k : Nat) : lv (xs.take (k + 1)) = lv (xs.take k) + 1000000000 ^ k * xs.getD k 0 := by
 rcases Nat.lt_or_ge k xs.length with hk | hk
 ·exact lv_take_succ xs k hk
 ·rw [List.take_of_length_le (by omega), List.take_of_length_le hk, List.getD_eq_getElem?_getD, List.getElem?_eq_none hk]; simp
theorem SA.step {xs ys ds : List Nat} {k cy t : Nat} (h : SA xs ys ds k cy) (ht : t = xs.getD k 0 + cy + ys.getD k 0) : SA xs ys (ds ++ [t % 1000000000]) (k + 1) (t / 1000000000) where
 len := by simp [h.len]
 lim := fun d hdB => by
  rcases List.mem_append.1 hdB with hdB | hdB
  ·exact h.lim d hdB
  ·simp at hdB; omega
 val := by
  rw [lv_take_succ', lv_take_succ', lv_snoc, h.len, Nat.pow_succ, Nat.mul_assoc]
  have h0 := h.val
  have e : 1000000000 ^ k * (t % 1000000000) + 1000000000 ^ k * (1000000000 * (t / 1000000000)) = 1000000000 ^ k * xs.getD k 0 + 1000000000 ^ k * cy + 1000000000 ^ k * ys.getD k 0 := by
   rw [← Nat.mul_add, Nat.mod_add_div, ht, Nat.mul_add, Nat.mul_add]
  generalize 1000000000 ^ k * (t % 1000000000) = A at *
  generalize 1000000000 ^ k * (1000000000 * (t / 1000000000)) = C at *
  generalize 1000000000 ^ k * xs.getD k 0 = D at *
  generalize 1000000000 ^ k * ys.getD k 0 = E at *
  generalize 1000000000 ^ k * cy = G at *
  omega
theorem SA.fin {xs ys ds : List Nat} {n cy : Nat} (h : SA (xs ++ [0]) ys ds (n + 1) cy) (hx : xs.length = n) (hy : ys.length ≤ n) (lx : ∀ x ∈ xs, x < 1000000000) (ly : ∀ x ∈ ys, x < 1000000000) : lv ds = lv xs + lv ys := by
 have h0 := h.val
 rw [List.take_of_length_le (by simp [hx]), List.take_of_length_le (by omega), lv_zero] at h0
 have h1 := lv_lt xs lx
 have h2 := Nat.lt_of_lt_of_le (lv_lt ys ly) (Nat.pow_le_pow_right (by omega) hy)
 rw [hx] at h1
 have hp : (1000000000 : Nat) ^ (n + 1) = 1000000000 ^ n * 1000000000 := Nat.pow_succ ..
 have : cy = 0 := by
  rcases Nat.eq_zero_or_pos cy with h | h
  ·exact h
  ·exfalso
   have h3 : 1000000000 ^ (n + 1) * 1 ≤ 1000000000 ^ (n + 1) * cy := Nat.mul_le_mul_left _ h
   rw [hp] at h3 h0
   generalize 1000000000 ^ n = A at *
   generalize A * 1000000000 * cy = C at *
   omega
 subst this
 rw [Nat.mul_zero] at h0; exact h0
theorem cells_set3 {ds rest : List Nat} {x r k : Nat} {u v : Value} (h : ds.length = k) : (((cu (ds ++ x :: rest)).set k u).set k v).set k (.int .u32 (r : Int)) = cu ((ds ++ [r]) ++ rest) := by
 subst h; simp [cu]
theorem cells_set2 {ds rest : List Nat} {x r k : Nat} {u : Value} (h : ds.length = k) : ((cu (ds ++ x :: rest)).set k u).set k (.int .u32 (r : Int)) = cu ((ds ++ [r]) ++ rest) := by
 subst h; simp [cu]
set_option maxRecDepth 1000000 in
set_option maxHeartbeats 1600000 in
theorem sum_ge (BL BS nL nS cL cS : Nat) (aoL aoS : Option Addr) (xs ys : List Nat) (w : World) (hL : Lm w BL aoL nL cL xs) (hS : Lm w BS aoS nS cS ys) (hn : nL ≤ 10000) (hLE : nS ≤ nL) :
  Calls Tryz.prog 326 #[.slice aoL nL cL, .slice aoS nS cS] w fun e w' => (∃ ao n c, e = .returned (.slice ao n c) ∧ n ≤ nL + 1 ∧ ∃ zs, Lm w' w.heap.size ao n c zs ∧ lv zs = lv xs + lv ys) ∧ Below w.heap.size w w' := by
 obtain ⟨i0, hi, hz0, hz1, hz2⟩ := info_parts infoU32
 have hxl := hL.len
 have hyl := hS.len
 have hcmp : ¬ (nL : Int) < nS := by omega
 go_enter Tryz.func326, Tryz.ntmps326
 go_wp2_with (first | (at_make; refine wpList_make_full _ rfl _ _ 391 rfl w.heap.size 164 i0 (.int .u32 0) 1 Tryz.underlying391 hi hz0 hz1 .i64 .i64 _ _ (nL + 1) rfl rfl ?c1 ?c2 ?c3 ?c4 ?c5 ?_))
 case c3 => omega
 case c4 => unfold maxLen; omega
 intro w1 hown hgrow
 have hrow : w1.ownsRow w.heap.size 164 1 (.slice (some ⟨w.heap.size, 0, none⟩) (nL + 1) (nL + 1)) (nL + 1) (List.replicate (nL + 1) (.int .u32 0)) := by
  have := hown
  first | (rw [toList_madeCells_one] at this; exact this) | (rw [show (Value.int IntKind.u32 0).cells = #[Value.int .u32 0] from rfl, Nat.mul_one, toList_madeCells_one] at this; exact this)
 have hb1 : Below w.heap.size w w1 := (Below.refl _ _).grown hgrow (Nat.le_refl _) (fun k hk => by cases hk)
 have hL1 := hL.below hb1
 clear hown hgrow hi hz0 hz1 hz2
 have hmx : nL + 1 ≤ maxLen := by unfold maxLen; omega
 go_wp2_with (refine wpList_copy_limbs rfl (.tmp 19) (.tmp 20) rfl w.heap.size nL BL cL aoL xs rfl rfl hL1 hmx hrow ?_; intro w2 hrow2 hb2)
 have hb2' : Below w.heap.size w w2 := hb1.trans hb2
 clear hrow hb1 hL1 hb2 hmx
 go_loopg [6, 24] (nL + 1) (fun g cv iv wr => ∃ (k cy : Nat) (ds : List Nat), cv = .int .u32 (cy : Int) ∧ iv = .int .i64 k ∧ k + g = nL + 1 ∧ cy ≤ 1 ∧ wr.ownsRow w.heap.size 164 1 (.slice (some ⟨w.heap.size, 0, none⟩) (nL + 1) (nL + 1)) (nL + 1) (cu (ds ++ (xs ++ [0]).drop k)) ∧ Below w.heap.size w wr ∧ Hid (SA (xs ++ [0]) ys ds k cy))
 case atStart => exact ⟨0, 0, [], rfl, rfl, Nat.zero_add _, by omega, hrow2, hb2', rfl, (fun d hdB => by cases hdB), by simp [lv]⟩
 case round =>
  obtain ⟨k, cy, ds, rfl, rfl, hkg, hcy, hrow, hbl, HV⟩ := hrel
  by_cases hk : k < nL + 1
  ·have hkI : (k : Int) < (nL : Int) + 1 := by omega
   have hkx : k < (xs ++ [0]).length := by simp [hxl]; omega
   have hdrop : (xs ++ [0]).drop k = (xs ++ [0])[k] :: (xs ++ [0]).drop (k + 1) := List.drop_eq_getElem_cons hkx
   have hgx : (xs ++ [0])[k] = (xs ++ [0]).getD k 0 := by rw [List.getD_eq_getElem?_getD, List.getElem?_eq_getElem hkx, Option.getD_some]
   rw [hgx] at hdrop
   have hx9 : (xs ++ [0]).getD k 0 < 1000000000 := by
    rw [← hgx]
    rcases List.mem_append.1 (List.getElem_mem hkx) with hm | hm
    ·exact hL.lim _ hm
    ·simp only [List.mem_singleton] at hm; omega
   have hlend : (cu (ds ++ (xs ++ [0]).drop k)).length = nL + 1 := by have := hrow.1; omega
   have hdl : ds.length = k := HV.out.len
   have hc : wr.cell? ⟨w.heap.size, k, none⟩ = some (.int .u32 (((xs ++ [0]).getD k 0 : Nat) : Int)) := by
    rw [hrow.cellAt k (by omega), hdrop]
    subst hdl
    simp [cu]
   have hf : wr.frozen? ⟨w.heap.size, k, none⟩ = false := hrow.frozenAt k
   by_cases hks : k < nS
   ·have hksI : (k : Int) < nS := by omega
    obtain ⟨gs, rfl, hBg, hgw⟩ := hS.head (by omega)
    have hy9 : ys.getD k 0 < 1000000000 := by
     have hky : k < ys.length := by omega
     rw [List.getD_eq_getElem?_getD, List.getElem?_eq_getElem hky, Option.getD_some]
     exact hS.lim _ (List.getElem_mem hky)
    have hcs : wr.cell? ⟨gs, k, none⟩ = some (.int .u32 ((ys.getD k 0 : Nat) : Int)) := keep hbl (hS.cell k hks)
    have hne : ¬ gs = w.heap.size := by omega
    have hne2 : ¬ w.heap.size = gs := by omega
    have HV2 := fun t ht => HV.out.step (t := t) ht
    have HS : Hid (∀ (u v : Value) (r : Nat), ((((wr.setCell ⟨w.heap.size, k, none⟩ u).drew.setCell ⟨w.heap.size, k, none⟩ v).setCell ⟨w.heap.size, k, none⟩ (.int .u32 (r : Int))).ownsRow w.heap.size 164 1 (.slice (some ⟨w.heap.size, 0, none⟩) (nL + 1) (nL + 1)) (nL + 1) (cu ((ds ++ [r]) ++ (xs ++ [0]).drop (k + 1))))) := fun u v r => by
     have s1 := (hrow.stored k u).1.drew
     have s2 := (s1.stored k v).1
     have s3 := (s2.stored k (.int .u32 (r : Int))).1
     rw [hdrop, cells_set3 hdl] at s3
     exact s3
    generalize (xs ++ [0]).getD k 0 = x at *
    generalize ys.getD k 0 = y at *
    have HT : Hid (SA (xs ++ [0]) ys (ds ++ [(x + cy + y) % 1000000000]) (k + 1) ((x + cy + y) / 1000000000)) := HV2 _ rfl
    obtain ⟨t, ht⟩ : ∃ t, x + cy + y = t := ⟨_, rfl⟩
    rw [ht] at HT
    have htI : (x : Int) + cy + y = (t : Int) := by omega
    have ht2 : t < 2000000000 := by omega
    have hm1 : (t : Int) % 1000000000 = ((t % 1000000000 : Nat) : Int) := by omega
    have hm2 : (t : Int) / 1000000000 = ((t / 1000000000 : Nat) : Int) := by omega
    have hc1 : t / 1000000000 ≤ 1 := by omega
    clear HV HV2 hdrop hrow hgx hlend
    generalize t % 1000000000 = r at *
    generalize t / 1000000000 = q at *
    clear ht
    go_wp2
    go_region
    go_wp2
    go_roundg (gk - 1)
    case measure => omega
    case rel => exact ⟨k + 1, q, ds ++ [r], by go_num, by go_num, by omega, hc1, HS.out _ _ r, (((hbl.setCell (Nat.le_refl _) _).drew.setCell (Nat.le_refl _) _).setCell (Nat.le_refl _) _), HT⟩
   ·have hksI : ¬ (k : Int) < nS := by omega
    have hy0 : ys.getD k 0 = 0 := by
     rw [List.getD_eq_getElem?_getD, List.getElem?_eq_none (by omega)]; rfl
    have HV2 := fun t ht => HV.out.step (t := t) ht
    rw [hy0] at HV2
    have HS : Hid (∀ (u : Value) (r : Nat), ((((wr.setCell ⟨w.heap.size, k, none⟩ u).setCell ⟨w.heap.size, k, none⟩ (.int .u32 (r : Int))).ownsRow w.heap.size 164 1 (.slice (some ⟨w.heap.size, 0, none⟩) (nL + 1) (nL + 1)) (nL + 1) (cu ((ds ++ [r]) ++ (xs ++ [0]).drop (k + 1)))))) := fun u r => by
     have s1 := (hrow.stored k u).1
     have s3 := (s1.stored k (.int .u32 (r : Int))).1
     rw [hdrop, cells_set2 hdl] at s3
     exact s3
    generalize (xs ++ [0]).getD k 0 = x at *
    have HT : Hid (SA (xs ++ [0]) ys (ds ++ [(x + cy) % 1000000000]) (k + 1) ((x + cy) / 1000000000)) := HV2 _ rfl
    obtain ⟨t, ht⟩ : ∃ t, x + cy = t := ⟨_, rfl⟩
    rw [ht] at HT
    have htI : (x : Int) + cy = (t : Int) := by omega
    have ht2 : t < 2000000000 := by omega
    have hm1 : (t : Int) % 1000000000 = ((t % 1000000000 : Nat) : Int) := by omega
    have hm2 : (t : Int) / 1000000000 = ((t / 1000000000 : Nat) : Int) := by omega
    have hc1 : t / 1000000000 ≤ 1 := by omega
    clear HV HV2 hdrop hrow hgx hlend hy0
    generalize t % 1000000000 = r at *
    generalize t / 1000000000 = q at *
    clear ht
    go_wp2
    go_roundg (gk - 1)
    case measure => omega
    case rel => exact ⟨k + 1, q, ds ++ [r], by go_num, by go_num, by omega, hc1, HS.out _ r, ((hbl.setCell (Nat.le_refl _) _).setCell (Nat.le_refl _) _), HT⟩
  ·have hkI : ¬ (k : Int) < (nL : Int) + 1 := by omega
   have hrow3 : wr.ownsRow w.heap.size 164 1 (.slice (some ⟨w.heap.size, 0, none⟩) (nL + 1) (nL + 1)) (nL + 1) (cu ds) := by
    have := hrow
    rw [List.drop_eq_nil_of_le (by simp [hxl]; omega), List.append_nil] at this
    exact this
   have HF : Hid (lv ds = lv xs + lv ys) := by
    have h1 := HV.out
    rw [show k = nL + 1 by omega] at h1
    exact h1.fin hxl (by omega) hL.lim hS.lim
   have hLd : Lm wr w.heap.size (some ⟨w.heap.size, 0, none⟩) (nL + 1) (nL + 1) ds := ⟨hrow3, HV.out.lim⟩
   have hC := cutl_any w.heap.size _ _ _ ds wr hLd (by omega)
   clear HV hrow hrow3
   go_wp2_with (go_at_call 339; refine hC.mono ?_; rintro e w5 ⟨⟨m, hm, rfl, hlm⟩, rfl⟩)
   go_ret
   exact ⟨⟨_, m, _, rfl, hm, _, hLd.cut hm, hlm.trans HF.out⟩, hbl⟩
set_option maxRecDepth 1000000 in
set_option maxHeartbeats 1600000 in
theorem sum_lt (BL BS nL nS cL cS : Nat) (aoL aoS : Option Addr) (xs ys : List Nat) (w : World) (hL : Lm w BL aoL nL cL xs) (hS : Lm w BS aoS nS cS ys) (hn : nL ≤ 10000) (hLE : nS < nL) :
  Calls Tryz.prog 326 #[.slice aoS nS cS, .slice aoL nL cL] w fun e w' => (∃ ao n c, e = .returned (.slice ao n c) ∧ n ≤ nL + 1 ∧ ∃ zs, Lm w' w.heap.size ao n c zs ∧ lv zs = lv xs + lv ys) ∧ Below w.heap.size w w' := by
 obtain ⟨i0, hi, hz0, hz1, hz2⟩ := info_parts infoU32
 have hxl := hL.len
 have hyl := hS.len
 have hcmp : (nS : Int) < nL := by omega
 go_enter Tryz.func326, Tryz.ntmps326
 go_wp2_with (first | (at_make; refine wpList_make_full _ rfl _ _ 391 rfl w.heap.size 164 i0 (.int .u32 0) 1 Tryz.underlying391 hi hz0 hz1 .i64 .i64 _ _ (nL + 1) rfl rfl ?c1 ?c2 ?c3 ?c4 ?c5 ?_))
 case c1 => omega
 case c2 => omega
 case c3 => rw [hz2]; omega
 case c4 => unfold maxLen; omega
 case c5 => exact Nat.le_refl _
 intro w1 hown hgrow
 have hrow : w1.ownsRow w.heap.size 164 1 (.slice (some ⟨w.heap.size, 0, none⟩) (nL + 1) (nL + 1)) (nL + 1) (List.replicate (nL + 1) (.int .u32 0)) := by
  have := hown
  first | (rw [toList_madeCells_one] at this; exact this) | (rw [show (Value.int IntKind.u32 0).cells = #[Value.int .u32 0] from rfl, Nat.mul_one, toList_madeCells_one] at this; exact this)
 have hb1 : Below w.heap.size w w1 := (Below.refl _ _).grown hgrow (Nat.le_refl _) (fun k hk => by cases hk)
 have hL1 := hL.below hb1
 clear hown hgrow hi hz0 hz1 hz2
 have hmx : nL + 1 ≤ maxLen := by unfold maxLen; omega
 go_wp2_with (refine wpList_copy_limbs rfl (.tmp 19) (.tmp 20) rfl w.heap.size nL BL cL aoL xs rfl rfl hL1 hmx hrow ?_; intro w2 hrow2 hb2)
 have hb2' : Below w.heap.size w w2 := hb1.trans hb2
 clear hrow hb1 hL1 hb2 hmx
 go_loopg [6, 24] (nL + 1) (fun g cv iv wr => ∃ (k cy : Nat) (ds : List Nat), cv = .int .u32 (cy : Int) ∧ iv = .int .i64 k ∧ k + g = nL + 1 ∧ cy ≤ 1 ∧ wr.ownsRow w.heap.size 164 1 (.slice (some ⟨w.heap.size, 0, none⟩) (nL + 1) (nL + 1)) (nL + 1) (cu (ds ++ (xs ++ [0]).drop k)) ∧ Below w.heap.size w wr ∧ Hid (SA (xs ++ [0]) ys ds k cy))
 case atStart => exact ⟨0, 0, [], rfl, rfl, Nat.zero_add _, by omega, hrow2, hb2', rfl, (fun d hdB => by cases hdB), by simp [lv]⟩
 case round =>
  obtain ⟨k, cy, ds, rfl, rfl, hkg, hcy, hrow, hbl, HV⟩ := hrel
  by_cases hk : k < nL + 1
  ·have hkI : (k : Int) < (nL : Int) + 1 := by omega
   have hkx : k < (xs ++ [0]).length := by simp [hxl]; omega
   have hdrop : (xs ++ [0]).drop k = (xs ++ [0])[k] :: (xs ++ [0]).drop (k + 1) := List.drop_eq_getElem_cons hkx
   have hgx : (xs ++ [0])[k] = (xs ++ [0]).getD k 0 := by rw [List.getD_eq_getElem?_getD, List.getElem?_eq_getElem hkx, Option.getD_some]
   rw [hgx] at hdrop
   have hx9 : (xs ++ [0]).getD k 0 < 1000000000 := by
    rw [← hgx]
    rcases List.mem_append.1 (List.getElem_mem hkx) with hm | hm
    ·exact hL.lim _ hm
    ·simp only [List.mem_singleton] at hm; omega
   have hlend : (cu (ds ++ (xs ++ [0]).drop k)).length = nL + 1 := by have := hrow.1; omega
   have hdl : ds.length = k := HV.out.len
   have hc : wr.cell? ⟨w.heap.size, k, none⟩ = some (.int .u32 (((xs ++ [0]).getD k 0 : Nat) : Int)) := by
    rw [hrow.cellAt k (by omega), hdrop]
    subst hdl
    simp [cu]
   have hf : wr.frozen? ⟨w.heap.size, k, none⟩ = false := hrow.frozenAt k
   by_cases hks : k < nS
   ·have hksI : (k : Int) < nS := by omega
    obtain ⟨gs, rfl, hBg, hgw⟩ := hS.head (by omega)
    have hy9 : ys.getD k 0 < 1000000000 := by
     have hky : k < ys.length := by omega
     rw [List.getD_eq_getElem?_getD, List.getElem?_eq_getElem hky, Option.getD_some]
     exact hS.lim _ (List.getElem_mem hky)
    have hcs : wr.cell? ⟨gs, k, none⟩ = some (.int .u32 ((ys.getD k 0 : Nat) : Int)) := keep hbl (hS.cell k hks)
    have hne : ¬ gs = w.heap.size := by omega
    have hne2 : ¬ w.heap.size = gs := by omega
    have HV2 := fun t ht => HV.out.step (t := t) ht
    have HS : Hid (∀ (u v : Value) (r : Nat), ((((wr.setCell ⟨w.heap.size, k, none⟩ u).drew.setCell ⟨w.heap.size, k, none⟩ v).setCell ⟨w.heap.size, k, none⟩ (.int .u32 (r : Int))).ownsRow w.heap.size 164 1 (.slice (some ⟨w.heap.size, 0, none⟩) (nL + 1) (nL + 1)) (nL + 1) (cu ((ds ++ [r]) ++ (xs ++ [0]).drop (k + 1))))) := fun u v r => by
     have s1 := (hrow.stored k u).1.drew
     have s2 := (s1.stored k v).1
     have s3 := (s2.stored k (.int .u32 (r : Int))).1
     rw [hdrop, cells_set3 hdl] at s3
     exact s3
    generalize (xs ++ [0]).getD k 0 = x at *
    generalize ys.getD k 0 = y at *
    have HT : Hid (SA (xs ++ [0]) ys (ds ++ [(x + cy + y) % 1000000000]) (k + 1) ((x + cy + y) / 1000000000)) := HV2 _ rfl
    obtain ⟨t, ht⟩ : ∃ t, x + cy + y = t := ⟨_, rfl⟩
    rw [ht] at HT
    have htI : (x : Int) + cy + y = (t : Int) := by omega
    have ht2 : t < 2000000000 := by omega
    have hm1 : (t : Int) % 1000000000 = ((t % 1000000000 : Nat) : Int) := by omega
    have hm2 : (t : Int) / 1000000000 = ((t / 1000000000 : Nat) : Int) := by omega
    have hc1 : t / 1000000000 ≤ 1 := by omega
    clear HV HV2 hdrop hrow hgx hlend
    generalize t % 1000000000 = r at *
    generalize t / 1000000000 = q at *
    clear ht
    go_wp2
    go_region
    go_wp2
    go_roundg (gk - 1)
    case measure => omega
    case rel => exact ⟨k + 1, q, ds ++ [r], by go_num, by go_num, by omega, hc1, HS.out _ _ r, (((hbl.setCell (Nat.le_refl _) _).drew.setCell (Nat.le_refl _) _).setCell (Nat.le_refl _) _), HT⟩
   ·have hksI : ¬ (k : Int) < nS := by omega
    have hy0 : ys.getD k 0 = 0 := by
     rw [List.getD_eq_getElem?_getD, List.getElem?_eq_none (by omega)]; rfl
    have HV2 := fun t ht => HV.out.step (t := t) ht
    rw [hy0] at HV2
    have HS : Hid (∀ (u : Value) (r : Nat), ((((wr.setCell ⟨w.heap.size, k, none⟩ u).setCell ⟨w.heap.size, k, none⟩ (.int .u32 (r : Int))).ownsRow w.heap.size 164 1 (.slice (some ⟨w.heap.size, 0, none⟩) (nL + 1) (nL + 1)) (nL + 1) (cu ((ds ++ [r]) ++ (xs ++ [0]).drop (k + 1)))))) := fun u r => by
     have s1 := (hrow.stored k u).1
     have s3 := (s1.stored k (.int .u32 (r : Int))).1
     rw [hdrop, cells_set2 hdl] at s3
     exact s3
    generalize (xs ++ [0]).getD k 0 = x at *
    have HT : Hid (SA (xs ++ [0]) ys (ds ++ [(x + cy) % 1000000000]) (k + 1) ((x + cy) / 1000000000)) := HV2 _ rfl
    obtain ⟨t, ht⟩ : ∃ t, x + cy = t := ⟨_, rfl⟩
    rw [ht] at HT
    have htI : (x : Int) + cy = (t : Int) := by omega
    have ht2 : t < 2000000000 := by omega
    have hm1 : (t : Int) % 1000000000 = ((t % 1000000000 : Nat) : Int) := by omega
    have hm2 : (t : Int) / 1000000000 = ((t / 1000000000 : Nat) : Int) := by omega
    have hc1 : t / 1000000000 ≤ 1 := by omega
    clear HV HV2 hdrop hrow hgx hlend hy0
    generalize t % 1000000000 = r at *
    generalize t / 1000000000 = q at *
    clear ht
    go_wp2
    go_roundg (gk - 1)
    case measure => omega
    case rel => exact ⟨k + 1, q, ds ++ [r], by go_num, by go_num, by omega, hc1, HS.out _ r, ((hbl.setCell (Nat.le_refl _) _).setCell (Nat.le_refl _) _), HT⟩
  ·have hkI : ¬ (k : Int) < (nL : Int) + 1 := by omega
   have hrow3 : wr.ownsRow w.heap.size 164 1 (.slice (some ⟨w.heap.size, 0, none⟩) (nL + 1) (nL + 1)) (nL + 1) (cu ds) := by
    have := hrow
    rw [List.drop_eq_nil_of_le (by simp [hxl]; omega), List.append_nil] at this
    exact this
   have HF : Hid (lv ds = lv xs + lv ys) := by
    have h1 := HV.out
    rw [show k = nL + 1 by omega] at h1
    exact h1.fin hxl (by omega) hL.lim hS.lim
   have hLd : Lm wr w.heap.size (some ⟨w.heap.size, 0, none⟩) (nL + 1) (nL + 1) ds := ⟨hrow3, HV.out.lim⟩
   have hC := cutl_any w.heap.size _ _ _ ds wr hLd (by omega)
   clear HV hrow hrow3
   go_wp2_with (go_at_call 339; refine hC.mono ?_; rintro e w5 ⟨⟨m, hm, rfl, hlm⟩, rfl⟩)
   go_ret
   exact ⟨⟨_, m, _, rfl, hm, _, hLd.cut hm, hlm.trans HF.out⟩, hbl⟩
end Go.Proofs.YtdlnmnipnkeabaaGreatDoor
namespace Go.Proofs.YtdlnmnipnkeabaaGreatDoor
open Go.RowKit
set_option linter.unusedVariables false
theorem sum_any (Ba Bb na nb ca cb : Nat) (a b : Option Addr) (xs ys : List Nat) (w : World) (ha : Lm w Ba a na ca xs) (hb : Lm w Bb b nb cb ys) (hna : na ≤ 5000) (hnb : nb ≤ 5000) :
  Calls Tryz.prog 326 #[.slice a na ca, .slice b nb cb] w fun e w' => (∃ ao n c, e = .returned (.slice ao n c) ∧ n ≤ 5001 ∧ ∃ zs, Lm w' w.heap.size ao n c zs ∧ lv zs = lv xs + lv ys) ∧ Below w.heap.size w w' := by
 rcases Nat.lt_or_ge na nb with h | h
 ·refine (sum_lt Bb Ba nb na cb ca b a ys xs w hb ha (by omega) h).mono ?_
  rintro e w' ⟨⟨ao, n, c, he, hn, zs, hz, hv⟩, hbl⟩
  exact ⟨⟨ao, n, c, he, by omega, zs, hz, by omega⟩, hbl⟩
 ·refine (sum_ge Ba Bb na nb ca cb a b xs ys w ha hb (by omega) h).mono ?_
  rintro e w' ⟨⟨ao, n, c, he, hn, zs, hz, hv⟩, hbl⟩
  exact ⟨⟨ao, n, c, he, by omega, zs, hz, hv⟩, hbl⟩
theorem plus_val {n1 n2 z1 z2 L : Nat} {l1 l2 last : Int} (h1 : l1 - last = z1) (h2 : l2 - last = z2) (hL : last + 10000 = L) : (n1 * 10 ^ z1 + n2 * 10 ^ z2) * 10 ^ L = n1 * 10 ^ (l1 + 10000).toNat + n2 * 10 ^ (l2 + 10000).toNat := by
 rw [Nat.add_mul, Nat.mul_assoc, Nat.mul_assoc, ← Nat.pow_add, ← Nat.pow_add, show (l1 + 10000).toNat = z1 + L by omega, show (l2 + 10000).toNat = z2 + L by omega]
theorem keepg {W w2 : World} (hb : Below W.heap.size W w2) {p : Addr} {v : Value} (h : W.cell? p = some v ∧ W.frozen? p = false) : w2.cell? p = some v ∧ w2.frozen? p = false := by
 refine ⟨keep hb h.1, ?_⟩
 have hp : p.block < W.heap.size := by
  rcases Nat.lt_or_ge p.block W.heap.size with h1 | h1
  ·exact h1
  ·have := h.1; simp [World.cell?, Array.getElem?_eq_none h1] at this
 exact (hb.frozen hp).trans h.2
def UpTo (s : ByteArray) (p last : Int) (w : World) (N : Nat) : Prop := Calls Tryz.prog 327 #[.agg #[.string s, .int .i64 p], .int .i64 last] w fun e w' => (∃ ao n c, e = .returned (.slice ao n c) ∧ n ≤ 5000 ∧ ∃ xs, Lm w' w.heap.size ao n c xs ∧ lv xs = N) ∧ Below w.heap.size w w'
set_option maxRecDepth 1000000 in
set_option maxHeartbeats 1600000 in
theorem plus_any (s1 s2 : ByteArray) (p1 p2 : Int) (w : World) (hd1 : allD s1.data.toList = true) (hd2 : allD s2.data.toList = true) (hs1 : s1.size ≤ 16000) (hs2 : s2.size ≤ 16000) (hl1 : -10000 ≤ p1 - s1.size) (hl2 : -10000 ≤ p2 - s2.size) (hp1 : p1 ≤ 6000) (hp2 : p2 ≤ 6000) :
  Calls Tryz.prog 309 #[.agg #[.string s1, .int .i64 p1], .agg #[.string s2, .int .i64 p2]] w fun e w' => e = .returned (.agg #[.string (oS (V s1.data.toList p1 + V s2.data.toList p2)), .int .i64 (oP (V s1.data.toList p1 + V s2.data.toList p2))]) ∧ Below w.heap.size w w' := by
 obtain ⟨last, hmin⟩ : ∃ last : Int, min (p1 - s1.size) (p2 - s2.size) = last := ⟨_, rfl⟩
 have hm1 : last ≤ p1 - s1.size := by omega
 have hm2 : last ≤ p2 - s2.size := by omega
 have hm0 : -10000 ≤ last := by omega
 have hm3 : last ≤ 6000 := by omega
 have hLP1 : ∀ w, Calls Tryz.prog 325 #[.agg #[.string s1, .int .i64 p1]] w fun e w' => e = .returned (.int .i64 (p1 - s1.size)) ∧ Below w.heap.size w w' := fun w => lastplace_any s1 p1 w (by omega) (by omega) (by omega)
 have hLP2 : ∀ w, Calls Tryz.prog 325 #[.agg #[.string s2, .int .i64 p2]] w fun e w' => e = .returned (.int .i64 (p2 - s2.size)) ∧ Below w.heap.size w w' := fun w => lastplace_any s2 p2 w (by omega) (by omega) (by omega)
 have hU1 : ∀ w, UpTo s1 p1 last w (num s1.data.toList * 10 ^ (p1 - s1.size - last).toNat) := fun w => by
  refine (limbsupto_any s1 p1 last w hd1 (by omega) (by omega) (by omega) (by omega) (by omega)).mono ?_
  rintro e w' ⟨⟨ao, n, c, he, hn, xs, hx, hv⟩, hbl⟩
  exact ⟨⟨ao, n, c, he, by omega, xs, hx, hv⟩, hbl⟩
 have hU2 : ∀ w, UpTo s2 p2 last w (num s2.data.toList * 10 ^ (p2 - s2.size - last).toNat) := fun w => by
  refine (limbsupto_any s2 p2 last w hd2 (by omega) (by omega) (by omega) (by omega) (by omega)).mono ?_
  rintro e w' ⟨⟨ao, n, c, he, hn, xs, hx, hv⟩, hbl⟩
  exact ⟨⟨ao, n, c, he, by omega, xs, hx, hv⟩, hbl⟩
 have HV : Hid ((num s1.data.toList * 10 ^ (p1 - s1.size - last).toNat + num s2.data.toList * 10 ^ (p2 - s2.size - last).toNat) * 10 ^ (last + 10000).toNat = V s1.data.toList p1 + V s2.data.toList p2) := by
  unfold V
  rw [list_len, list_len]
  exact plus_val (last := last) (l1 := p1 - s1.size) (l2 := p2 - s2.size) (L := (last + 10000).toNat) (by omega) (by omega) (by omega)
 generalize num s1.data.toList * 10 ^ (p1 - s1.size - last).toNat = N1 at *
 generalize num s2.data.toList * 10 ^ (p2 - s2.size - last).toNat = N2 at *
 generalize V s1.data.toList p1 + V s2.data.toList p2 = v at *
 clear hd1 hd2
 obtain ⟨W3, hW3⟩ : ∃ W3, ((w.alloc (.cells #[.string s1, .int .i64 p1] 364)).alloc (.cells #[.string s2, .int .i64 p2] 364)).alloc (.cells #[.string ⟨#[]⟩, .int .i64 0] 364) = W3 := ⟨_, rfl⟩
 have f0 : W3.cell? ⟨w.heap.size, 0, none⟩ = some (.string s1) := by rw [← hW3]; simp [go_sem]
 have f1 : W3.cell? ⟨w.heap.size, 1, none⟩ = some (.int .i64 p1) := by rw [← hW3]; simp [go_sem]
 have f2 : W3.cell? ⟨w.heap.size + 1, 0, none⟩ = some (.string s2) := by rw [← hW3]; simp [go_sem]
 have f3 : W3.cell? ⟨w.heap.size + 1, 1, none⟩ = some (.int .i64 p2) := by rw [← hW3]; simp [go_sem]
 have f4 : W3.cell? ⟨w.heap.size + 2, 0, none⟩ = some (.string ⟨#[]⟩) := by rw [← hW3]; simp [go_sem]
 have f5 : W3.cell? ⟨w.heap.size + 2, 1, none⟩ = some (.int .i64 0) := by rw [← hW3]; simp [go_sem]
 have f6 : W3.frozen? ⟨w.heap.size + 2, 0, none⟩ = false := by rw [← hW3]; simp [go_sem]
 have f7 : W3.frozen? ⟨w.heap.size + 2, 1, none⟩ = false := by rw [← hW3]; simp [go_sem]
 have hsW : W3.heap.size = w.heap.size + 3 := by rw [← hW3]; simp [go_sem]
 have hbW : Below w.heap.size w W3 := by rw [← hW3]; go_grown
 go_enter Tryz.func309, Tryz.ntmps309
 go_wp2
 refine wp_region_above W3 (Below.refl _ _) (by kernel_rfl) (by kernel_rfl) ?_
 intro hCl
 have c0 : ∀ x : Cl W3, x.w.cell? ⟨w.heap.size, 0, none⟩ = some (.string s1) := fun x => x.cell f0
 have c1 : ∀ x : Cl W3, x.w.cell? ⟨w.heap.size, 1, none⟩ = some (.int .i64 p1) := fun x => x.cell f1
 have c2 : ∀ x : Cl W3, x.w.cell? ⟨w.heap.size + 1, 0, none⟩ = some (.string s2) := fun x => x.cell f2
 have c3 : ∀ x : Cl W3, x.w.cell? ⟨w.heap.size + 1, 1, none⟩ = some (.int .i64 p2) := fun x => x.cell f3
 repeat (go_big_quiet_step ((first | (go_at_call_of 325 s1; exact Cl.call (hLP1 _)) | (go_at_call_of 325 s2; exact Cl.call (hLP2 _)))))
 refine wpQuiet_nil ?_
 intro _ hw'
 obtain ⟨y, hx⟩ := hw'
 subst hx
 have k0 := c0 y
 have k1 := c1 y
 have k2 := c2 y
 have k3 := c3 y
 have k4 := y.cell f4
 have k5 := y.cell f5
 have k6 := keepf y.below (p := ⟨w.heap.size + 2, 0, none⟩) (by rw [hsW]; simp) f6
 have k7 := keepf y.below (p := ⟨w.heap.size + 2, 1, none⟩) (by rw [hsW]; simp) f7
 have hby : Below w.heap.size w y.w := bel_call hbW y.below (Nat.le_refl _)
 have hsy : w.heap.size + 3 ≤ y.w.heap.size := by have := y.below.size; omega
 clear c0 c1 c2 c3 hCl hLP1 hLP2 hmin
 generalize y.w = w1 at *
 clear y f0 f1 f2 f3 f4 f5 f6 f7 hW3 hbW hsW
 go_wp2
 go_region_with (first
  | (go_at_call_of 327 s1; refine (hU1 _).mono ?_; rintro e wA ⟨⟨aA, nA, cA, rfl, hnA, xs, hA, hvA⟩, hbA⟩; have a2 := keep hbA (p := ⟨w.heap.size + 1, 0, none⟩) k2; have a3 := keep hbA (p := ⟨w.heap.size + 1, 1, none⟩) k3)
  | (go_at_call_of 327 s2; refine (hU2 _).mono ?_; rintro e wB ⟨⟨aB, nB, cB, rfl, hnB, ys, hB, hvB⟩, hbB⟩)
  | (go_at_call 326; refine (sum_any _ _ _ _ _ _ _ _ xs ys _ (hA.below hbB) hB hnA hnB).mono ?_; rintro e wC ⟨⟨aC, nC, cC, rfl, hnC, zs, hC, hvC⟩, hbC⟩)
  | (go_at_call 311; refine (whole_any _ _ _ _ zs last _ hC (by omega) hm0 hm3).mono ?_; rintro e wD ⟨rfl, hbD⟩; obtain ⟨q0, q2⟩ := keepg hbD (keepg hbC (keepg hbB (keepg hbA (p := ⟨w.heap.size + 2, 0, none⟩) ⟨k4, k6⟩))); obtain ⟨q1, q3⟩ := keepg hbD (keepg hbC (keepg hbB (keepg hbA (p := ⟨w.heap.size + 2, 1, none⟩) ⟨k5, k7⟩)))))
 all_goals go_wp2
 all_goals refine bodyPost_ret (by simp [results, Tryz.results309, go_sem, put0 q0, put1 q1]; rfl) rfl ?_
 all_goals
  rw [HV.out]
  refine ⟨rfl, ?_⟩
  have h0 : Below w.heap.size w w1.drew := hby.drew
  have h0 := bel_call h0 hbA (Nat.le_refl _)
  have h0 := bel_call h0 hbB (Nat.le_refl _)
  have h0 := bel_call h0 hbC (Nat.le_refl _)
  have h0 := bel_call h0 hbD (Nat.le_refl _)
  exact (h0.setCell (by dsimp only; omega) _).setCell (by dsimp only; omega) _
end Go.Proofs.YtdlnmnipnkeabaaGreatDoor
namespace Go.Proofs.YtdlnmnipnkeabaaGreatDoor
open Go.RowKit
structure Nrm (v : Nat) : Prop where
 len : (oL v).length ≤ 2000
 pt : oP v ≤ 5000
 low : -7000 ≤ oP v - (oL v).length
theorem nrm_zero : Nrm 0 := ⟨by rw [o_zero.1]; simp, by rw [o_zero.2]; decide, by rw [o_zero.1, o_zero.2]; simp⟩
theorem nrm_norm (s : ByteArray) (p : Int) : Nrm (normV s p) := by
 unfold normV
 split
 ·rename_i h
  obtain ⟨h1, h2, h3, h4⟩ := normE_zero h
  obtain ⟨f1, f2⟩ := form_o s.data.toList p h2 (by rw [list_len]; omega)
  have l1 := ltr_len s.data.toList
  have l2 := rtr_len (ltr s.data.toList)
  rw [list_len] at l1 f2
  rw [f1] at l2 f2
  refine ⟨by omega, ?_, ?_⟩
  ·by_cases he : oL (V s.data.toList p) = []
   ·rw [if_pos he] at f2; omega
   ·rw [if_neg he] at f2; omega
  ·by_cases he : oL (V s.data.toList p) = []
   ·rw [if_pos he] at f2; rw [← f2, he]; simp
   ·rw [if_neg he] at f2; omega
 ·exact nrm_zero
theorem o_val (v : Nat) : V (oL v) (oP v) = v := (o_dec v).val
theorem o_low (v : Nat) : -10000 ≤ oP v - (oL v).length := (o_dec v).low
theorem o_dig (v : Nat) : allD (oS v).data.toList = true := (o_dec v).dig
def rnd (v : Nat) (n : Int) : Nat := if n < 0 then 0 else if ((oL v).length : Int) ≤ n then v else near v (oP v - n + 10000).toNat
def plc (v : Nat) (k : Int) : Nat := rnd v (oP v + min (max k (-14000)) 14000)
def exU (m : Nat) (e : Int) : Nat := if 0 ≤ e then m * 2 ^ e.toNat * 10 ^ ((0 : Int) + 10000).toNat else m * 5 ^ (-e).toNat * 10 ^ (e + 10000).toNat
end Go.Proofs.YtdlnmnipnkeabaaGreatDoor
namespace Go.Proofs.YtdlnmnipnkeabaaGreatDoor
open Go.RowKit
set_option linter.unusedVariables false
def PlusC (S1 : ByteArray) (P1 : Int) (S2 : ByteArray) (P2 : Int) (S : ByteArray) (P : Int) : Prop := ∀ w, Calls Tryz.prog 309 #[.agg #[.string S1, .int .i64 P1], .agg #[.string S2, .int .i64 P2]] w fun e w' => e = .returned (.agg #[.string S, .int .i64 P]) ∧ Below w.heap.size w w'
end Go.Proofs.YtdlnmnipnkeabaaGreatDoor
