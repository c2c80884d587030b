/- BUpTo, BSum: these texts in one. -/
import Derived.Test.YtiagjheifblkiaaGreatDoorPt22
import Derived.Laws.CopyOwn
namespace Go.Proofs.YtiagjheifblkiaaGreatDoor
open Go.RowKit
set_option linter.unusedVariables false
theorem repeat_zero : ∀ (k : Nat), Lib.repeatL [48] k = List.replicate k 48
 | 0 => rfl
 | k + 1 => by rw [Lib.repeatL, repeat_zero k]; rfl
theorem num_zeros_app (l : List UInt8) (k : Nat) : num (l ++ List.replicate k 48) = num l * 10 ^ k := by
 rw [num_append, num_zeros, List.length_replicate, Nat.add_zero]
theorem allD_zeros (k : Nat) : allD (List.replicate k 48) = true := allD_of fun x hx => by rw [List.eq_of_mem_replicate hx]; rfl
theorem upto_step {L : List UInt8} {t a n N : Nat} {xs : List Nat} (ha : a ≤ t) (ht : t ≤ L.length) (h9 : t - a = 9 ∨ a = 0) (hx : xs.length = n) (h : num (L.take t) * 1000000000 ^ n + lv xs = N) :
  num (L.take a) * 1000000000 ^ (n + 1) + lv (xs ++ [num ((L.take t).drop a)]) = N := by
 have e : L.take t = L.take a ++ (L.take t).drop a := by
  conv => lhs; rw [← List.take_append_drop a (L.take t), List.take_take, Nat.min_eq_left ha]
 have hl : ((L.take t).drop a).length = t - a := by rw [List.length_drop, List.length_take]; omega
 have hn : num (L.take t) = num (L.take a) * 10 ^ (t - a) + num ((L.take t).drop a) := by
  conv => lhs; rw [e]
  rw [num_append, hl]
 rw [hn, Nat.add_mul] at h
 rw [lv_snoc, hx, ← h, Nat.mul_comm (1000000000 ^ n) (num ((L.take t).drop a))]
 have : num (L.take a) * 1000000000 ^ (n + 1) = num (L.take a) * 10 ^ (t - a) * 1000000000 ^ n := by
  rcases h9 with h9 | h9
  ·rw [h9, Nat.mul_assoc, Nat.pow_succ, Nat.mul_comm (1000000000 ^ n)]
  ·subst h9; simp [num]
 rw [this]
 generalize num (L.take a) * 10 ^ (t - a) * 1000000000 ^ n = A
 generalize num ((L.take t).drop a) * 1000000000 ^ n = C
 omega
theorem ext_ext (T : ByteArray) (u : ByteArray) (a : Nat) (h : u = T.extract 0 u.size) (ha : a ≤ u.size) : u.extract 0 a = T.extract 0 a := by
 apply ByteArray.ext
 apply Array.ext'
 rw [ext_list, ext_list]
 conv => lhs; rw [h, ext_list, List.take_take, Nat.min_eq_left ha]
theorem ext_size0 (u : ByteArray) (a : Nat) (h : a ≤ u.size) : (u.extract 0 a).size = a := by rw [ByteArray.size_extract]; omega
set_option maxRecDepth 1000000 in
set_option maxHeartbeats 1600000 in
theorem limbsupto_any (s : ByteArray) (p last : Int) (w : World) (hdB : allD s.data.toList = true) (hs : s.size ≤ 20000) (hp0 : -20000 ≤ p) (hp1 : p ≤ 20000) (hl : last ≤ p - s.size) (hl0 : -20000 ≤ last) :
  Calls Tryz.prog 54 #[.agg #[.string s, .int .i64 p], .int .i64 last] w fun e w' => (∃ ao n c, e = .returned (.slice ao n c) ∧ 9 * (n : Int) ≤ p - last + 8 ∧ ∃ xs, Lm w' w.heap.size ao n c xs ∧ lv xs = num s.data.toList * 10 ^ (p - s.size - last).toNat) ∧ Below w.heap.size w w' := by
 obtain ⟨i0, hi, hz0, hz1, hz2⟩ := info_parts infoU32
 obtain ⟨z, hz⟩ : ∃ z : Nat, p - s.size - last = (z : Int) := ⟨(p - s.size - last).toNat, by omega⟩
 have hLP : ∀ w, Calls Tryz.prog 52 #[.agg #[.string s, .int .i64 p]] w fun e w' => e = .returned (.int .i64 (p - s.size)) ∧ Below w.heap.size w w' := fun w => lastplace_any s p w (by omega) (by omega) (by omega)
 have hR : ∀ w, Calls Tryz.prog 70 #[.string ⟨#[48]⟩, .int .i64 (p - s.size - last)] w fun e w' => e = .returned (.string ⟨(List.replicate z 48).toArray⟩) ∧ Below w.heap.size w w' := fun w => by
  have := Tryz.strings_Repeat ⟨#[48]⟩ z w (by omega) (by show 1 * z ≤ _; omega)
  rw [hz, ← repeat_zero]; exact this
 have hzz : (⟨(List.replicate z 48).toArray⟩ : ByteArray).size = z := by rw [mk_size, List.length_replicate]
 obtain ⟨T, hT⟩ : ∃ T, s ++ (⟨(List.replicate z 48).toArray⟩ : ByteArray) = T := ⟨_, rfl⟩
 have hTl : T.data.toList = s.data.toList ++ List.replicate z 48 := by rw [← hT, app_list]
 have hTs : T.size = s.size + z := by rw [← hT, app_size, hzz]
 have HN : Hid (num T.data.toList = num s.data.toList * 10 ^ (p - s.size - last).toNat) := by
  show _ = _
  rw [hTl, num_zeros_app, hz]; rfl
 have HD : Hid (allD T.data.toList = true) := by
  show _ = _
  rw [hTl, allD_append, hdB, allD_zeros]; rfl
 have HTS : Hid ((T.size : Int) = p - last) := by show _ = _; rw [hTs]; push_cast; omega
 have hsum : ¬ 9223372036854775807 < s.size + (⟨(List.replicate z 48).toArray⟩ : ByteArray).size := by omega
 have hT1 : T.size ≤ 100000 := by omega
 clear hTl hTs hdB hz hzz
 generalize (⟨(List.replicate z 48).toArray⟩ : ByteArray) = Z at *
 go_enter Tryz.func54, Tryz.ntmps54
 go_wp2
 refine wp_region_above (w.alloc (.cells #[.string s, .int .i64 p] 31)) (Below.refl _ _) (by kernel_rfl) (by kernel_rfl) ?_
 intro hCl
 have f0 : ∀ x : Cl (w.alloc (.cells #[.string s, .int .i64 p] 31)), x.w.cell? ⟨w.heap.size, 0, none⟩ = some (.string s) := fun x => x.cell (by simp)
 have f1 : ∀ x : Cl (w.alloc (.cells #[.string s, .int .i64 p] 31)), x.w.cell? ⟨w.heap.size, 1, none⟩ = some (.int .i64 p) := fun x => x.cell (by simp)
 repeat (go_big_quiet_step ((first | (go_at_call 52; exact Cl.call (hLP _)) | (go_at_call 70; exact Cl.call (hR _)))))
 refine wpQuiet_nil ?_
 intro _ hw'
 obtain ⟨y, hx⟩ := hw'
 subst hx
 have hby : Below w.heap.size w y.w := bel_call ((Below.refl _ _).alloc (Nat.le_refl _) _) y.below (Nat.le_refl _)
 clear f0 f1 hCl
 generalize y.w = w1 at *
 clear hLP hR hT hsum y
 go_wp2
 go_loopg [5, 6] T.size (fun g tv v wr => ∃ (u : ByteArray) (n c : Nat) (ao : Option Addr) (xs : List Nat), tv = .string u ∧ v = .slice ao n c ∧ u.size = g ∧ u.size ≤ T.size ∧ 9 * n + u.size ≤ T.size + 8 ∧ (0 < u.size → 9 * n + u.size ≤ T.size) ∧ Lm wr w.heap.size ao n c xs ∧ Below w.heap.size w wr ∧ Hid (u = T.extract 0 u.size) ∧ Hid (num (T.data.toList.take u.size) * 1000000000 ^ n + lv xs = num T.data.toList))
 case atStart =>
  refine ⟨T, 0, 0, none, [], rfl, rfl, rfl, Nat.le_refl _, by omega, fun _ => by omega, Lm.nil _ _, hby, (extract_all T).symm, ?_⟩
  show _ = _
  rw [← list_len T, List.take_length]; simp [lv]
 case round =>
  obtain ⟨u, n, c, ao, xs, rfl, rfl, rfl, huT, hn8, hn9, hL, hbl, HU, HV⟩ := hrel
  by_cases hu : 0 < u.size
  ·have huI : 0 < (u.size : Int) := by omega
   have hsz := hbl.size
   have hn9' := hn9 hu
   obtain ⟨a, hmx, hau, ha9⟩ : ∃ a : Nat, max ((u.size : Int) - 9) 0 = (a : Int) ∧ a < u.size ∧ (u.size - a = 9 ∨ a = 0) ∧ u.size - a ≤ 9 := by
    rcases Nat.lt_or_ge u.size 9 with h9 | h9
    ·exact ⟨0, by omega, by omega, .inr rfl, by omega⟩
    ·exact ⟨u.size - 9, by omega, by omega, .inl (by omega), by omega⟩
   have hseg : (u.extract a u.size).data.toList = (T.data.toList.take u.size).drop a := by
    rw [tail_list]
    conv => lhs; rw [HU.out, ext_list]
   have hsegs : (u.extract a u.size).size = u.size - a := tail_size u a
   have hsegD : allD (u.extract a u.size).data.toList = true := by
    rw [hseg]; exact allD_of fun x hx => allD_mem HD.out (List.mem_of_mem_take (List.mem_of_mem_drop hx))
   have hlim : num (u.extract a u.size).data.toList < 1000000000 := by
    have := num_lt _ hsegD
    rw [list_len, hsegs] at this
    exact Nat.lt_of_lt_of_le this (Nat.pow_le_pow_right (by decide) ha9.2)
   have hLO : ∀ w, Calls Tryz.prog 71 #[.string (u.extract a u.size)] w fun e w' => e = .returned (.int .u32 ((num (u.extract a u.size).data.toList : Nat) : Int)) ∧ w' = w := fun w => limbof_any _ w hsegD (by omega)
   have HV2 : Hid (num (T.data.toList.take a) * 1000000000 ^ (n + 1) + lv (xs ++ [num (u.extract a u.size).data.toList]) = num T.data.toList) := by
    rw [hseg]
    exact upto_step (by omega) (by rw [list_len]; exact huT) ha9.1 hL.len HV.out
   have hz2' := ext_size0 u a (by omega)
   have HU2 : Hid (u.extract 0 a = T.extract 0 a) := ext_ext T u a HU.out (by omega)
   have hnum : 9 * (n + 1) + a ≤ T.size + 8 ∧ (0 < a → 9 * (n + 1) + a ≤ T.size) := by omega
   have hauI : (a : Int) ≤ u.size := by omega
   have haz : ((a : Int)).toNat = a := by omega
   clear HV HU hseg hsegD hn9 hsegs
   generalize num (u.extract a u.size).data.toList = r at *
   generalize hsg : u.extract a u.size = sg at *
   go_wp2_with (first | (go_at_call 71; refine (hLO _).mono ?_; rintro e w4 ⟨rfl, rfl⟩) | (at_builtin; refine wpList_append_own _ rfl _ _ 82 rfl w.heap.size 86 i0 (.int .u32 0) 1 4 Tryz.underlying82 hi hz0 hz1 hz2 rfl (by decide) _ _ _ rfl (hL.own.alloc _) ⟨_, 0, none⟩ 1 1 [.int .u32 (r : Int)] rfl rfl ?c1 ?c2 ?c3 ?c4 ?c5 ?_))
   case c1 =>
    intro j u hj
    match j, hj with
    | 0, hj => simp at hj; subst hj; simp [Addr.add]
   case c2 => intro u hu; simp at hu; subst hu; rfl
   case c3 => unfold maxLen; omega
   case c4 => omega
   case c5 => simp; omega
   intro v' w1 hown' hgrow _
   obtain ⟨ao', c', rfl, hL'⟩ := hL.snoc hlim hown'
   have hbl' : Below w.heap.size w w1 := (hbl.alloc hsz _).grown hgrow (by simp; omega) (own_ge hL.own)
   clear hown' hgrow hL
   go_wp2
   go_roundg a
   case measure => omega
   case rel => exact ⟨u.extract 0 a, n + 1, c', ao', xs ++ [r], rfl, rfl, hz2', by omega, by rw [hz2']; exact hnum.1, by rw [hz2']; exact hnum.2, hL', hbl', by show _ = _; rw [hz2']; exact HU2.out, by show _ = _; rw [hz2']; exact HV2.out⟩
  ·have huI : ¬ 0 < (u.size : Int) := by omega
   have hC := cutl_any w.heap.size ao n c xs wr hL (by omega)
   have hu0 : u.size ≤ 0 := by omega
   have HF : Hid (lv xs = num T.data.toList) := by
    have := HV.out
    rw [show u.size = 0 by omega] at this
    show _ = _
    simpa [num] using this
   clear HV HU hn9
   go_wp2_with (go_at_call 69; refine hC.mono ?_; rintro e w2 ⟨⟨m, hm, rfl, hlm⟩, rfl⟩)
   go_ret
   exact ⟨⟨ao, m, c, rfl, by have := HTS.out; omega, _, hL.cut hm, (hlm.trans HF.out).trans HN.out⟩, hbl⟩
end Go.Proofs.YtiagjheifblkiaaGreatDoor
namespace Go.Proofs.YtiagjheifblkiaaGreatDoor
open Go.RowKit
set_option linter.unusedVariables false
theorem lv_lt : ∀ (xs : List Nat), (∀ x ∈ xs, x < 1000000000) → lv xs < 1000000000 ^ xs.length
 | [], _ => by simp [lv]
 | x :: l, h => by
   have h1 := lv_lt l fun y hy => h y (by simp [hy])
   have h2 := h x (by simp)
   rw [lv, List.length_cons, Nat.pow_succ]
   omega
theorem sizeU32 : (Tryz.prog.info? 86).map (·.size) = some 1 := by kernel_rfl
theorem wpList_copy_limbs {w : World} {ops : Array Oper} {rest : List Oper} {o : Oper} {a : Act} {Q : Exit → Act → World → Prop} (hgd : o.guard = none) (d s : Operand)
  (ho : o.op = .call { callee := .builtin .copy, args := #[d, s], argTypes := #[82, 82] }) (g n B c : Nat) (ao : Option Addr) (xs : List Nat)
  (hdB : a.eval d = .slice (some ⟨g, 0, none⟩) (n + 1) (n + 1)) (hs : a.eval s = .slice ao n c) (hL : Lm w B ao n c xs) (hm : n + 1 ≤ maxLen)
  (hrow : w.ownsRow g 86 1 (.slice (some ⟨g, 0, none⟩) (n + 1) (n + 1)) (n + 1) (List.replicate (n + 1) (.int .u32 0)))
  (h : ∀ w', w'.ownsRow g 86 1 (.slice (some ⟨g, 0, none⟩) (n + 1) (n + 1)) (n + 1) (cu (xs ++ [0])) → Below g w w' → wpList Tryz.prog ops Q rest (a.put o.dst (goInt n)) w') : wpList Tryz.prog ops Q (o :: rest) a w := by
 have hlen := hL.len
 rcases Nat.eq_zero_or_pos n with h0 | h0
 ·subst h0
  obtain rfl : xs = [] := List.eq_nil_of_length_eq_zero hlen
  exact wpList_copy_nothing hgd d s 82 82 ho 86 Tryz.underlying82 sizeU32 _ _ _ _ _ _ hdB hs (by simp) (h w hrow (Below.refl _ _))
 ·obtain ⟨gs, rfl, -, -⟩ := hL.head h0
  rcases hrow.2 with ⟨h1, -⟩ | ⟨g', cap, cur, h1, -, hg, k1, k2, k3, k4⟩
  ·cases h1
  ·cases h1
   have hcl : cur.toList = List.replicate (n + 1) (.int .u32 0) := by
    rw [← k4, List.take_of_length_le (by rw [Array.length_toList]; omega)]
   refine wpList_copy_own hgd d s 82 82 ho 86 Tryz.underlying82 sizeU32 g 0 _ _ ⟨gs, 0, none⟩ _ _ hdB hs cur _ hg (cu xs) (by rw [cu_len, hlen]; simp) ?_ (by rw [cu_len, hlen, k3]; omega) ?_ ?_
   ·intro j v hj
    exact hL.own.cells rfl j v hj
   ·intro v hv
    simp only [cu, List.mem_map] at hv
    obtain ⟨x, -, rfl⟩ := hv
    rfl
   ·have e : (List.take 0 cur.toList ++ (cu xs ++ cur.toList.drop (0 + (cu xs).length))) = cu (xs ++ [0]) := by
     rw [hcl, cu_len, hlen, cu_append]; simp [cu]
    rw [e, cu_len, hlen]
    refine h _ ⟨by rw [cu_len, List.length_append, hlen]; simp, .inr ⟨g, n + 1, _, rfl, Nat.le_refl _, setRow_heap w g cur _ _ _ hg, Nat.le_refl _, hm, by simp [cu, hlen], ?_⟩⟩ (below_setRow (Below.refl _ _) (Nat.le_refl _) _)
    rw [List.take_of_length_le (by simp [cu, hlen])]
structure SA (xs ys ds : List Nat) (k cy : Nat) : Prop where
 len : ds.length = k
 lim : ∀ d ∈ ds, d < 1000000000
 val : lv ds + 1000000000 ^ k * cy = lv (xs.take k) + lv (ys.take k)
theorem lv_take_succ (xs : List Nat) (k : Nat) (hk : k < xs.length) : lv (xs.take (k + 1)) = lv (xs.take k) + 1000000000 ^ k * xs.getD k 0 := by
 rw [List.take_succ_eq_append_getElem hk, lv_snoc, List.length_take, Nat.min_eq_left (by omega), List.getD_eq_getElem?_getD, List.getElem?_eq_getElem hk, Option.getD_some]
theorem lv_take_succ' (xs : List Nat) (k : Nat) : lv (xs.take (k + 1)) = lv (xs.take k) + 1000000000 ^ k * xs.getD k 0 := by
 rcases Nat.lt_or_ge k xs.length with hk | hk
 ·exact lv_take_succ xs k hk
 ·rw [List.take_of_length_le (by omega), List.take_of_length_le hk, List.getD_eq_getElem?_getD, List.getElem?_eq_none hk]; simp
theorem SA.step {xs ys ds : List Nat} {k cy t : Nat} (h : SA xs ys ds k cy) (ht : t = xs.getD k 0 + cy + ys.getD k 0) : SA xs ys (ds ++ [t % 1000000000]) (k + 1) (t / 1000000000) where
 len := by simp [h.len]
 lim := fun d hdB => by
  rcases List.mem_append.1 hdB with hdB | hdB
  ·exact h.lim d hdB
  ·simp at hdB; omega
 val := by
  rw [lv_take_succ', lv_take_succ', lv_snoc, h.len, Nat.pow_succ, Nat.mul_assoc]
  have h0 := h.val
  have e : 1000000000 ^ k * (t % 1000000000) + 1000000000 ^ k * (1000000000 * (t / 1000000000)) = 1000000000 ^ k * xs.getD k 0 + 1000000000 ^ k * cy + 1000000000 ^ k * ys.getD k 0 := by
   rw [← Nat.mul_add, Nat.mod_add_div, ht, Nat.mul_add, Nat.mul_add]
  generalize 1000000000 ^ k * (t % 1000000000) = A at *
  generalize 1000000000 ^ k * (1000000000 * (t / 1000000000)) = C at *
  generalize 1000000000 ^ k * xs.getD k 0 = D at *
  generalize 1000000000 ^ k * ys.getD k 0 = E at *
  generalize 1000000000 ^ k * cy = G at *
  omega
theorem SA.fin {xs ys ds : List Nat} {n cy : Nat} (h : SA (xs ++ [0]) ys ds (n + 1) cy) (hx : xs.length = n) (hy : ys.length ≤ n) (lx : ∀ x ∈ xs, x < 1000000000) (ly : ∀ x ∈ ys, x < 1000000000) : lv ds = lv xs + lv ys := by
 have h0 := h.val
 rw [List.take_of_length_le (by simp [hx]), List.take_of_length_le (by omega), lv_zero] at h0
 have h1 := lv_lt xs lx
 have h2 := Nat.lt_of_lt_of_le (lv_lt ys ly) (Nat.pow_le_pow_right (by omega) hy)
 rw [hx] at h1
 have hp : (1000000000 : Nat) ^ (n + 1) = 1000000000 ^ n * 1000000000 := Nat.pow_succ ..
 have : cy = 0 := by
  rcases Nat.eq_zero_or_pos cy with h | h
  ·exact h
  ·exfalso
   have h3 : 1000000000 ^ (n + 1) * 1 ≤ 1000000000 ^ (n + 1) * cy := Nat.mul_le_mul_left _ h
   rw [hp] at h3 h0
   generalize 1000000000 ^ n = A at *
   generalize A * 1000000000 * cy = C at *
   omega
 subst this
 rw [Nat.mul_zero] at h0; exact h0
theorem cells_set3 {ds rest : List Nat} {x r k : Nat} {u v : Value} (h : ds.length = k) : (((cu (ds ++ x :: rest)).set k u).set k v).set k (.int .u32 (r : Int)) = cu ((ds ++ [r]) ++ rest) := by
 subst h; simp [cu]
theorem cells_set2 {ds rest : List Nat} {x r k : Nat} {u : Value} (h : ds.length = k) : ((cu (ds ++ x :: rest)).set k u).set k (.int .u32 (r : Int)) = cu ((ds ++ [r]) ++ rest) := by
 subst h; simp [cu]
set_option maxRecDepth 1000000 in
set_option maxHeartbeats 1600000 in
theorem sum_ge (BL BS nL nS cL cS : Nat) (aoL aoS : Option Addr) (xs ys : List Nat) (w : World) (hL : Lm w BL aoL nL cL xs) (hS : Lm w BS aoS nS cS ys) (hn : nL ≤ 10000) (hLE : nS ≤ nL) :
  Calls Tryz.prog 53 #[.slice aoL nL cL, .slice aoS nS cS] w fun e w' => (∃ ao n c, e = .returned (.slice ao n c) ∧ n ≤ nL + 1 ∧ ∃ zs, Lm w' w.heap.size ao n c zs ∧ lv zs = lv xs + lv ys) ∧ Below w.heap.size w w' := by
 obtain ⟨i0, hi, hz0, hz1, hz2⟩ := info_parts infoU32
 have hxl := hL.len
 have hyl := hS.len
 have hcmp : ¬ (nL : Int) < nS := by omega
 go_enter Tryz.func53, Tryz.ntmps53
 go_wp2_with (first | (at_make; refine wpList_make_full _ rfl _ _ 82 rfl w.heap.size 86 i0 (.int .u32 0) 1 Tryz.underlying82 hi hz0 hz1 .i64 .i64 _ _ (nL + 1) rfl rfl ?c1 ?c2 ?c3 ?c4 ?c5 ?_))
 case c3 => omega
 case c4 => unfold maxLen; omega
 intro w1 hown hgrow
 have hrow : w1.ownsRow w.heap.size 86 1 (.slice (some ⟨w.heap.size, 0, none⟩) (nL + 1) (nL + 1)) (nL + 1) (List.replicate (nL + 1) (.int .u32 0)) := by
  have := hown
  first | (rw [toList_madeCells_one] at this; exact this) | (rw [show (Value.int IntKind.u32 0).cells = #[Value.int .u32 0] from rfl, Nat.mul_one, toList_madeCells_one] at this; exact this)
 have hb1 : Below w.heap.size w w1 := (Below.refl _ _).grown hgrow (Nat.le_refl _) (fun k hk => by cases hk)
 have hL1 := hL.below hb1
 clear hown hgrow hi hz0 hz1 hz2
 have hmx : nL + 1 ≤ maxLen := by unfold maxLen; omega
 go_wp2_with (refine wpList_copy_limbs rfl (.tmp 19) (.tmp 20) rfl w.heap.size nL BL cL aoL xs rfl rfl hL1 hmx hrow ?_; intro w2 hrow2 hb2)
 have hb2' : Below w.heap.size w w2 := hb1.trans hb2
 clear hrow hb1 hL1 hb2 hmx
 go_loopg [6, 24] (nL + 1) (fun g cv iv wr => ∃ (k cy : Nat) (ds : List Nat), cv = .int .u32 (cy : Int) ∧ iv = .int .i64 k ∧ k + g = nL + 1 ∧ cy ≤ 1 ∧ wr.ownsRow w.heap.size 86 1 (.slice (some ⟨w.heap.size, 0, none⟩) (nL + 1) (nL + 1)) (nL + 1) (cu (ds ++ (xs ++ [0]).drop k)) ∧ Below w.heap.size w wr ∧ Hid (SA (xs ++ [0]) ys ds k cy))
 case atStart => exact ⟨0, 0, [], rfl, rfl, Nat.zero_add _, by omega, hrow2, hb2', rfl, (fun d hdB => by cases hdB), by simp [lv]⟩
 case round =>
  obtain ⟨k, cy, ds, rfl, rfl, hkg, hcy, hrow, hbl, HV⟩ := hrel
  by_cases hk : k < nL + 1
  ·have hkI : (k : Int) < (nL : Int) + 1 := by omega
   have hkx : k < (xs ++ [0]).length := by simp [hxl]; omega
   have hdrop : (xs ++ [0]).drop k = (xs ++ [0])[k] :: (xs ++ [0]).drop (k + 1) := List.drop_eq_getElem_cons hkx
   have hgx : (xs ++ [0])[k] = (xs ++ [0]).getD k 0 := by rw [List.getD_eq_getElem?_getD, List.getElem?_eq_getElem hkx, Option.getD_some]
   rw [hgx] at hdrop
   have hx9 : (xs ++ [0]).getD k 0 < 1000000000 := by
    rw [← hgx]
    rcases List.mem_append.1 (List.getElem_mem hkx) with hm | hm
    ·exact hL.lim _ hm
    ·simp only [List.mem_singleton] at hm; omega
   have hlend : (cu (ds ++ (xs ++ [0]).drop k)).length = nL + 1 := by have := hrow.1; omega
   have hdl : ds.length = k := HV.out.len
   have hc : wr.cell? ⟨w.heap.size, k, none⟩ = some (.int .u32 (((xs ++ [0]).getD k 0 : Nat) : Int)) := by
    rw [hrow.cellAt k (by omega), hdrop]
    subst hdl
    simp [cu]
   have hf : wr.frozen? ⟨w.heap.size, k, none⟩ = false := hrow.frozenAt k
   by_cases hks : k < nS
   ·have hksI : (k : Int) < nS := by omega
    obtain ⟨gs, rfl, hBg, hgw⟩ := hS.head (by omega)
    have hy9 : ys.getD k 0 < 1000000000 := by
     have hky : k < ys.length := by omega
     rw [List.getD_eq_getElem?_getD, List.getElem?_eq_getElem hky, Option.getD_some]
     exact hS.lim _ (List.getElem_mem hky)
    have hcs : wr.cell? ⟨gs, k, none⟩ = some (.int .u32 ((ys.getD k 0 : Nat) : Int)) := keep hbl (hS.cell k hks)
    have hne : ¬ gs = w.heap.size := by omega
    have hne2 : ¬ w.heap.size = gs := by omega
    have HV2 := fun t ht => HV.out.step (t := t) ht
    have HS : Hid (∀ (u v : Value) (r : Nat), ((((wr.setCell ⟨w.heap.size, k, none⟩ u).drew.setCell ⟨w.heap.size, k, none⟩ v).setCell ⟨w.heap.size, k, none⟩ (.int .u32 (r : Int))).ownsRow w.heap.size 86 1 (.slice (some ⟨w.heap.size, 0, none⟩) (nL + 1) (nL + 1)) (nL + 1) (cu ((ds ++ [r]) ++ (xs ++ [0]).drop (k + 1))))) := fun u v r => by
     have s1 := (hrow.stored k u).1.drew
     have s2 := (s1.stored k v).1
     have s3 := (s2.stored k (.int .u32 (r : Int))).1
     rw [hdrop, cells_set3 hdl] at s3
     exact s3
    generalize (xs ++ [0]).getD k 0 = x at *
    generalize ys.getD k 0 = y at *
    have HT : Hid (SA (xs ++ [0]) ys (ds ++ [(x + cy + y) % 1000000000]) (k + 1) ((x + cy + y) / 1000000000)) := HV2 _ rfl
    obtain ⟨t, ht⟩ : ∃ t, x + cy + y = t := ⟨_, rfl⟩
    rw [ht] at HT
    have htI : (x : Int) + cy + y = (t : Int) := by omega
    have ht2 : t < 2000000000 := by omega
    have hm1 : (t : Int) % 1000000000 = ((t % 1000000000 : Nat) : Int) := by omega
    have hm2 : (t : Int) / 1000000000 = ((t / 1000000000 : Nat) : Int) := by omega
    have hc1 : t / 1000000000 ≤ 1 := by omega
    clear HV HV2 hdrop hrow hgx hlend
    generalize t % 1000000000 = r at *
    generalize t / 1000000000 = q at *
    clear ht
    go_wp2
    go_region
    go_wp2
    go_roundg (gk - 1)
    case measure => omega
    case rel => exact ⟨k + 1, q, ds ++ [r], by go_num, by go_num, by omega, hc1, HS.out _ _ r, (((hbl.setCell (Nat.le_refl _) _).drew.setCell (Nat.le_refl _) _).setCell (Nat.le_refl _) _), HT⟩
   ·have hksI : ¬ (k : Int) < nS := by omega
    have hy0 : ys.getD k 0 = 0 := by
     rw [List.getD_eq_getElem?_getD, List.getElem?_eq_none (by omega)]; rfl
    have HV2 := fun t ht => HV.out.step (t := t) ht
    rw [hy0] at HV2
    have HS : Hid (∀ (u : Value) (r : Nat), ((((wr.setCell ⟨w.heap.size, k, none⟩ u).setCell ⟨w.heap.size, k, none⟩ (.int .u32 (r : Int))).ownsRow w.heap.size 86 1 (.slice (some ⟨w.heap.size, 0, none⟩) (nL + 1) (nL + 1)) (nL + 1) (cu ((ds ++ [r]) ++ (xs ++ [0]).drop (k + 1)))))) := fun u r => by
     have s1 := (hrow.stored k u).1
     have s3 := (s1.stored k (.int .u32 (r : Int))).1
     rw [hdrop, cells_set2 hdl] at s3
     exact s3
    generalize (xs ++ [0]).getD k 0 = x at *
    have HT : Hid (SA (xs ++ [0]) ys (ds ++ [(x + cy) % 1000000000]) (k + 1) ((x + cy) / 1000000000)) := HV2 _ rfl
    obtain ⟨t, ht⟩ : ∃ t, x + cy = t := ⟨_, rfl⟩
    rw [ht] at HT
    have htI : (x : Int) + cy = (t : Int) := by omega
    have ht2 : t < 2000000000 := by omega
    have hm1 : (t : Int) % 1000000000 = ((t % 1000000000 : Nat) : Int) := by omega
    have hm2 : (t : Int) / 1000000000 = ((t / 1000000000 : Nat) : Int) := by omega
    have hc1 : t / 1000000000 ≤ 1 := by omega
    clear HV HV2 hdrop hrow hgx hlend hy0
    generalize t % 1000000000 = r at *
    generalize t / 1000000000 = q at *
    clear ht
    go_wp2
    go_roundg (gk - 1)
    case measure => omega
    case rel => exact ⟨k + 1, q, ds ++ [r], by go_num, by go_num, by omega, hc1, HS.out _ r, ((hbl.setCell (Nat.le_refl _) _).setCell (Nat.le_refl _) _), HT⟩
  ·have hkI : ¬ (k : Int) < (nL : Int) + 1 := by omega
   have hrow3 : wr.ownsRow w.heap.size 86 1 (.slice (some ⟨w.heap.size, 0, none⟩) (nL + 1) (nL + 1)) (nL + 1) (cu ds) := by
    have := hrow
    rw [List.drop_eq_nil_of_le (by simp [hxl]; omega), List.append_nil] at this
    exact this
   have HF : Hid (lv ds = lv xs + lv ys) := by
    have h1 := HV.out
    rw [show k = nL + 1 by omega] at h1
    exact h1.fin hxl (by omega) hL.lim hS.lim
   have hLd : Lm wr w.heap.size (some ⟨w.heap.size, 0, none⟩) (nL + 1) (nL + 1) ds := ⟨hrow3, HV.out.lim⟩
   have hC := cutl_any w.heap.size _ _ _ ds wr hLd (by omega)
   clear HV hrow hrow3
   go_wp2_with (go_at_call 69; refine hC.mono ?_; rintro e w5 ⟨⟨m, hm, rfl, hlm⟩, rfl⟩)
   go_ret
   exact ⟨⟨_, m, _, rfl, hm, _, hLd.cut hm, hlm.trans HF.out⟩, hbl⟩
set_option maxRecDepth 1000000 in
set_option maxHeartbeats 1600000 in
theorem sum_lt (BL BS nL nS cL cS : Nat) (aoL aoS : Option Addr) (xs ys : List Nat) (w : World) (hL : Lm w BL aoL nL cL xs) (hS : Lm w BS aoS nS cS ys) (hn : nL ≤ 10000) (hLE : nS < nL) :
  Calls Tryz.prog 53 #[.slice aoS nS cS, .slice aoL nL cL] w fun e w' => (∃ ao n c, e = .returned (.slice ao n c) ∧ n ≤ nL + 1 ∧ ∃ zs, Lm w' w.heap.size ao n c zs ∧ lv zs = lv xs + lv ys) ∧ Below w.heap.size w w' := by
 obtain ⟨i0, hi, hz0, hz1, hz2⟩ := info_parts infoU32
 have hxl := hL.len
 have hyl := hS.len
 have hcmp : (nS : Int) < nL := by omega
 go_enter Tryz.func53, Tryz.ntmps53
 go_wp2_with (first | (at_make; refine wpList_make_full _ rfl _ _ 82 rfl w.heap.size 86 i0 (.int .u32 0) 1 Tryz.underlying82 hi hz0 hz1 .i64 .i64 _ _ (nL + 1) rfl rfl ?c1 ?c2 ?c3 ?c4 ?c5 ?_))
 case c1 => omega
 case c2 => omega
 case c3 => rw [hz2]; omega
 case c4 => unfold maxLen; omega
 case c5 => exact Nat.le_refl _
 intro w1 hown hgrow
 have hrow : w1.ownsRow w.heap.size 86 1 (.slice (some ⟨w.heap.size, 0, none⟩) (nL + 1) (nL + 1)) (nL + 1) (List.replicate (nL + 1) (.int .u32 0)) := by
  have := hown
  first | (rw [toList_madeCells_one] at this; exact this) | (rw [show (Value.int IntKind.u32 0).cells = #[Value.int .u32 0] from rfl, Nat.mul_one, toList_madeCells_one] at this; exact this)
 have hb1 : Below w.heap.size w w1 := (Below.refl _ _).grown hgrow (Nat.le_refl _) (fun k hk => by cases hk)
 have hL1 := hL.below hb1
 clear hown hgrow hi hz0 hz1 hz2
 have hmx : nL + 1 ≤ maxLen := by unfold maxLen; omega
 go_wp2_with (refine wpList_copy_limbs rfl (.tmp 19) (.tmp 20) rfl w.heap.size nL BL cL aoL xs rfl rfl hL1 hmx hrow ?_; intro w2 hrow2 hb2)
 have hb2' : Below w.heap.size w w2 := hb1.trans hb2
 clear hrow hb1 hL1 hb2 hmx
 go_loopg [6, 24] (nL + 1) (fun g cv iv wr => ∃ (k cy : Nat) (ds : List Nat), cv = .int .u32 (cy : Int) ∧ iv = .int .i64 k ∧ k + g = nL + 1 ∧ cy ≤ 1 ∧ wr.ownsRow w.heap.size 86 1 (.slice (some ⟨w.heap.size, 0, none⟩) (nL + 1) (nL + 1)) (nL + 1) (cu (ds ++ (xs ++ [0]).drop k)) ∧ Below w.heap.size w wr ∧ Hid (SA (xs ++ [0]) ys ds k cy))
 case atStart => exact ⟨0, 0, [], rfl, rfl, Nat.zero_add _, by omega, hrow2, hb2', rfl, (fun d hdB => by cases hdB), by simp [lv]⟩
 case round =>
  obtain ⟨k, cy, ds, rfl, rfl, hkg, hcy, hrow, hbl, HV⟩ := hrel
  by_cases hk : k < nL + 1
  ·have hkI : (k : Int) < (nL : Int) + 1 := by omega
   have hkx : k < (xs ++ [0]).length := by simp [hxl]; omega
   have hdrop : (xs ++ [0]).drop k = (xs ++ [0])[k] :: (xs ++ [0]).drop (k + 1) := List.drop_eq_getElem_cons hkx
   have hgx : (xs ++ [0])[k] = (xs ++ [0]).getD k 0 := by rw [List.getD_eq_getElem?_getD, List.getElem?_eq_getElem hkx, Option.getD_some]
   rw [hgx] at hdrop
   have hx9 : (xs ++ [0]).getD k 0 < 1000000000 := by
    rw [← hgx]
    rcases List.mem_append.1 (List.getElem_mem hkx) with hm | hm
    ·exact hL.lim _ hm
    ·simp only [List.mem_singleton] at hm; omega
   have hlend : (cu (ds ++ (xs ++ [0]).drop k)).length = nL + 1 := by have := hrow.1; omega
   have hdl : ds.length = k := HV.out.len
   have hc : wr.cell? ⟨w.heap.size, k, none⟩ = some (.int .u32 (((xs ++ [0]).getD k 0 : Nat) : Int)) := by
    rw [hrow.cellAt k (by omega), hdrop]
    subst hdl
    simp [cu]
   have hf : wr.frozen? ⟨w.heap.size, k, none⟩ = false := hrow.frozenAt k
   by_cases hks : k < nS
   ·have hksI : (k : Int) < nS := by omega
    obtain ⟨gs, rfl, hBg, hgw⟩ := hS.head (by omega)
    have hy9 : ys.getD k 0 < 1000000000 := by
     have hky : k < ys.length := by omega
     rw [List.getD_eq_getElem?_getD, List.getElem?_eq_getElem hky, Option.getD_some]
     exact hS.lim _ (List.getElem_mem hky)
    have hcs : wr.cell? ⟨gs, k, none⟩ = some (.int .u32 ((ys.getD k 0 : Nat) : Int)) := keep hbl (hS.cell k hks)
    have hne : ¬ gs = w.heap.size := by omega
    have hne2 : ¬ w.heap.size = gs := by omega
    have HV2 := fun t ht => HV.out.step (t := t) ht
    have HS : Hid (∀ (u v : Value) (r : Nat), ((((wr.setCell ⟨w.heap.size, k, none⟩ u).drew.setCell ⟨w.heap.size, k, none⟩ v).setCell ⟨w.heap.size, k, none⟩ (.int .u32 (r : Int))).ownsRow w.heap.size 86 1 (.slice (some ⟨w.heap.size, 0, none⟩) (nL + 1) (nL + 1)) (nL + 1) (cu ((ds ++ [r]) ++ (xs ++ [0]).drop (k + 1))))) := fun u v r => by
     have s1 := (hrow.stored k u).1.drew
     have s2 := (s1.stored k v).1
     have s3 := (s2.stored k (.int .u32 (r : Int))).1
     rw [hdrop, cells_set3 hdl] at s3
     exact s3
    generalize (xs ++ [0]).getD k 0 = x at *
    generalize ys.getD k 0 = y at *
    have HT : Hid (SA (xs ++ [0]) ys (ds ++ [(x + cy + y) % 1000000000]) (k + 1) ((x + cy + y) / 1000000000)) := HV2 _ rfl
    obtain ⟨t, ht⟩ : ∃ t, x + cy + y = t := ⟨_, rfl⟩
    rw [ht] at HT
    have htI : (x : Int) + cy + y = (t : Int) := by omega
    have ht2 : t < 2000000000 := by omega
    have hm1 : (t : Int) % 1000000000 = ((t % 1000000000 : Nat) : Int) := by omega
    have hm2 : (t : Int) / 1000000000 = ((t / 1000000000 : Nat) : Int) := by omega
    have hc1 : t / 1000000000 ≤ 1 := by omega
    clear HV HV2 hdrop hrow hgx hlend
    generalize t % 1000000000 = r at *
    generalize t / 1000000000 = q at *
    clear ht
    go_wp2
    go_region
    go_wp2
    go_roundg (gk - 1)
    case measure => omega
    case rel => exact ⟨k + 1, q, ds ++ [r], by go_num, by go_num, by omega, hc1, HS.out _ _ r, (((hbl.setCell (Nat.le_refl _) _).drew.setCell (Nat.le_refl _) _).setCell (Nat.le_refl _) _), HT⟩
   ·have hksI : ¬ (k : Int) < nS := by omega
    have hy0 : ys.getD k 0 = 0 := by
     rw [List.getD_eq_getElem?_getD, List.getElem?_eq_none (by omega)]; rfl
    have HV2 := fun t ht => HV.out.step (t := t) ht
    rw [hy0] at HV2
    have HS : Hid (∀ (u : Value) (r : Nat), ((((wr.setCell ⟨w.heap.size, k, none⟩ u).setCell ⟨w.heap.size, k, none⟩ (.int .u32 (r : Int))).ownsRow w.heap.size 86 1 (.slice (some ⟨w.heap.size, 0, none⟩) (nL + 1) (nL + 1)) (nL + 1) (cu ((ds ++ [r]) ++ (xs ++ [0]).drop (k + 1)))))) := fun u r => by
     have s1 := (hrow.stored k u).1
     have s3 := (s1.stored k (.int .u32 (r : Int))).1
     rw [hdrop, cells_set2 hdl] at s3
     exact s3
    generalize (xs ++ [0]).getD k 0 = x at *
    have HT : Hid (SA (xs ++ [0]) ys (ds ++ [(x + cy) % 1000000000]) (k + 1) ((x + cy) / 1000000000)) := HV2 _ rfl
    obtain ⟨t, ht⟩ : ∃ t, x + cy = t := ⟨_, rfl⟩
    rw [ht] at HT
    have htI : (x : Int) + cy = (t : Int) := by omega
    have ht2 : t < 2000000000 := by omega
    have hm1 : (t : Int) % 1000000000 = ((t % 1000000000 : Nat) : Int) := by omega
    have hm2 : (t : Int) / 1000000000 = ((t / 1000000000 : Nat) : Int) := by omega
    have hc1 : t / 1000000000 ≤ 1 := by omega
    clear HV HV2 hdrop hrow hgx hlend hy0
    generalize t % 1000000000 = r at *
    generalize t / 1000000000 = q at *
    clear ht
    go_wp2
    go_roundg (gk - 1)
    case measure => omega
    case rel => exact ⟨k + 1, q, ds ++ [r], by go_num, by go_num, by omega, hc1, HS.out _ r, ((hbl.setCell (Nat.le_refl _) _).setCell (Nat.le_refl _) _), HT⟩
  ·have hkI : ¬ (k : Int) < (nL : Int) + 1 := by omega
   have hrow3 : wr.ownsRow w.heap.size 86 1 (.slice (some ⟨w.heap.size, 0, none⟩) (nL + 1) (nL + 1)) (nL + 1) (cu ds) := by
    have := hrow
    rw [List.drop_eq_nil_of_le (by simp [hxl]; omega), List.append_nil] at this
    exact this
   have HF : Hid (lv ds = lv xs + lv ys) := by
    have h1 := HV.out
    rw [show k = nL + 1 by omega] at h1
    exact h1.fin hxl (by omega) hL.lim hS.lim
   have hLd : Lm wr w.heap.size (some ⟨w.heap.size, 0, none⟩) (nL + 1) (nL + 1) ds := ⟨hrow3, HV.out.lim⟩
   have hC := cutl_any w.heap.size _ _ _ ds wr hLd (by omega)
   clear HV hrow hrow3
   go_wp2_with (go_at_call 69; refine hC.mono ?_; rintro e w5 ⟨⟨m, hm, rfl, hlm⟩, rfl⟩)
   go_ret
   exact ⟨⟨_, m, _, rfl, hm, _, hLd.cut hm, hlm.trans HF.out⟩, hbl⟩
end Go.Proofs.YtiagjheifblkiaaGreatDoor
