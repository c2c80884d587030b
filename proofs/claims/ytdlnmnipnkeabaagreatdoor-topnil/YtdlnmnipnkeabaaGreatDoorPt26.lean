/- BWhole, BUpTo: these texts in one. -/
import Derived.Test.YtdlnmnipnkeabaaGreatDoorPt25
namespace Go.Proofs.YtdlnmnipnkeabaaGreatDoor
open Go.RowKit
set_option linter.unusedVariables false
theorem infoU8 : (Tryz.prog.info? 5).map (fun i => (i.zero, i.size, i.bytes)) = some (some (.int .u8 0), 1, 1) := by kernel_rfl
def cb (l : List UInt8) : List Value := l.map fun x : UInt8 => Value.int .u8 ((x.toNat : Nat) : Int)
theorem cb_len (l : List UInt8) : (cb l).length = l.length := by simp [cb]
def RowB (w : World) (g N m : Nat) (ds : List UInt8) : Prop := w.ownsRow g 5 1 (.slice (some ⟨g, 0, none⟩) N N) N (List.replicate m (.int .u8 0) ++ cb ds)
theorem RowB.len {w : World} {g N m : Nat} {ds : List UInt8} (h : RowB w g N m ds) : m + ds.length = N := by
 have := h.1
 rw [List.length_append, List.length_replicate, cb_len] at this; omega
theorem RowB.cell {w : World} {g N m : Nat} {ds : List UInt8} (h : RowB w g N (m + 1) ds) : w.cell? ⟨g, m, none⟩ = some (.int .u8 0) := by
 have hl := h.len
 rw [World.ownsRow.cellAt h m (by omega), List.getElem?_append_left (by simp)]
 simp
theorem RowB.froz {w : World} {g N m : Nat} {ds : List UInt8} (h : RowB w g N m ds) (j : Nat) : w.frozen? ⟨g, j, none⟩ = false := World.ownsRow.frozenAt h j
theorem RowB.put {w : World} {g N m : Nat} {ds : List UInt8} (h : RowB w g N (m + 1) ds) (x : UInt8) : RowB (w.setCell ⟨g, m, none⟩ (.int .u8 ((x.toNat : Nat) : Int))) g N m (x :: ds) := by
 have := (World.ownsRow.stored h m (.int .u8 ((x.toNat : Nat) : Int))).1
 unfold RowB
 have e : (List.replicate (m + 1) (Value.int .u8 0) ++ cb ds).set m (.int .u8 ((x.toNat : Nat) : Int)) = List.replicate m (.int .u8 0) ++ cb (x :: ds) := by
  rw [List.replicate_succ', List.append_assoc, List.set_append_right _ _ (by simp)]
  simp [cb]
 rw [e] at this
 exact this
theorem convB (W : World) (g N : Nat) (ds : List UInt8) (h : RowB W g N 0 ds) :
  (convert 47 9 (.slice (some ⟨g, 0, none⟩) N N)).run Tryz.prog W = .ok (.string ⟨ds.toArray⟩) W := by
 have hl := h.len
 have := run_convert_bytes_arg W 47 5 Tryz.underlying47 Tryz.underlying5 g 0 N N (ds.map fun x => (x.toNat : Int)) (by simp; omega) (fun i hi => by
  have hi' : i < ds.length := by omega
  rw [Nat.zero_add, World.ownsRow.cellAt h i (by omega)]
  simp [cb, hi', List.getD]) 9 Tryz.underlying9
 rw [this]
 have e : strOfNums (ds.map fun x => (x.toNat : Int)) = ⟨ds.toArray⟩ := by
  apply ByteArray.ext
  have : (ds.map fun x => (x.toNat : Int)).map (fun n : Int => UInt8.ofNat n.toNat) = ds := by
   rw [List.map_map]
   conv => rhs; rw [← List.map_id ds]
   exact List.map_congr_left fun x _ => by simp
  show ((ds.map fun x => (x.toNat : Int)).map (fun n : Int => UInt8.ofNat n.toNat)).toArray = _
  rw [this]
 rw [e]
structure WI (b x j q L : Nat) (ds : List UInt8) : Prop where
 val : num ds = b + 10 ^ L * (x % 10 ^ j)
 len : ds.length = L + j
 quo : q = x / 10 ^ j
 dig : allD ds = true
theorem WI.step {b x j q L : Nat} {ds : List UInt8} (h : WI b x j q L ds) : WI b x (j + 1) (q / 10) L (db (q % 10) :: ds) where
 val := by
  have hdB : q % 10 < 10 := Nat.mod_lt _ (by decide)
  have e : x / 10 ^ j % 10 * (10 ^ L * 10 ^ j) = 10 ^ L * (10 ^ j * (x / 10 ^ j % 10)) := by rw [Nat.mul_comm, Nat.mul_assoc]
  rw [num_cons, dg_db hdB, h.val, h.len, h.quo, Nat.pow_add, e, Nat.pow_succ 10 j, Nat.mod_mul, Nat.mul_add]
  generalize 10 ^ L * (10 ^ j * (x / 10 ^ j % 10)) = A
  generalize 10 ^ L * (x % 10 ^ j) = C
  omega
 len := by simp [h.len]; omega
 quo := by rw [h.quo, Nat.div_div_eq_div_mul, Nat.pow_succ]
 dig := by rw [allD_cons, isD_db (Nat.mod_lt _ (by decide)), h.dig]; rfl
theorem WI.fin {b x q L : Nat} {ds : List UInt8} (h : WI b x 9 q L ds) (hx : x < 1000000000) : num ds = b + 10 ^ L * x := by
 rw [h.val, Nat.mod_eq_of_lt (by have : (10 : Nat) ^ 9 = 1000000000 := by decide
                                 omega)]
theorem pow_limb (k : Nat) : (10 : Nat) ^ (9 * k) = 1000000000 ^ k := by rw [Nat.pow_mul]
set_option maxRecDepth 1000000 in
set_option maxHeartbeats 800000 in
theorem whole_any (B : Nat) (ao : Option Addr) (n c : Nat) (xs : List Nat) (last : Int) (w : World) (h : Lm w B ao n c xs) (hn : n ≤ 10000) (hl0 : -10000 ≤ last) (hl1 : last ≤ 6000) :
  Calls Tryz.prog 311 #[.slice ao n c, .int .i64 last] w fun e w' => e = .returned (.agg #[.string (oS (lv xs * 10 ^ (last + 10000).toNat)), .int .i64 (oP (lv xs * 10 ^ (last + 10000).toNat))]) ∧ Below w.heap.size w w' := by
 obtain ⟨i0, hi, hz0, hz1, hz2⟩ := info_parts infoU8
 have hlen := h.len
 have HR : ∀ ds : List UInt8, Hid (ds.length = 9 * n ∧ num ds = lv xs ∧ allD ds = true → ∀ w, Calls Tryz.prog 307 #[.agg #[.string ⟨ds.toArray⟩, .int .i64 (9 * (n : Int) + last)]] w fun e w' => e = .returned (.agg #[.string (oS (lv xs * 10 ^ (last + 10000).toNat)), .int .i64 (oP (lv xs * 10 ^ (last + 10000).toNat))]) ∧ Below w.heap.size w w') := fun ds ⟨h1, h2, h3⟩ w => by
  have hz := mk_size ds
  have := inform_any ⟨ds.toArray⟩ (9 * (n : Int) + last) w h3 (by omega) (by omega) (by omega)
  have e : V (⟨ds.toArray⟩ : ByteArray).data.toList (9 * (n : Int) + last) = lv xs * 10 ^ (last + 10000).toNat := by
   unfold V
   show num ds * 10 ^ (9 * (n : Int) + last - ds.length + 10000).toNat = _
   rw [h2, show 9 * (n : Int) + last - ds.length + 10000 = last + 10000 by omega]
  rw [e] at this
  exact this
 generalize lv xs * 10 ^ (last + 10000).toNat = v at *
 generalize hS : oS v = S at *
 generalize hP : oP v = P at *
 clear hS hP
 go_enter Tryz.func311, Tryz.ntmps311
 go_wp2_with (at_make; refine wpList_make_full _ rfl _ _ 47 rfl (w.heap.size + 1) 5 i0 (.int .u8 0) 1 Tryz.underlying47 hi hz0 hz1 .i64 .i64 _ _ (9 * n) rfl rfl ?c1 ?c2 ?c3 ?c4 ?c5 ?_)
 case c1 => omega
 case c2 => omega
 case c3 => rw [hz2]; omega
 case c4 => unfold maxLen; omega
 case c5 => simp
 intro w1 hown hgrow
 have hrow : RowB w1 (w.heap.size + 1) (9 * n) (9 * n) [] := by
  rw [toList_madeCells_one] at hown
  simpa [RowB, cb] using hown
 obtain ⟨W1, hW1⟩ : ∃ W1, w.alloc (Obj.cells #[Value.string { data := #[] }, Value.int IntKind.i64 0] 364) = W1 := ⟨_, rfl⟩
 have r0 : W1.cell? ⟨w.heap.size, 0, none⟩ = some (.string ⟨#[]⟩) := by rw [← hW1]; simp
 have r1 : W1.cell? ⟨w.heap.size, 1, none⟩ = some (.int .i64 0) := by rw [← hW1]; simp
 have r2 : W1.frozen? ⟨w.heap.size, 0, none⟩ = false := by rw [← hW1]; simp
 have r3 : W1.frozen? ⟨w.heap.size, 1, none⟩ = false := by rw [← hW1]; simp
 have hsW : W1.heap.size = w.heap.size + 1 := by rw [← hW1]; simp
 have hbW : Below w.heap.size w W1 := by rw [← hW1]; exact (Below.refl _ _).alloc (Nat.le_refl _) _
 rw [hW1] at hgrow
 have hb1 : Below W1.heap.size W1 w1 := (Below.refl _ _).grown hgrow (Nat.le_refl _) (fun k hk => by cases hk)
 clear hown hgrow hW1 hi hz0 hz1 hz2
 go_wp2
 go_loopg [6, 17] n (fun g av iv wr => ∃ (k : Nat) (ds : List UInt8), av = .int .i64 ((9 * (n - k) : Nat) : Int) ∧ iv = .int .i64 k ∧ k + g = n ∧ RowB wr (w.heap.size + 1) (9 * n) (9 * (n - k)) ds ∧ Below W1.heap.size W1 wr ∧ Hid (num ds = lv (xs.take k) ∧ allD ds = true))
 case atStart => exact ⟨0, [], by simp, rfl, Nat.zero_add _, hrow, hb1, rfl, rfl⟩
 case round =>
  obtain ⟨k, ds, rfl, rfl, hkg, hrow, hbl, HV⟩ := hrel
  by_cases hk : k < n
  ·have hkI : (k : Int) < n := by omega
   obtain ⟨g, rfl, hBg, hgw⟩ := h.head (by omega)
   have hkx : k < xs.length := by omega
   have htake : xs.take (k + 1) = xs.take k ++ [xs[k]] := List.take_succ_eq_append_getElem hkx
   have hx9 : xs[k] < 1000000000 := h.lim _ (List.getElem_mem hkx)
   have hc : wr.cell? ⟨g, k, none⟩ = some (.int .u32 ((xs[k] : Nat) : Int)) := by
    have := h.cell k hk
    rw [List.getD_eq_getElem?_getD, List.getElem?_eq_getElem hkx, Option.getD_some] at this
    exact keep hbl (keep hbW this)
   have hds : ds.length = 9 * k := by have := hrow.len; omega
   have HI0 : Hid (WI (lv (xs.take k)) xs[k] 0 xs[k] (9 * k) ds) := ⟨by rw [HV.out.1]; simp [Nat.mod_one], by omega, by simp, HV.out.2⟩
   have HE : Hid (∀ ds2 q, WI (lv (xs.take k)) xs[k] 9 q (9 * k) ds2 → num ds2 = lv (xs.take (k + 1)) ∧ allD ds2 = true) := fun ds2 q hw => by
    refine ⟨?_, hw.dig⟩
    rw [hw.fin hx9, htake, lv_snoc, pow_limb, List.length_take, Nat.min_eq_left (by omega)]
   clear HV htake
   generalize xs[k] = x at *
   go_wp2
   go_loopg [6, 8, 21] 9 (fun g2 av2 lv2 jv wr2 => ∃ (j m q : Nat) (ds2 : List UInt8), av2 = .int .i64 (m : Int) ∧ lv2 = .int .u32 (q : Int) ∧ jv = .int .i64 (j : Int) ∧ j + g2 = 9 ∧ m + j = 9 * (n - k) ∧ q < 1000000000 ∧ RowB wr2 (w.heap.size + 1) (9 * n) m ds2 ∧ Below W1.heap.size W1 wr2 ∧ Hid (WI (lv (xs.take k)) x j q (9 * k) ds2))
   case atStart => exact ⟨0, 9 * (n - k), x, ds, rfl, rfl, rfl, rfl, rfl, hx9, hrow, hbl, HI0⟩
   case round =>
    obtain ⟨j, m, q, ds2, rfl, rfl, rfl, hjg, hmj, hq9, hrow2, hbl2, HI⟩ := hrel
    by_cases hj : j < 9
    ·have hjI : (j : Int) < 9 := by omega
     obtain ⟨a, rfl⟩ : ∃ a, m = a + 1 := ⟨m - 1, by omega⟩
     have hc2 := hrow2.cell
     have hf2 := hrow2.froz a
     have ha : a < 9 * n := by omega
     have hm1 : (q : Int) % 10 = ((q % 10 : Nat) : Int) := by omega
     have hm2 : (q : Int) / 10 = ((q / 10 : Nat) : Int) := by omega
     have hdB : q % 10 < 10 := Nat.mod_lt _ (by decide)
     have hqq : q / 10 < 1000000000 := by omega
     have HI2 : Hid (WI (lv (xs.take k)) x (j + 1) (q / 10) (9 * k) (db (q % 10) :: ds2)) := HI.out.step
     have HR2 : Hid (RowB (wr.setCell ⟨w.heap.size + 1, a, none⟩ (.int .u8 (48 + ((q % 10 : Nat) : Int)))) (w.heap.size + 1) (9 * n) a (db (q % 10) :: ds2)) := by
      have := hrow2.put (db (q % 10))
      rw [db_nat hdB] at this
      push_cast at this ⊢
      exact this
     clear HI
     generalize hdq : q % 10 = d at *
     generalize q / 10 = q2 at *
     clear hdq
     go_wp2
     go_roundg (gk - 1)
     case measure => omega
     case rel => exact ⟨j + 1, a, q2, db d :: ds2, by go_num, by go_num, by go_num, by omega, by omega, hqq, HR2.out, hbl2.setCell (by rw [hsW]; exact Nat.le_refl _) _, HI2⟩
    ·have hjI : ¬ (j : Int) < 9 := by omega
     have h9 : j = 9 := by omega
     subst h9
     have HV2 : Hid (num ds2 = lv (xs.take (k + 1)) ∧ allD ds2 = true) := HE.out ds2 q HI.out
     obtain rfl : m = 9 * (n - (k + 1)) := by omega
     clear HI HI0 HE
     go_wp2
     go_roundg (n - (k + 1))
     case measure => omega
     case rel => exact ⟨k + 1, ds2, rfl, by go_num, by omega, hrow2, hbl2, HV2⟩
  ·have hkI : ¬ (k : Int) < n := by omega
   have hrow0 : RowB wr (w.heap.size + 1) (9 * n) 0 ds := by
    have := hrow
    rw [show n - k = 0 by omega] at this; exact this
   have hcv := convB wr (w.heap.size + 1) (9 * n) ds hrow0
   have hI := (HR ds).out ⟨by have := hrow0.len; omega, by
    have := HV.out.1
    rw [List.take_of_length_le (by omega)] at this; exact this, HV.out.2⟩
   have k0 := keep hbl r0
   have k1 := keep hbl r1
   have k2 := keepf hbl (p := ⟨w.heap.size, 0, none⟩) (by rw [hsW]; exact Nat.lt_succ_self _) r2
   have k3 := keepf hbl (p := ⟨w.heap.size, 1, none⟩) (by rw [hsW]; exact Nat.lt_succ_self _) r3
   have hgr : w.heap.size < wr.heap.size := by have := hbl.size; omega
   clear HV HR hrow hrow0 r0 r1 r2 r3
   generalize (⟨ds.toArray⟩ : ByteArray) = T at *
   go_wp2_with (go_at_call 307; refine (hI _).mono ?_; rintro e w5 ⟨rfl, hb5⟩; have q0 := keep hb5 k0; have q1 := keep hb5 k1; have q2 := keepf hb5 (p := ⟨w.heap.size, 0, none⟩) hgr k2; have q3 := keepf hb5 (p := ⟨w.heap.size, 1, none⟩) hgr k3)
   refine bodyPost_ret (by simp [results, Tryz.results311, go_sem, put0 q0, put1 q1]; rfl) rfl ?_
   refine ⟨rfl, ?_⟩
   have h0 : Below w.heap.size w wr := bel_call hbW hbl (Nat.le_refl _)
   have h0 := bel_call h0 hb5 (Nat.le_refl _)
   exact (h0.setCell (Nat.le_refl _) _).setCell (Nat.le_refl _) _
end Go.Proofs.YtdlnmnipnkeabaaGreatDoor
namespace Go.Proofs.YtdlnmnipnkeabaaGreatDoor
open Go.RowKit
set_option linter.unusedVariables false
theorem repeat_zero : ∀ (k : Nat), Lib.repeatL [48] k = List.replicate k 48
 | 0 => rfl
 | k + 1 => by rw [Lib.repeatL, repeat_zero k]; rfl
theorem num_zeros_app (l : List UInt8) (k : Nat) : num (l ++ List.replicate k 48) = num l * 10 ^ k := by
 rw [num_append, num_zeros, List.length_replicate, Nat.add_zero]
theorem allD_zeros (k : Nat) : allD (List.replicate k 48) = true := allD_of fun x hx => by rw [List.eq_of_mem_replicate hx]; rfl
theorem upto_step {L : List UInt8} {t a n N : Nat} {xs : List Nat} (ha : a ≤ t) (ht : t ≤ L.length) (h9 : t - a = 9 ∨ a = 0) (hx : xs.length = n) (h : num (L.take t) * 1000000000 ^ n + lv xs = N) :
  num (L.take a) * 1000000000 ^ (n + 1) + lv (xs ++ [num ((L.take t).drop a)]) = N := by
 have e : L.take t = L.take a ++ (L.take t).drop a := by
  conv => lhs; rw [← List.take_append_drop a (L.take t), List.take_take, Nat.min_eq_left ha]
 have hl : ((L.take t).drop a).length = t - a := by rw [List.length_drop, List.length_take]; omega
 have hn : num (L.take t) = num (L.take a) * 10 ^ (t - a) + num ((L.take t).drop a) := by
  conv => lhs; rw [e]
  rw [num_append, hl]
 rw [hn, Nat.add_mul] at h
 rw [lv_snoc, hx, ← h, Nat.mul_comm (1000000000 ^ n) (num ((L.take t).drop a))]
 have : num (L.take a) * 1000000000 ^ (n + 1) = num (L.take a) * 10 ^ (t - a) * 1000000000 ^ n := by
  rcases h9 with h9 | h9
  ·rw [h9, Nat.mul_assoc, Nat.pow_succ, Nat.mul_comm (1000000000 ^ n)]
  ·subst h9; simp [num]
 rw [this]
 generalize num (L.take a) * 10 ^ (t - a) * 1000000000 ^ n = A
 generalize num ((L.take t).drop a) * 1000000000 ^ n = C
 omega
theorem ext_ext (T : ByteArray) (u : ByteArray) (a : Nat) (h : u = T.extract 0 u.size) (ha : a ≤ u.size) : u.extract 0 a = T.extract 0 a := by
 apply ByteArray.ext
 apply Array.ext'
 rw [ext_list, ext_list]
 conv => lhs; rw [h, ext_list, List.take_take, Nat.min_eq_left ha]
theorem ext_size0 (u : ByteArray) (a : Nat) (h : a ≤ u.size) : (u.extract 0 a).size = a := by rw [ByteArray.size_extract]; omega
set_option maxRecDepth 1000000 in
set_option maxHeartbeats 1600000 in
theorem limbsupto_any (s : ByteArray) (p last : Int) (w : World) (hdB : allD s.data.toList = true) (hs : s.size ≤ 20000) (hp0 : -20000 ≤ p) (hp1 : p ≤ 20000) (hl : last ≤ p - s.size) (hl0 : -20000 ≤ last) :
  Calls Tryz.prog 327 #[.agg #[.string s, .int .i64 p], .int .i64 last] w fun e w' => (∃ ao n c, e = .returned (.slice ao n c) ∧ 9 * (n : Int) ≤ p - last + 8 ∧ ∃ xs, Lm w' w.heap.size ao n c xs ∧ lv xs = num s.data.toList * 10 ^ (p - s.size - last).toNat) ∧ Below w.heap.size w w' := by
 obtain ⟨i0, hi, hz0, hz1, hz2⟩ := info_parts infoU32
 obtain ⟨z, hz⟩ : ∃ z : Nat, p - s.size - last = (z : Int) := ⟨(p - s.size - last).toNat, by omega⟩
 have hLP : ∀ w, Calls Tryz.prog 325 #[.agg #[.string s, .int .i64 p]] w fun e w' => e = .returned (.int .i64 (p - s.size)) ∧ Below w.heap.size w w' := fun w => lastplace_any s p w (by omega) (by omega) (by omega)
 have hR : ∀ w, Calls Tryz.prog 204 #[.string ⟨#[48]⟩, .int .i64 (p - s.size - last)] w fun e w' => e = .returned (.string ⟨(List.replicate z 48).toArray⟩) ∧ Below w.heap.size w w' := fun w => by
  have := Tryz.strings_Repeat ⟨#[48]⟩ z w (by omega) (by show 1 * z ≤ _; omega)
  rw [hz, ← repeat_zero]; exact this
 have hzz : (⟨(List.replicate z 48).toArray⟩ : ByteArray).size = z := by rw [mk_size, List.length_replicate]
 obtain ⟨T, hT⟩ : ∃ T, s ++ (⟨(List.replicate z 48).toArray⟩ : ByteArray) = T := ⟨_, rfl⟩
 have hTl : T.data.toList = s.data.toList ++ List.replicate z 48 := by rw [← hT, app_list]
 have hTs : T.size = s.size + z := by rw [← hT, app_size, hzz]
 have HN : Hid (num T.data.toList = num s.data.toList * 10 ^ (p - s.size - last).toNat) := by
  show _ = _
  rw [hTl, num_zeros_app, hz]; rfl
 have HD : Hid (allD T.data.toList = true) := by
  show _ = _
  rw [hTl, allD_append, hdB, allD_zeros]; rfl
 have HTS : Hid ((T.size : Int) = p - last) := by show _ = _; rw [hTs]; push_cast; omega
 have hsum : ¬ 9223372036854775807 < s.size + (⟨(List.replicate z 48).toArray⟩ : ByteArray).size := by omega
 have hT1 : T.size ≤ 100000 := by omega
 clear hTl hTs hdB hz hzz
 generalize (⟨(List.replicate z 48).toArray⟩ : ByteArray) = Z at *
 go_enter Tryz.func327, Tryz.ntmps327
 go_wp2
 refine wp_region_above (w.alloc (.cells #[.string s, .int .i64 p] 364)) (Below.refl _ _) (by kernel_rfl) (by kernel_rfl) ?_
 intro hCl
 have f0 : ∀ x : Cl (w.alloc (.cells #[.string s, .int .i64 p] 364)), x.w.cell? ⟨w.heap.size, 0, none⟩ = some (.string s) := fun x => x.cell (by simp)
 have f1 : ∀ x : Cl (w.alloc (.cells #[.string s, .int .i64 p] 364)), x.w.cell? ⟨w.heap.size, 1, none⟩ = some (.int .i64 p) := fun x => x.cell (by simp)
 repeat (go_big_quiet_step ((first | (go_at_call 325; exact Cl.call (hLP _)) | (go_at_call 204; exact Cl.call (hR _)))))
 refine wpQuiet_nil ?_
 intro _ hw'
 obtain ⟨y, hx⟩ := hw'
 subst hx
 have hby : Below w.heap.size w y.w := bel_call ((Below.refl _ _).alloc (Nat.le_refl _) _) y.below (Nat.le_refl _)
 clear f0 f1 hCl
 generalize y.w = w1 at *
 clear hLP hR hT hsum y
 go_wp2
 go_loopg [5, 6] T.size (fun g tv v wr => ∃ (u : ByteArray) (n c : Nat) (ao : Option Addr) (xs : List Nat), tv = .string u ∧ v = .slice ao n c ∧ u.size = g ∧ u.size ≤ T.size ∧ 9 * n + u.size ≤ T.size + 8 ∧ (0 < u.size → 9 * n + u.size ≤ T.size) ∧ Lm wr w.heap.size ao n c xs ∧ Below w.heap.size w wr ∧ Hid (u = T.extract 0 u.size) ∧ Hid (num (T.data.toList.take u.size) * 1000000000 ^ n + lv xs = num T.data.toList))
 case atStart =>
  refine ⟨T, 0, 0, none, [], rfl, rfl, rfl, Nat.le_refl _, by omega, fun _ => by omega, Lm.nil _ _, hby, (extract_all T).symm, ?_⟩
  show _ = _
  rw [← list_len T, List.take_length]; simp [lv]
 case round =>
  obtain ⟨u, n, c, ao, xs, rfl, rfl, rfl, huT, hn8, hn9, hL, hbl, HU, HV⟩ := hrel
  by_cases hu : 0 < u.size
  ·have huI : 0 < (u.size : Int) := by omega
   have hsz := hbl.size
   have hn9' := hn9 hu
   obtain ⟨a, hmx, hau, ha9⟩ : ∃ a : Nat, max ((u.size : Int) - 9) 0 = (a : Int) ∧ a < u.size ∧ (u.size - a = 9 ∨ a = 0) ∧ u.size - a ≤ 9 := by
    rcases Nat.lt_or_ge u.size 9 with h9 | h9
    ·exact ⟨0, by omega, by omega, .inr rfl, by omega⟩
    ·exact ⟨u.size - 9, by omega, by omega, .inl (by omega), by omega⟩
   have hseg : (u.extract a u.size).data.toList = (T.data.toList.take u.size).drop a := by
    rw [tail_list]
    conv => lhs; rw [HU.out, ext_list]
   have hsegs : (u.extract a u.size).size = u.size - a := tail_size u a
   have hsegD : allD (u.extract a u.size).data.toList = true := by
    rw [hseg]; exact allD_of fun x hx => allD_mem HD.out (List.mem_of_mem_take (List.mem_of_mem_drop hx))
   have hlim : num (u.extract a u.size).data.toList < 1000000000 := by
    have := num_lt _ hsegD
    rw [list_len, hsegs] at this
    exact Nat.lt_of_lt_of_le this (Nat.pow_le_pow_right (by decide) ha9.2)
   have hLO : ∀ w, Calls Tryz.prog 340 #[.string (u.extract a u.size)] w fun e w' => e = .returned (.int .u32 ((num (u.extract a u.size).data.toList : Nat) : Int)) ∧ w' = w := fun w => limbof_any _ w hsegD (by omega)
   have HV2 : Hid (num (T.data.toList.take a) * 1000000000 ^ (n + 1) + lv (xs ++ [num (u.extract a u.size).data.toList]) = num T.data.toList) := by
    rw [hseg]
    exact upto_step (by omega) (by rw [list_len]; exact huT) ha9.1 hL.len HV.out
   have hz2' := ext_size0 u a (by omega)
   have HU2 : Hid (u.extract 0 a = T.extract 0 a) := ext_ext T u a HU.out (by omega)
   have hnum : 9 * (n + 1) + a ≤ T.size + 8 ∧ (0 < a → 9 * (n + 1) + a ≤ T.size) := by omega
   have hauI : (a : Int) ≤ u.size := by omega
   have haz : ((a : Int)).toNat = a := by omega
   clear HV HU hseg hsegD hn9 hsegs
   generalize num (u.extract a u.size).data.toList = r at *
   generalize hsg : u.extract a u.size = sg at *
   go_wp2_with (first | (go_at_call 340; refine (hLO _).mono ?_; rintro e w4 ⟨rfl, rfl⟩) | (at_builtin; refine wpList_append_own _ rfl _ _ 391 rfl w.heap.size 164 i0 (.int .u32 0) 1 4 Tryz.underlying391 hi hz0 hz1 hz2 rfl (by decide) _ _ _ rfl (hL.own.alloc _) ⟨_, 0, none⟩ 1 1 [.int .u32 (r : Int)] rfl rfl ?c1 ?c2 ?c3 ?c4 ?c5 ?_))
   case c1 =>
    intro j u hj
    match j, hj with
    | 0, hj => simp at hj; subst hj; simp [Addr.add]
   case c2 => intro u hu; simp at hu; subst hu; rfl
   case c3 => unfold maxLen; omega
   case c4 => omega
   case c5 => simp; omega
   intro v' w1 hown' hgrow _
   obtain ⟨ao', c', rfl, hL'⟩ := hL.snoc hlim hown'
   have hbl' : Below w.heap.size w w1 := (hbl.alloc hsz _).grown hgrow (by simp; omega) (own_ge hL.own)
   clear hown' hgrow hL
   go_wp2
   go_roundg a
   case measure => omega
   case rel => exact ⟨u.extract 0 a, n + 1, c', ao', xs ++ [r], rfl, rfl, hz2', by omega, by rw [hz2']; exact hnum.1, by rw [hz2']; exact hnum.2, hL', hbl', by show _ = _; rw [hz2']; exact HU2.out, by show _ = _; rw [hz2']; exact HV2.out⟩
  ·have huI : ¬ 0 < (u.size : Int) := by omega
   have hC := cutl_any w.heap.size ao n c xs wr hL (by omega)
   have hu0 : u.size ≤ 0 := by omega
   have HF : Hid (lv xs = num T.data.toList) := by
    have := HV.out
    rw [show u.size = 0 by omega] at this
    show _ = _
    simpa [num] using this
   clear HV HU hn9
   go_wp2_with (go_at_call 339; refine hC.mono ?_; rintro e w2 ⟨⟨m, hm, rfl, hlm⟩, rfl⟩)
   go_ret
   exact ⟨⟨ao, m, c, rfl, by have := HTS.out; omega, _, hL.cut hm, (hlm.trans HF.out).trans HN.out⟩, hbl⟩
end Go.Proofs.YtdlnmnipnkeabaaGreatDoor
