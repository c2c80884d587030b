/- The walk of limbsUpTo: a decimal's limbs in units of a place. -/
import Derived.Test.YthbabhbfpcfenabDoorBWhole
namespace Go.Proofs.YthbabhbfpcfenabDoor
open Go.RowKit
set_option linter.unusedVariables false

theorem repeat_zero : ∀ (k : Nat), Lib.repeatL [48] k = List.replicate k 48
  | 0 => rfl
  | k + 1 => by rw [Lib.repeatL, repeat_zero k]; rfl
theorem num_zeros_app (l : List UInt8) (k : Nat) : num (l ++ List.replicate k 48) = num l * 10 ^ k := by
  rw [num_append, num_zeros, List.length_replicate, Nat.add_zero]
theorem allD_zeros (k : Nat) : allD (List.replicate k 48) = true := allD_of fun x hx => by rw [List.eq_of_mem_replicate hx]; rfl
theorem upto_step {L : List UInt8} {t a n N : Nat} {xs : List Nat} (ha : a ≤ t) (ht : t ≤ L.length) (h9 : t - a = 9 ∨ a = 0) (hx : xs.length = n) (h : num (L.take t) * 1000000000 ^ n + lv xs = N) :
    num (L.take a) * 1000000000 ^ (n + 1) + lv (xs ++ [num ((L.take t).drop a)]) = N := by
  have e : L.take t = L.take a ++ (L.take t).drop a := by
    conv => lhs; rw [← List.take_append_drop a (L.take t), List.take_take, Nat.min_eq_left ha]
  have hl : ((L.take t).drop a).length = t - a := by rw [List.length_drop, List.length_take]; omega
  have hn : num (L.take t) = num (L.take a) * 10 ^ (t - a) + num ((L.take t).drop a) := by
    conv => lhs; rw [e]
    rw [num_append, hl]
  rw [hn, Nat.add_mul] at h
  rw [lv_snoc, hx, ← h, Nat.mul_comm (1000000000 ^ n) (num ((L.take t).drop a))]
  have : num (L.take a) * 1000000000 ^ (n + 1) = num (L.take a) * 10 ^ (t - a) * 1000000000 ^ n := by
    rcases h9 with h9 | h9
    · rw [h9, Nat.mul_assoc, Nat.pow_succ, Nat.mul_comm (1000000000 ^ n)]
    · subst h9; simp [num]
  rw [this]
  generalize num (L.take a) * 10 ^ (t - a) * 1000000000 ^ n = A
  generalize num ((L.take t).drop a) * 1000000000 ^ n = C
  omega
theorem ext_take (T : ByteArray) (a : Nat) : (T.extract 0 a).data.toList = T.data.toList.take a := ext_list T a
theorem ext_ext (T : ByteArray) (u : ByteArray) (a : Nat) (h : u = T.extract 0 u.size) (ha : a ≤ u.size) : u.extract 0 a = T.extract 0 a := by
  apply ByteArray.ext
  apply Array.ext'
  rw [ext_list, ext_list]
  conv => lhs; rw [h, ext_list, List.take_take, Nat.min_eq_left ha]
theorem ext_size0 (u : ByteArray) (a : Nat) (h : a ≤ u.size) : (u.extract 0 a).size = a := by rw [ByteArray.size_extract]; omega
set_option maxRecDepth 1000000 in
set_option maxHeartbeats 1600000 in
theorem limbsupto_any (s : ByteArray) (p last : Int) (w : World) (hd : allD s.data.toList = true) (hs : s.size ≤ 20000) (hp0 : -20000 ≤ p) (hp1 : p ≤ 20000) (hl : last ≤ p - s.size) (hl0 : -20000 ≤ last) :
    Calls Tryd.prog 71 #[.agg #[.string s, .int .i64 p], .int .i64 last] w fun e w' => (∃ ao n c, e = .returned (.slice ao n c) ∧ 9 * (n : Int) ≤ p - last + 8 ∧ ∃ xs, Lm w' w.heap.size ao n c xs ∧ lv xs = num s.data.toList * 10 ^ (p - s.size - last).toNat) ∧ Below w.heap.size w w' := by
  obtain ⟨i0, hi, hz0, hz1, hz2⟩ := info_parts infoU32
  obtain ⟨z, hz⟩ : ∃ z : Nat, p - s.size - last = (z : Int) := ⟨(p - s.size - last).toNat, by omega⟩
  have hLP : ∀ w, Calls Tryd.prog 69 #[.agg #[.string s, .int .i64 p]] w fun e w' => e = .returned (.int .i64 (p - s.size)) ∧ Below w.heap.size w w' := fun w => lastplace_any s p w (by omega) (by omega) (by omega)
  have hR : ∀ w, Calls Tryd.prog 76 #[.string ⟨#[48]⟩, .int .i64 (p - s.size - last)] w fun e w' => e = .returned (.string ⟨(List.replicate z 48).toArray⟩) ∧ Below w.heap.size w w' := fun w => by
    have := Tryd.strings_Repeat ⟨#[48]⟩ z w (by omega) (by show 1 * z ≤ _; omega)
    rw [hz, ← repeat_zero]; exact this
  have hzz : (⟨(List.replicate z 48).toArray⟩ : ByteArray).size = z := by rw [mk_size, List.length_replicate]
  obtain ⟨T, hT⟩ : ∃ T, s ++ (⟨(List.replicate z 48).toArray⟩ : ByteArray) = T := ⟨_, rfl⟩
  have hTl : T.data.toList = s.data.toList ++ List.replicate z 48 := by rw [← hT, app_list]
  have hTs : T.size = s.size + z := by rw [← hT, app_size, hzz]
  have HN : Hid (num T.data.toList = num s.data.toList * 10 ^ (p - s.size - last).toNat) := by
    show _ = _
    rw [hTl, num_zeros_app, hz]; rfl
  have HD : Hid (allD T.data.toList = true) := by
    show _ = _
    rw [hTl, allD_append, hd, allD_zeros]; rfl
  have HTS : Hid ((T.size : Int) = p - last) := by show _ = _; rw [hTs]; push_cast; omega
  have hsum : ¬ 9223372036854775807 < s.size + (⟨(List.replicate z 48).toArray⟩ : ByteArray).size := by omega
  have hT1 : T.size ≤ 100000 := by omega
  clear hTl hTs hd hz hzz
  generalize (⟨(List.replicate z 48).toArray⟩ : ByteArray) = Z at *
  go_enter Tryd.func71, Tryd.ntmps71
  go_wp2
  refine wp_region_above (w.alloc (.cells #[.string s, .int .i64 p] 23)) (Below.refl _ _) (by kernel_rfl) (by kernel_rfl) ?_
  intro hCl
  have f0 : ∀ x : Cl (w.alloc (.cells #[.string s, .int .i64 p] 23)), x.w.cell? ⟨w.heap.size, 0, none⟩ = some (.string s) := fun x => x.cell (by simp)
  have f1 : ∀ x : Cl (w.alloc (.cells #[.string s, .int .i64 p] 23)), x.w.cell? ⟨w.heap.size, 1, none⟩ = some (.int .i64 p) := fun x => x.cell (by simp)
  repeat (go_big_quiet_step ((first | (go_at_call 69; exact Cl.call (hLP _)) | (go_at_call 76; exact Cl.call (hR _)))))
  refine wpQuiet_nil ?_
  intro _ hw'
  obtain ⟨y, hx⟩ := hw'
  subst hx
  have hby : Below w.heap.size w y.w := bel_call ((Below.refl _ _).alloc (Nat.le_refl _) _) y.below (Nat.le_refl _)
  clear f0 f1 hCl
  generalize y.w = w1 at *
  clear hLP hR hT hsum y
  go_wp2
  go_loopg [5, 6] T.size (fun g tv v wr => ∃ (u : ByteArray) (n c : Nat) (ao : Option Addr) (xs : List Nat), tv = .string u ∧ v = .slice ao n c ∧ u.size = g ∧ u.size ≤ T.size ∧ 9 * n + u.size ≤ T.size + 8 ∧ (0 < u.size → 9 * n + u.size ≤ T.size) ∧ Lm wr w.heap.size ao n c xs ∧ Below w.heap.size w wr ∧ Hid (u = T.extract 0 u.size) ∧ Hid (num (T.data.toList.take u.size) * 1000000000 ^ n + lv xs = num T.data.toList))
  case atStart =>
    refine ⟨T, 0, 0, none, [], rfl, rfl, rfl, Nat.le_refl _, by omega, fun _ => by omega, Lm.nil _ _, hby, (extract_all T).symm, ?_⟩
    show _ = _
    rw [← list_len T, List.take_length]; simp [lv]
  case round =>
    obtain ⟨u, n, c, ao, xs, rfl, rfl, rfl, huT, hn8, hn9, hL, hbl, HU, HV⟩ := hrel
    by_cases hu : 0 < u.size
    · have huI : 0 < (u.size : Int) := by omega
      have hsz := hbl.size
      have hn9' := hn9 hu
      obtain ⟨a, hmx, hau, ha9⟩ : ∃ a : Nat, max ((u.size : Int) - 9) 0 = (a : Int) ∧ a < u.size ∧ (u.size - a = 9 ∨ a = 0) ∧ u.size - a ≤ 9 := by
        rcases Nat.lt_or_ge u.size 9 with h9 | h9
        · exact ⟨0, by omega, by omega, .inr rfl, by omega⟩
        · exact ⟨u.size - 9, by omega, by omega, .inl (by omega), by omega⟩
      have hseg : (u.extract a u.size).data.toList = (T.data.toList.take u.size).drop a := by
        rw [tail_list]
        conv => lhs; rw [HU.out, ext_list]
      have hsegs : (u.extract a u.size).size = u.size - a := tail_size u a
      have hsegD : allD (u.extract a u.size).data.toList = true := by
        rw [hseg]; exact allD_of fun x hx => allD_mem HD.out (List.mem_of_mem_take (List.mem_of_mem_drop hx))
      have hlim : num (u.extract a u.size).data.toList < 1000000000 := by
        have := num_lt _ hsegD
        rw [list_len, hsegs] at this
        exact Nat.lt_of_lt_of_le this (Nat.pow_le_pow_right (by decide) ha9.2)
      have hLO : ∀ w, Calls Tryd.prog 77 #[.string (u.extract a u.size)] w fun e w' => e = .returned (.int .u32 ((num (u.extract a u.size).data.toList : Nat) : Int)) ∧ w' = w := fun w => limbof_any _ w hsegD (by omega)
      have HV2 : Hid (num (T.data.toList.take a) * 1000000000 ^ (n + 1) + lv (xs ++ [num (u.extract a u.size).data.toList]) = num T.data.toList) := by
        rw [hseg]
        exact upto_step (by omega) (by rw [list_len]; exact huT) ha9.1 hL.len HV.out
      have hz2' := ext_size0 u a (by omega)
      have HU2 : Hid (u.extract 0 a = T.extract 0 a) := ext_ext T u a HU.out (by omega)
      have hnum : 9 * (n + 1) + a ≤ T.size + 8 ∧ (0 < a → 9 * (n + 1) + a ≤ T.size) := by omega
      have hauI : (a : Int) ≤ u.size := by omega
      have haz : ((a : Int)).toNat = a := by omega
      clear HV HU hseg hsegD hn9 hsegs
      generalize num (u.extract a u.size).data.toList = r at *
      generalize hsg : u.extract a u.size = sg at *
      go_wp2_with (first | (go_at_call 77; refine (hLO _).mono ?_; rintro e w4 ⟨rfl, rfl⟩) | (at_builtin; refine wpList_append_own _ rfl _ _ 88 rfl w.heap.size 92 i0 (.int .u32 0) 1 4 Tryd.underlying88 hi hz0 hz1 hz2 rfl (by decide) _ _ _ rfl (hL.own.alloc _) ⟨_, 0, none⟩ 1 1 [.int .u32 (r : Int)] rfl rfl ?c1 ?c2 ?c3 ?c4 ?c5 ?_))
      case c1 =>
        intro j u hj
        match j, hj with
        | 0, hj => simp at hj; subst hj; simp [Addr.add]
      case c2 => intro u hu; simp at hu; subst hu; rfl
      case c3 => unfold maxLen; omega
      case c4 => omega
      case c5 => simp; omega
      intro v' w1 hown' hgrow _
      obtain ⟨ao', c', rfl, hL'⟩ := hL.snoc hlim hown'
      have hbl' : Below w.heap.size w w1 := (hbl.alloc hsz _).grown hgrow (by simp; omega) (own_ge hL.own)
      clear hown' hgrow hL
      go_wp2
      go_roundg a
      case measure => omega
      case rel => exact ⟨u.extract 0 a, n + 1, c', ao', xs ++ [r], rfl, rfl, hz2', by omega, by rw [hz2']; exact hnum.1, by rw [hz2']; exact hnum.2, hL', hbl', by show _ = _; rw [hz2']; exact HU2.out, by show _ = _; rw [hz2']; exact HV2.out⟩
    · have huI : ¬ 0 < (u.size : Int) := by omega
      have hC := cut_any w.heap.size ao n c xs wr hL (by omega)
      have hu0 : u.size ≤ 0 := by omega
      have HF : Hid (lv xs = num T.data.toList) := by
        have := HV.out
        rw [show u.size = 0 by omega] at this
        show _ = _
        simpa [num] using this
      clear HV HU hn9
      go_wp2_with (go_at_call 67; refine hC.mono ?_; rintro e w2 ⟨⟨m, hm, rfl, hlm⟩, rfl⟩)
      go_ret
      exact ⟨⟨ao, m, c, rfl, by have := HTS.out; omega, _, hL.cut hm, (hlm.trans HF.out).trans HN.out⟩, hbl⟩
end Go.Proofs.YthbabhbfpcfenabDoor
