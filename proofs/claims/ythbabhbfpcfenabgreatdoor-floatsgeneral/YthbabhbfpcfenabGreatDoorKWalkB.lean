/- The document's whole: the row of some digits, and noughts. -/
import Derived.Test.YthbabhbfpcfenabGreatDoorPkM12
import Derived.Test.YthbabhbfpcfenabGreatDoorPkM7
namespace Go.Proofs.YthbabhbfpcfenabGreatDoor
open Go.RowKit
set_option linter.unusedVariables false
set_option linter.unusedSimpArgs false

set_option maxRecDepth 1000000 in
set_option maxHeartbeats 800000 in
theorem kwhole_any (S : ByteArray) (z : Nat) (w : World) (hd : allD S.data.toList = true) (hS : S.size ≤ 20000) (hz : z ≤ 20000) :
    Calls Tryz.prog 47 #[.string S, .int .i64 z] w fun e w' => (∃ ao n c, e = .returned (.slice ao n c) ∧ n = z + S.size ∧ ∃ xs, Nm w' w.heap.size ao n c xs ∧ le xs = num S.data.toList * 10 ^ z) ∧ Below w.heap.size w w' := by
  obtain ⟨i0, hi, hz0, hz1, hz2⟩ := info_parts infoU8
  have HD : Hid (∀ j (h : j < S.size), 48 ≤ (S[j]'h).toNat ∧ (S[j]'h).toNat ≤ 57 ∧ S.data.toList.drop j = S[j]'h :: S.data.toList.drop (j + 1)) := fun j h => by
    have hl : j < S.data.toList.length := by rw [list_len]; exact h
    have := (isD_iff _).1 (allD_mem hd (List.getElem_mem hl))
    exact ⟨this.1, this.2, List.drop_eq_getElem_cons hl⟩
  have HL : Hid (∀ j, (S.data.toList.drop j).length = S.size - j) := fun j => by rw [List.length_drop, list_len]
  have H0 : Hid (num (S.data.toList.drop S.size) = 0) := by
    show _ = _
    rw [List.drop_of_length_le (by rw [list_len]; exact Nat.le_refl _)]; rfl
  have HW : Hid (∀ (xs : List Nat) (j : Nat) (h : j < S.size), xs.length = z + (S.size - (j + 1)) → le xs = num (S.data.toList.drop (j + 1)) * 10 ^ z → le (xs ++ [(S[j]'h).toNat - 48]) = num (S.data.toList.drop j) * 10 ^ z) := fun xs j h h1 h2 => by
    rw [(HD.out j h).2.2]
    exact whole_step (by rw [h1, HL.out]) h2
  go_enter Tryz.func47, Tryz.ntmps47
  go_wp2_with (at_make; refine wpList_make_full _ rfl _ _ 79 rfl w.heap.size 5 i0 (.int .u8 0) 1 Tryz.underlying79 hi hz0 hz1 .i64 .i64 _ _ z rfl rfl ?c1 ?c2 ?c3 ?c4 ?c5 ?_)
  case c1 => rfl
  case c2 => rfl
  case c3 => rw [hz2]; omega
  case c4 => unfold maxLen; omega
  case c5 => exact Nat.le_refl _
  intro w1 hown hgrow
  have hN : Nm w1 w.heap.size (some ⟨w.heap.size, 0, none⟩) z z (List.replicate z 0) := by
    refine ⟨?_, fun x hx => by rw [List.eq_of_mem_replicate hx]; decide⟩
    rw [toList_madeCells_one] at hown
    simpa [cn] using hown
  have hb1 : Below w.heap.size w w1 := (Below.refl _ _).grown hgrow (Nat.le_refl _) (fun k hk => by cases hk)
  have HZ : Hid (le (List.replicate z 0) = 0) := le_zeros z
  clear hown hgrow
  go_wp2
  go_loopg [5, 6] S.size (fun g v iv wr => ∃ (j n c : Nat) (ao : Option Addr) (xs : List Nat), iv = .int .i64 ((j : Int) - 1) ∧ v = .slice ao n c ∧ j = g ∧ j ≤ S.size ∧ n ≤ 50000 ∧ Hid (n = z + (S.size - j)) ∧ Nm wr w.heap.size ao n c xs ∧ Below w.heap.size w wr ∧ Hid (le xs = num (S.data.toList.drop j) * 10 ^ z))
  case atStart => exact ⟨S.size, z, z, _, _, by go_num, rfl, rfl, Nat.le_refl _, by omega, by show _ = _; omega, hN, hb1, by show _ = _; rw [HZ.out, H0.out, Nat.zero_mul]⟩
  case round =>
    obtain ⟨j, n, c, ao, xs, rfl, rfl, rfl, hjS, hn50, hn, hL, hbl, HV⟩ := hrel
    clear HZ hN hb1
    rcases Nat.eq_zero_or_pos j with hj0 | hj0
    · subst hj0
      have HF : Hid (le xs = num S.data.toList * 10 ^ z) := HV.out
      clear HV HD HL H0 HW
      go_wp2
      go_ret
      exact ⟨⟨ao, n, c, rfl, hn.out, xs, hL, HF.out⟩, hbl⟩
    · obtain ⟨i, rfl⟩ : ∃ i, j = i + 1 := ⟨j - 1, by omega⟩
      have hiS : i < S.size := by omega
      have hiI : ((i + 1 : Nat) : Int) - 1 = (i : Int) := by omega
      rw [hiI]
      obtain ⟨d0, d1, -⟩ := HD.out i hiS
      have HV2 : Hid (le (xs ++ [(S[i]'hiS).toNat - 48]) = num (S.data.toList.drop i) * 10 ^ z) := HW.out xs i hiS (by rw [hL.len]; exact hn.out) HV.out
      clear HV HD HL H0 HW
      obtain ⟨r, hr⟩ : ∃ r, (S[i]'hiS).toNat - 48 = r := ⟨_, rfl⟩
      have hr10 : r < 10 := by omega
      have hn2 : Hid (n + 1 = z + (S.size - i)) := by show _ = _; have := hn.out; omega
      have hn51 : n + 1 ≤ 50000 := by have := hn2.out; omega
      clear hn
      have hrI : ((S[i]'hiS).toNat : Int) - 48 = (r : Int) := by omega
      rw [hr] at HV2
      have d2 : (S[i]'hiS).toNat < 256 := UInt8.toNat_lt _
      have hsz := hbl.size
      go_wp2_with (at_builtin; refine wpList_append_own _ rfl _ _ 79 rfl w.heap.size 5 i0 (.int .u8 0) 1 1 Tryz.underlying79 hi hz0 hz1 hz2 rfl (by decide) _ _ _ rfl (hL.own.alloc _) ⟨wr.heap.size, 0, none⟩ 1 1 [.int .u8 (r : Int)] rfl rfl ?c1 ?c2 ?c3 ?c4 ?c5 ?_)
      case c1 =>
        intro k u hk
        match k, hk with
        | 0, hk => simp at hk; subst hk; simp [Addr.add]
      case c2 => intro u hu; simp at hu; subst hu; rfl
      case c3 => unfold maxLen; omega
      case c4 => omega
      case c5 => simp; omega
      intro v' w2 hown' hgrow _
      obtain ⟨ao', c', rfl, hL'⟩ := hL.snoc hr10 hown'
      have hbl' : Below w.heap.size w w2 := (hbl.alloc hsz _).grown hgrow (by simp; omega) (own_ge hL.own)
      clear hown' hgrow hL
      go_wp2
      go_roundg i
      case measure => omega
      case rel => exact ⟨i, n + 1, c', ao', xs ++ [r], by go_num, rfl, rfl, by omega, hn51, hn2, hL', hbl', HV2⟩
end Go.Proofs.YthbabhbfpcfenabGreatDoor
