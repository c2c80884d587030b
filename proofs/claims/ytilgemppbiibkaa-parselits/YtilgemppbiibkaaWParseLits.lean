/- The walk of the law ParseLits. -/
import Derived.Test.YtilgemppbiibkaaPEq
namespace Go.Proofs.Ytilgemppbiibkaa
open Go.RowKit
set_option linter.unusedVariables false
set_option linter.unusedSimpArgs false

theorem flt_step {s : ByteArray} {i : Nat} (h : i < s.size) : (s.data.toList.take (i + 1)).filter noPc = (s.data.toList.take i).filter noPc ++ [s[i]'h].filter noPc := by
  have hl : i < s.data.toList.length := by rw [list_len]; exact h
  rw [List.take_add_one, List.filter_append, List.getElem?_eq_getElem hl]
  rfl
theorem one_at {s : ByteArray} {i : Nat} (h : i < s.size) : s.extract i (i + 1) = ba [s[i]'h] := by
  have hl : i < s.data.toList.length := by rw [list_len]; exact h
  have := ext_at (s := s) (P := i) (P' := i + 1) (l := s.data.toList.drop i) (l' := s.data.toList.drop (i + 1)) rfl (by rw [List.length_drop, list_len]; omega) (by rw [List.length_drop, list_len]; omega)
  rw [this]
  congr 1
  rw [List.length_drop, List.length_drop, show s.data.toList.length - i - (s.data.toList.length - (i + 1)) = 1 by omega, List.drop_eq_getElem_cons hl]
  rfl
set_option maxRecDepth 1000000 in
set_option maxHeartbeats 4000000 in
theorem parseLits_walk (s0 : ByteArray) (hs : s0.size ≤ 9223372036854775807) (w : World) :
    Calls Try.prog 5 #[.string s0] w fun e w' => e = .returned (.bool true) ∧ Below w.heap.size w w' := by
  obtain ⟨s, hs2, hC⟩ := cut9_any s0
  have hL := lives9_any
  have hsI : (s.size : Int) ≤ 2000 := by omega
  have hlen := list_len s
  have HS : Hid (s.data.toList.length = s.size) := hlen
  clear hlen hs
  go_enter Try.func5, Try.ntmps5
  go_wp2_with (go_at_call 9; refine (hC _).mono ?_; rintro e w1 ⟨rfl, hw1⟩; subst w1)
  go_loopg [3, 4] s.size (fun g tv iv wr => wr = w ∧ ∃ (i : Nat) (T : ByteArray), iv = .int .i64 (i : Nat) ∧ i + g = s.size ∧ tv = .string T ∧ T.size ≤ i ∧ Hid (T.data.toList = (s.data.toList.take i).filter noPc))
  case atStart => exact ⟨rfl, 0, ⟨#[]⟩, rfl, by omega, rfl, Nat.le_refl _, rfl⟩
  case round =>
    obtain ⟨rfl, i, T, rfl, hi, rfl, ht, HT⟩ := hrel
    by_cases hlt : i < s.size
    · have hltI : (i : Int) < s.size := by omega
      have hst : Hid ((s.data.toList.take (i + 1)).filter noPc = (s.data.toList.take i).filter noPc ++ [s[i]'hlt].filter noPc) := flt_step hlt
      by_cases hb : (s[i]'hlt).toNat = 37
      · have HT' : Hid (T.data.toList = (s.data.toList.take (i + 1)).filter noPc) := by
          show _ = _
          rw [hst.out, HT.out]
          simp [noPc, hb]
        clear hst
        go_wp2
        go_roundg (gk - 1)
        case measure => omega
        case rel => exact ⟨rfl, i + 1, T, by go_num, by omega, rfl, by omega, HT'⟩
      · have hbI : ¬ ((s[i]'hlt).toNat : Int) = 37 := by omega
        have hbB : (((s[i]'hlt).toNat : Int) != 37) = true := by simp [hbI]
        have hz1 : ((s.extract i (i + 1)).size : Int) ≤ 1 := by rw [ByteArray.size_extract]; omega
        have hz2 : (T.size : Int) ≤ 2000 := by omega
        have HT' : Hid ((T ++ s.extract i (i + 1)).data.toList = (s.data.toList.take (i + 1)).filter noPc ∧ (T ++ s.extract i (i + 1)).size ≤ i + 1) := by
          constructor
          · rw [app_list, hst.out, HT.out, one_at hlt]
            simp [noPc, hb, ba]
          · rw [app_size, ByteArray.size_extract]; omega
        clear hst
        go_wp2
        go_roundg (gk - 1)
        case measure => omega
        case rel => exact ⟨rfl, i + 1, T ++ s.extract i (i + 1), by go_num, by omega, rfl, HT'.out.2, HT'.out.1⟩
    · have hltI : ¬ (i : Int) < s.size := by omega
      have ht2 : T.data.toList = s.data.toList.filter noPc := by
        rw [HT.out, List.take_of_length_le (by rw [HS.out]; omega)]
      have hnp : ∀ x ∈ T.data.toList, noPc x = true := fun x hx => by rw [ht2] at hx; exact (List.mem_filter.1 hx).2
      have hP := parse_any T (by omega)
      unfold PsC at hP
      clear ht2 HT hi
      by_cases hne : T.size = 0
      · have hnil : T.data.toList = [] := List.eq_nil_of_length_eq_zero (by rw [list_len]; exact hne)
        rw [hnil, prs_nil] at hP
        have hem := empty_yes T hne
        clear hnil hne hnp
        go_wp2_with (first
          | (go_at_call 10; refine (hP _).mono ?_; rintro e w2 ⟨v2, rfl, o2, b2⟩; obtain ⟨a2, c2, rfl, -, -⟩ := own_slice9 o2)
          | (go_at_call 13; refine (hL _).mono ?_; rintro e w3 ⟨rfl, b3⟩))
        go_ret
        exact ⟨rfl, b2.trans (b3.mono b2.size)⟩
      · have hnl : T.data.toList ≠ [] := fun e => hne (by rw [← list_len, e]; rfl)
        rw [prs_lit hnp hnl] at hP
        have hP2 : ∀ w : World, Calls Try.prog 10 #[.string T] w fun e w' => ∃ v, e = .returned v ∧ w'.ownsRow w.heap.size 40 20 v 1 (rowP [lit T.data.toList]) ∧ Below w.heap.size w w' := hP
        clear hP
        have hem := empty_no T (by omega)
        have hba : Hid (ba T.data.toList = T) := by show _ = _; unfold ba; simp
        clear hnp hne ht HS hnl
        go_upto_region 11 with (go_at_call 10; refine (hP2 _).mono ?_; rintro e w2 ⟨v2, rfl, o2, b2⟩; obtain ⟨a2, c2, rfl, -, -⟩ := own_slice9 o2; obtain ⟨g2, rfl, -, x2⟩ := own_bx1 o2; have x3 : Bx w2 g2 (pieceV 0 (ba T.data.toList) ⟨false, false, false, false, false⟩ 0 0 ⟨0, 0, ⟨0, 0⟩⟩ ⟨0, 0, ⟨0, 0⟩⟩ ⟨0, 0⟩) := x2; rw [hba.out] at x3)
        have hrg := x3.range
        clear x2 x3 o2
        have heq : ∀ w, (binOp .eql 40 (.agg (pieceV 0 T ⟨false, false, false, false, false⟩ 0 0 ⟨0, 0, ⟨0, 0⟩⟩ ⟨0, 0, ⟨0, 0⟩⟩ ⟨0, 0⟩).toArray) (.agg #[.int .i64 0, .string T, .bool false, .bool false, .bool false, .bool false, .bool false, .int .i64 0, .int .i64 0, .int .i32 0, .int .i64 0, .int .i64 0, .int .i64 0, .int .i64 0, .int .i64 0, .int .i64 0, .int .i64 0, .int .i64 0, .int .i64 0, .int .i64 0])).run Try.prog w = .ok (.bool true) w := fun w => eq20 0 T ⟨false, false, false, false, false⟩ 0 0 ⟨0, 0, ⟨0, 0⟩⟩ ⟨0, 0, ⟨0, 0⟩⟩ ⟨0, 0⟩ w
        go_wp2_with (first
          | (go_at_call 13; refine (hL _).mono ?_; rintro e w3 ⟨rfl, b3⟩)
          | (refine wpl_load20g rfl (.tmp 40) rfl rfl hrg rfl ?_))
        go_ret
        exact ⟨rfl, b2.trans (b3.mono b2.size)⟩
end Go.Proofs.Ytilgemppbiibkaa
