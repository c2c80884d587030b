/- The document's Split. -/
import Derived.Test.YthbabhbfpcfenaaGreatDoorCWalkC
namespace Go.Proofs.YthbabhbfpcfenaaGreatDoor
open Go.RowKit
set_option linter.unusedVariables false
set_option linter.unusedSimpArgs false

abbrev NsC (s a b : ByteArray) (ok : Bool) : Prop := ∀ w, Calls Tryz.prog 13 #[.string s] w fun e w' => e = .returned (.tuple #[.string a, .string b, .bool ok]) ∧ Below w.heap.size w w'
set_option maxRecDepth 1000000 in
theorem nsp_short {s : ByteArray} (h : s.size < 3) : NsC s ⟨#[]⟩ ⟨#[]⟩ false := fun w => by
  have hI : (s.size : Int) < 3 := by omega
  go_enter Tryz.func13, Tryz.ntmps13
  go_wp2
  go_returns
  exact ⟨rfl, Below.refl _ _⟩
set_option maxRecDepth 1000000 in
set_option maxHeartbeats 1000000 in
theorem nsp_no {s : ByteArray} {a b : Nat} (h : 3 ≤ s.size) (ha : (s.size : Int) - 2 = (a : Int)) (hb : (s.size : Int) - 1 = (b : Int)) (hz : s.size ≤ 100000) (h0 : 0 < s.size) (h1 : a < s.size) (h2 : b < s.size) (hn : ¬ ((s[0]'h0).toNat = 40 ∧ (s[a]'h1).toNat = 105 ∧ (s[b]'h2).toNat = 41)) : NsC s ⟨#[]⟩ ⟨#[]⟩ false := fun w => by
  have z0 : (0 : Int) < s.size := by omega
  have z1 : ¬ (s.size : Int) < 3 := by omega
  have l0 : (s[0]'h0).toNat < 256 := UInt8.toNat_lt _
  have l1 : (s[a]'h1).toNat < 256 := UInt8.toNat_lt _
  have l2 : (s[b]'h2).toNat < 256 := UInt8.toNat_lt _
  clear h
  by_cases c0 : (s[0]'h0).toNat = 40
  · have d0 : (((s[0]'h0).toNat : Int) != 40) = false := by rw [bne_eq_false_iff_eq]; omega
    by_cases c1 : (s[a]'h1).toNat = 105
    · have d1 : (((s[a]'h1).toNat : Int) != 105) = false := by rw [bne_eq_false_iff_eq]; omega
      have c2 : ¬ (s[b]'h2).toNat = 41 := fun c2 => hn ⟨c0, c1, c2⟩
      have d2 : (((s[b]'h2).toNat : Int) != 41) = true := by rw [bne_iff_ne]; omega
      clear hn
      go_enter Tryz.func13, Tryz.ntmps13
      go_wp2
      go_returns
      exact ⟨rfl, Below.refl _ _⟩
    · have d1 : (((s[a]'h1).toNat : Int) != 105) = true := by rw [bne_iff_ne]; omega
      clear hn
      go_enter Tryz.func13, Tryz.ntmps13
      go_wp2
      go_returns
      exact ⟨rfl, Below.refl _ _⟩
  · have d0 : (((s[0]'h0).toNat : Int) != 40) = true := by rw [bne_iff_ne]; omega
    clear hn
    go_enter Tryz.func13, Tryz.ntmps13
    go_wp2
    go_returns
    exact ⟨rfl, Below.refl _ _⟩
set_option maxRecDepth 1000000 in
set_option maxHeartbeats 4000000 in
theorem nsp_in {s T : ByteArray} {a b K : Nat} (h : 3 ≤ s.size) (ha : (s.size : Int) - 2 = (a : Int)) (hb : (s.size : Int) - 1 = (b : Int)) (hz : s.size ≤ 100000) (h0 : 0 < s.size) (h1 : a < s.size) (h2 : b < s.size) (c0 : (s[0]'h0).toNat = 40) (c1 : (s[a]'h1).toNat = 105) (c2 : (s[b]'h2).toNat = 41) (hT : s.extract 1 a = T) (HK : Hid (lastS T.data.toList T.size = K)) :
    (K = 0 → NsC s ⟨#[]⟩ ⟨#[]⟩ false) ∧ (K ≠ 0 → NsC s (T.extract 0 K) (T.extract K T.size) true) := by
  have HO : Hid (∀ i (h : i + 1 < T.size), okS T.data.toList (i + 1) = (sgB (T[i + 1]'h) && !(epB (T[i]'(by omega))))) := fun i h => by
    unfold okS
    rw [getD_at T h, Nat.add_sub_cancel, getD_at T (by omega)]
  have HY : Hid (∀ n, n ≠ 0 → okS T.data.toList n = true → lastS T.data.toList (n + 1) = n) := fun n h0 h => lastS_yes h0 h
  have HN : Hid (∀ n, okS T.data.toList n = false → lastS T.data.toList (n + 1) = lastS T.data.toList n) := fun n h => lastS_no h
  have H1 : Hid (lastS T.data.toList 1 = 0 ∧ lastS T.data.toList 0 = 0) := ⟨lastS_one _, rfl⟩
  have hTz : T.size ≤ 100000 := by rw [← hT, ByteArray.size_extract]; omega
  have HL : Hid (∀ n, lastS T.data.toList n ≤ n - 1) := lastS_lt _
  generalize hL : lastS T.data.toList = F at *
  clear hL
  generalize hO : okS T.data.toList = O at *
  clear hO
  have z0 : (0 : Int) < s.size := by omega
  have z1 : ¬ (s.size : Int) < 3 := by omega
  have haI : (1 : Int) ≤ a := by omega
  have ha2 : 1 ≤ a := by omega
  have haz : a ≤ s.size := by omega
  have hazI : (a : Int) ≤ s.size := by omega
  have d0 : (((s[0]'h0).toNat : Int) != 40) = false := by rw [bne_eq_false_iff_eq]; omega
  have d1 : (((s[a]'h1).toNat : Int) != 105) = false := by rw [bne_eq_false_iff_eq]; omega
  have d2 : (((s[b]'h2).toNat : Int) != 41) = false := by rw [bne_eq_false_iff_eq]; omega
  clear h
  have main : ∀ w, Calls Tryz.prog 13 #[.string s] w fun e w' => (K = 0 → e = .returned (.tuple #[.string ⟨#[]⟩, .string ⟨#[]⟩, .bool false]) ∧ Below w.heap.size w w') ∧ (K ≠ 0 → e = .returned (.tuple #[.string (T.extract 0 K), .string (T.extract K T.size), .bool true]) ∧ Below w.heap.size w w') := fun w => by
    go_enter Tryz.func13, Tryz.ntmps13
    go_wp2
    go_loopg [6, 7, 8] (T.size) (fun g kv iv cv wr => w = wr ∧ ∃ k i : Nat, kv = .int .i64 k ∧ iv = .int .i64 i ∧ 1 ≤ i ∧ i + g = T.size + 1 ∧ k < i ∧ Hid (F i = k) ∧ Hid (i ≤ T.size ∨ T.size = 0))
    case atStart => exact ⟨rfl, 0, 1, rfl, rfl, by omega, by omega, by omega, H1.out.1, by show _ ∨ _; omega⟩
    case round =>
      obtain ⟨rfl, k, i, rfl, rfl, hi1, hig, hki, HF, HE⟩ := hrel
      by_cases hi : i < T.size
      · have hiI : (i : Int) < T.size := by omega
        obtain ⟨j, rfl⟩ : ∃ j, i = j + 1 := ⟨i - 1, by omega⟩
        have hj0 : j < T.size := by omega
        have hjI : (((j + 1 : Nat) : Int)) - 1 = (j : Int) := by omega
        have ho := HO.out j hi
        have hy := HY.out (j + 1) (by omega)
        have hn := HN.out (j + 1)
        have hF := HF.out
        have l1 : (T[j + 1]'hi).toNat < 256 := UInt8.toNat_lt _
        have l0 : (T[j]'hj0).toNat < 256 := UInt8.toNat_lt _
        clear HO HY HN H1 HF HK HL
        by_cases hs : (T[j + 1]'hi).toNat = 43 ∨ (T[j + 1]'hi).toNat = 45
        · have hs2 : sgB (T[j + 1]'hi) = true := decide_eq_true hs
          rw [hs2, Bool.true_and] at ho
          clear hs2
          by_cases he : (T[j]'hj0).toNat = 101 ∨ (T[j]'hj0).toNat = 69 ∨ (T[j]'hj0).toNat = 112 ∨ (T[j]'hj0).toNat = 80
          · have he2 : epB (T[j]'hj0) = true := decide_eq_true he
            rw [he2] at ho
            have HR : Hid (F (j + 1 + 1) = k) := by show _ = _; rw [hn ho]; exact hF
            clear hy hn ho hF he2
            rcases hs with hs | hs <;> rcases he with he | he | he | he
            all_goals
              go_wp2
              go_roundg (gk - 1)
              case measure => omega
              case rel => exact ⟨rfl, k, j + 1 + 1, rfl, by go_num, by omega, by omega, by omega, HR, by show _ ∨ _; omega⟩
          · have he2 : epB (T[j]'hj0) = false := decide_eq_false he
            rw [he2] at ho
            have HR : Hid (F (j + 1 + 1) = j + 1) := hy ho
            have n1 : (T[j]'hj0).toNat ≠ 101 := by omega
            have n2 : (T[j]'hj0).toNat ≠ 69 := by omega
            have n3 : (T[j]'hj0).toNat ≠ 112 := by omega
            have n4 : (T[j]'hj0).toNat ≠ 80 := by omega
            have m1 : (((T[j]'hj0).toNat : Int) != 101) = true := by rw [bne_iff_ne]; omega
            have m2 : (((T[j]'hj0).toNat : Int) != 69) = true := by rw [bne_iff_ne]; omega
            have m3 : (((T[j]'hj0).toNat : Int) != 112) = true := by rw [bne_iff_ne]; omega
            have m4 : (((T[j]'hj0).toNat : Int) != 80) = true := by rw [bne_iff_ne]; omega
            clear hy hn ho hF he2 he
            rcases hs with hs | hs
            all_goals
              go_wp2
              go_roundg (gk - 1)
              case measure => omega
              case rel => exact ⟨rfl, j + 1, j + 1 + 1, by go_num, by go_num, by omega, by omega, by omega, HR, by show _ ∨ _; omega⟩
        · have hs2 : sgB (T[j + 1]'hi) = false := decide_eq_false hs
          rw [hs2, Bool.false_and] at ho
          have HR : Hid (F (j + 1 + 1) = k) := by show _ = _; rw [hn ho]; exact hF
          have n1 : (T[j + 1]'hi).toNat ≠ 43 := by omega
          have n2 : (T[j + 1]'hi).toNat ≠ 45 := by omega
          have m1 : (((T[j + 1]'hi).toNat : Int) != 43) = true := by rw [bne_iff_ne]; omega
          have m2 : (((T[j + 1]'hi).toNat : Int) != 45) = true := by rw [bne_iff_ne]; omega
          clear hy hn ho hF hs2 hs
          go_wp2
          go_roundg (gk - 1)
          case measure => omega
          case rel => exact ⟨rfl, k, j + 1 + 1, rfl, by go_num, by omega, by omega, by omega, HR, by show _ ∨ _; omega⟩
      · have hiI : ¬ (i : Int) < T.size := by omega
        have HR : Hid (K = k) := by
          show _ = _
          rw [← HK.out, ← HF.out]
          rcases HE.out with h | h
          · congr 1; omega
          · rw [h, show i = 1 by omega, H1.out.1, H1.out.2]
        have hkT : k ≤ T.size := by omega
        have hkTI : (k : Int) ≤ T.size := by omega
        clear HO HY HN H1 HF HK HL HE
        by_cases hk0 : k = 0
        · subst hk0
          go_wp2
          go_returns
          rw [HR.out]
          exact ⟨fun _ => ⟨rfl, Below.refl _ _⟩, fun h => absurd rfl h⟩
        · have hk0I : ¬ (k : Int) = 0 := by omega
          have b1 : ((k : Int) == 0) = false := beq_eq_false_iff_ne.2 hk0I
          go_wp2
          go_region
          all_goals go_wp2
          all_goals go_returns
          all_goals rw [HR.out]
          all_goals exact ⟨fun h => absurd h hk0, fun _ => ⟨rfl, (Below.refl _ _).drew⟩⟩
  exact ⟨fun h w => (main w).mono fun e w' k => k.1 h, fun h w => (main w).mono fun e w' k => k.2 h⟩
theorem brack {l : List UInt8} {n : Nat} (hl : l.length = n + 3) (g0 : l[0]'(by omega) = 40) (g1 : l[n + 1]'(by omega) = 105) (g2 : l[n + 2]'(by omega) = 41) : l = 40 :: (l.take (n + 1)).drop 1 ++ [105, 41] := by
  have e1 : l = l.take (n + 1) ++ [105, 41] := by
    rw [← g1, ← g2]
    conv => lhs; rw [← List.take_append_drop (n + 1) l]
    congr 1
    rw [List.drop_eq_getElem_cons (by omega), List.drop_eq_getElem_cons (by omega), List.drop_of_length_le (by omega)]
  have e2 : l.take (n + 1) = 40 :: (l.take (n + 1)).drop 1 := by
    rw [← g0]
    have hlt : 0 < (l.take (n + 1)).length := by rw [List.length_take]; omega
    have := List.drop_eq_getElem_cons hlt
    rw [List.drop_zero] at this
    rw [this, List.getElem_take]; simp
  conv => lhs; rw [e1, e2]
/-- The program's Split and the document's are one. -/
theorem split_both (s : ByteArray) (hz : s.size ≤ 100000) : ∃ (x y : ByteArray) (ok : Bool), SpC s x y ok ∧ NsC s x y ok := by
  by_cases h3 : s.size < 3
  · refine ⟨_, _, _, split_no s (by omega) fun M hM => ?_, nsp_short h3⟩
    have := congrArg ByteArray.size hM
    rw [app_size, app_size, show (⟨#[40]⟩ : ByteArray).size = 1 from rfl, show (⟨#[105, 41]⟩ : ByteArray).size = 2 from rfl] at this
    omega
  · obtain ⟨n, hn⟩ : ∃ n, s.size = n + 3 := ⟨s.size - 3, by omega⟩
    have h0 : 0 < s.size := by omega
    have h1 : n + 1 < s.size := by omega
    have h2 : n + 2 < s.size := by omega
    have hl := list_len s
    by_cases hc : (s[0]'h0).toNat = 40 ∧ (s[n + 1]'h1).toNat = 105 ∧ (s[n + 2]'h2).toNat = 41
    · obtain ⟨c0, c1, c2⟩ := hc
      have hin : inP s (s.extract 1 (n + 1)) := by
        rw [inP_iff, ext_li]
        exact brack (by rw [list_len]; exact hn) (UInt8.toNat_inj.1 c0) (UInt8.toNat_inj.1 c1) (UInt8.toNat_inj.1 c2)
      obtain ⟨K, hK⟩ : ∃ K, lastS (s.extract 1 (n + 1)).data.toList (s.extract 1 (n + 1)).size = K := ⟨_, rfl⟩
      obtain ⟨k1, k2⟩ := split_in (by omega) hin
      obtain ⟨j1, j2⟩ := nsp_in (K := K) (b := n + 2) (by omega) (by omega) (by omega) hz h0 h1 h2 c0 c1 c2 rfl hK
      rw [hK] at k1 k2
      by_cases h : K = 0
      · exact ⟨_, _, _, k1 h, j1 h⟩
      · exact ⟨_, _, _, k2 h, j2 h⟩
    · refine ⟨_, _, _, split_no s (by omega) fun M hM => ?_, nsp_no (a := n + 1) (b := n + 2) (by omega) (by omega) (by omega) hz h0 h1 h2 hc⟩
      apply hc
      have hM := (inP_iff s M).1 hM
      have hML : M.size = n := by
        have e := congrArg List.length hM
        rw [list_len, List.length_append, List.length_cons, list_len] at e
        have : ([105, 41] : List UInt8).length = 2 := rfl
        omega
      refine ⟨?_, ?_, ?_⟩
      · rw [← getD_at s h0, hM]; rfl
      · rw [← getD_at s h1, hM, getD_app2 (by rw [List.length_cons, list_len]; omega), show n + 1 - (40 :: M.data.toList).length = 0 by rw [List.length_cons, list_len]; omega]; rfl
      · rw [← getD_at s h2, hM, getD_app2 (by rw [List.length_cons, list_len]; omega), show n + 2 - (40 :: M.data.toList).length = 1 by rw [List.length_cons, list_len]; omega]; rfl
end Go.Proofs.YthbabhbfpcfenaaGreatDoor
