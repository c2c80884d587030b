/- The laws' read: a text with an exponent. -/
import Derived.Test.YtkeoafidgfmhlabGreatDoorFRead
namespace Go.Proofs.YtkeoafidgfmhlabGreatDoor
open Go.RowKit
set_option linter.unusedVariables false
set_option linter.unusedSimpArgs false

set_option maxRecDepth 1000000 in
set_option maxHeartbeats 4000000 in
theorem read_e_p {s D0 S X : ByteArray} {p0 N : Nat} {dot0 : Bool} {Q : Int} (hs : s.size ≤ 100000) (h1 : 1 ≤ D0.size) (hN4 : N + 4 ≤ s.size) (HG : Hid (∀ k (h : k < s.size), k < N → isD (s[k]'h) = true ∨ ((s[k]'h) = 46 ∧ (rdL (s.data.toList.take k)).2.2 = false))) (HE : Hid (rdL (s.data.toList.take N) = (D0.data.toList, p0, dot0))) (hce : (s[N]'(by omega)).toNat = 101) (hcs : (s[N + 1]'(by omega)).toNat = 43) (hX : s.extract (N + 2) s.size = X) (HXd : Hid (allD X.data.toList = true)) (HXn : Hid (num X.data.toList ≤ 1000)) (hN : NormC D0 ((p0 : Int) + (num X.data.toList : Nat)) S Q 0) : R6C s S Q := fun w => by
  have HC : Hid (∀ k (h : k < s.size), s.extract k (k + 1) = ⟨#[s[k]'h]⟩) := fun k h => by
    apply ByteArray.ext; apply Array.ext'
    rw [ext_li, List.take_succ_eq_append_getElem (by rw [list_len]; exact h), List.drop_append_of_le_length (by rw [List.length_take, list_len]; omega), List.drop_of_length_le (by rw [List.length_take]; omega)]
    rfl
  have HT : Hid (∀ k (h : k < s.size), rdL (s.data.toList.take (k + 1)) = rdS (rdL (s.data.toList.take k)) (s[k]'h)) := fun k h => by
    rw [List.take_succ_eq_append_getElem (by rw [list_len]; exact h), rdL_snoc]
    rfl
  have HD : Hid (∀ k (h : k < s.size), k < N → isD (s[k]'h) = true ∨ ((s[k]'h) = 46 ∧ (rdL (s.data.toList.take k)).2.2 = false)) := HG.out
  clear HG
  have hXz : X.size + N + 2 = s.size := by rw [← hX, ByteArray.size_extract]; omega
  have HXc : Hid (∀ j, j < X.size → (X.data.toList.getD j 0).toNat < 256 ∧ 48 ≤ (X.data.toList.getD j 0).toNat ∧ (X.data.toList.getD j 0).toNat ≤ 57 ∧ num (X.data.toList.take (j + 1)) = num (X.data.toList.take j) * 10 + ((X.data.toList.getD j 0).toNat - 48)) := fun j hj => by
    have hl : j < X.data.toList.length := by rw [list_len]; exact hj
    have e : X.data.toList.getD j 0 = X.data.toList[j] := by rw [List.getD_eq_getElem?_getD, List.getElem?_eq_getElem hl, Option.getD_some]
    have hm := (isD_iff _).1 (allD_mem HXd.out (List.getElem_mem hl))
    rw [e]
    refine ⟨UInt8.toNat_lt _, hm.1, hm.2, ?_⟩
    rw [List.take_succ_eq_append_getElem hl, num_snoc]; rfl
  have HXp : Hid (∀ j, num (X.data.toList.take j) ≤ 1000) := fun j => by
    have h := HXn.out
    have e : num X.data.toList = num (X.data.toList.take j) * 10 ^ (X.data.toList.drop j).length + num (X.data.toList.drop j) := by rw [← num_append, List.take_append_drop]
    have := pow_pos10 (X.data.toList.drop j).length
    have h2 := Nat.mul_le_mul_left (num (X.data.toList.take j)) this
    omega
  have hcv : ∀ w, (convert 9 52 (.string X)).run Tryz.prog w = .ok (.slice (some ⟨w.heap.size, 0, none⟩) X.size (grownCap w X.size 0 5)) (Lib.bytesWorld w 5 X) := fun w => Lib.run_convert_string_bytes w 9 52 5 X Tryz.underlying9 Tryz.underlying52 Tryz.underlying5
  have HXf : Hid (num X.data.toList = num (X.data.toList.take X.size)) := by show _ = _; rw [List.take_of_length_le (by rw [list_len]; exact Nat.le_refl _)]
  go_enter Tryz.func19, Tryz.ntmps19
  go_wp2
  go_loopg [4, 5, 6, 7, 8] N (fun g dv pv tv iv cv wr => wr = w.alloc (.cells #[.string ⟨#[]⟩, .int .i64 0] 39) ∧ ∃ (k pt : Nat) (D : ByteArray) (dot : Bool), dv = .string D ∧ pv = .int .i64 pt ∧ tv = .bool dot ∧ iv = .int .i64 k ∧ k + g = N ∧ D.size ≤ k ∧ pt ≤ k ∧ Hid (rdL (s.data.toList.take k) = (D.data.toList, pt, dot)))
  case atStart => exact ⟨rfl, 0, 0, ⟨#[]⟩, false, rfl, rfl, rfl, rfl, by omega, Nat.le_refl _, Nat.le_refl _, rfl⟩
  case round =>
    obtain ⟨rfl, k, pt, D, dot, rfl, rfl, rfl, rfl, hkg, hDk, hpk, HX⟩ := hrel
    by_cases hkN : k < N
    · have hk : k < s.size := by omega
      have hkI : (k : Int) < s.size := by omega
      have hkI2 : (k : Int) + 1 ≤ s.size := by omega
      have hc := HC.out k hk
      have ht := HT.out k hk
      have hd := HD.out k hk hkN
      rw [HX.out] at ht hd
      have hb : (s[k]'hk).toNat < 256 := (s[k]'hk).toNat_lt
      rcases hd with hd | ⟨hd, hdot⟩
      · obtain ⟨c0, c1⟩ := (isD_iff _).1 hd
        have c0I : 48 ≤ ((s[k]'hk).toNat : Int) := by omega
        have c1I : ((s[k]'hk).toNat : Int) ≤ 57 := by omega
        obtain ⟨D2, hD2, HD2⟩ : ∃ D2, D ++ (⟨#[s[k]'hk]⟩ : ByteArray) = D2 ∧ Hid (D2.data.toList = D.data.toList ++ [s[k]'hk]) := ⟨_, rfl, by show _ = _; rw [app_list]⟩
        have hz2 : D2.size = D.size + 1 := by rw [← hD2, app_size]; rfl
        have hsum : ¬ 9223372036854775807 < D.size + (⟨#[s[k]'hk]⟩ : ByteArray).size := by rw [show (⟨#[s[k]'hk]⟩ : ByteArray).size = 1 from rfl]; omega
        have HX2 : Hid (rdL (s.data.toList.take (k + 1)) = (D2.data.toList, if dot then pt else pt + 1, dot)) := by
          show _ = _
          rw [ht, HD2.out]
          unfold rdS
          rw [if_pos hd]
        clear HC HT HD HX HE ht hd HD2 hcv HXc HXp HXf hN hX hce hcs
        cases dot with
        | true =>
          go_wp2
          go_roundg (gk - 1)
          case measure => omega
          case rel => exact ⟨rfl, k + 1, pt, D2, true, rfl, rfl, rfl, by go_num, by omega, by omega, by omega, HX2⟩
        | false =>
          go_wp2
          go_roundg (gk - 1)
          case measure => omega
          case rel => exact ⟨rfl, k + 1, pt + 1, D2, false, rfl, by go_num, rfl, by go_num, by omega, by omega, by omega, HX2⟩
      · have hdot : dot = false := hdot
        subst hdot
        have hc6 : (s[k]'hk).toNat = 46 := by rw [hd]; rfl
        have HX2 : Hid (rdL (s.data.toList.take (k + 1)) = (D.data.toList, pt, true)) := by
          show _ = _
          rw [ht]
          unfold rdS
          rw [hd, if_neg (by decide)]
        clear HC HT HD HX HE ht hd hc hcv HXc HXp HXf hN hX hce hcs
        go_wp2
        go_roundg (gk - 1)
        case measure => omega
        case rel => exact ⟨rfl, k + 1, pt, D, true, rfl, rfl, rfl, by go_num, by omega, by omega, by omega, HX2⟩
    · obtain rfl : k = N := by omega
      have hkI : (k : Int) < s.size := by omega
      have hk1I : (k : Int) + 1 < s.size := by omega
      have hk2I : (k : Int) + 2 ≤ s.size := by omega
      have hk4I : ¬ (s.size : Int) < (k : Int) + 4 := by omega
      have e := HX.out
      rw [HE.out] at e
      obtain rfl : D0 = D := by
        apply ByteArray.ext; apply Array.ext'
        exact congrArg (·.1) e
      obtain rfl : p0 = pt := congrArg (·.2.1) e
      have hue : D0.toList.isEmpty = false := empty_no D0 (by omega)
      clear HC HT HD HX HE e
      have hcell : ∀ j, j < X.size → (Lib.bytesWorld (w.alloc (.cells #[.string ⟨#[]⟩, .int .i64 0] 39)) 5 X).cell? ⟨w.heap.size + 1, j, none⟩ = some (.int .u8 ((X.data.toList.getD j 0).toNat : Nat)) := fun j hj => by
        have := Lib.bytesWorld_cell (w.alloc (.cells #[.string ⟨#[]⟩, .int .i64 0] 39)) 5 X j hj
        simpa using this
      have hbB : Below (w.alloc (.cells #[.string ⟨#[]⟩, .int .i64 0] 39)).heap.size (w.alloc (.cells #[.string ⟨#[]⟩, .int .i64 0] 39)) (Lib.bytesWorld (w.alloc (.cells #[.string ⟨#[]⟩, .int .i64 0] 39)) 5 X) := Lib.bytesWorld_below _ _ _
      have hcv2 := hcv (w.alloc (.cells #[.string ⟨#[]⟩, .int .i64 0] 39))
      clear hcv
      have hsz1 : (w.alloc (.cells #[.string ⟨#[]⟩, .int .i64 0] 39)).heap.size = w.heap.size + 1 := by simp
      rw [hsz1] at hcv2
      have bRW := keepb hbB (B := w.heap.size) (x := .string ⟨#[]⟩) (y := .int .i64 0) (by simp [BoxD, go_sem])
      have hbW : Below w.heap.size w (Lib.bytesWorld (w.alloc (.cells #[.string ⟨#[]⟩, .int .i64 0] 39)) 5 X) := bel_call (by go_grown) hbB (Nat.le_refl _)
      generalize Lib.bytesWorld (w.alloc (.cells #[.string ⟨#[]⟩, .int .i64 0] 39)) 5 X = WB at *
      go_wp2
      go_loopg [9, 11, 84] X.size (fun g xv dv iv wr => wr = WB ∧ ∃ j : Nat, xv = .int .i64 (num (X.data.toList.take j) : Nat) ∧ iv = .int .i64 j ∧ j + g = X.size)
      case atStart => exact ⟨rfl, 0, rfl, rfl, by omega⟩
      case round =>
        obtain ⟨rfl, j, rfl, rfl, hjg⟩ := hrel
        by_cases hj : j < X.size
        · have hjI : (j : Int) < X.size := by omega
          obtain ⟨x0, x1, x2, x3⟩ := HXc.out j hj
          have hcl := hcell j hj
          have hp := HXp.out j
          have hp2 := HXp.out (j + 1)
          rw [x3] at hp2
          have HX3 : Hid (num (X.data.toList.take (j + 1)) = num (X.data.toList.take j) * 10 + ((X.data.toList.getD j 0).toNat - 48)) := x3
          clear HXc HXp HXf hN hcv2 x3 hcell
          generalize (X.data.toList.getD j 0).toNat = c at *
          generalize hM : num (X.data.toList.take j) = M at *
          have HM : Hid (num (X.data.toList.take j) = M) := hM
          clear hM
          have x1I : ¬ (c : Int) < 48 := by omega
          have x2I : (c : Int) ≤ 57 := by omega
          have hpI : ¬ 1000 < (M : Int) := by omega
          go_wp2
          go_roundg (gk - 1)
          case measure => omega
          case rel => exact ⟨rfl, j + 1, by rw [HX3.out]; congr 1; omega, by go_num, by omega⟩
        · have hjI : ¬ (j : Int) < X.size := by omega
          obtain rfl : j = X.size := by omega
          have e2 := HXf.out
          have hp := HXp.out X.size
          rw [← e2] at hp
          rw [← e2]
          clear HXc HXp HXf hcv2 hcell e2
          generalize num X.data.toList = M at *
          have hMI : (M : Int) ≤ 1000 := by omega
          go_wp2_with (go_at_call 41; refine (hN _).mono ?_; rintro x w3 ⟨rfl, hb3⟩; have bR := keepb hb3 bRW; obtain ⟨r0, r1, r2, r3⟩ := id bR; have hlt : w.heap.size < w3.heap.size := World.block_lt_of_cell? w3 _ r0)
          refine bodyPost_ret (by simp [results, Tryz.results19, go_sem, cs_same, r0, r1, hlt]; rfl) rfl ?_
          refine ⟨rfl, ?_⟩
          have h := bel_call (B := w.heap.size) (w := w) hbW hb3 (Nat.le_refl _)
          have hs := (h.setCell (p := ⟨w.heap.size, 0, none⟩) (Nat.le_refl _) (.string S)).setCell (p := ⟨w.heap.size, 1, none⟩) (Nat.le_refl _) (.int .i64 Q)
          exact hs.alloc hs.size _
set_option maxRecDepth 1000000 in
set_option maxHeartbeats 4000000 in
theorem read_e_m {s D0 S X : ByteArray} {p0 N : Nat} {dot0 : Bool} {Q : Int} (hs : s.size ≤ 100000) (h1 : 1 ≤ D0.size) (hN4 : N + 4 ≤ s.size) (HG : Hid (∀ k (h : k < s.size), k < N → isD (s[k]'h) = true ∨ ((s[k]'h) = 46 ∧ (rdL (s.data.toList.take k)).2.2 = false))) (HE : Hid (rdL (s.data.toList.take N) = (D0.data.toList, p0, dot0))) (hce : (s[N]'(by omega)).toNat = 101) (hcs : (s[N + 1]'(by omega)).toNat = 45) (hX : s.extract (N + 2) s.size = X) (HXd : Hid (allD X.data.toList = true)) (HXn : Hid (num X.data.toList ≤ 1000)) (hN : NormC D0 ((p0 : Int) - (num X.data.toList : Nat)) S Q 0) : R6C s S Q := fun w => by
  have HC : Hid (∀ k (h : k < s.size), s.extract k (k + 1) = ⟨#[s[k]'h]⟩) := fun k h => by
    apply ByteArray.ext; apply Array.ext'
    rw [ext_li, List.take_succ_eq_append_getElem (by rw [list_len]; exact h), List.drop_append_of_le_length (by rw [List.length_take, list_len]; omega), List.drop_of_length_le (by rw [List.length_take]; omega)]
    rfl
  have HT : Hid (∀ k (h : k < s.size), rdL (s.data.toList.take (k + 1)) = rdS (rdL (s.data.toList.take k)) (s[k]'h)) := fun k h => by
    rw [List.take_succ_eq_append_getElem (by rw [list_len]; exact h), rdL_snoc]
    rfl
  have HD : Hid (∀ k (h : k < s.size), k < N → isD (s[k]'h) = true ∨ ((s[k]'h) = 46 ∧ (rdL (s.data.toList.take k)).2.2 = false)) := HG.out
  clear HG
  have hXz : X.size + N + 2 = s.size := by rw [← hX, ByteArray.size_extract]; omega
  have HXc : Hid (∀ j, j < X.size → (X.data.toList.getD j 0).toNat < 256 ∧ 48 ≤ (X.data.toList.getD j 0).toNat ∧ (X.data.toList.getD j 0).toNat ≤ 57 ∧ num (X.data.toList.take (j + 1)) = num (X.data.toList.take j) * 10 + ((X.data.toList.getD j 0).toNat - 48)) := fun j hj => by
    have hl : j < X.data.toList.length := by rw [list_len]; exact hj
    have e : X.data.toList.getD j 0 = X.data.toList[j] := by rw [List.getD_eq_getElem?_getD, List.getElem?_eq_getElem hl, Option.getD_some]
    have hm := (isD_iff _).1 (allD_mem HXd.out (List.getElem_mem hl))
    rw [e]
    refine ⟨UInt8.toNat_lt _, hm.1, hm.2, ?_⟩
    rw [List.take_succ_eq_append_getElem hl, num_snoc]; rfl
  have HXp : Hid (∀ j, num (X.data.toList.take j) ≤ 1000) := fun j => by
    have h := HXn.out
    have e : num X.data.toList = num (X.data.toList.take j) * 10 ^ (X.data.toList.drop j).length + num (X.data.toList.drop j) := by rw [← num_append, List.take_append_drop]
    have := pow_pos10 (X.data.toList.drop j).length
    have h2 := Nat.mul_le_mul_left (num (X.data.toList.take j)) this
    omega
  have hcv : ∀ w, (convert 9 52 (.string X)).run Tryz.prog w = .ok (.slice (some ⟨w.heap.size, 0, none⟩) X.size (grownCap w X.size 0 5)) (Lib.bytesWorld w 5 X) := fun w => Lib.run_convert_string_bytes w 9 52 5 X Tryz.underlying9 Tryz.underlying52 Tryz.underlying5
  have HXf : Hid (num X.data.toList = num (X.data.toList.take X.size)) := by show _ = _; rw [List.take_of_length_le (by rw [list_len]; exact Nat.le_refl _)]
  go_enter Tryz.func19, Tryz.ntmps19
  go_wp2
  go_loopg [4, 5, 6, 7, 8] N (fun g dv pv tv iv cv wr => wr = w.alloc (.cells #[.string ⟨#[]⟩, .int .i64 0] 39) ∧ ∃ (k pt : Nat) (D : ByteArray) (dot : Bool), dv = .string D ∧ pv = .int .i64 pt ∧ tv = .bool dot ∧ iv = .int .i64 k ∧ k + g = N ∧ D.size ≤ k ∧ pt ≤ k ∧ Hid (rdL (s.data.toList.take k) = (D.data.toList, pt, dot)))
  case atStart => exact ⟨rfl, 0, 0, ⟨#[]⟩, false, rfl, rfl, rfl, rfl, by omega, Nat.le_refl _, Nat.le_refl _, rfl⟩
  case round =>
    obtain ⟨rfl, k, pt, D, dot, rfl, rfl, rfl, rfl, hkg, hDk, hpk, HX⟩ := hrel
    by_cases hkN : k < N
    · have hk : k < s.size := by omega
      have hkI : (k : Int) < s.size := by omega
      have hkI2 : (k : Int) + 1 ≤ s.size := by omega
      have hc := HC.out k hk
      have ht := HT.out k hk
      have hd := HD.out k hk hkN
      rw [HX.out] at ht hd
      have hb : (s[k]'hk).toNat < 256 := (s[k]'hk).toNat_lt
      rcases hd with hd | ⟨hd, hdot⟩
      · obtain ⟨c0, c1⟩ := (isD_iff _).1 hd
        have c0I : 48 ≤ ((s[k]'hk).toNat : Int) := by omega
        have c1I : ((s[k]'hk).toNat : Int) ≤ 57 := by omega
        obtain ⟨D2, hD2, HD2⟩ : ∃ D2, D ++ (⟨#[s[k]'hk]⟩ : ByteArray) = D2 ∧ Hid (D2.data.toList = D.data.toList ++ [s[k]'hk]) := ⟨_, rfl, by show _ = _; rw [app_list]⟩
        have hz2 : D2.size = D.size + 1 := by rw [← hD2, app_size]; rfl
        have hsum : ¬ 9223372036854775807 < D.size + (⟨#[s[k]'hk]⟩ : ByteArray).size := by rw [show (⟨#[s[k]'hk]⟩ : ByteArray).size = 1 from rfl]; omega
        have HX2 : Hid (rdL (s.data.toList.take (k + 1)) = (D2.data.toList, if dot then pt else pt + 1, dot)) := by
          show _ = _
          rw [ht, HD2.out]
          unfold rdS
          rw [if_pos hd]
        clear HC HT HD HX HE ht hd HD2 hcv HXc HXp HXf hN hX hce hcs
        cases dot with
        | true =>
          go_wp2
          go_roundg (gk - 1)
          case measure => omega
          case rel => exact ⟨rfl, k + 1, pt, D2, true, rfl, rfl, rfl, by go_num, by omega, by omega, by omega, HX2⟩
        | false =>
          go_wp2
          go_roundg (gk - 1)
          case measure => omega
          case rel => exact ⟨rfl, k + 1, pt + 1, D2, false, rfl, by go_num, rfl, by go_num, by omega, by omega, by omega, HX2⟩
      · have hdot : dot = false := hdot
        subst hdot
        have hc6 : (s[k]'hk).toNat = 46 := by rw [hd]; rfl
        have HX2 : Hid (rdL (s.data.toList.take (k + 1)) = (D.data.toList, pt, true)) := by
          show _ = _
          rw [ht]
          unfold rdS
          rw [hd, if_neg (by decide)]
        clear HC HT HD HX HE ht hd hc hcv HXc HXp HXf hN hX hce hcs
        go_wp2
        go_roundg (gk - 1)
        case measure => omega
        case rel => exact ⟨rfl, k + 1, pt, D, true, rfl, rfl, rfl, by go_num, by omega, by omega, by omega, HX2⟩
    · obtain rfl : k = N := by omega
      have hkI : (k : Int) < s.size := by omega
      have hk1I : (k : Int) + 1 < s.size := by omega
      have hk2I : (k : Int) + 2 ≤ s.size := by omega
      have hk4I : ¬ (s.size : Int) < (k : Int) + 4 := by omega
      have e := HX.out
      rw [HE.out] at e
      obtain rfl : D0 = D := by
        apply ByteArray.ext; apply Array.ext'
        exact congrArg (·.1) e
      obtain rfl : p0 = pt := congrArg (·.2.1) e
      have hue : D0.toList.isEmpty = false := empty_no D0 (by omega)
      clear HC HT HD HX HE e
      have hcell : ∀ j, j < X.size → (Lib.bytesWorld (w.alloc (.cells #[.string ⟨#[]⟩, .int .i64 0] 39)) 5 X).cell? ⟨w.heap.size + 1, j, none⟩ = some (.int .u8 ((X.data.toList.getD j 0).toNat : Nat)) := fun j hj => by
        have := Lib.bytesWorld_cell (w.alloc (.cells #[.string ⟨#[]⟩, .int .i64 0] 39)) 5 X j hj
        simpa using this
      have hbB : Below (w.alloc (.cells #[.string ⟨#[]⟩, .int .i64 0] 39)).heap.size (w.alloc (.cells #[.string ⟨#[]⟩, .int .i64 0] 39)) (Lib.bytesWorld (w.alloc (.cells #[.string ⟨#[]⟩, .int .i64 0] 39)) 5 X) := Lib.bytesWorld_below _ _ _
      have hcv2 := hcv (w.alloc (.cells #[.string ⟨#[]⟩, .int .i64 0] 39))
      clear hcv
      have hsz1 : (w.alloc (.cells #[.string ⟨#[]⟩, .int .i64 0] 39)).heap.size = w.heap.size + 1 := by simp
      rw [hsz1] at hcv2
      have bRW := keepb hbB (B := w.heap.size) (x := .string ⟨#[]⟩) (y := .int .i64 0) (by simp [BoxD, go_sem])
      have hbW : Below w.heap.size w (Lib.bytesWorld (w.alloc (.cells #[.string ⟨#[]⟩, .int .i64 0] 39)) 5 X) := bel_call (by go_grown) hbB (Nat.le_refl _)
      generalize Lib.bytesWorld (w.alloc (.cells #[.string ⟨#[]⟩, .int .i64 0] 39)) 5 X = WB at *
      go_wp2
      go_loopg [9, 11, 84] X.size (fun g xv dv iv wr => wr = WB ∧ ∃ j : Nat, xv = .int .i64 (num (X.data.toList.take j) : Nat) ∧ iv = .int .i64 j ∧ j + g = X.size)
      case atStart => exact ⟨rfl, 0, rfl, rfl, by omega⟩
      case round =>
        obtain ⟨rfl, j, rfl, rfl, hjg⟩ := hrel
        by_cases hj : j < X.size
        · have hjI : (j : Int) < X.size := by omega
          obtain ⟨x0, x1, x2, x3⟩ := HXc.out j hj
          have hcl := hcell j hj
          have hp := HXp.out j
          have hp2 := HXp.out (j + 1)
          rw [x3] at hp2
          have HX3 : Hid (num (X.data.toList.take (j + 1)) = num (X.data.toList.take j) * 10 + ((X.data.toList.getD j 0).toNat - 48)) := x3
          clear HXc HXp HXf hN hcv2 x3 hcell
          generalize (X.data.toList.getD j 0).toNat = c at *
          generalize hM : num (X.data.toList.take j) = M at *
          have HM : Hid (num (X.data.toList.take j) = M) := hM
          clear hM
          have x1I : ¬ (c : Int) < 48 := by omega
          have x2I : (c : Int) ≤ 57 := by omega
          have hpI : ¬ 1000 < (M : Int) := by omega
          go_wp2
          go_roundg (gk - 1)
          case measure => omega
          case rel => exact ⟨rfl, j + 1, by rw [HX3.out]; congr 1; omega, by go_num, by omega⟩
        · have hjI : ¬ (j : Int) < X.size := by omega
          obtain rfl : j = X.size := by omega
          have e2 := HXf.out
          have hp := HXp.out X.size
          rw [← e2] at hp
          rw [← e2]
          clear HXc HXp HXf hcv2 hcell e2
          generalize num X.data.toList = M at *
          have hMI : (M : Int) ≤ 1000 := by omega
          go_wp2_with (go_at_call 41; refine (hN _).mono ?_; rintro x w3 ⟨rfl, hb3⟩; have bR := keepb hb3 bRW; obtain ⟨r0, r1, r2, r3⟩ := id bR; have hlt : w.heap.size < w3.heap.size := World.block_lt_of_cell? w3 _ r0)
          refine bodyPost_ret (by simp [results, Tryz.results19, go_sem, cs_same, r0, r1, hlt]; rfl) rfl ?_
          refine ⟨rfl, ?_⟩
          have h := bel_call (B := w.heap.size) (w := w) hbW hb3 (Nat.le_refl _)
          have hs := (h.setCell (p := ⟨w.heap.size, 0, none⟩) (Nat.le_refl _) (.string S)).setCell (p := ⟨w.heap.size, 1, none⟩) (Nat.le_refl _) (.int .i64 Q)
          exact hs.alloc hs.size _
set_option maxRecDepth 1000000 in
set_option maxHeartbeats 4000000 in
theorem read_E_p {s D0 S X : ByteArray} {p0 N : Nat} {dot0 : Bool} {Q : Int} (hs : s.size ≤ 100000) (h1 : 1 ≤ D0.size) (hN4 : N + 4 ≤ s.size) (HG : Hid (∀ k (h : k < s.size), k < N → isD (s[k]'h) = true ∨ ((s[k]'h) = 46 ∧ (rdL (s.data.toList.take k)).2.2 = false))) (HE : Hid (rdL (s.data.toList.take N) = (D0.data.toList, p0, dot0))) (hce : (s[N]'(by omega)).toNat = 69) (hcs : (s[N + 1]'(by omega)).toNat = 43) (hX : s.extract (N + 2) s.size = X) (HXd : Hid (allD X.data.toList = true)) (HXn : Hid (num X.data.toList ≤ 1000)) (hN : NormC D0 ((p0 : Int) + (num X.data.toList : Nat)) S Q 0) : R6C s S Q := fun w => by
  have HC : Hid (∀ k (h : k < s.size), s.extract k (k + 1) = ⟨#[s[k]'h]⟩) := fun k h => by
    apply ByteArray.ext; apply Array.ext'
    rw [ext_li, List.take_succ_eq_append_getElem (by rw [list_len]; exact h), List.drop_append_of_le_length (by rw [List.length_take, list_len]; omega), List.drop_of_length_le (by rw [List.length_take]; omega)]
    rfl
  have HT : Hid (∀ k (h : k < s.size), rdL (s.data.toList.take (k + 1)) = rdS (rdL (s.data.toList.take k)) (s[k]'h)) := fun k h => by
    rw [List.take_succ_eq_append_getElem (by rw [list_len]; exact h), rdL_snoc]
    rfl
  have HD : Hid (∀ k (h : k < s.size), k < N → isD (s[k]'h) = true ∨ ((s[k]'h) = 46 ∧ (rdL (s.data.toList.take k)).2.2 = false)) := HG.out
  clear HG
  have hXz : X.size + N + 2 = s.size := by rw [← hX, ByteArray.size_extract]; omega
  have HXc : Hid (∀ j, j < X.size → (X.data.toList.getD j 0).toNat < 256 ∧ 48 ≤ (X.data.toList.getD j 0).toNat ∧ (X.data.toList.getD j 0).toNat ≤ 57 ∧ num (X.data.toList.take (j + 1)) = num (X.data.toList.take j) * 10 + ((X.data.toList.getD j 0).toNat - 48)) := fun j hj => by
    have hl : j < X.data.toList.length := by rw [list_len]; exact hj
    have e : X.data.toList.getD j 0 = X.data.toList[j] := by rw [List.getD_eq_getElem?_getD, List.getElem?_eq_getElem hl, Option.getD_some]
    have hm := (isD_iff _).1 (allD_mem HXd.out (List.getElem_mem hl))
    rw [e]
    refine ⟨UInt8.toNat_lt _, hm.1, hm.2, ?_⟩
    rw [List.take_succ_eq_append_getElem hl, num_snoc]; rfl
  have HXp : Hid (∀ j, num (X.data.toList.take j) ≤ 1000) := fun j => by
    have h := HXn.out
    have e : num X.data.toList = num (X.data.toList.take j) * 10 ^ (X.data.toList.drop j).length + num (X.data.toList.drop j) := by rw [← num_append, List.take_append_drop]
    have := pow_pos10 (X.data.toList.drop j).length
    have h2 := Nat.mul_le_mul_left (num (X.data.toList.take j)) this
    omega
  have hcv : ∀ w, (convert 9 52 (.string X)).run Tryz.prog w = .ok (.slice (some ⟨w.heap.size, 0, none⟩) X.size (grownCap w X.size 0 5)) (Lib.bytesWorld w 5 X) := fun w => Lib.run_convert_string_bytes w 9 52 5 X Tryz.underlying9 Tryz.underlying52 Tryz.underlying5
  have HXf : Hid (num X.data.toList = num (X.data.toList.take X.size)) := by show _ = _; rw [List.take_of_length_le (by rw [list_len]; exact Nat.le_refl _)]
  go_enter Tryz.func19, Tryz.ntmps19
  go_wp2
  go_loopg [4, 5, 6, 7, 8] N (fun g dv pv tv iv cv wr => wr = w.alloc (.cells #[.string ⟨#[]⟩, .int .i64 0] 39) ∧ ∃ (k pt : Nat) (D : ByteArray) (dot : Bool), dv = .string D ∧ pv = .int .i64 pt ∧ tv = .bool dot ∧ iv = .int .i64 k ∧ k + g = N ∧ D.size ≤ k ∧ pt ≤ k ∧ Hid (rdL (s.data.toList.take k) = (D.data.toList, pt, dot)))
  case atStart => exact ⟨rfl, 0, 0, ⟨#[]⟩, false, rfl, rfl, rfl, rfl, by omega, Nat.le_refl _, Nat.le_refl _, rfl⟩
  case round =>
    obtain ⟨rfl, k, pt, D, dot, rfl, rfl, rfl, rfl, hkg, hDk, hpk, HX⟩ := hrel
    by_cases hkN : k < N
    · have hk : k < s.size := by omega
      have hkI : (k : Int) < s.size := by omega
      have hkI2 : (k : Int) + 1 ≤ s.size := by omega
      have hc := HC.out k hk
      have ht := HT.out k hk
      have hd := HD.out k hk hkN
      rw [HX.out] at ht hd
      have hb : (s[k]'hk).toNat < 256 := (s[k]'hk).toNat_lt
      rcases hd with hd | ⟨hd, hdot⟩
      · obtain ⟨c0, c1⟩ := (isD_iff _).1 hd
        have c0I : 48 ≤ ((s[k]'hk).toNat : Int) := by omega
        have c1I : ((s[k]'hk).toNat : Int) ≤ 57 := by omega
        obtain ⟨D2, hD2, HD2⟩ : ∃ D2, D ++ (⟨#[s[k]'hk]⟩ : ByteArray) = D2 ∧ Hid (D2.data.toList = D.data.toList ++ [s[k]'hk]) := ⟨_, rfl, by show _ = _; rw [app_list]⟩
        have hz2 : D2.size = D.size + 1 := by rw [← hD2, app_size]; rfl
        have hsum : ¬ 9223372036854775807 < D.size + (⟨#[s[k]'hk]⟩ : ByteArray).size := by rw [show (⟨#[s[k]'hk]⟩ : ByteArray).size = 1 from rfl]; omega
        have HX2 : Hid (rdL (s.data.toList.take (k + 1)) = (D2.data.toList, if dot then pt else pt + 1, dot)) := by
          show _ = _
          rw [ht, HD2.out]
          unfold rdS
          rw [if_pos hd]
        clear HC HT HD HX HE ht hd HD2 hcv HXc HXp HXf hN hX hce hcs
        cases dot with
        | true =>
          go_wp2
          go_roundg (gk - 1)
          case measure => omega
          case rel => exact ⟨rfl, k + 1, pt, D2, true, rfl, rfl, rfl, by go_num, by omega, by omega, by omega, HX2⟩
        | false =>
          go_wp2
          go_roundg (gk - 1)
          case measure => omega
          case rel => exact ⟨rfl, k + 1, pt + 1, D2, false, rfl, by go_num, rfl, by go_num, by omega, by omega, by omega, HX2⟩
      · have hdot : dot = false := hdot
        subst hdot
        have hc6 : (s[k]'hk).toNat = 46 := by rw [hd]; rfl
        have HX2 : Hid (rdL (s.data.toList.take (k + 1)) = (D.data.toList, pt, true)) := by
          show _ = _
          rw [ht]
          unfold rdS
          rw [hd, if_neg (by decide)]
        clear HC HT HD HX HE ht hd hc hcv HXc HXp HXf hN hX hce hcs
        go_wp2
        go_roundg (gk - 1)
        case measure => omega
        case rel => exact ⟨rfl, k + 1, pt, D, true, rfl, rfl, rfl, by go_num, by omega, by omega, by omega, HX2⟩
    · obtain rfl : k = N := by omega
      have hkI : (k : Int) < s.size := by omega
      have hk1I : (k : Int) + 1 < s.size := by omega
      have hk2I : (k : Int) + 2 ≤ s.size := by omega
      have hk4I : ¬ (s.size : Int) < (k : Int) + 4 := by omega
      have e := HX.out
      rw [HE.out] at e
      obtain rfl : D0 = D := by
        apply ByteArray.ext; apply Array.ext'
        exact congrArg (·.1) e
      obtain rfl : p0 = pt := congrArg (·.2.1) e
      have hue : D0.toList.isEmpty = false := empty_no D0 (by omega)
      clear HC HT HD HX HE e
      have hcell : ∀ j, j < X.size → (Lib.bytesWorld (w.alloc (.cells #[.string ⟨#[]⟩, .int .i64 0] 39)) 5 X).cell? ⟨w.heap.size + 1, j, none⟩ = some (.int .u8 ((X.data.toList.getD j 0).toNat : Nat)) := fun j hj => by
        have := Lib.bytesWorld_cell (w.alloc (.cells #[.string ⟨#[]⟩, .int .i64 0] 39)) 5 X j hj
        simpa using this
      have hbB : Below (w.alloc (.cells #[.string ⟨#[]⟩, .int .i64 0] 39)).heap.size (w.alloc (.cells #[.string ⟨#[]⟩, .int .i64 0] 39)) (Lib.bytesWorld (w.alloc (.cells #[.string ⟨#[]⟩, .int .i64 0] 39)) 5 X) := Lib.bytesWorld_below _ _ _
      have hcv2 := hcv (w.alloc (.cells #[.string ⟨#[]⟩, .int .i64 0] 39))
      clear hcv
      have hsz1 : (w.alloc (.cells #[.string ⟨#[]⟩, .int .i64 0] 39)).heap.size = w.heap.size + 1 := by simp
      rw [hsz1] at hcv2
      have bRW := keepb hbB (B := w.heap.size) (x := .string ⟨#[]⟩) (y := .int .i64 0) (by simp [BoxD, go_sem])
      have hbW : Below w.heap.size w (Lib.bytesWorld (w.alloc (.cells #[.string ⟨#[]⟩, .int .i64 0] 39)) 5 X) := bel_call (by go_grown) hbB (Nat.le_refl _)
      generalize Lib.bytesWorld (w.alloc (.cells #[.string ⟨#[]⟩, .int .i64 0] 39)) 5 X = WB at *
      go_wp2
      go_loopg [9, 11, 84] X.size (fun g xv dv iv wr => wr = WB ∧ ∃ j : Nat, xv = .int .i64 (num (X.data.toList.take j) : Nat) ∧ iv = .int .i64 j ∧ j + g = X.size)
      case atStart => exact ⟨rfl, 0, rfl, rfl, by omega⟩
      case round =>
        obtain ⟨rfl, j, rfl, rfl, hjg⟩ := hrel
        by_cases hj : j < X.size
        · have hjI : (j : Int) < X.size := by omega
          obtain ⟨x0, x1, x2, x3⟩ := HXc.out j hj
          have hcl := hcell j hj
          have hp := HXp.out j
          have hp2 := HXp.out (j + 1)
          rw [x3] at hp2
          have HX3 : Hid (num (X.data.toList.take (j + 1)) = num (X.data.toList.take j) * 10 + ((X.data.toList.getD j 0).toNat - 48)) := x3
          clear HXc HXp HXf hN hcv2 x3 hcell
          generalize (X.data.toList.getD j 0).toNat = c at *
          generalize hM : num (X.data.toList.take j) = M at *
          have HM : Hid (num (X.data.toList.take j) = M) := hM
          clear hM
          have x1I : ¬ (c : Int) < 48 := by omega
          have x2I : (c : Int) ≤ 57 := by omega
          have hpI : ¬ 1000 < (M : Int) := by omega
          go_wp2
          go_roundg (gk - 1)
          case measure => omega
          case rel => exact ⟨rfl, j + 1, by rw [HX3.out]; congr 1; omega, by go_num, by omega⟩
        · have hjI : ¬ (j : Int) < X.size := by omega
          obtain rfl : j = X.size := by omega
          have e2 := HXf.out
          have hp := HXp.out X.size
          rw [← e2] at hp
          rw [← e2]
          clear HXc HXp HXf hcv2 hcell e2
          generalize num X.data.toList = M at *
          have hMI : (M : Int) ≤ 1000 := by omega
          go_wp2_with (go_at_call 41; refine (hN _).mono ?_; rintro x w3 ⟨rfl, hb3⟩; have bR := keepb hb3 bRW; obtain ⟨r0, r1, r2, r3⟩ := id bR; have hlt : w.heap.size < w3.heap.size := World.block_lt_of_cell? w3 _ r0)
          refine bodyPost_ret (by simp [results, Tryz.results19, go_sem, cs_same, r0, r1, hlt]; rfl) rfl ?_
          refine ⟨rfl, ?_⟩
          have h := bel_call (B := w.heap.size) (w := w) hbW hb3 (Nat.le_refl _)
          have hs := (h.setCell (p := ⟨w.heap.size, 0, none⟩) (Nat.le_refl _) (.string S)).setCell (p := ⟨w.heap.size, 1, none⟩) (Nat.le_refl _) (.int .i64 Q)
          exact hs.alloc hs.size _
set_option maxRecDepth 1000000 in
set_option maxHeartbeats 4000000 in
theorem read_E_m {s D0 S X : ByteArray} {p0 N : Nat} {dot0 : Bool} {Q : Int} (hs : s.size ≤ 100000) (h1 : 1 ≤ D0.size) (hN4 : N + 4 ≤ s.size) (HG : Hid (∀ k (h : k < s.size), k < N → isD (s[k]'h) = true ∨ ((s[k]'h) = 46 ∧ (rdL (s.data.toList.take k)).2.2 = false))) (HE : Hid (rdL (s.data.toList.take N) = (D0.data.toList, p0, dot0))) (hce : (s[N]'(by omega)).toNat = 69) (hcs : (s[N + 1]'(by omega)).toNat = 45) (hX : s.extract (N + 2) s.size = X) (HXd : Hid (allD X.data.toList = true)) (HXn : Hid (num X.data.toList ≤ 1000)) (hN : NormC D0 ((p0 : Int) - (num X.data.toList : Nat)) S Q 0) : R6C s S Q := fun w => by
  have HC : Hid (∀ k (h : k < s.size), s.extract k (k + 1) = ⟨#[s[k]'h]⟩) := fun k h => by
    apply ByteArray.ext; apply Array.ext'
    rw [ext_li, List.take_succ_eq_append_getElem (by rw [list_len]; exact h), List.drop_append_of_le_length (by rw [List.length_take, list_len]; omega), List.drop_of_length_le (by rw [List.length_take]; omega)]
    rfl
  have HT : Hid (∀ k (h : k < s.size), rdL (s.data.toList.take (k + 1)) = rdS (rdL (s.data.toList.take k)) (s[k]'h)) := fun k h => by
    rw [List.take_succ_eq_append_getElem (by rw [list_len]; exact h), rdL_snoc]
    rfl
  have HD : Hid (∀ k (h : k < s.size), k < N → isD (s[k]'h) = true ∨ ((s[k]'h) = 46 ∧ (rdL (s.data.toList.take k)).2.2 = false)) := HG.out
  clear HG
  have hXz : X.size + N + 2 = s.size := by rw [← hX, ByteArray.size_extract]; omega
  have HXc : Hid (∀ j, j < X.size → (X.data.toList.getD j 0).toNat < 256 ∧ 48 ≤ (X.data.toList.getD j 0).toNat ∧ (X.data.toList.getD j 0).toNat ≤ 57 ∧ num (X.data.toList.take (j + 1)) = num (X.data.toList.take j) * 10 + ((X.data.toList.getD j 0).toNat - 48)) := fun j hj => by
    have hl : j < X.data.toList.length := by rw [list_len]; exact hj
    have e : X.data.toList.getD j 0 = X.data.toList[j] := by rw [List.getD_eq_getElem?_getD, List.getElem?_eq_getElem hl, Option.getD_some]
    have hm := (isD_iff _).1 (allD_mem HXd.out (List.getElem_mem hl))
    rw [e]
    refine ⟨UInt8.toNat_lt _, hm.1, hm.2, ?_⟩
    rw [List.take_succ_eq_append_getElem hl, num_snoc]; rfl
  have HXp : Hid (∀ j, num (X.data.toList.take j) ≤ 1000) := fun j => by
    have h := HXn.out
    have e : num X.data.toList = num (X.data.toList.take j) * 10 ^ (X.data.toList.drop j).length + num (X.data.toList.drop j) := by rw [← num_append, List.take_append_drop]
    have := pow_pos10 (X.data.toList.drop j).length
    have h2 := Nat.mul_le_mul_left (num (X.data.toList.take j)) this
    omega
  have hcv : ∀ w, (convert 9 52 (.string X)).run Tryz.prog w = .ok (.slice (some ⟨w.heap.size, 0, none⟩) X.size (grownCap w X.size 0 5)) (Lib.bytesWorld w 5 X) := fun w => Lib.run_convert_string_bytes w 9 52 5 X Tryz.underlying9 Tryz.underlying52 Tryz.underlying5
  have HXf : Hid (num X.data.toList = num (X.data.toList.take X.size)) := by show _ = _; rw [List.take_of_length_le (by rw [list_len]; exact Nat.le_refl _)]
  go_enter Tryz.func19, Tryz.ntmps19
  go_wp2
  go_loopg [4, 5, 6, 7, 8] N (fun g dv pv tv iv cv wr => wr = w.alloc (.cells #[.string ⟨#[]⟩, .int .i64 0] 39) ∧ ∃ (k pt : Nat) (D : ByteArray) (dot : Bool), dv = .string D ∧ pv = .int .i64 pt ∧ tv = .bool dot ∧ iv = .int .i64 k ∧ k + g = N ∧ D.size ≤ k ∧ pt ≤ k ∧ Hid (rdL (s.data.toList.take k) = (D.data.toList, pt, dot)))
  case atStart => exact ⟨rfl, 0, 0, ⟨#[]⟩, false, rfl, rfl, rfl, rfl, by omega, Nat.le_refl _, Nat.le_refl _, rfl⟩
  case round =>
    obtain ⟨rfl, k, pt, D, dot, rfl, rfl, rfl, rfl, hkg, hDk, hpk, HX⟩ := hrel
    by_cases hkN : k < N
    · have hk : k < s.size := by omega
      have hkI : (k : Int) < s.size := by omega
      have hkI2 : (k : Int) + 1 ≤ s.size := by omega
      have hc := HC.out k hk
      have ht := HT.out k hk
      have hd := HD.out k hk hkN
      rw [HX.out] at ht hd
      have hb : (s[k]'hk).toNat < 256 := (s[k]'hk).toNat_lt
      rcases hd with hd | ⟨hd, hdot⟩
      · obtain ⟨c0, c1⟩ := (isD_iff _).1 hd
        have c0I : 48 ≤ ((s[k]'hk).toNat : Int) := by omega
        have c1I : ((s[k]'hk).toNat : Int) ≤ 57 := by omega
        obtain ⟨D2, hD2, HD2⟩ : ∃ D2, D ++ (⟨#[s[k]'hk]⟩ : ByteArray) = D2 ∧ Hid (D2.data.toList = D.data.toList ++ [s[k]'hk]) := ⟨_, rfl, by show _ = _; rw [app_list]⟩
        have hz2 : D2.size = D.size + 1 := by rw [← hD2, app_size]; rfl
        have hsum : ¬ 9223372036854775807 < D.size + (⟨#[s[k]'hk]⟩ : ByteArray).size := by rw [show (⟨#[s[k]'hk]⟩ : ByteArray).size = 1 from rfl]; omega
        have HX2 : Hid (rdL (s.data.toList.take (k + 1)) = (D2.data.toList, if dot then pt else pt + 1, dot)) := by
          show _ = _
          rw [ht, HD2.out]
          unfold rdS
          rw [if_pos hd]
        clear HC HT HD HX HE ht hd HD2 hcv HXc HXp HXf hN hX hce hcs
        cases dot with
        | true =>
          go_wp2
          go_roundg (gk - 1)
          case measure => omega
          case rel => exact ⟨rfl, k + 1, pt, D2, true, rfl, rfl, rfl, by go_num, by omega, by omega, by omega, HX2⟩
        | false =>
          go_wp2
          go_roundg (gk - 1)
          case measure => omega
          case rel => exact ⟨rfl, k + 1, pt + 1, D2, false, rfl, by go_num, rfl, by go_num, by omega, by omega, by omega, HX2⟩
      · have hdot : dot = false := hdot
        subst hdot
        have hc6 : (s[k]'hk).toNat = 46 := by rw [hd]; rfl
        have HX2 : Hid (rdL (s.data.toList.take (k + 1)) = (D.data.toList, pt, true)) := by
          show _ = _
          rw [ht]
          unfold rdS
          rw [hd, if_neg (by decide)]
        clear HC HT HD HX HE ht hd hc hcv HXc HXp HXf hN hX hce hcs
        go_wp2
        go_roundg (gk - 1)
        case measure => omega
        case rel => exact ⟨rfl, k + 1, pt, D, true, rfl, rfl, rfl, by go_num, by omega, by omega, by omega, HX2⟩
    · obtain rfl : k = N := by omega
      have hkI : (k : Int) < s.size := by omega
      have hk1I : (k : Int) + 1 < s.size := by omega
      have hk2I : (k : Int) + 2 ≤ s.size := by omega
      have hk4I : ¬ (s.size : Int) < (k : Int) + 4 := by omega
      have e := HX.out
      rw [HE.out] at e
      obtain rfl : D0 = D := by
        apply ByteArray.ext; apply Array.ext'
        exact congrArg (·.1) e
      obtain rfl : p0 = pt := congrArg (·.2.1) e
      have hue : D0.toList.isEmpty = false := empty_no D0 (by omega)
      clear HC HT HD HX HE e
      have hcell : ∀ j, j < X.size → (Lib.bytesWorld (w.alloc (.cells #[.string ⟨#[]⟩, .int .i64 0] 39)) 5 X).cell? ⟨w.heap.size + 1, j, none⟩ = some (.int .u8 ((X.data.toList.getD j 0).toNat : Nat)) := fun j hj => by
        have := Lib.bytesWorld_cell (w.alloc (.cells #[.string ⟨#[]⟩, .int .i64 0] 39)) 5 X j hj
        simpa using this
      have hbB : Below (w.alloc (.cells #[.string ⟨#[]⟩, .int .i64 0] 39)).heap.size (w.alloc (.cells #[.string ⟨#[]⟩, .int .i64 0] 39)) (Lib.bytesWorld (w.alloc (.cells #[.string ⟨#[]⟩, .int .i64 0] 39)) 5 X) := Lib.bytesWorld_below _ _ _
      have hcv2 := hcv (w.alloc (.cells #[.string ⟨#[]⟩, .int .i64 0] 39))
      clear hcv
      have hsz1 : (w.alloc (.cells #[.string ⟨#[]⟩, .int .i64 0] 39)).heap.size = w.heap.size + 1 := by simp
      rw [hsz1] at hcv2
      have bRW := keepb hbB (B := w.heap.size) (x := .string ⟨#[]⟩) (y := .int .i64 0) (by simp [BoxD, go_sem])
      have hbW : Below w.heap.size w (Lib.bytesWorld (w.alloc (.cells #[.string ⟨#[]⟩, .int .i64 0] 39)) 5 X) := bel_call (by go_grown) hbB (Nat.le_refl _)
      generalize Lib.bytesWorld (w.alloc (.cells #[.string ⟨#[]⟩, .int .i64 0] 39)) 5 X = WB at *
      go_wp2
      go_loopg [9, 11, 84] X.size (fun g xv dv iv wr => wr = WB ∧ ∃ j : Nat, xv = .int .i64 (num (X.data.toList.take j) : Nat) ∧ iv = .int .i64 j ∧ j + g = X.size)
      case atStart => exact ⟨rfl, 0, rfl, rfl, by omega⟩
      case round =>
        obtain ⟨rfl, j, rfl, rfl, hjg⟩ := hrel
        by_cases hj : j < X.size
        · have hjI : (j : Int) < X.size := by omega
          obtain ⟨x0, x1, x2, x3⟩ := HXc.out j hj
          have hcl := hcell j hj
          have hp := HXp.out j
          have hp2 := HXp.out (j + 1)
          rw [x3] at hp2
          have HX3 : Hid (num (X.data.toList.take (j + 1)) = num (X.data.toList.take j) * 10 + ((X.data.toList.getD j 0).toNat - 48)) := x3
          clear HXc HXp HXf hN hcv2 x3 hcell
          generalize (X.data.toList.getD j 0).toNat = c at *
          generalize hM : num (X.data.toList.take j) = M at *
          have HM : Hid (num (X.data.toList.take j) = M) := hM
          clear hM
          have x1I : ¬ (c : Int) < 48 := by omega
          have x2I : (c : Int) ≤ 57 := by omega
          have hpI : ¬ 1000 < (M : Int) := by omega
          go_wp2
          go_roundg (gk - 1)
          case measure => omega
          case rel => exact ⟨rfl, j + 1, by rw [HX3.out]; congr 1; omega, by go_num, by omega⟩
        · have hjI : ¬ (j : Int) < X.size := by omega
          obtain rfl : j = X.size := by omega
          have e2 := HXf.out
          have hp := HXp.out X.size
          rw [← e2] at hp
          rw [← e2]
          clear HXc HXp HXf hcv2 hcell e2
          generalize num X.data.toList = M at *
          have hMI : (M : Int) ≤ 1000 := by omega
          go_wp2_with (go_at_call 41; refine (hN _).mono ?_; rintro x w3 ⟨rfl, hb3⟩; have bR := keepb hb3 bRW; obtain ⟨r0, r1, r2, r3⟩ := id bR; have hlt : w.heap.size < w3.heap.size := World.block_lt_of_cell? w3 _ r0)
          refine bodyPost_ret (by simp [results, Tryz.results19, go_sem, cs_same, r0, r1, hlt]; rfl) rfl ?_
          refine ⟨rfl, ?_⟩
          have h := bel_call (B := w.heap.size) (w := w) hbW hb3 (Nat.le_refl _)
          have hs := (h.setCell (p := ⟨w.heap.size, 0, none⟩) (Nat.le_refl _) (.string S)).setCell (p := ⟨w.heap.size, 1, none⟩) (Nat.le_refl _) (.int .i64 Q)
          exact hs.alloc hs.size _
end Go.Proofs.YtkeoafidgfmhlabGreatDoor
