/- Package cplx: the size of a part, where a text is parted. -/
import Derived.Test.YthbabhbfpcfenaaGreatDoorCMath
namespace Go.Proofs.YthbabhbfpcfenaaGreatDoor
open Go.RowKit
set_option linter.unusedVariables false
set_option linter.unusedSimpArgs false

abbrev SzP (size half : Int) (ok : Bool) : Prop := ∀ w, Calls Tryz.prog 16 #[.int .i64 size] w fun e w' => e = .returned (.tuple #[.int .i64 half, .bool ok]) ∧ w' = w
set_option maxRecDepth 1000000 in
theorem szp64 : SzP 64 32 true := fun w => by
  go_enter Tryz.func16, Tryz.ntmps16
  go_wp2
  go_returns
  exact ⟨rfl, rfl⟩
set_option maxRecDepth 1000000 in
theorem szp128 : SzP 128 64 true := fun w => by
  go_enter Tryz.func16, Tryz.ntmps16
  go_wp2
  go_returns
  exact ⟨rfl, rfl⟩
set_option maxRecDepth 1000000 in
theorem szp_no {size : Int} (h1 : ¬ size = 64) (h2 : ¬ size = 128) : SzP size 0 false := fun w => by
  have b1 : (size == 64) = false := beq_eq_false_iff_ne.2 h1
  have b2 : (size == 128) = false := beq_eq_false_iff_ne.2 h2
  go_enter Tryz.func16, Tryz.ntmps16
  go_wp2
  go_returns
  exact ⟨rfl, rfl⟩
abbrev BeC (n : Nat) (b : Bool) : Prop := ∀ w, Calls Tryz.prog 37 #[.int .u8 (n : Nat)] w fun e w' => e = .returned (.bool b) ∧ w' = w
set_option maxRecDepth 1000000 in
theorem be_yes {n : Nat} (h : n = 101 ∨ n = 69 ∨ n = 112 ∨ n = 80) : BeC n true := fun w => by
  rcases h with rfl | rfl | rfl | rfl <;>
  · go_enter Tryz.func37, Tryz.ntmps37
    go_wp2
    go_ret
    exact ⟨rfl, rfl⟩
set_option maxRecDepth 1000000 in
theorem be_no {n : Nat} (h : ¬ (n = 101 ∨ n = 69 ∨ n = 112 ∨ n = 80)) : BeC n false := fun w => by
  have h1 : ¬ (n : Int) = 101 := by omega
  have h2 : ¬ (n : Int) = 69 := by omega
  have h3 : ¬ (n : Int) = 112 := by omega
  have h4 : ¬ (n : Int) = 80 := by omega
  have b1 : ((n : Int) == 101) = false := beq_eq_false_iff_ne.2 h1
  have b2 : ((n : Int) == 69) = false := beq_eq_false_iff_ne.2 h2
  have b3 : ((n : Int) == 112) = false := beq_eq_false_iff_ne.2 h3
  have b4 : ((n : Int) == 80) = false := beq_eq_false_iff_ne.2 h4
  clear h
  go_enter Tryz.func37, Tryz.ntmps37
  go_wp2
  go_ret
  exact ⟨rfl, rfl⟩
theorem be_any (c : UInt8) : BeC c.toNat (epB c) := by
  by_cases h : c.toNat = 101 ∨ c.toNat = 69 ∨ c.toNat = 112 ∨ c.toNat = 80
  · rw [show epB c = true from decide_eq_true h]; exact be_yes h
  · rw [show epB c = false from decide_eq_false h]; exact be_no h
theorem getD_at (T : ByteArray) {i : Nat} (h : i < T.size) : T.data.toList.getD i 0 = T[i]'h := by
  rw [List.getD_eq_getElem?_getD, List.getElem?_eq_getElem (by rw [list_len]; exact h), Option.getD_some]; rfl
set_option maxRecDepth 1000000 in
set_option maxHeartbeats 2000000 in
theorem place_any (T : ByteArray) (hT : T.size ≤ 9223372036854775807) (w : World) : Calls Tryz.prog 20 #[.string T] w fun e w' => e = .returned (.int .i64 (lastS T.data.toList T.size : Nat)) ∧ w' = w := by
  have HB : Hid (∀ c : UInt8, BeC c.toNat (epB c)) := be_any
  have HO : Hid (∀ i (h : i + 1 < T.size), okS T.data.toList (i + 1) = (sgB (T[i + 1]'h) && !(epB (T[i]'(by omega))))) := fun i h => by
    unfold okS
    rw [getD_at T h, Nat.add_sub_cancel, getD_at T (by omega)]
  obtain ⟨K, hK⟩ : ∃ K, lastS T.data.toList T.size = K := ⟨_, rfl⟩
  have HK : Hid (lastS T.data.toList T.size = K) := hK
  have HY : Hid (∀ n, n ≠ 0 → okS T.data.toList n = true → lastS T.data.toList (n + 1) = n) := fun n h0 h => lastS_yes h0 h
  have HN : Hid (∀ n, okS T.data.toList n = false → lastS T.data.toList (n + 1) = lastS T.data.toList n) := fun n h => lastS_no h
  have H1 : Hid (lastS T.data.toList 1 = 0 ∧ lastS T.data.toList 0 = 0) := ⟨lastS_one _, rfl⟩
  rw [hK]
  clear hK
  generalize hL : lastS T.data.toList = F at *
  clear hL
  generalize hO : okS T.data.toList = O at *
  clear hO
  have hTI : (T.size : Int) ≤ 9223372036854775807 := by omega
  go_enter Tryz.func20, Tryz.ntmps20
  go_wp2
  go_step3
  go_wp2
  go_step3
  go_wp2
  go_loopg [3] (T.size) (fun g av wr => w = wr ∧ ∃ a : Int, av = .int .i64 a ∧ -1 ≤ a ∧ a < T.size ∧ a + 1 = (g : Int) ∧ Hid (F (a + 1).toNat = K))
  case atStart => exact ⟨rfl, (T.size : Int) - 1, by go_num, by omega, by omega, by omega, by show _ = _; rw [show ((T.size : Int) - 1 + 1).toNat = T.size by omega]; exact HK.out⟩
  case round =>
    obtain ⟨rfl, a, rfl, ha0, ha1, hag, HF⟩ := hrel
    by_cases hp : 0 < a
    · obtain ⟨j, rfl⟩ : ∃ j : Nat, a = ((j + 1 : Nat) : Int) := ⟨(a - 1).toNat, by omega⟩
      have hj : j + 1 < T.size := by omega
      have hj0 : j < T.size := by omega
      have hjI : ((j + 1 : Nat) : Int) < T.size := by omega
      have ho := HO.out j hj
      have hF := HF.out
      rw [show (((j + 1 : Nat) : Int) + 1).toNat = j + 1 + 1 by omega] at hF
      have hbe := HB.out (T[j]'hj0)
      have hc1 : (T[j + 1]'hj).toNat < 256 := UInt8.toNat_lt _
      have hc0 : (T[j]'hj0).toNat < 256 := UInt8.toNat_lt _
      have hy := HY.out (j + 1) (by omega)
      have hn := HN.out (j + 1)
      clear HO HB HK HY HN H1 HF
      generalize hE : epB (T[j]'hj0) = E at *
      clear hE
      by_cases hs : (T[j + 1]'hj).toNat = 43 ∨ (T[j + 1]'hj).toNat = 45
      · have hs2 : sgB (T[j + 1]'hj) = true := decide_eq_true hs
        rw [hs2, Bool.true_and] at ho
        clear hs2
        cases E with
        | true =>
          have HR : Hid (F (j + 1) = K) := by show _ = _; rw [← hn ho]; exact hF
          clear hy hn ho hF
          rcases hs with hs | hs
          all_goals
            go_wp2_with (go_at_call 37; refine (hbe _).mono ?_; rintro x w2 ⟨rfl, rfl⟩)
            go_roundg (gk - 1)
            case measure => omega
            case rel => exact ⟨rfl, (j : Int), by go_num, by omega, by omega, by omega, by show _ = _; rw [show ((j : Int) + 1).toNat = j + 1 by omega]; exact HR.out⟩
        | false =>
          have HR : Hid (K = j + 1) := by show _ = _; rw [← hF]; exact hy ho
          clear hy hn ho hF
          rcases hs with hs | hs
          all_goals
            go_wp2_with (go_at_call 37; refine (hbe _).mono ?_; rintro x w2 ⟨rfl, rfl⟩)
            try rw [Exit.noGoto_ret]
            go_ret
            rw [HR.out]
            exact ⟨by go_num, rfl⟩
      · have hs2 : sgB (T[j + 1]'hj) = false := decide_eq_false hs
        rw [hs2, Bool.false_and] at ho
        clear hs2
        have HR : Hid (F (j + 1) = K) := by show _ = _; rw [← hn ho]; exact hF
        have n1 : ¬ (T[j + 1]'hj).toNat = 43 := by omega
        have n2 : ¬ (T[j + 1]'hj).toNat = 45 := by omega
        clear hy hn ho hF hs
        go_wp2
        go_roundg (gk - 1)
        case measure => omega
        case rel => exact ⟨rfl, (j : Int), by go_num, by omega, by omega, by omega, by show _ = _; rw [show ((j : Int) + 1).toNat = j + 1 by omega]; exact HR.out⟩
    · have HR : Hid (K = 0) := by
        show _ = _
        rw [← HF.out]
        have : a = -1 ∨ a = 0 := by omega
        rcases this with rfl | rfl
        · exact H1.out.2
        · exact H1.out.1
      have hm : max a 0 = 0 := by omega
      clear HO HB HK HY HN H1 HF
      go_wp2
      try rw [Exit.noGoto_ret]
      go_ret
      rw [HR.out]
      exact ⟨by go_num, rfl⟩
end Go.Proofs.YthbabhbfpcfenaaGreatDoor
