/- The walk of the law BufHolds. -/
import Derived.Test.YtnbbjfajcolpkabLives
import Derived.Test.YtnbbjfajcolpkabPut
import Derived.Test.YtnbbjfajcolpkabRRune
import Derived.Test.YtnbbjfajcolpkabOpenAdds
import Derived.Test.YtnbbjfajcolpkabWBufWhole
import Derived.OpenShut
import Derived.Deep.LoopGhost
namespace Go.Proofs.Ytnbbjfajcolpkab
open Go.RowKit
set_option linter.unusedVariables false

set_option maxHeartbeats 400000 in
theorem rtext_any (A : ByteArray) (w : World) :
    Calls Try.prog 16 #[.string A] w fun e w' => e = .returned (.string (txt A.data.toList)) ∧ w' = w := by
  have hAl : A.data.toList.length = A.size := (Lib.size_eq A).symm
  by_cases h : (4096 : Int) < A.size
  · have hz : ¬ 9223372036854775807 < (A.extract 0 4096).size + 11 := by rw [ByteArray.size_extract]; omega
    have HT : Hid (A.extract 0 4096 ++ ⟨#[37, 33, 40, 84, 79, 79, 76, 79, 78, 71, 41]⟩ = txt A.data.toList) := by
      show _ = txt A.data.toList
      unfold txt
      rw [if_pos (by omega)]
      congr 1
      apply ByteArray.ext
      apply Array.ext'
      rw [ext_list]
    clear hAl
    go_enter Try.func16, Try.ntmps16
    go_wp2
    go_ret
    exact ⟨ret_str HT.out, rfl⟩
  · have HT : Hid (A = txt A.data.toList) := by
      show _ = txt A.data.toList
      unfold txt
      rw [if_neg (by omega)]
    clear hAl
    go_enter Try.func16, Try.ntmps16
    go_wp2
    go_ret
    exact ⟨ret_str HT.out, rfl⟩

set_option maxHeartbeats 400000 in
theorem few_any (a : Option Addr) (len cap : Nat) (w : World) (hl : len ≤ cap) (hc : cap ≤ maxLen) :
    Calls Try.prog 7 #[.slice a len cap] w fun e w' => e = .returned (.slice a (min len 60) cap) ∧ w' = w := by
  unfold maxLen at hc
  by_cases h : (60 : Int) < len
  · have hm : min len 60 = 60 := by omega
    rw [hm]
    go_enter Try.func7, Try.ntmps7
    go_wp2
    go_ret
    exact ⟨rfl, rfl⟩
  · have hm : min len 60 = len := by omega
    rw [hm]
    go_enter Try.func7, Try.ntmps7
    go_wp2
    go_ret
    exact ⟨rfl, rfl⟩
theorem len_size (A : ByteArray) (W : World) (g : Nat) (h : IsBuf W g A.data.toList) :
    Calls Try.prog 13 #[.pointer (some ⟨g, 0, none⟩)] W fun e W' => e = .returned (.int .i64 A.size) ∧ W' = W := by
  refine (len_any g _ W h).mono ?_
  rintro e W' ⟨rfl, hb⟩
  exact ⟨ret_int (by rw [← Lib.size_eq]), hb⟩
theorem over_size (A : ByteArray) (W : World) (g : Nat) (h : IsBuf W g A.data.toList) :
    Calls Try.prog 14 #[.pointer (some ⟨g, 0, none⟩)] W fun e W' => e = .returned (.bool (decide ((4096 : Int) < A.size))) ∧ W' = W := by
  refine (over_any g _ W h).mono ?_
  rintro e W' ⟨rfl, hb⟩
  rw [← Lib.size_eq]
  exact ⟨rfl, hb⟩

set_option maxRecDepth 1000000 in
set_option maxHeartbeats 2000000 in
theorem bufHolds_in (a : Option Addr) (len cap : Nat) (w : World) (hadds : Adds w a len) (hl : len ≤ cap) (hcap : cap ≤ maxLen) :
    Calls Try.prog 3 #[.slice a len cap] w fun e w' => e = .returned (.bool true) ∧ Below w.heap.size w w' := by
  obtain ⟨N, hN, hNl, hN60⟩ : ∃ N, min len 60 = N ∧ N ≤ len ∧ N ≤ 60 := ⟨_, rfl, by omega, by omega⟩
  have hfew : ∀ w', Calls Try.prog 7 #[.slice a len cap] w' fun e w'' => e = .returned (.slice a N cap) ∧ w'' = w' := by
    intro w'; rw [← hN]; exact few_any a len cap w' hl hcap
  clear hN
  go_enter Try.func3, Try.ntmps3
  go_wp2_with (first | (refine wpList_alloc_buf rfl rfl ?_) | (go_at_call 7; refine (hfew _).mono ?_; rintro e w1 ⟨rfl, rfl⟩))
  have hbn := isBuf_new w
  have hwn : Below w.heap.size w (w.alloc (.cells zeroBuf.toArray 25)) := (Below.refl _ _).alloc (Nat.le_refl _) _
  go_loopg [4, 11] N (fun gk al i wr => ∃ (B : ByteArray) (k : Nat), al = .string B ∧ i = .int .i64 k ∧ k + gk = N ∧ B.size ≤ k * 10000 ∧ IsBuf wr w.heap.size B.data.toList ∧ Below w.heap.size w wr)
  case atStart => exact ⟨⟨#[]⟩, 0, rfl, rfl, by omega, by decide, hbn, hwn⟩
  case round =>
    obtain ⟨B, k, rfl, rfl, hkg, hBs, hbuf, hbr⟩ := hrel
    clear hbn hwn hfew
    by_cases hgo : k < N
    · have hgo' : (k : Int) < N := by omega
      rcases hadds with h0 | ⟨b, off, rfl, hbl, hcell⟩
      · omega
      · obtain ⟨S, C, ru, re, T, c0, c1, c2, c3, c4⟩ := hcell k (by omega)
        clear hcell
        rw [← hbr.cell (by exact hbl)] at c0 c1 c2 c3 c4
        have hlt := hbuf.lt
        have hbuf' : ∀ o, IsBuf (wr.alloc o) w.heap.size B.data.toList := fun o => hbuf.below ((Below.refl _ _).alloc (Nat.le_refl _) o)
        have hbr' : ∀ o, Below w.heap.size w (wr.alloc o) := fun o => hbr.alloc hbr.size o
        cases re with
        | true =>
          go_wp2_with (go_at_call 8; refine (reset_any _ _ _ (hbuf' _)).mono ?_; rintro e w2 ⟨rfl, hb2, hk2⟩)
          go_roundg (gk - 1)
          case measure => omega
          case rel => exact ⟨⟨#[]⟩, k + 1, rfl, by go_num, by omega, Nat.zero_le _, hb2, (hbr' _).trans (hk2.below (Nat.le_refl _) (hbr' _).size)⟩
        | false =>
          go_wp2_with fail
          obtain ⟨wo, rfl⟩ : ∃ wo : World, wo = wr := ⟨_, rfl⟩
          have hnew : (wo.alloc (.cells #[.string S, .int .i32 C, .bool ru, .bool false, .int .i64 T] 28)).heap[wo.heap.size]? = some (.cells #[.string S, .int .i32 C, .bool ru, .bool false, .int .i64 T] 28 (0, 0)) := heap_alloc_new wo _
          have hbn := hbuf' (.cells #[.string S, .int .i32 C, .bool ru, .bool false, .int .i64 T] 28)
          have hwn := hbr' (.cells #[.string S, .int .i32 C, .bool ru, .bool false, .int .i64 T] 28)
          obtain ⟨g0, hg0⟩ : ∃ g0, g0 = gk := ⟨_, rfl⟩
          clear hbuf' hbr' c0 c1 c2 c3 c4 hbuf
          go_loopg [4, 7] 10 (fun gk2 al i wx => ∃ (B' : ByteArray) (j : Nat), al = .string B' ∧ i = .int .i64 j ∧ j + gk2 = 10 ∧ B'.size ≤ k * 10000 + j * 1000 ∧ IsBuf wx w.heap.size B'.data.toList ∧ Below w.heap.size w wx ∧ wx.heap[wo.heap.size]? = some (.cells #[.string S, .int .i32 C, .bool ru, .bool false, .int .i64 T] 28 (0, 0)))
          case atStart => exact ⟨B, 0, rfl, rfl, by omega, by omega, hbn, hwn, hnew⟩
          case round =>
            obtain ⟨B', j, rfl, rfl, hj, hBs', hbx, hwx, hx⟩ := hrel
            clear hbn hwn hnew
            have d0 : wr.cell? ⟨wo.heap.size, 0, none⟩ = some (.string S) := by rw [cell_of_row _ _ _ _ _ _ hx]; rfl
            have d1 : wr.cell? ⟨wo.heap.size, 1, none⟩ = some (.int .i32 C) := by rw [cell_of_row _ _ _ _ _ _ hx]; rfl
            have d2 : wr.cell? ⟨wo.heap.size, 2, none⟩ = some (.bool ru) := by rw [cell_of_row _ _ _ _ _ _ hx]; rfl
            have d4 : wr.cell? ⟨wo.heap.size, 4, none⟩ = some (.int .i64 T) := by rw [cell_of_row _ _ _ _ _ _ hx]; rfl
            have hxl : wo.heap.size < wr.heap.size := (Array.getElem?_eq_some_iff.1 hx).1
            have hBl : B'.data.toList.length = B'.size := (Lib.size_eq B').symm
            have HX : Hid (wr.heap[wo.heap.size]? = some (.cells #[.string S, .int .i32 C, .bool ru, .bool false, .int .i64 T] 28 (0, 0))) := hx
            clear hx
            by_cases hlt : (j : Int) < max 1 (min T 10)
            · cases ru with
              | true =>
                have h4 := enc_size_le C
                have hsum : ¬ 9223372036854775807 < B'.size + (Utf8.encode C).size := by omega
                go_wp2_with (first | (go_at_call 9; refine (putRune_any _ _ _ _ hbx (by omega)).mono ?_; rintro e w2 ⟨rfl, hb2, hk2⟩; have hx2 := (hk2.block wo.heap.size hxl (by omega)).trans HX.out; have f1 : w2.cell? ⟨wo.heap.size, 1, none⟩ = some (.int .i32 C) := (by rw [cell_of_row _ _ _ _ _ _ hx2]; rfl); have HX2 := hx2; clear hx2) | (go_at_call 10; refine (rrune_any _ _).mono ?_; rintro e w3 ⟨rfl, hb3⟩))
                go_roundg (gk - 1)
                case measure => omega
                case rel =>
                  refine ⟨_, j + 1, rfl, by go_num, by omega, by rw [app_size]; omega, by rw [app_list]; exact hb2.below hb3, hwx.trans ((hk2.below (Nat.le_refl _) hwx.size).trans (hb3.mono (Nat.le_trans hwx.size hk2.size))), (hb3.block _ (Nat.lt_of_lt_of_le hxl hk2.size)).trans HX2⟩
              | false =>
                have h4 := cutF_size S
                have hsum : ¬ 9223372036854775807 < B'.size + (cutF S).size := by omega
                go_wp2_with (first | (go_at_call 12; refine (cutf_any _ _).mono ?_; rintro e w1 ⟨rfl, rfl⟩) | (go_at_call 11; refine (put_any _ _ _ _ hbx (by omega)).mono ?_; rintro e w2 ⟨rfl, hb2, hk2⟩; have hx2 := (hk2.block wo.heap.size hxl (by omega)).trans HX.out; have f0 : w2.cell? ⟨wo.heap.size, 0, none⟩ = some (.string S) := (by rw [cell_of_row _ _ _ _ _ _ hx2]; rfl); have HX2 := hx2; clear hx2))
                go_roundg (gk - 1)
                case measure => omega
                case rel =>
                  refine ⟨_, j + 1, rfl, by go_num, by omega, by rw [app_size]; omega, by rw [app_list]; exact hb2, hwx.trans (hk2.below (Nat.le_refl _) hwx.size), HX2⟩
            · go_wp2_with (first | (go_at_call 13; refine (len_size _ _ _ hbx).mono ?_; rintro e w1 ⟨rfl, rfl⟩) | (go_at_call 14; refine (over_size _ _ _ hbx).mono ?_; rintro e w1 ⟨rfl, rfl⟩) | (go_at_call 15; refine (text_any _ _ _ hbx (by omega)).mono ?_; rintro e w4 ⟨rfl, hb4⟩) | (go_at_call 16; refine (rtext_any _ _).mono ?_; rintro e w5 ⟨rfl, rfl⟩))
              go_roundg (g0 - 1)
              case measure => omega
              case rel => exact ⟨B', k + 1, rfl, by go_num, by omega, by omega, hbx.below hb4, hwx.trans (hb4.mono hwx.size)⟩
    · have hgo' : ¬ (k : Int) < N := by omega
      have hBl : B.data.toList.length = B.size := (Lib.size_eq B).symm
      go_wp2_with (first | (go_at_call 15; refine (text_any _ _ _ hbuf (by omega)).mono ?_; rintro e w4 ⟨rfl, hb4⟩) | (go_at_call 16; refine (rtext_any _ _).mono ?_; rintro e w5 ⟨rfl, rfl⟩) | (go_at_call 17; refine (lives_any _).mono ?_; rintro e w6 ⟨rfl, hb6⟩))
      go_ret
      exact ⟨rfl, hbr.trans ((hb4.trans (hb6.mono hb4.size)).mono hbr.size)⟩

theorem bufHolds_walk (w : World) (a : Option Addr) (len cap : Nat) (hadds : Adds w a len) (hl : len ≤ cap) (hcap : cap ≤ maxLen) :
    Calls Try.prog 3 #[.slice a len cap] w fun e w' => e = .returned (.bool true) ∧ Below w.heap.size w w' := bufHolds_in a len cap w hadds hl hcap
end Go.Proofs.Ytnbbjfajcolpkab
