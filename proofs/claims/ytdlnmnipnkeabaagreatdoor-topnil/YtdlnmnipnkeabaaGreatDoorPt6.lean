/- RawW, Cut: these texts in one. -/
import Derived.Test.YtdlnmnipnkeabaaGreatDoorPt5
import Derived.Test.YtdlnmnipnkeabaaGreatDoorPt3
import Derived.Test.YtdlnmnipnkeabaaGreatDoorPt1
namespace Go.Proofs.YtdlnmnipnkeabaaGreatDoor
open Go.RowKit
set_option linter.unusedVariables false
def rawT (s : ByteArray) : ByteArray := ⟨(96 :: (s.data.toList ++ [96])).toArray⟩
theorem raw_pack (s : ByteArray) (hs : s.size ≤ 1000000) : ∃ r u : ByteArray, rawT s = r ∧ (ByteArray.mk #[96]) ++ s = u ∧ u ++ (ByteArray.mk #[96]) = r ∧ ¬ 9223372036854775807 < (ByteArray.mk #[96]).size + s.size ∧ ¬ 9223372036854775807 < u.size + (ByteArray.mk #[96]).size := by
 have e1 : (ByteArray.mk #[96]) ++ s = ⟨(96 :: s.data.toList).toArray⟩ := by
  have := ba_app [96] s.data.toList
  rw [ba_list] at this
  exact this
 have e2 : (ByteArray.mk (96 :: s.data.toList).toArray) ++ (ByteArray.mk #[96]) = rawT s := ba_app (96 :: s.data.toList) [96]
 refine ⟨_, _, rfl, e1, e2, one_sum 96 _ (by omega), sum_one 96 _ ?_⟩
 show (96 :: s.data.toList).toArray.size ≤ 100000000
 have := list_len s
 simp; simp at this; omega
theorem hinders_is (c : Int) (b : Bool) (h : hind c = b) (w : World) :
  Calls Tryz.prog 206 #[.int .i32 c] w fun e w' => e = .returned (.bool b) ∧ w' = w := by rw [← h]; exact hinders_any c w
set_option maxRecDepth 1000000 in
set_option maxHeartbeats 800000 in
theorem qraw_any (s : ByteArray) (b : Bool) (w : World) (hs : s.size ≤ 1000000) (hb0 : rawF s 0 = b) :
  Calls Tryz.prog 163 #[.string s] w fun e w' => e = .returned (.tuple #[.string (cond b (rawT s) ⟨#[]⟩), .bool b]) ∧ Below w.heap.size w w' := by
 obtain ⟨r, u, hr, h1, h2, h3, h4⟩ := raw_pack s hs
 rw [hr]
 clear hr
 go_enter Tryz.func163, Tryz.ntmps163
 go_wp2
 go_loopw [] (fun wr => ∃ pos : Nat, wr.heap[w.heap.size]? = some (.stringIter s pos) ∧ Below w.heap.size w wr ∧ pos ≤ s.size ∧ Hid (rawF s pos = b)) (fun wr => s.size - wr.iterPos w.heap.size)
 case atStart =>
  refine ⟨0, ?_, iter_below _ _ _, Nat.zero_le _, hb0⟩
  simpa using World.iter_heap w s 0
 case round =>
  obtain ⟨pos, hit, hb, hpos, hrw⟩ := hrel
  by_cases hp : pos < s.size
  ·have hnx : ∀ ty, (Instr.next (.pointer (some ⟨w.heap.size, 0, none⟩)) true ty).run Tryz.prog wr = _ := fun ty => Lib.run_next_any_at wr w.heap.size s pos ty hit hp
   have hwd := wid_pos s pos
   have hwl := wid_le s pos hp
   have hit2 := Lib.iterAt_heap wr w.heap.size s pos (pos + (Utf8.decode s pos).2) hit
   have hb2 := Lib.below_iterAt hb (k := w.heap.size) (Nat.le_refl _) s (pos + (Utf8.decode s pos).2)
   have hdt := dec_tail s pos hp
   have HN : Hid ((hind (Utf8.decode s pos).1 = true ∨ brk (Utf8.decode s pos) = true) → rawF s pos = false) := rawF_no s pos hp
   have HO : Hid (¬ (hind (Utf8.decode s pos).1 = true ∨ brk (Utf8.decode s pos) = true) → rawF s pos = rawF s (pos + (Utf8.decode s pos).2)) := rawF_on s pos hp
   generalize Utf8.decode s pos = D at *
   have hBk : ∀ b, brk D = b → ∀ w, Calls Tryz.prog 160 #[.int .i32 (D.1 : Nat), .string (s.extract pos s.size)] w fun e w' => e = .returned (.bool b) ∧ Below w.heap.size w w' := fun b h w => broken_is _ _ b w (by rw [hdt]) (by rw [hdt]; exact h)
   have hHi : ∀ b, hind (D.1 : Int) = b → ∀ w, Calls Tryz.prog 206 #[.int .i32 (D.1 : Nat)] w fun e w' => e = .returned (.bool b) ∧ w' = w := fun b h w => hinders_is _ b h w
   clear hdt
   cases hh : hind (D.1 : Int) with
   | true =>
     replace hHi := hHi true hh
     have HB : Hid (b = false) := by
      have := HN.out (.inl hh)
      show b = false
      rw [← hrw.out, this]
     clear hh hBk
     go_wp2_with (go_at_call 206; refine (hHi _).mono ?_; rintro e w3 ⟨rfl, rfl⟩)
     go_ret2
     rw [HB.out]
     exact ⟨rfl, hb2⟩
   | false =>
     replace hHi := hHi false hh
     cases hk : brk D with
     | true =>
       replace hBk := hBk true hk
       have HB : Hid (b = false) := by
        have := HN.out (.inr hk)
        show b = false
        rw [← hrw.out, this]
       clear hh hk
       go_wp2_with (first | (go_at_call 206; refine (hHi _).mono ?_; rintro e w3 ⟨rfl, rfl⟩) | (go_at_call 160; refine (hBk _).mono ?_; rintro e w4 ⟨rfl, hb4⟩))
       go_ret2
       rw [HB.out]
       exact ⟨rfl, hb2.trans (hb4.mono hb2.size)⟩
     | false =>
       replace hBk := hBk false hk
       have HS : Hid (rawF s (pos + D.2) = b) := by
        have := HO.out (by rw [hh, hk]; simp)
        show _ = b
        rw [← this]; exact hrw.out
       clear hh hk
       go_wp2_with (first | (go_at_call 206; refine (hHi _).mono ?_; rintro e w3 ⟨rfl, rfl⟩) | (go_at_call 160; refine (hBk _).mono ?_; rintro e w4 ⟨rfl, hb4⟩))
       go_roundw
       case rel => exact ⟨pos + D.2, iter_keep hb4 hit2, hb2.trans (hb4.mono hb2.size), hwl, HS⟩
       case measure =>
        simp only [World.iterPos, iter_keep hb4 hit2, hit]
        omega
  ·have hnx : ∀ ty, (Instr.next (.pointer (some ⟨w.heap.size, 0, none⟩)) true ty).run Tryz.prog wr = _ := fun ty => Lib.run_next_end_at wr w.heap.size s pos ty hit hp
   have HB : Hid (b = true) := by
    show b = true
    rw [← hrw.out, rawF_end s pos hp]
   go_wp2
   go_ret2
   rw [HB.out]
   exact ⟨rfl, hb⟩
end Go.Proofs.YtdlnmnipnkeabaaGreatDoor
namespace Go.Proofs.YtdlnmnipnkeabaaGreatDoor
open Go.RowKit
set_option linter.unusedVariables false
set_option maxRecDepth 1000000 in
set_option maxHeartbeats 800000 in
theorem cut_nat (s : ByteArray) (N : Nat) (w : World) (hs : s.size ≤ maxLen) (hN : N ≤ 9223372036854775807) :
  Calls Tryz.prog 131 #[.string s, .int .i64 N] w fun e w' => e = .returned (.string (s.extract 0 (posGo s N 0))) ∧ Below w.heap.size w w' := by
 unfold maxLen at hs
 go_enter Tryz.func131, Tryz.ntmps131
 go_wp2
 go_loopw [1] (fun n w' => ∃ pos r : Nat, w' = w.iter s pos ∧ n = .int .i64 r ∧ pos ≤ s.size ∧ r ≤ 9223372036854775807 ∧ Hid (posGo s r pos = posGo s N 0)) (fun _ w' => s.size - w'.iterPos w.heap.size)
 case atStart => exact ⟨0, N, rfl, rfl, Nat.zero_le _, hN, rfl⟩
 case round =>
  obtain ⟨pos, r, rfl, rfl, hpos, hr, hc⟩ := hrel
  by_cases hp : pos < s.size
  ·have hnx : ∀ ty, (Instr.next (.pointer (some ⟨w.heap.size, 0, none⟩)) true ty).run Tryz.prog (w.iter s pos) = _ := fun ty => run_next_any w s pos ty hp
   have hw := wid_pos s pos
   have hl := wid_le s pos hp
   by_cases h0 : r = 0
   ·subst h0
    go_wp2
    go_ret
    refine ⟨ret_str ?_, iter_below _ _ _⟩
    rw [← hc.out]; rfl
   ·have h0' : ((r : Int) == 0) = false := by simp; omega
    go_wp2
    go_roundw
    case rel =>
     refine ⟨pos + (Utf8.decode s pos).2, r - 1, rfl, val_int (by omega), hl, by omega, ?_⟩
     have := hc.out
     obtain ⟨q, rfl⟩ : ∃ q, r = q + 1 := ⟨r - 1, by omega⟩
     rw [posGo_step s q pos hp] at this
     exact this
    case measure =>
     simp
     omega
  ·have hnx : ∀ ty, (Instr.next (.pointer (some ⟨w.heap.size, 0, none⟩)) true ty).run Tryz.prog (w.iter s pos) = _ := fun ty => run_next_end w s pos ty hp
   go_wp2
   go_ret
   refine ⟨ret_str ?_, iter_below _ _ _⟩
   rw [← hc.out, posGo_end s r pos hp, show pos = s.size by omega, extract_all]
set_option maxRecDepth 1000000 in
set_option maxHeartbeats 400000 in
theorem cut_neg (s : ByteArray) (n : Int) (w : World) (hn : n < 0) :
  Calls Tryz.prog 131 #[.string s, .int .i64 n] w fun e w' => e = .returned (.string s) ∧ Below w.heap.size w w' := by
 go_enter Tryz.func131, Tryz.ntmps131
 go_wp2
 go_ret
 exact ⟨rfl, Below.refl _ _⟩
theorem cut_any (s : ByteArray) (n : Int) (w : World) (hs : s.size ≤ maxLen) (hn : n ≤ 9223372036854775807) :
  Calls Tryz.prog 131 #[.string s, .int .i64 n] w fun e w' => e = .returned (.string (cutS s n)) ∧ Below w.heap.size w w' := by
 unfold cutS
 by_cases h : n < 0
 ·rw [if_pos h]; exact cut_neg s n w h
 ·rw [if_neg h]
  obtain ⟨N, rfl⟩ : ∃ N : Nat, n = N := ⟨n.toNat, by omega⟩
  exact cut_nat s N w hs (by omega)
end Go.Proofs.YtdlnmnipnkeabaaGreatDoor
