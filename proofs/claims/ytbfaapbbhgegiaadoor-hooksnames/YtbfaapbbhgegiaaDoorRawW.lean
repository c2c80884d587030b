/- The walk of Raw. -/
import Derived.Test.YtbfaapbbhgegiaaDoorChar
namespace Go.Proofs.YtbfaapbbhgegiaaDoor
open Go.RowKit
set_option linter.unusedVariables false

/-- A text between back quotes. -/
def rawT (s : ByteArray) : ByteArray := ⟨(96 :: (s.data.toList ++ [96])).toArray⟩
theorem raw_pack (s : ByteArray) (hs : s.size ≤ 1000000) : ∃ r u : ByteArray, rawT s = r ∧ (ByteArray.mk #[96]) ++ s = u ∧ u ++ (ByteArray.mk #[96]) = r ∧ ¬ 9223372036854775807 < (ByteArray.mk #[96]).size + s.size ∧ ¬ 9223372036854775807 < u.size + (ByteArray.mk #[96]).size := by
  have e1 : (ByteArray.mk #[96]) ++ s = ⟨(96 :: s.data.toList).toArray⟩ := by
    have := ba_app [96] s.data.toList
    rw [ba_list] at this
    exact this
  have e2 : (ByteArray.mk (96 :: s.data.toList).toArray) ++ (ByteArray.mk #[96]) = rawT s := ba_app (96 :: s.data.toList) [96]
  refine ⟨_, _, rfl, e1, e2, one_sum 96 _ (by omega), sum_one 96 _ ?_⟩
  show (96 :: s.data.toList).toArray.size ≤ 100000000
  have := list_len s
  simp; simp at this; omega
theorem hinders_is (c : Int) (b : Bool) (h : hind c = b) (w : World) :
    Calls Tryd.prog 90 #[.int .i32 c] w fun e w' => e = .returned (.bool b) ∧ w' = w := by rw [← h]; exact hinders_any c w

set_option maxRecDepth 1000000 in
set_option maxHeartbeats 800000 in
theorem raw_any (s : ByteArray) (b : Bool) (w : World) (hs : s.size ≤ 1000000) (hb0 : rawF s 0 = b) :
    Calls Tryd.prog 77 #[.string s] w fun e w' => e = .returned (.tuple #[.string (cond b (rawT s) ⟨#[]⟩), .bool b]) ∧ Below w.heap.size w w' := by
  obtain ⟨r, u, hr, h1, h2, h3, h4⟩ := raw_pack s hs
  rw [hr]
  clear hr
  go_enter Tryd.func77, Tryd.ntmps77
  go_wp2
  go_loopw [] (fun wr => ∃ pos : Nat, wr.heap[w.heap.size]? = some (.stringIter s pos) ∧ Below w.heap.size w wr ∧ pos ≤ s.size ∧ Hid (rawF s pos = b)) (fun wr => s.size - wr.iterPos w.heap.size)
  case atStart =>
    refine ⟨0, ?_, iter_below _ _ _, Nat.zero_le _, hb0⟩
    simpa using World.iter_heap w s 0
  case round =>
    obtain ⟨pos, hit, hb, hpos, hrw⟩ := hrel
    by_cases hp : pos < s.size
    · have hnx : ∀ ty, (Instr.next (.pointer (some ⟨w.heap.size, 0, none⟩)) true ty).run Tryd.prog wr = _ := fun ty => Lib.run_next_any_at wr w.heap.size s pos ty hit hp
      have hwd := wid_pos s pos
      have hwl := wid_le s pos hp
      have hit2 := Lib.iterAt_heap wr w.heap.size s pos (pos + (Utf8.decode s pos).2) hit
      have hb2 := Lib.below_iterAt hb (k := w.heap.size) (Nat.le_refl _) s (pos + (Utf8.decode s pos).2)
      have hdt := dec_tail s pos hp
      have HN : Hid ((hind (Utf8.decode s pos).1 = true ∨ brk (Utf8.decode s pos) = true) → rawF s pos = false) := rawF_no s pos hp
      have HO : Hid (¬ (hind (Utf8.decode s pos).1 = true ∨ brk (Utf8.decode s pos) = true) → rawF s pos = rawF s (pos + (Utf8.decode s pos).2)) := rawF_on s pos hp
      generalize Utf8.decode s pos = D at *
      have hBk : ∀ b, brk D = b → ∀ w, Calls Tryd.prog 72 #[.int .i32 (D.1 : Nat), .string (s.extract pos s.size)] w fun e w' => e = .returned (.bool b) ∧ Below w.heap.size w w' := fun b h w => broken_is _ _ b w (by rw [hdt]) (by rw [hdt]; exact h)
      have hHi : ∀ b, hind (D.1 : Int) = b → ∀ w, Calls Tryd.prog 90 #[.int .i32 (D.1 : Nat)] w fun e w' => e = .returned (.bool b) ∧ w' = w := fun b h w => hinders_is _ b h w
      clear hdt
      cases hh : hind (D.1 : Int) with
      | true =>
        replace hHi := hHi true hh
        have HB : Hid (b = false) := by
          have := HN.out (.inl hh)
          show b = false
          rw [← hrw.out, this]
        clear hh hBk
        go_wp2_with (go_at_call 90; refine (hHi _).mono ?_; rintro e w3 ⟨rfl, rfl⟩)
        go_ret2
        rw [HB.out]
        exact ⟨rfl, hb2⟩
      | false =>
        replace hHi := hHi false hh
        cases hk : brk D with
        | true =>
          replace hBk := hBk true hk
          have HB : Hid (b = false) := by
            have := HN.out (.inr hk)
            show b = false
            rw [← hrw.out, this]
          clear hh hk
          go_wp2_with (first | (go_at_call 90; refine (hHi _).mono ?_; rintro e w3 ⟨rfl, rfl⟩) | (go_at_call 72; refine (hBk _).mono ?_; rintro e w4 ⟨rfl, hb4⟩))
          go_ret2
          rw [HB.out]
          exact ⟨rfl, hb2.trans (hb4.mono hb2.size)⟩
        | false =>
          replace hBk := hBk false hk
          have HS : Hid (rawF s (pos + D.2) = b) := by
            have := HO.out (by rw [hh, hk]; simp)
            show _ = b
            rw [← this]; exact hrw.out
          clear hh hk
          go_wp2_with (first | (go_at_call 90; refine (hHi _).mono ?_; rintro e w3 ⟨rfl, rfl⟩) | (go_at_call 72; refine (hBk _).mono ?_; rintro e w4 ⟨rfl, hb4⟩))
          go_roundw
          case rel => exact ⟨pos + D.2, iter_keep hb4 hit2, hb2.trans (hb4.mono hb2.size), hwl, HS⟩
          case measure =>
            simp only [World.iterPos, iter_keep hb4 hit2, hit]
            omega
    · have hnx : ∀ ty, (Instr.next (.pointer (some ⟨w.heap.size, 0, none⟩)) true ty).run Tryd.prog wr = _ := fun ty => Lib.run_next_end_at wr w.heap.size s pos ty hit hp
      have HB : Hid (b = true) := by
        show b = true
        rw [← hrw.out, rawF_end s pos hp]
      go_wp2
      go_ret2
      rw [HB.out]
      exact ⟨rfl, hb⟩
end Go.Proofs.YtbfaapbbhgegiaaDoor
