/- The walk of the document's Raw. -/
import Derived.Test.YtnoelbomcogndaaDoorRawW
import Derived.Test.YtnoelbomcogndaaDoorRDecodeB
namespace Go.Proofs.YtnoelbomcogndaaDoor
open Go.RowKit
set_option linter.unusedVariables false

theorem tail_tail (s : ByteArray) (a b : Nat) : (s.extract a s.size).extract b (s.extract a s.size).size = s.extract (a + b) s.size := by
  have h : ((s.extract a s.size).extract b (s.extract a s.size).size).data.toList = (s.extract (a + b) s.size).data.toList := by
    rw [tail_list, tail_list, tail_list, List.drop_drop]
  rw [← ba_list ((s.extract a s.size).extract b (s.extract a s.size).size), h, ba_list]
theorem tail_zero (s : ByteArray) : s.extract 0 s.size = s := extract_all s

set_option maxRecDepth 1000000 in
set_option maxHeartbeats 2000000 in
theorem draw_any (s : ByteArray) (b : Bool) (w : World) (hs : s.size ≤ 1000000) (hb0 : rawF s 0 = b) :
    Calls Tryd.prog 39 #[.string s] w fun e w' => e = .returned (.tuple #[.string (cond b (rawT s) ⟨#[]⟩), .bool b]) ∧ Below w.heap.size w w' := by
  obtain ⟨r, u, hr, h1, h2, h3, h4⟩ := raw_pack s hs
  rw [hr]
  clear hr
  go_enter Tryd.func39, Tryd.ntmps39
  go_wp2
  go_loopg [4] s.size (fun g t wr => ∃ (pos : Nat) (v : ByteArray), t = .string v ∧ v.size ≤ g ∧ Hid (v = s.extract pos s.size) ∧ pos ≤ s.size ∧ Below w.heap.size w wr ∧ Hid (rawF s pos = b))
  case atStart => exact ⟨0, s, rfl, Nat.le_refl _, (tail_zero s).symm, Nat.zero_le _, Below.refl _ _, hb0⟩
  case round =>
    obtain ⟨pos, v, rfl, hg, hv, hpos, hb, hrw⟩ := hrel
    have hvs1 : v.size ≤ s.size - pos := by rw [hv.out, tail_size]; exact Nat.le_refl _
    have hvs2 : s.size - pos ≤ v.size := by rw [hv.out, tail_size]; exact Nat.le_refl _
    by_cases hp : pos < s.size
    · have h0 : 0 < v.size := by omega
      have hne := empty_no v h0
      have hwl := wid_le s pos hp
      have hwd := wid_pos s pos
      have hdt := dec_tail s pos hp
      rw [← hv.out] at hdt
      have HN : Hid ((hind (Utf8.decode s pos).1 = true ∨ brk (Utf8.decode s pos) = true) → rawF s pos = false) := rawF_no s pos hp
      have HO : Hid (¬ (hind (Utf8.decode s pos).1 = true ∨ brk (Utf8.decode s pos) = true) → rawF s pos = rawF s (pos + (Utf8.decode s pos).2)) := rawF_on s pos hp
      have hD : ∀ w, Calls Tryd.prog 48 #[.string v] w fun e w' => e = .returned (.tuple #[.int .i32 (dec v).1, .int .i64 (dec v).2, .bool (brk (dec v))]) ∧ Below w.heap.size w w' := fun w => rdecodeB_any v w (by unfold maxLen; omega)
      rw [hdt] at hD
      clear hdt
      generalize Utf8.decode s pos = D at *
      have HV2 : Hid (v.extract D.2 v.size = s.extract (pos + D.2) s.size) := by
        show _ = _
        rw [hv.out]; exact tail_tail s pos D.2
      have hD2 : (D.2 : Int) ≤ v.size := by omega
      cases hk : brk D with
      | true =>
        have HB : Hid (b = false) := by
          have := HN.out (.inr hk)
          show b = false
          rw [← hrw.out, this]
        rw [hk] at hD
        clear hk
        go_wp2_with (go_at_call 48; refine (hD _).mono ?_; rintro e w4 ⟨rfl, hb4⟩)
        go_ret2
        rw [HB.out]
        exact ⟨rfl, hb.trans (hb4.mono hb.size)⟩
      | false =>
        rw [hk] at hD
        by_cases hh : hind (D.1 : Int) = true
        · have HB : Hid (b = false) := by
            have := HN.out (.inl hh)
            show b = false
            rw [← hrw.out, this]
          have hcase : (D.1 : Int) = 96 ∨ ((D.1 : Int) < 32 ∧ (D.1 : Int) ≠ 9) ∨ (D.1 : Int) = 127 ∨ (D.1 : Int) = 65279 := by
            unfold hind at hh
            exact of_decide_eq_true hh
          clear hh hk
          have hcase2 : (D.1 : Int) = 96 ∨ (¬ (D.1 : Int) = 96 ∧ (D.1 : Int) < 32 ∧ ¬ (D.1 : Int) = 9) ∨ (¬ (D.1 : Int) = 96 ∧ ¬ (D.1 : Int) < 32 ∧ (D.1 : Int) = 127) ∨ (¬ (D.1 : Int) = 96 ∧ ¬ (D.1 : Int) < 32 ∧ ¬ (D.1 : Int) = 127 ∧ (D.1 : Int) = 65279) := by omega
          clear hcase
          rcases hcase2 with q1 | ⟨q1, q2, q3⟩ | ⟨q1, q2, q3⟩ | ⟨q1, q2, q3, q4⟩
          all_goals go_wp2_with (go_at_call 48; refine (hD _).mono ?_; rintro e w4 ⟨rfl, hb4⟩)
          all_goals go_ret2
          all_goals rw [HB.out]
          all_goals exact ⟨rfl, hb.trans (hb4.mono hb.size)⟩
        · have HS : Hid (rawF s (pos + D.2) = b) := by
            have := HO.out (by rw [hk]; simp [hh])
            show _ = b
            rw [← this]; exact hrw.out
          have hcase : ¬ (D.1 : Int) = 96 ∧ ¬ (D.1 : Int) = 127 ∧ ¬ (D.1 : Int) = 65279 ∧ (¬ (D.1 : Int) < 32 ∨ ((D.1 : Int) < 32 ∧ (D.1 : Int) = 9)) := by
            have hh2 : ¬ ((D.1 : Int) = 96 ∨ ((D.1 : Int) < 32 ∧ (D.1 : Int) ≠ 9) ∨ (D.1 : Int) = 127 ∨ (D.1 : Int) = 65279) := fun h => hh (decide_eq_true h)
            omega
          clear hh hk
          obtain ⟨q1, q2, q3, q4⟩ := hcase
          have k1 : ((D.1 : Int) == 96) = false := beq_eq_false_iff_ne.2 q1
          have k2 : ((D.1 : Int) == 127) = false := beq_eq_false_iff_ne.2 q2
          have k3 : ((D.1 : Int) == 65279) = false := beq_eq_false_iff_ne.2 q3
          rcases q4 with q4 | ⟨q4, q5⟩
          · go_wp2_with (go_at_call 48; refine (hD _).mono ?_; rintro e w4 ⟨rfl, hb4⟩)
            go_roundg (v.size - D.2)
            case measure => omega
            case rel => exact ⟨pos + D.2, _, rfl, by rw [HV2.out, tail_size]; omega, HV2, hwl, hb.trans (hb4.mono hb.size), HS⟩
          · clear k1 k2 k3
            obtain ⟨d1, d2⟩ := D
            obtain rfl : d1 = 9 := by
              have : (d1 : Int) = 9 := q5
              omega
            go_wp2_with (go_at_call 48; refine (hD _).mono ?_; rintro e w4 ⟨rfl, hb4⟩)
            go_roundg (v.size - d2)
            case measure =>
              have : 1 ≤ d2 := hwd
              omega
            case rel => exact ⟨pos + d2, _, rfl, by rw [HV2.out, tail_size]; have : pos + d2 ≤ s.size := hwl; omega, HV2, hwl, hb.trans (hb4.mono hb.size), HS⟩
    · have hne := empty_yes v (by omega)
      have HB : Hid (b = true) := by
        show b = true
        rw [← hrw.out, rawF_end s pos hp]
      go_wp2
      go_ret2
      rw [HB.out]
      exact ⟨rfl, hb⟩
end Go.Proofs.YtnoelbomcogndaaDoor
