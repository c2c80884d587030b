/- VWalkA, VWalkB: these texts in one. -/
import Derived.Test.YtjfmhghpkefihaaGreatDoorPt7
import Derived.Test.YtjfmhghpkefihaaGreatDoorChecked
import Derived.Deep.LoopGhost
import Derived.WalkKit
import Derived.Handy
import Derived.Lib.MapLaws
import Derived.WalkLawsBesides
/- The walks of names: values' Named and Typed, and the document's. -/
namespace Go.Proofs.YtjfmhghpkefihaaGreatDoor
open Go.RowKit
set_option linter.unusedVariables false

theorem isdigit_any (c : UInt8) (w : World) : Calls Tryz.prog 199 #[.int .u8 c.toNat] w fun e w' => e = .returned (.bool (dgB c)) ∧ w' = w := by
  have hc := c.toNat_lt
  unfold dgB
  by_cases h1 : 48 ≤ c.toNat <;> by_cases h2 : c.toNat ≤ 57
  all_goals first
    | omega
    | (go_enter Tryz.func199, Tryz.ntmps199
       go_wp2
       go_ret
       try (simp [h1, h2]; done)
       try (simp [h1, h2]; omega))
theorem isletter_any (c : UInt8) (w : World) : Calls Tryz.prog 200 #[.int .u8 c.toNat] w fun e w' => e = .returned (.bool (ltB c)) ∧ w' = w := by
  have hc := c.toNat_lt
  unfold ltB
  by_cases h1 : 97 ≤ c.toNat <;> by_cases h2 : c.toNat ≤ 122 <;> by_cases h3 : 65 ≤ c.toNat <;> by_cases h4 : c.toNat ≤ 90
  all_goals first
    | omega
    | (go_enter Tryz.func200, Tryz.ntmps200
       go_wp2
       go_ret
       try (simp [h1, h2, h3, h4]; done)
       try (simp [h1, h2, h3, h4]; omega))
set_option maxRecDepth 1000000 in
set_option maxHeartbeats 4000000 in
theorem typed_any (s : ByteArray) (w : World) (hs : s.size ≤ 9223372036854775807) :
    Calls Tryz.prog 113 #[.string s] w fun e w' => e = .returned (.bool (typedB s)) ∧ w' = w := by
  go_enter Tryz.func113, Tryz.ntmps113
  go_wp2
  go_loopg [6] s.size (fun g i wr => wr = w ∧ ∃ k : Nat, i = .int .i64 k ∧ k + g = s.size ∧ Hid (allB tyB (s.data.toList.take k) = true))
  case atStart => exact ⟨rfl, 0, rfl, Nat.zero_add _, rfl⟩
  case round =>
    obtain ⟨rfl, k, rfl, hkg, HA⟩ := hrel
    by_cases hlt : k < s.size
    · have hltI : (k : Int) < s.size := by omega
      have hx : (s[k]'hlt).toNat < 256 := (s[k]'hlt).toNat_lt
      have HN : Hid (allB tyB (s.data.toList.take (k + 1)) = (allB tyB (s.data.toList.take k) && tyB (s[k]'hlt))) := allB_take tyB s k hlt
      have HB : Hid (tyB (s[k]'hlt) = false → typedB s = false) := fun h => by unfold typedB; rw [allB_bad tyB s k hlt h, Bool.and_false]
      have HD : Hid (tyB (s[k]'hlt) = (decide (33 ≤ (s[k]'hlt).toNat) && decide ((s[k]'hlt).toNat ≤ 126))) := rfl
      by_cases h1 : (s[k]'hlt).toNat < 33
      · have h1I : ((s[k]'hlt).toNat : Int) < 33 := by omega
        have HF : Hid (typedB s = false) := HB.out (by rw [HD.out]; simp; omega)
        go_wp2
        go_ret
        rw [HF.out]
        exact ⟨rfl, rfl⟩
      · have h1I : ¬ ((s[k]'hlt).toNat : Int) < 33 := by omega
        by_cases h2 : 126 < (s[k]'hlt).toNat
        · have h2I : 126 < ((s[k]'hlt).toNat : Int) := by omega
          have HF : Hid (typedB s = false) := HB.out (by rw [HD.out]; simp; omega)
          go_wp2
          go_ret
          rw [HF.out]
          exact ⟨rfl, rfl⟩
        · have h2I : ¬ 126 < ((s[k]'hlt).toNat : Int) := by omega
          have HG : Hid (allB tyB (s.data.toList.take (k + 1)) = true) := by
            show allB tyB (s.data.toList.take (k + 1)) = true
            rw [HN.out, HA.out, HD.out]; simp; omega
          go_wp2
          go_roundg (gk - 1)
          case measure => omega
          case rel => exact ⟨rfl, k + 1, by go_num, by omega, HG⟩
    · have hltI : ¬ (k : Int) < s.size := by omega
      have HF : Hid (allB tyB s.data.toList = true) := allB_whole tyB s k (by omega) HA.out
      by_cases h32 : s.size ≤ 32
      · have h32I : (s.size : Int) ≤ 32 := by omega
        go_wp2
        go_ret
        exact ⟨by unfold typedB; rw [HF.out]; simp [h32], rfl⟩
      · have h32I : ¬ (s.size : Int) ≤ 32 := by omega
        go_wp2
        go_ret
        exact ⟨by unfold typedB; rw [HF.out]; simp [h32], rfl⟩
set_option maxRecDepth 1000000 in
set_option maxHeartbeats 4000000 in
theorem named_any (s : ByteArray) (w : World) (hs : s.size ≤ 9223372036854775807) :
    Calls Tryz.prog 156 #[.string s] w fun e w' => e = .returned (.bool (namedB s)) ∧ w' = w := by
  by_cases h0 : 0 < s.size
  · have h0I : (0 : Int) < s.size := by omega
    have hne : ¬ s.toList = [] := by
      rw [Lib.toList_data]
      intro e
      have := congrArg List.length e
      rw [len_sz, List.length_nil] at this
      omega
    have hie : s.toList.isEmpty = false := by simpa using hne
    by_cases h32 : s.size ≤ 32
    · have h32I : (s.size : Int) ≤ 32 := by omega
      cases hd : dgB (s[0]'h0) with
      | true =>
        have HF : Hid (namedB s = false) := by show namedB s = false; unfold namedB; rw [dif_pos h0, hd]; simp
        have hc := isdigit_any (s[0]'h0) w
        rw [hd] at hc
        clear hd
        go_enter Tryz.func156, Tryz.ntmps156
        go_wp2_with (go_at_call 199; refine hc.mono ?_; rintro e w1 ⟨rfl, rfl⟩)
        go_ret
        rw [HF.out]
        exact ⟨rfl, rfl⟩
      | false =>
        have HT : Hid (allB nmB s.data.toList = namedB s) := by show allB nmB s.data.toList = namedB s; unfold namedB; rw [dif_pos h0, hd]; simp [h32]
        have hc := isdigit_any (s[0]'h0) w
        rw [hd] at hc
        clear hd
        go_enter Tryz.func156, Tryz.ntmps156
        go_wp2_with (go_at_call 199; refine hc.mono ?_; rintro e w1 ⟨rfl, rfl⟩)
        clear hc
        go_loopg [18] s.size (fun g i wr => wr = w1 ∧ ∃ k : Nat, i = .int .i64 k ∧ k + g = s.size ∧ Hid (allB nmB (s.data.toList.take k) = true))
        case atStart => exact ⟨rfl, 0, rfl, Nat.zero_add _, rfl⟩
        case round =>
          obtain ⟨rfl, k, rfl, hkg, HA⟩ := hrel
          by_cases hlt : k < s.size
          · have hltI : (k : Int) < s.size := by omega
            have hx : (s[k]'hlt).toNat < 256 := (s[k]'hlt).toNat_lt
            have HN : Hid (allB nmB (s.data.toList.take (k + 1)) = (allB nmB (s.data.toList.take k) && nmB (s[k]'hlt))) := allB_take nmB s k hlt
            have HB : Hid (nmB (s[k]'hlt) = false → namedB s = false) := fun h => by rw [← HT.out]; exact allB_bad nmB s k hlt h
            have HM : Hid (nmB (s[k]'hlt) = (dgB (s[k]'hlt) || ltB (s[k]'hlt) || decide ((s[k]'hlt).toNat = 95))) := rfl
            have hc := isdigit_any (s[k]'hlt) wr
            have hl := isletter_any (s[k]'hlt) wr
            generalize dgB (s[k]'hlt) = dg at hc HM
            generalize ltB (s[k]'hlt) = lt at hl HM
            cases dg with
            | true =>
              have HG : Hid (allB nmB (s.data.toList.take (k + 1)) = true) := by
                show allB nmB (s.data.toList.take (k + 1)) = true
                rw [HN.out, HA.out, HM.out]; rfl
              go_wp2_with (first | (go_at_call 199; refine hc.mono ?_; rintro e w1 ⟨rfl, rfl⟩) | (go_at_call 200; refine hl.mono ?_; rintro e w1 ⟨rfl, rfl⟩))
              go_roundg (gk - 1)
              case measure => omega
              case rel => exact ⟨rfl, k + 1, by go_num, by omega, HG⟩
            | false =>
              cases lt with
              | true =>
                have HG : Hid (allB nmB (s.data.toList.take (k + 1)) = true) := by
                  show allB nmB (s.data.toList.take (k + 1)) = true
                  rw [HN.out, HA.out, HM.out]; rfl
                go_wp2_with (first | (go_at_call 199; refine hc.mono ?_; rintro e w1 ⟨rfl, rfl⟩) | (go_at_call 200; refine hl.mono ?_; rintro e w1 ⟨rfl, rfl⟩))
                go_roundg (gk - 1)
                case measure => omega
                case rel => exact ⟨rfl, k + 1, by go_num, by omega, HG⟩
              | false =>
                by_cases h95 : (s[k]'hlt).toNat = 95
                · have h95I : (((s[k]'hlt).toNat : Int) != 95) = false := by simp [h95]
                  have HG : Hid (allB nmB (s.data.toList.take (k + 1)) = true) := by
                    show allB nmB (s.data.toList.take (k + 1)) = true
                    rw [HN.out, HA.out, HM.out]; simp [h95]
                  clear h95
                  go_wp2_with (first | (go_at_call 199; refine hc.mono ?_; rintro e w1 ⟨rfl, rfl⟩) | (go_at_call 200; refine hl.mono ?_; rintro e w1 ⟨rfl, rfl⟩))
                  go_roundg (gk - 1)
                  case measure => omega
                  case rel => exact ⟨rfl, k + 1, by go_num, by omega, HG⟩
                · have h95I : ¬ ((s[k]'hlt).toNat : Int) = 95 := by omega
                  have HF : Hid (namedB s = false) := HB.out (by rw [HM.out]; simp [h95])
                  go_wp2_with (first | (go_at_call 199; refine hc.mono ?_; rintro e w1 ⟨rfl, rfl⟩) | (go_at_call 200; refine hl.mono ?_; rintro e w1 ⟨rfl, rfl⟩))
                  go_ret
                  rw [HF.out]
                  exact ⟨rfl, rfl⟩
          · have hltI : ¬ (k : Int) < s.size := by omega
            have HF : Hid (namedB s = true) := by show namedB s = true; rw [← HT.out]; exact allB_whole nmB s k (by omega) HA.out
            go_wp2
            go_ret
            rw [HF.out]
            exact ⟨rfl, rfl⟩
    · have h32I : ¬ (s.size : Int) ≤ 32 := by omega
      have HF : Hid (namedB s = false) := by show namedB s = false; unfold namedB; rw [dif_pos h0]; simp [h32]
      go_enter Tryz.func156, Tryz.ntmps156
      go_wp2
      go_ret
      rw [HF.out]
      exact ⟨rfl, rfl⟩
  · have h0' : s.size = 0 := by omega
    have HF : Hid (namedB s = false) := by show namedB s = false; unfold namedB; rw [dif_neg h0]
    obtain rfl : s = ⟨#[]⟩ := by
      obtain ⟨⟨l⟩⟩ := s
      have : l.length = 0 := h0'
      rw [List.length_eq_zero_iff.1 this]
    go_enter Tryz.func156, Tryz.ntmps156
    go_wp2
    go_ret
    rw [HF.out]
    exact ⟨rfl, rfl⟩

theorem nm_first (s : ByteArray) (h0 : 0 < s.size) : namedB s = (decide (s.size ≤ 32) && (ltB (s[0]'h0) || decide ((s[0]'h0).toNat = 95)) && allB nmB s.data.toList) := by
  unfold namedB
  rw [dif_pos h0]
  cases ha : allB nmB s.data.toList with
  | false => simp
  | true =>
    have hm := List.all_eq_true.1 ha (s[0]'h0) (List.getElem_mem (by rw [len_sz]; exact h0))
    have e : (!dgB (s[0]'h0)) = (ltB (s[0]'h0) || decide ((s[0]'h0).toNat = 95)) := by
      unfold nmB at hm
      have hx := (s[0]'h0).toNat_lt
      generalize (s[0]'h0) = c at hm
      by_cases h1 : 48 ≤ c.toNat <;> by_cases h2 : c.toNat ≤ 57
      all_goals (unfold dgB ltB at hm ⊢; simp [h1, h2] at hm ⊢; try omega)
    rw [e]

end Go.Proofs.YtjfmhghpkefihaaGreatDoor

/- The walks of package values that look at one descriptor: must, textFits, isKind, hasParts, isKey, fieldsFormed, entriesFormed, formed. -/
namespace Go.Proofs.YtjfmhghpkefihaaGreatDoor
open Go.RowKit
set_option linter.unusedVariables false

/-- What must throws. -/
abbrev PE (n : Int) : List PanicEntry := [{ v := .iface 90 (.int .i64 n), recovered := false }]
theorem must_ok (n : Int) (w : World) : Calls Tryz.prog 73 #[.bool true, .int .i64 n] w fun e w' => e = .returned (.tuple #[]) ∧ w' = w := by
  go_enter Tryz.func73, Tryz.ntmps73
  go_wp2
  go_end0
  exact ⟨rfl, rfl⟩
theorem must_no (n : Int) (w : World) : Calls Tryz.prog 73 #[.bool false, .int .i64 n] w fun e w' => e = .panicked (PE n) ∧ w' = w := by
  go_enter Tryz.func73, Tryz.ntmps73
  go_wp2
  exact ⟨rfl, rfl, rfl⟩

theorem iskind_any (k : Int) (w : World) : Calls Tryz.prog 77 #[.int .i64 k] w fun e w' => e = .returned (.bool (decide (0 ≤ k) && decide (k ≤ 22))) ∧ w' = w := by
  by_cases h1 : 0 ≤ k <;> by_cases h2 : k ≤ 22
  all_goals first
    | omega
    | (go_enter Tryz.func77, Tryz.ntmps77
       go_wp2
       go_ret
       try (simp [h1, h2]; done))
theorem hasparts_any (k : Int) (w : World) : Calls Tryz.prog 112 #[.int .i64 k] w fun e w' => e = .returned (.bool (great k)) ∧ w' = w := by
  unfold great
  by_cases h1 : 18 ≤ k <;> by_cases h2 : k ≤ 22
  all_goals first
    | omega
    | (go_enter Tryz.func112, Tryz.ntmps112
       go_wp2
       go_ret
       try (simp [h1, h2]; done))
/-- May a value of that kind be a key? -/
def keyB (k : Int) : Bool := decide (k = 1) || (decide (2 ≤ k) && decide (k ≤ 11)) || decide (k = 16)
theorem iskey_any (k : Int) (w : World) : Calls Tryz.prog 157 #[.int .i64 k] w fun e w' => e = .returned (.bool (keyB k)) ∧ w' = w := by
  by_cases h1 : k = 1
  · subst h1
    go_enter Tryz.func157, Tryz.ntmps157
    go_wp2
    go_ret
    exact ⟨rfl, rfl⟩
  by_cases h16 : k = 16
  · subst h16
    go_enter Tryz.func157, Tryz.ntmps157
    go_wp2
    go_ret
    exact ⟨rfl, rfl⟩
  have e1 : (k == 1) = false := by simp [h1]
  have e16 : (k == 16) = false := by simp [h16]
  have HK : Hid (keyB k = (decide (2 ≤ k) && decide (k ≤ 11))) := by show keyB k = _; unfold keyB; simp [h1, h16]
  clear h1 h16
  by_cases h2 : 2 ≤ k <;> by_cases h3 : k ≤ 11
  all_goals first
    | omega
    | (go_enter Tryz.func157, Tryz.ntmps157
       go_wp2
       go_ret
       refine ⟨?_, rfl⟩
       rw [HK.out]
       simp [h2, h3])
/-- Is the text, if it is looked at, short enough? -/
def fitsB (d : D) : Bool := (decide (d.kind ≠ 16) && decide (d.kind ≠ 17)) || decide (d.text.size ≤ 1024)
theorem textfits_any (d : D) (nv pv : Value) (w : World) : Calls Tryz.prog 74 #[DV d nv pv] w fun e w' => e = .returned (.bool (fitsB d)) ∧ Below w.heap.size w w' := by
  obtain ⟨kind, ty, bits, imag, text, names, parts, hook⟩ := d
  have bel : ∀ cs t, Below w.heap.size w (w.alloc (.cells cs t)) := fun _ _ => (Below.refl _ _).alloc (Nat.le_refl _) _
  by_cases h16 : kind = 16
  · subst h16
    by_cases ht : text.size ≤ 1024
    · have htI : (text.size : Int) ≤ 1024 := by omega
      go_enter Tryz.func74, Tryz.ntmps74
      go_wp2
      go_ret
      exact ⟨by simp [fitsB, ht], bel _ _⟩
    · have htI : ¬ (text.size : Int) ≤ 1024 := by omega
      go_enter Tryz.func74, Tryz.ntmps74
      go_wp2
      go_ret
      exact ⟨by simp [fitsB, ht], bel _ _⟩
  by_cases h17 : kind = 17
  · subst h17
    by_cases ht : text.size ≤ 1024
    · have htI : (text.size : Int) ≤ 1024 := by omega
      go_enter Tryz.func74, Tryz.ntmps74
      go_wp2
      go_ret
      exact ⟨by simp [fitsB, ht], bel _ _⟩
    · have htI : ¬ (text.size : Int) ≤ 1024 := by omega
      go_enter Tryz.func74, Tryz.ntmps74
      go_wp2
      go_ret
      exact ⟨by simp [fitsB, ht], bel _ _⟩
  have e16 : (kind != 16) = true := by simp [h16]
  have e17 : (kind != 17) = true := by simp [h17]
  go_enter Tryz.func74, Tryz.ntmps74
  go_wp2
  go_ret
  exact ⟨by simp [fitsB, h16, h17], bel _ _⟩
end Go.Proofs.YtjfmhghpkefihaaGreatDoor
