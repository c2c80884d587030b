/- Package bad: Read of whatever text. -/
import Derived.Test.YtbgejkodgcgpdaaBLive
namespace Go.Proofs.Ytbgejkodgcgpdaa
open Go.RowKit
set_option linter.unusedVariables false
set_option linter.unusedSimpArgs false

/-- Which of the texts without a verb has this inside. -/
def woK (s : ByteArray) : Int :=
  if s = ⟨#[78, 79, 86, 69, 82, 66]⟩ then 6 else if s = ⟨#[66, 65, 68, 87, 73, 68, 84, 72]⟩ then 7 else if s = ⟨#[66, 65, 68, 80, 82, 69, 67]⟩ then 8 else if s = ⟨#[68, 69, 80, 84, 72]⟩ then 9
  else if Lib.hasPrefix s.data.toList [69, 88, 84, 82, 65, 32] = true then 10 else 0
/-- Which of the texts with a verb has this inside. -/
def wiK (s : ByteArray) : Int :=
  if s = ⟨#[60, 110, 105, 108, 62]⟩ then 2 else if s = ⟨#[77, 73, 83, 83, 73, 78, 71]⟩ then 3 else if s = ⟨#[66, 65, 68, 73, 78, 68, 69, 88]⟩ then 4
  else if Lib.hasPrefix s.data.toList [80, 65, 78, 73, 67, 61] = true ∧ Lib.contains s.data.toList [32, 109, 101, 116, 104, 111, 100, 58, 32] = true then 5
  else if 0 ≤ Lib.indexByte s.data.toList 61 then 1 else 0
/-- What stands behind an opening bracket. -/
def inK (s : ByteArray) : ByteArray := ⟨(Lib.trimPrefix s.data.toList [40]).toArray⟩
abbrev opK (s : ByteArray) : Bool := Lib.hasPrefix s.data.toList [40]
def paK (s : ByteArray) : Int × Int × ByteArray :=
  if opK s = true ∧ opK (inK s) = false then (woK (inK s), 0, inK s)
  else if opK (s.extract (dec s).2 s.size) = false ∨ ((dec s).1 = 65533 ∧ (dec s).2 = 1) then (0, 0, ⟨#[]⟩)
  else (wiK (inK (s.extract (dec s).2 s.size)), (dec s).1, inK (s.extract (dec s).2 s.size))
def restK (s : ByteArray) : ByteArray := ⟨(Lib.trimPrefix s.data.toList [37, 33]).toArray⟩
def bodyK (s : ByteArray) : ByteArray := ⟨(Lib.trimSuffix (restK s).data.toList [41]).toArray⟩
def reK (s : ByteArray) : Int × Int × ByteArray :=
  if Lib.hasPrefix s.data.toList [37, 33] = true ∧ Lib.hasSuffix (restK s).data.toList [41] = true ∧ (paK (bodyK s)).1 ≠ 0 then paK (bodyK s) else (0, 0, ⟨#[]⟩)

theorem beq_nB (a b : ByteArray) (h : ¬ a = b) : (a.toList == b.toList) = false := by
  have := beq_no a b h
  injection this
set_option maxRecDepth 1000000 in
set_option maxHeartbeats 4000000 in
theorem bwithout_any (s : ByteArray) (w : World) : Calls Try.prog 49 #[.string s] w fun e w' => e = .returned (.int .i64 (woK s)) ∧ w' = w := by
  have k1 : ∀ b, Lib.hasPrefix s.data.toList [69, 88, 84, 82, 65, 32] = b → HpB s ⟨#[69, 88, 84, 82, 65, 32]⟩ b := fun b hb w => by subst hb; exact Try.strings_HasPrefix _ _ w
  by_cases h1 : s = ⟨#[78, 79, 86, 69, 82, 66]⟩
  · subst h1
    go_enter Try.func49, Try.ntmps49
    go_wp2
    go_ret
    exact ⟨rfl, rfl⟩
  by_cases h2 : s = ⟨#[66, 65, 68, 87, 73, 68, 84, 72]⟩
  · subst h2
    go_enter Try.func49, Try.ntmps49
    go_wp2
    go_ret
    exact ⟨rfl, rfl⟩
  by_cases h3 : s = ⟨#[66, 65, 68, 80, 82, 69, 67]⟩
  · subst h3
    go_enter Try.func49, Try.ntmps49
    go_wp2
    go_ret
    exact ⟨rfl, rfl⟩
  by_cases h4 : s = ⟨#[68, 69, 80, 84, 72]⟩
  · subst h4
    go_enter Try.func49, Try.ntmps49
    go_wp2
    go_ret
    exact ⟨rfl, rfl⟩
  obtain ⟨b, hb⟩ : ∃ b, Lib.hasPrefix s.data.toList [69, 88, 84, 82, 65, 32] = b := ⟨_, rfl⟩
  have k2 := k1 b hb
  have HW : Hid (woK s = if b = true then 10 else 0) := by
    show _ = _
    unfold woK
    rw [if_neg h1, if_neg h2, if_neg h3, if_neg h4, hb]
  have e1 : (s.toList == [78, 79, 86, 69, 82, 66]) = false := by simpa using beq_nB s ⟨#[78, 79, 86, 69, 82, 66]⟩ h1
  have e2 : (s.toList == [66, 65, 68, 87, 73, 68, 84, 72]) = false := by simpa using beq_nB s ⟨#[66, 65, 68, 87, 73, 68, 84, 72]⟩ h2
  have e3 : (s.toList == [66, 65, 68, 80, 82, 69, 67]) = false := by simpa using beq_nB s ⟨#[66, 65, 68, 80, 82, 69, 67]⟩ h3
  have e4 : (s.toList == [68, 69, 80, 84, 72]) = false := by simpa using beq_nB s ⟨#[68, 69, 80, 84, 72]⟩ h4
  clear k1 hb h1 h2 h3 h4
  cases b
  all_goals
    go_enter Try.func49, Try.ntmps49
    go_wp2_with (go_at_call 48; refine (k2 _).mono ?_; rintro e w2 ⟨rfl, hw2⟩; subst w2)
    go_ret
    rw [HW.out]
    exact ⟨rfl, rfl⟩
set_option maxRecDepth 1000000 in
set_option maxHeartbeats 4000000 in
theorem bwith_any (s : ByteArray) (hs : s.size < 4294967281) (w : World) (m : Int) (hm : w.cell? ⟨0, 0, none⟩ = some (.int .i64 m)) : Calls Try.prog 50 #[.string s] w fun e w' => e = .returned (.int .i64 (wiK s)) ∧ w' = w := by
  have k1 : ∀ b, Lib.hasPrefix s.data.toList [80, 65, 78, 73, 67, 61] = b → HpB s ⟨#[80, 65, 78, 73, 67, 61]⟩ b := fun b hb w => by subst hb; exact Try.strings_HasPrefix _ _ w
  have k3 : ∀ b, Lib.contains s.data.toList [32, 109, 101, 116, 104, 111, 100, 58, 32] = b → Calls Try.prog 62 #[.string s, .string ⟨#[32, 109, 101, 116, 104, 111, 100, 58, 32]⟩] w fun e w' => e = .returned (.bool b) ∧ w' = w := fun b hb => by subst hb; exact Try.strings_Contains _ _ m w hs hm
  have k5 : ∀ b, decide (0 ≤ Lib.indexByte s.data.toList 61) = b → Calls Try.prog 62 #[.string s, .string ⟨#[61]⟩] w fun e w' => e = .returned (.bool b) ∧ w' = w := fun b hb => by subst hb; exact Try.strings_Contains_one _ 61 w
  by_cases h1 : s = ⟨#[60, 110, 105, 108, 62]⟩
  · subst h1
    clear k1 k3 k5 hm
    go_enter Try.func50, Try.ntmps50
    go_wp2
    go_ret
    exact ⟨rfl, rfl⟩
  by_cases h2 : s = ⟨#[77, 73, 83, 83, 73, 78, 71]⟩
  · subst h2
    clear k1 k3 k5 hm
    go_enter Try.func50, Try.ntmps50
    go_wp2
    go_ret
    exact ⟨rfl, rfl⟩
  by_cases h3 : s = ⟨#[66, 65, 68, 73, 78, 68, 69, 88]⟩
  · subst h3
    clear k1 k3 k5 hm
    go_enter Try.func50, Try.ntmps50
    go_wp2
    go_ret
    exact ⟨rfl, rfl⟩
  obtain ⟨b, hb⟩ : ∃ b, Lib.hasPrefix s.data.toList [80, 65, 78, 73, 67, 61] = b := ⟨_, rfl⟩
  obtain ⟨c, hc⟩ : ∃ c, Lib.contains s.data.toList [32, 109, 101, 116, 104, 111, 100, 58, 32] = c := ⟨_, rfl⟩
  obtain ⟨d, hd⟩ : ∃ d, decide (0 ≤ Lib.indexByte s.data.toList 61) = d := ⟨_, rfl⟩
  have q1 := k1 b hb
  have q2 := k3 c hc
  have q3 := k5 d hd
  have HW : Hid (wiK s = if b = true ∧ c = true then 5 else if d = true then 1 else 0) := by
    show _ = _
    unfold wiK
    rw [if_neg h1, if_neg h2, if_neg h3, hb, hc, ← hd]
    simp only [decide_eq_true_eq]
  have e1 : (s.toList == [60, 110, 105, 108, 62]) = false := by simpa using beq_nB s ⟨#[60, 110, 105, 108, 62]⟩ h1
  have e2 : (s.toList == [77, 73, 83, 83, 73, 78, 71]) = false := by simpa using beq_nB s ⟨#[77, 73, 83, 83, 73, 78, 71]⟩ h2
  have e3 : (s.toList == [66, 65, 68, 73, 78, 68, 69, 88]) = false := by simpa using beq_nB s ⟨#[66, 65, 68, 73, 78, 68, 69, 88]⟩ h3
  clear k1 k3 k5 hb hc hd hm h1 h2 h3
  cases b <;> cases c <;> cases d
  all_goals
    go_enter Try.func50, Try.ntmps50
    go_wp2_with (first
      | (go_at_call 48; refine (q1 _).mono ?_; rintro e w2 ⟨rfl, hw2⟩; subst w2)
      | (go_at_call 62; with_reducible refine q2.mono ?_; rintro e w2 ⟨rfl, hw2⟩; subst w2)
      | (go_at_call 62; with_reducible refine q3.mono ?_; rintro e w2 ⟨rfl, hw2⟩; subst w2))
    go_ret
    rw [HW.out]
    exact ⟨rfl, rfl⟩
theorem inK_size (s : ByteArray) : (inK s).size ≤ s.size := by
  rw [← list_len, ← list_len]
  unfold inK Lib.trimPrefix
  show (List.toArray _).toList.length ≤ _
  split
  · simp
  · simp
theorem dec_le (s : ByteArray) : (dec s).2 ≤ s.size := by
  by_cases h : 0 < s.size
  · exact (dec_wid s h).2
  · rw [dec_nil s (by omega)]; exact Nat.zero_le _
theorem cell_pos {w : World} {v : Value} (h : w.cell? ⟨0, 0, none⟩ = some v) : 0 < w.heap.size := by
  rcases Nat.lt_or_ge 0 w.heap.size with h' | h'
  · exact h'
  · simp [World.cell?, Array.getElem?_eq_none h'] at h
set_option maxRecDepth 1000000 in
set_option maxHeartbeats 4000000 in
theorem bparts_any (s : ByteArray) (hs : s.size < 4294967281) (w : World) (m : Int) (hm : w.cell? ⟨0, 0, none⟩ = some (.int .i64 m)) : Calls Try.prog 32 #[.string s] w fun e w' => e = .returned (.tuple #[.int .i64 (paK s).1, .int .i32 (paK s).2.1, .string (paK s).2.2]) ∧ Below w.heap.size w w' := by
  have k1 : ∀ b, opK s = b → CpB s ⟨#[40]⟩ (inK s) b := fun b hb w => by subst hb; exact Try.strings_CutPrefix _ _ w
  have k2 : ∀ b, opK (inK s) = b → HpB (inK s) ⟨#[40]⟩ b := fun b hb w => by subst hb; exact Try.strings_HasPrefix _ _ w
  obtain ⟨b1, h1⟩ : ∃ b, opK s = b := ⟨_, rfl⟩
  obtain ⟨b2, h2⟩ : ∃ b, opK (inK s) = b := ⟨_, rfl⟩
  have q1 := k1 b1 h1
  have q2 := k2 b2 h2
  clear k1 k2
  by_cases hc : b1 = true ∧ b2 = false
  · have HP : Hid (paK s = (woK (inK s), 0, inK s)) := by
      show _ = _
      unfold paK
      rw [if_pos (by rw [h1, h2]; exact hc)]
    have q3 := fun w => bwithout_any (inK s) w
    obtain ⟨rfl, rfl⟩ := hc
    generalize inK s = I at *
    generalize woK I = K at *
    clear h1 h2 hm hs
    go_enter Try.func32, Try.ntmps32
    go_wp2_with (first
      | (go_at_call 30; refine (q1 _).mono ?_; rintro e w2 ⟨rfl, hw2⟩; subst w2)
      | (go_at_call 48; refine (q2 _).mono ?_; rintro e w2 ⟨rfl, hw2⟩; subst w2)
      | (go_at_call 49; refine (q3 _).mono ?_; rintro e w4 ⟨rfl, hw4⟩; subst w4))
    go_ret3
    rw [HP.out]
    exact ⟨rfl, Below.refl _ _⟩
  · have hcc : ¬ (opK s = true ∧ opK (inK s) = false) := by rw [h1, h2]; exact hc
    have hD := fun w => decode_any s w
    have hw := dec_le s
    have h31 : (dec s).2 ≤ 9223372036854775807 := by omega
    have HP0 : Hid (paK s = if opK (s.extract (dec s).2 s.size) = false ∨ ((dec s).1 = 65533 ∧ (dec s).2 = 1) then (0, 0, ⟨#[]⟩) else (wiK (inK (s.extract (dec s).2 s.size)), ((dec s).1 : Int), inK (s.extract (dec s).2 s.size))) := by
      show _ = _
      rw [paK, if_neg hcc]
    have hz0 : (inK (s.extract (dec s).2 s.size)).size < 4294967281 := by
      have h5 := inK_size (s.extract (dec s).2 s.size)
      have h6 : (s.extract (dec s).2 s.size).size ≤ s.size := by rw [ByteArray.size_extract]; omega
      omega
    have h0 := cell_pos hm
    clear hcc
    generalize (dec s).2 = n at *
    generalize (dec s).1 = D at *
    have k3 : ∀ b, opK (s.extract n s.size) = b → CpB (s.extract n s.size) ⟨#[40]⟩ (inK (s.extract n s.size)) b := fun b hb w => by subst hb; exact Try.strings_CutPrefix _ _ w
    obtain ⟨b3, h3⟩ : ∃ b, opK (s.extract n s.size) = b := ⟨_, rfl⟩
    have q3 := k3 b3 h3
    clear k3
    rw [h3] at HP0
    have q4 : ∀ V, Below w.heap.size w V → Calls Try.prog 50 #[.string (inK (s.extract n s.size))] V fun e w' => e = .returned (.int .i64 (wiK (inK (s.extract n s.size)))) ∧ w' = V := fun V hV => bwith_any _ hz0 V m ((hV.cell (p := ⟨0, 0, none⟩) h0).trans hm)
    obtain ⟨R, hR⟩ : ∃ R, s.extract n s.size = R := ⟨_, rfl⟩
    rw [hR] at q3 q4 HP0
    generalize inK s = I at *
    generalize wiK (inK R) = K at *
    generalize inK R = J at *
    clear h1 h2 h3 hm hz0 h0
    have hnI : (n : Int) ≤ s.size := by omega
    have hc' : b1 = false ∨ (b1 = true ∧ b2 = true) := by cases b1 <;> cases b2 <;> simp_all
    clear hc
    have HP := HP0
    clear HP0
    cases b3
    · have HQ : Hid (paK s = (0, 0, ⟨#[]⟩)) := by show _ = _; rw [HP.out]; simp
      clear HP
      rcases hc' with rfl | ⟨rfl, rfl⟩
      all_goals
        go_enter Try.func32, Try.ntmps32
        go_wp2_with (first
          | (go_at_call_of 30 s; refine (q1 _).mono ?_; rintro e w2 ⟨rfl, hw2⟩; subst w2)
          | (go_at_call 30; (try rw [hR]); refine (q3 _).mono ?_; rintro e w2 ⟨rfl, hw2⟩; subst w2)
          | (go_at_call 48; refine (q2 _).mono ?_; rintro e w2 ⟨rfl, hw2⟩; subst w2)
          | (go_at_call 26; refine (hD _).mono ?_; rintro e w3 ⟨rfl, hb3⟩)
          | (go_at_call 50; refine (q4 _ hb3).mono ?_; rintro e w4 ⟨rfl, hw4⟩; subst w4))
        all_goals
          go_ret3
          rw [HQ.out]
          exact ⟨rfl, hb3⟩
    · have hDn : (D = 65533 ∧ n = 1) ∨ ((D : Int) = 65533 ∧ ¬ (n : Int) = 1) ∨ ¬ (D : Int) = 65533 := by omega
      rcases hDn with ⟨rfl, rfl⟩ | ⟨hd1, hd2⟩ | hd1
      · have HQ : Hid (paK s = (0, 0, ⟨#[]⟩)) := by show _ = _; rw [HP.out]; simp
        clear HP
        rcases hc' with rfl | ⟨rfl, rfl⟩
        all_goals
          go_enter Try.func32, Try.ntmps32
          go_wp2_with (first
            | (go_at_call_of 30 s; refine (q1 _).mono ?_; rintro e w2 ⟨rfl, hw2⟩; subst w2)
            | (go_at_call 30; (try rw [hR]); refine (q3 _).mono ?_; rintro e w2 ⟨rfl, hw2⟩; subst w2)
            | (go_at_call 48; refine (q2 _).mono ?_; rintro e w2 ⟨rfl, hw2⟩; subst w2)
            | (go_at_call 26; refine (hD _).mono ?_; rintro e w3 ⟨rfl, hb3⟩)
            | (go_at_call 50; refine (q4 _ hb3).mono ?_; rintro e w4 ⟨rfl, hw4⟩; subst w4))
          all_goals
            go_ret3
            rw [HQ.out]
            exact ⟨rfl, hb3⟩
      all_goals
        have HQ : Hid (paK s = (K, (D : Int), J)) := by show _ = _; rw [HP.out, if_neg (by intro h; rcases h with h | ⟨h, h'⟩ <;> first | cases h; done | omega)]
        clear HP
        rcases hc' with rfl | ⟨rfl, rfl⟩
        all_goals
          go_enter Try.func32, Try.ntmps32
          go_wp2_with (first
            | (go_at_call_of 30 s; refine (q1 _).mono ?_; rintro e w2 ⟨rfl, hw2⟩; subst w2)
            | (go_at_call 30; (try rw [hR]); refine (q3 _).mono ?_; rintro e w2 ⟨rfl, hw2⟩; subst w2)
            | (go_at_call 48; refine (q2 _).mono ?_; rintro e w2 ⟨rfl, hw2⟩; subst w2)
            | (go_at_call 26; refine (hD _).mono ?_; rintro e w3 ⟨rfl, hb3⟩)
            | (go_at_call 50; refine (q4 _ hb3).mono ?_; rintro e w4 ⟨rfl, hw4⟩; subst w4))
          all_goals
            go_ret3
            rw [HQ.out]
            first | exact ⟨rfl, hb3⟩ | (rw [hd1]; exact ⟨rfl, hb3⟩)
theorem bodyK_size (s : ByteArray) : (bodyK s).size ≤ s.size := by
  rw [← list_len, ← list_len]
  unfold bodyK Lib.trimSuffix restK Lib.trimPrefix
  split <;> split <;> simp <;> omega
set_option maxRecDepth 1000000 in
set_option maxHeartbeats 4000000 in
theorem bread_any (s : ByteArray) (hs : s.size < 4294967281) (w : World) (m : Int) (hm : w.cell? ⟨0, 0, none⟩ = some (.int .i64 m)) : Calls Try.prog 16 #[.string s] w fun e w' => e = .returned (.tuple #[.int .i64 (reK s).1, .int .i32 (reK s).2.1, .string (reK s).2.2]) ∧ Below w.heap.size w w' := by
  have hrs : (restK s).size ≤ 9223372036854775807 := by
    have h1 : (restK s).size ≤ s.size := by
      rw [← list_len, ← list_len]
      unfold restK Lib.trimPrefix
      split <;> simp
    omega
  have k1 : ∀ b, Lib.hasPrefix s.data.toList [37, 33] = b → CpB s ⟨#[37, 33]⟩ (restK s) b := fun b hb w => by subst hb; exact Try.strings_CutPrefix _ _ w
  have k2 : ∀ b, Lib.hasSuffix (restK s).data.toList [41] = b → CsB (restK s) ⟨#[41]⟩ (bodyK s) b := fun b hb w => by subst hb; exact Try.strings_CutSuffix _ _ w hrs
  obtain ⟨b1, h1⟩ : ∃ b, Lib.hasPrefix s.data.toList [37, 33] = b := ⟨_, rfl⟩
  obtain ⟨b2, h2⟩ : ∃ b, Lib.hasSuffix (restK s).data.toList [41] = b := ⟨_, rfl⟩
  have q1 := k1 b1 h1
  have q2 := k2 b2 h2
  have q3 := bparts_any (bodyK s) (by have := bodyK_size s; omega) w m hm
  have HR : Hid (reK s = if b1 = true ∧ b2 = true ∧ (paK (bodyK s)).1 ≠ 0 then paK (bodyK s) else (0, 0, ⟨#[]⟩)) := by
    show _ = _
    unfold reK
    rw [h1, h2]
  clear k1 k2 h1 h2 hm hrs hs
  generalize restK s = I at *
  generalize bodyK s = J at *
  generalize paK J = P at *
  obtain ⟨K, D, X⟩ := P
  have hbb : (b1 = true ∧ b2 = true ∧ K ≠ 0) ∨ (b1 = true ∧ b2 = true ∧ K = 0) ∨ (b1 = true ∧ b2 = false) ∨ (b1 = false ∧ b2 = true) ∨ (b1 = false ∧ b2 = false) := by
    cases b1 <;> cases b2 <;> simp <;> omega
  rcases hbb with ⟨rfl, rfl, hK⟩ | ⟨rfl, rfl, rfl⟩ | ⟨rfl, rfl⟩ | ⟨rfl, rfl⟩ | ⟨rfl, rfl⟩
  · have HQ : Hid (reK s = (K, D, X)) := by show _ = _; rw [HR.out, if_pos ⟨rfl, rfl, hK⟩]
    clear HR
    go_enter Try.func16, Try.ntmps16
    go_wp2_with (first
      | (go_at_call 30; refine (q1 _).mono ?_; rintro e w2 ⟨rfl, hw2⟩; subst w2)
      | (go_at_call 31; refine (q2 _).mono ?_; rintro e w2 ⟨rfl, hw2⟩; subst w2)
      | (go_at_call 32; refine q3.mono ?_; rintro e w3 ⟨rfl, hb3⟩))
    go_ret3
    rw [HQ.out]
    exact ⟨rfl, hb3⟩
  · have HQ : Hid (reK s = (0, 0, ⟨#[]⟩)) := by show _ = _; rw [HR.out]; simp
    clear HR
    go_enter Try.func16, Try.ntmps16
    go_wp2_with (first
      | (go_at_call 30; refine (q1 _).mono ?_; rintro e w2 ⟨rfl, hw2⟩; subst w2)
      | (go_at_call 31; refine (q2 _).mono ?_; rintro e w2 ⟨rfl, hw2⟩; subst w2)
      | (go_at_call 32; refine q3.mono ?_; rintro e w3 ⟨rfl, hb3⟩))
    go_ret3
    rw [HQ.out]
    exact ⟨rfl, hb3⟩
  all_goals
    have HQ : Hid (reK s = (0, 0, ⟨#[]⟩)) := by show _ = _; rw [HR.out]; simp
    clear HR q3
    go_enter Try.func16, Try.ntmps16
    go_wp2_with (first
      | (go_at_call 30; refine (q1 _).mono ?_; rintro e w2 ⟨rfl, hw2⟩; subst w2)
      | (go_at_call 31; refine (q2 _).mono ?_; rintro e w2 ⟨rfl, hw2⟩; subst w2))
    go_ret3
    rw [HQ.out]
    exact ⟨rfl, Below.refl _ _⟩
end Go.Proofs.Ytbgejkodgcgpdaa
