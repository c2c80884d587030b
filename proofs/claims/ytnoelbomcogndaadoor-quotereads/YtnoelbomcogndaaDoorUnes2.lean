/- The walk of unescapeFirst, where a letter or a sign stands behind the backslash; unescapeFirst as a whole; unescape. -/
import Derived.Test.YtnoelbomcogndaaDoorUnes
import Derived.Deep.RegionWith
import Derived.Deep.QuietTactic
import Derived.BigQuiet
import Derived.Deep.DeepCutAuto
import Derived.Deep.CutBlock
namespace Go.Proofs.YtnoelbomcogndaaDoor
open Go.RowKit
set_option linter.unusedVariables false

theorem ofNat_inj (a b : Nat) (ha : a < 256) (hb : b < 256) (h : UInt8.ofNat a = UInt8.ofNat b) : a = b := by
  have := congrArg UInt8.toNat h
  simp at this
  omega
theorem escT_lt (k : Nat) : escT k < 256 := by
  unfold escT
  split <;> omega
theorem escT_inj (j k : Nat) (hj : j < 7) (hk : k < 7) (h : escT j = escT k) : j = k := by
  have hd : ∀ j, j < 7 → ∀ k, k < 7 → escT j = escT k → j = k := by decide
  exact hd j hj k hk h
theorem reads_letter (s : ByteArray) (h2 : 2 ≤ s.size) (HL : ∃ b tl, s.data.toList = 92 :: b :: tl ∧ s[1]'(by omega) = b) (j : Nat) (hj : j < 7) (hx : (s[1]'(by omega)).toNat = escT j) : Reads s (Utf8.encode ((7 + j : Nat) : Int)) 2 := by
  obtain ⟨b, tl, hl, hb⟩ := HL
  rw [hb] at hx
  intro L m rest hK h
  rw [hl] at h
  have hb' : b = UInt8.ofNat (escT j) := by rw [← hx]; simp
  have hno : ∀ c : UInt8, c.toNat ∉ [97, 98, 116, 110, 118, 102, 114] → b ≠ c := by
    intro c hc hbc
    rw [← hbc, hx] at hc
    have : ∀ j, j < 7 → escT j ∈ [97, 98, 116, 110, 118, 102, 114] := by decide
    exact hc (this j hj)
  rcases kind_second L m rest tl b hK h with ⟨h3, -⟩ | ⟨k, hk, h3, hm, hL⟩ | ⟨h3, -⟩ | ⟨h3, -⟩ | ⟨h3, -⟩
  · rcases h3 with h3 | h3
    · exact absurd h3 (hno _ (by decide))
    · exact absurd h3 (hno _ (by decide))
  · have hjk : j = k := by
      rw [hb'] at h3
      exact escT_inj j k hj hk (ofNat_inj _ _ (escT_lt _) (escT_lt _) h3)
    subst hjk
    refine ⟨?_, hL.symm⟩
    rw [hm, enc1 _ (by omega)]
  · exact absurd h3 (hno _ (by decide))
  · exact absurd h3 (hno _ (by decide))
  · exact absurd h3 (hno _ (by decide))
theorem reads_sign (s : ByteArray) (h2 : 2 ≤ s.size) (HL : ∃ b tl, s.data.toList = 92 :: b :: tl ∧ s[1]'(by omega) = b) (hx : (s[1]'(by omega)).toNat ≠ 120) (hu : (s[1]'(by omega)).toNat ≠ 117) (hU : (s[1]'(by omega)).toNat ≠ 85) (hno : ∀ j, j < 7 → (s[1]'(by omega)).toNat ≠ escT j) : Reads s (s.extract 1 2) 2 := by
  obtain ⟨b, tl, hl, hb⟩ := HL
  rw [hb] at hx hu hU hno
  intro L m rest hK h
  have he : (s.extract 1 2).data.toList = [b] := by
    rw [ByteArray.data_extract, Array.toList_extract, hl]
    rfl
  rw [hl] at h
  rcases kind_second L m rest tl b hK h with ⟨h3, hm, hL⟩ | ⟨k, hk, h3, hm, hL⟩ | ⟨h3, -⟩ | ⟨h3, -⟩ | ⟨h3, -⟩
  · exact ⟨by rw [he, hm], hL.symm⟩
  · refine absurd ?_ (hno k hk)
    rw [h3]
    have := escT_lt k
    simp
    omega
  · exact absurd (by rw [h3]; rfl) hx
  · exact absurd (by rw [h3]; rfl) hu
  · exact absurd (by rw [h3]; rfl) hU

theorem idx_0 (w : World) : (Instr.index 70 (.agg #[.int .i32 97, .int .i32 98, .int .i32 116, .int .i32 110, .int .i32 118, .int .i32 102, .int .i32 114]) (.int .i64 0)).run Tryd.prog w = .ok (.int .i32 97) w := by
  simp [Instr.index, run_underlying Tryd.underlying70, asIntOf, go_sem]
theorem idx_1 (w : World) : (Instr.index 70 (.agg #[.int .i32 97, .int .i32 98, .int .i32 116, .int .i32 110, .int .i32 118, .int .i32 102, .int .i32 114]) (.int .i64 1)).run Tryd.prog w = .ok (.int .i32 98) w := by
  simp [Instr.index, run_underlying Tryd.underlying70, asIntOf, go_sem]
theorem idx_2 (w : World) : (Instr.index 70 (.agg #[.int .i32 97, .int .i32 98, .int .i32 116, .int .i32 110, .int .i32 118, .int .i32 102, .int .i32 114]) (.int .i64 2)).run Tryd.prog w = .ok (.int .i32 116) w := by
  simp [Instr.index, run_underlying Tryd.underlying70, asIntOf, go_sem]
theorem idx_3 (w : World) : (Instr.index 70 (.agg #[.int .i32 97, .int .i32 98, .int .i32 116, .int .i32 110, .int .i32 118, .int .i32 102, .int .i32 114]) (.int .i64 3)).run Tryd.prog w = .ok (.int .i32 110) w := by
  simp [Instr.index, run_underlying Tryd.underlying70, asIntOf, go_sem]
theorem idx_4 (w : World) : (Instr.index 70 (.agg #[.int .i32 97, .int .i32 98, .int .i32 116, .int .i32 110, .int .i32 118, .int .i32 102, .int .i32 114]) (.int .i64 4)).run Tryd.prog w = .ok (.int .i32 118) w := by
  simp [Instr.index, run_underlying Tryd.underlying70, asIntOf, go_sem]
theorem idx_5 (w : World) : (Instr.index 70 (.agg #[.int .i32 97, .int .i32 98, .int .i32 116, .int .i32 110, .int .i32 118, .int .i32 102, .int .i32 114]) (.int .i64 5)).run Tryd.prog w = .ok (.int .i32 102) w := by
  simp [Instr.index, run_underlying Tryd.underlying70, asIntOf, go_sem]
theorem idx_6 (w : World) : (Instr.index 70 (.agg #[.int .i32 97, .int .i32 98, .int .i32 116, .int .i32 110, .int .i32 118, .int .i32 102, .int .i32 114]) (.int .i64 6)).run Tryd.prog w = .ok (.int .i32 114) w := by
  simp [Instr.index, run_underlying Tryd.underlying70, asIntOf, go_sem]

set_option maxRecDepth 1000000 in
set_option maxHeartbeats 1000000 in
theorem unes_rest (s : ByteArray) (w : World) (hE : Esc w) (h2 : 2 ≤ s.size) (hs : s.size ≤ 10000000) (h92 : (dec s).1 = 92) (hx : (s[1]'(by omega)).toNat ≠ 120) (hu : (s[1]'(by omega)).toNat ≠ 117) (hU : (s[1]'(by omega)).toNat ≠ 85) :
    Calls Tryd.prog 44 #[.string s] w fun e w' => ∃ (t : ByteArray) (n : Nat), e = .returned (.tuple #[.string t, .int .i64 n]) ∧ 1 ≤ n ∧ n ≤ s.size ∧ t.size ≤ 4 ∧ Below w.heap.size w w' ∧ Reads s t n := by
  have hD : ∀ w, Calls Tryd.prog 19 #[.string s] w fun e w' => e = .returned (.tuple #[.int .i32 (dec s).1, .int .i64 (dec s).2]) ∧ Below w.heap.size w w' := fun w => decode_any s w
  rw [h92] at hD
  obtain ⟨d2, hd2⟩ : ∃ d, (dec s).2 = d := ⟨_, rfl⟩
  rw [hd2] at hD
  have HS : Hid ((∀ j, j < 7 → (s[1]'(by omega)).toNat ≠ escT j) → Reads s (s.extract 1 2) 2) := reads_sign s h2 (list_92 s h2 h92) hx hu hU
  have HL : Hid (∀ j, j < 7 → (s[1]'(by omega)).toNat = escT j → Reads s (Utf8.encode ((7 + j : Nat) : Int)) 2) := fun j hj h => reads_letter s h2 (list_92 s h2 h92) j hj h
  have hne : ¬ (s.size : Int) = 1 := by omega
  have hlt : (s[1]'(by omega)).toNat < 256 := (s[1]'(by omega)).toNat_lt
  clear h92 hd2
  obtain ⟨y, hy⟩ : ∃ y, (s[1]'(by omega)).toNat = y := ⟨_, rfl⟩
  have HY : Hid ((s[1]'(by omega)).toNat = y) := hy
  rw [hy] at hx hu hU hlt
  have hx' : ¬ (y : Int) = 120 := by omega
  have hu' : ¬ (y : Int) = 117 := by omega
  have hU' : ¬ (y : Int) = 85 := by omega
  have hw : wrap32 (y : Int) = (y : Int) := wrap32_byte y hlt
  go_enter Tryd.func44, Tryd.ntmps44
  go_upto_region 14 with (go_at_call 19; refine (hD _).mono ?_; rintro e w1 ⟨rfl, hb1⟩)
  have hE1 := hE.below hb1
  have c0 : w1.cell? ⟨0, 0, none⟩ = some (.int .i32 97) := hE1.2 0 (by omega)
  have c1 : w1.cell? ⟨0, 1, none⟩ = some (.int .i32 98) := hE1.2 1 (by omega)
  have c2 : w1.cell? ⟨0, 2, none⟩ = some (.int .i32 116) := hE1.2 2 (by omega)
  have c3 : w1.cell? ⟨0, 3, none⟩ = some (.int .i32 110) := hE1.2 3 (by omega)
  have c4 : w1.cell? ⟨0, 4, none⟩ = some (.int .i32 118) := hE1.2 4 (by omega)
  have c5 : w1.cell? ⟨0, 5, none⟩ = some (.int .i32 102) := hE1.2 5 (by omega)
  have c6 : w1.cell? ⟨0, 6, none⟩ = some (.int .i32 114) := hE1.2 6 (by omega)
  go_wp2
  go_loopg [65] 7 (fun g i wr => wr = w1 ∧ ∃ j : Nat, i = .int .i64 j ∧ j + g = 7 ∧ Hid (∀ q, q < j → y ≠ escT q))
  case atStart => exact ⟨rfl, 0, rfl, rfl, fun q hq => absurd hq (by omega)⟩
  case round =>
    obtain ⟨rfl, j, rfl, hjg, hno⟩ := hrel
    have hj : j = 7 ∨ j = 0 ∨ j = 1 ∨ j = 2 ∨ j = 3 ∨ j = 4 ∨ j = 5 ∨ j = 6 := by omega
    rcases hj with rfl | rfl | rfl | rfl | rfl | rfl | rfl | rfl
    · go_wp2
      go_ret2
      refine ⟨_, 2, rfl, by omega, h2, ?_, hb1, ?_⟩
      · rw [ByteArray.size_extract]; omega
      · refine HS.out ?_
        intro j hj
        rw [HY.out]
        exact hno.out j hj
    · by_cases hf : y = 97
      · have hf' : (y : Int) = 97 := by omega
        have kx := idx_0
        go_wp2_with (go_at_call 43; refine (rune_any _ _).mono ?_; rintro e w3 ⟨rfl, rfl⟩)
        go_ret2
        exact ⟨_, 2, rfl, by omega, h2, enc_size_le _, hb1, HL.out 0 (by omega) (by rw [HY.out, hf]; rfl)⟩
      · have hf' : ¬ (97 : Int) = (y : Int) := by omega
        have kx := idx_0
        go_wp2
        go_roundg 6
        case measure => omega
        case rel =>
          refine ⟨rfl, 1, by go_num, by omega, ?_⟩
          intro q hq
          by_cases hqk : q = 0
          · subst hqk; exact hf
          · exact hno.out q (by omega)
    · by_cases hf : y = 98
      · have hf' : (y : Int) = 98 := by omega
        have kx := idx_1
        go_wp2_with (go_at_call 43; refine (rune_any _ _).mono ?_; rintro e w3 ⟨rfl, rfl⟩)
        go_ret2
        exact ⟨_, 2, rfl, by omega, h2, enc_size_le _, hb1, HL.out 1 (by omega) (by rw [HY.out, hf]; rfl)⟩
      · have hf' : ¬ (98 : Int) = (y : Int) := by omega
        have kx := idx_1
        go_wp2
        go_roundg 5
        case measure => omega
        case rel =>
          refine ⟨rfl, 2, by go_num, by omega, ?_⟩
          intro q hq
          by_cases hqk : q = 1
          · subst hqk; exact hf
          · exact hno.out q (by omega)
    · by_cases hf : y = 116
      · have hf' : (y : Int) = 116 := by omega
        have kx := idx_2
        go_wp2_with (go_at_call 43; refine (rune_any _ _).mono ?_; rintro e w3 ⟨rfl, rfl⟩)
        go_ret2
        exact ⟨_, 2, rfl, by omega, h2, enc_size_le _, hb1, HL.out 2 (by omega) (by rw [HY.out, hf]; rfl)⟩
      · have hf' : ¬ (116 : Int) = (y : Int) := by omega
        have kx := idx_2
        go_wp2
        go_roundg 4
        case measure => omega
        case rel =>
          refine ⟨rfl, 3, by go_num, by omega, ?_⟩
          intro q hq
          by_cases hqk : q = 2
          · subst hqk; exact hf
          · exact hno.out q (by omega)
    · by_cases hf : y = 110
      · have hf' : (y : Int) = 110 := by omega
        have kx := idx_3
        go_wp2_with (go_at_call 43; refine (rune_any _ _).mono ?_; rintro e w3 ⟨rfl, rfl⟩)
        go_ret2
        exact ⟨_, 2, rfl, by omega, h2, enc_size_le _, hb1, HL.out 3 (by omega) (by rw [HY.out, hf]; rfl)⟩
      · have hf' : ¬ (110 : Int) = (y : Int) := by omega
        have kx := idx_3
        go_wp2
        go_roundg 3
        case measure => omega
        case rel =>
          refine ⟨rfl, 4, by go_num, by omega, ?_⟩
          intro q hq
          by_cases hqk : q = 3
          · subst hqk; exact hf
          · exact hno.out q (by omega)
    · by_cases hf : y = 118
      · have hf' : (y : Int) = 118 := by omega
        have kx := idx_4
        go_wp2_with (go_at_call 43; refine (rune_any _ _).mono ?_; rintro e w3 ⟨rfl, rfl⟩)
        go_ret2
        exact ⟨_, 2, rfl, by omega, h2, enc_size_le _, hb1, HL.out 4 (by omega) (by rw [HY.out, hf]; rfl)⟩
      · have hf' : ¬ (118 : Int) = (y : Int) := by omega
        have kx := idx_4
        go_wp2
        go_roundg 2
        case measure => omega
        case rel =>
          refine ⟨rfl, 5, by go_num, by omega, ?_⟩
          intro q hq
          by_cases hqk : q = 4
          · subst hqk; exact hf
          · exact hno.out q (by omega)
    · by_cases hf : y = 102
      · have hf' : (y : Int) = 102 := by omega
        have kx := idx_5
        go_wp2_with (go_at_call 43; refine (rune_any _ _).mono ?_; rintro e w3 ⟨rfl, rfl⟩)
        go_ret2
        exact ⟨_, 2, rfl, by omega, h2, enc_size_le _, hb1, HL.out 5 (by omega) (by rw [HY.out, hf]; rfl)⟩
      · have hf' : ¬ (102 : Int) = (y : Int) := by omega
        have kx := idx_5
        go_wp2
        go_roundg 1
        case measure => omega
        case rel =>
          refine ⟨rfl, 6, by go_num, by omega, ?_⟩
          intro q hq
          by_cases hqk : q = 5
          · subst hqk; exact hf
          · exact hno.out q (by omega)
    · by_cases hf : y = 114
      · have hf' : (y : Int) = 114 := by omega
        have kx := idx_6
        go_wp2_with (go_at_call 43; refine (rune_any _ _).mono ?_; rintro e w3 ⟨rfl, rfl⟩)
        go_ret2
        exact ⟨_, 2, rfl, by omega, h2, enc_size_le _, hb1, HL.out 6 (by omega) (by rw [HY.out, hf]; rfl)⟩
      · have hf' : ¬ (114 : Int) = (y : Int) := by omega
        have kx := idx_6
        go_wp2
        go_roundg 0
        case measure => omega
        case rel =>
          refine ⟨rfl, 7, by go_num, by omega, ?_⟩
          intro q hq
          by_cases hqk : q = 6
          · subst hqk; exact hf
          · exact hno.out q (by omega)

theorem unes_any (s : ByteArray) (w : World) (hE : Esc w) (h0 : 0 < s.size) (hs : s.size ≤ 10000000) :
    Calls Tryd.prog 44 #[.string s] w fun e w' => ∃ (t : ByteArray) (n : Nat), e = .returned (.tuple #[.string t, .int .i64 n]) ∧ 1 ≤ n ∧ n ≤ s.size ∧ t.size ≤ 4 ∧ Below w.heap.size w w' ∧ Reads s t n := by
  by_cases h1 : (dec s).1 ≠ 92 ∨ s.size = 1
  · exact unes_plain s w h0 hs h1
  · have h92 : (dec s).1 = 92 := by
      rcases Nat.decEq (dec s).1 92 with h | h
      · exact absurd (.inl h) h1
      · exact h
    have h2 : 2 ≤ s.size := by
      have : ¬ s.size = 1 := fun h => h1 (.inr h)
      omega
    by_cases hx : (s[1]'(by omega)).toNat = 120
    · exact unes_x s w h2 hs h92 hx
    by_cases hu : (s[1]'(by omega)).toNat = 117
    · exact unes_u s w h2 hs h92 hu
    by_cases hU : (s[1]'(by omega)).toNat = 85
    · exact unes_U s w h2 hs h92 hU
    · exact unes_rest s w hE h2 hs h92 hx hu hU

/-- What a text is read as when it is what stands between two quotes. -/
def ReadsAll (s t : ByteArray) : Prop := ∀ a l, s.data.toList = quoI a l → t.data.toList = l
theorem quoI_eq_nil (a : Bool) (l : List UInt8) (h : quoI a l = []) : l = [] := by
  rcases Classical.em (l = []) with h1 | hl
  · exact h1
  · exfalso
    rw [quoI_step a l hl] at h
    have h2 := (List.append_eq_nil_iff.1 h).1
    rcases item_kind a l hl with ⟨c, hv, hp, h92, h34, hm, hL⟩ | ⟨b', hb, hm, hL⟩ | ⟨k, hk, hm, hL⟩ | ⟨v, hv, hm, hL⟩ | ⟨v, hv, hle, hm, hL⟩ | ⟨v, hv, hm, hL⟩
    · obtain ⟨x, t, he, -⟩ := enc_head c hv
      rw [h2, hm, he] at hL
      exact absurd hL (by simp)
    · rw [h2] at hL; exact absurd hL (by simp)
    · rw [h2] at hL; exact absurd hL (by simp)
    · rw [h2] at hL; exact absurd hL (by simp)
    · rw [h2] at hL; exact absurd hL (by simp)
    · rw [h2] at hL; exact absurd hL (by simp)
/-- One step of reading. -/
theorem reads_step (u t : ByteArray) (n : Nat) (acc : List UInt8) (h0 : 0 < u.size) (hR : Reads u t n) (a : Bool) (l0 : List UInt8) (h : ∃ l, u.data.toList = quoI a l ∧ acc ++ l = l0) :
    ∃ l, (u.extract n u.size).data.toList = quoI a l ∧ (acc ++ t.data.toList) ++ l = l0 := by
  obtain ⟨l, hu, hl⟩ := h
  have hne : l ≠ [] := by
    intro h1
    rw [h1, quoI_nil] at hu
    have h2 : u.size = 0 := by rw [← list_len, hu]; rfl
    omega
  rw [quoI_step a l hne] at hu
  obtain ⟨h1, h2⟩ := hR _ _ _ (item_kind a l hne) hu
  refine ⟨l.drop (Lib.decodeL l).2, ?_, ?_⟩
  · rw [tail_list, hu, h2, List.drop_left' rfl]
  · rw [h1, List.append_assoc, List.take_append_drop]; exact hl

set_option maxRecDepth 1000000 in
set_option maxHeartbeats 1000000 in
theorem unescape_any (s : ByteArray) (w : World) (hE : Esc w) (hs : s.size ≤ 200000) :
    Calls Tryd.prog 23 #[.string s] w fun e w' => ∃ t : ByteArray, e = .returned (.string t) ∧ t.size ≤ 4 * s.size ∧ Below w.heap.size w w' ∧ ReadsAll s t := by
  have hI0 := Lib.IsBuilderF.of (Lib.fresh_isBuilder 48 5 w)
  go_enter Tryd.func23, Tryd.ntmps23
  go_wp2
  go_loopg [0] s.size (fun g t wr => ∃ (u : ByteArray) (acc : List UInt8), t = .string u ∧ u.size ≤ g ∧ u.size ≤ s.size ∧ Lib.IsBuilderF 48 5 w.heap.size w.heap.size (Lib.byteCells acc) wr ∧ Below w.heap.size w wr ∧ acc.length + 4 * u.size ≤ 4 * s.size ∧ Hid (∀ a l0, s.data.toList = quoI a l0 → ∃ l, u.data.toList = quoI a l ∧ acc ++ l = l0))
  case atStart => exact ⟨s, [], rfl, Nat.le_refl _, Nat.le_refl _, hI0, (Below.refl _ w).alloc (Nat.le_refl _) _, by simp, fun a l0 h => ⟨l0, h, rfl⟩⟩
  case round =>
    obtain ⟨u, acc, rfl, hg, hus, hI, hb, hal, hr⟩ := hrel
    by_cases h0 : 0 < u.size
    · have hne := empty_no u h0
      have hEr := hE.below hb
      go_wp2_with (go_at_call 44; refine (unes_any u _ hEr h0 (by omega)).mono ?_; rintro e w2 ⟨t, n, rfl, hn1, hn2, ht4, hb2, hR⟩)
      have hI2 := isB_below hI hb2
      have hb3 := hb.trans (hb2.mono hb.size)
      have HR : Hid (Reads u t n) := hR
      clear hR
      have hsz3 := hb3.size
      refine (Tryd.writeString w.heap.size w.heap.size _ _ _ hI2 (by rw [Lib.byteCells_length]; omega) hsz3).mono ?_
      rintro e w6 ⟨rfl, h6, hb6, hk6⟩
      go_wp2
      go_roundg (u.size - n)
      case measure => omega
      case rel =>
        refine ⟨_, acc ++ t.data.toList, rfl, ?_, ?_, ?_, hb3.trans hb6, ?_, ?_⟩
        · rw [tail_size]; exact Nat.le_refl _
        · rw [tail_size]; omega
        · rw [str_cells'] at h6
          rw [Lib.byteCells_append]; exact Or.inr h6
        · rw [tail_size, List.length_append, list_len]; omega
        · intro a l0 h
          exact reads_step u t n acc h0 HR.out a l0 (hr.out a l0 h)
    · have hne := empty_yes u (by omega)
      go_wp2_with (go_at_call 33; refine (Tryd.builderString w.heap.size w.heap.size _ _ hI hb.size).mono ?_)
      rintro e w8 ⟨rfl, -, hb8, -⟩
      go_wp2
      go_ret
      refine ⟨_, rfl, ?_, hb.trans hb8, ?_⟩
      · show acc.toArray.size ≤ _
        simp
        omega
      · intro a l0 h
        obtain ⟨l, h1, h2⟩ := hr.out a l0 h
        have h3 : u.data.toList = [] := List.eq_nil_of_length_eq_zero (by rw [list_len]; omega)
        rw [h3] at h1
        have h4 := quoI_eq_nil a l h1.symm
        rw [h4, List.append_nil] at h2
        exact h2
end Go.Proofs.YtnoelbomcogndaaDoor
