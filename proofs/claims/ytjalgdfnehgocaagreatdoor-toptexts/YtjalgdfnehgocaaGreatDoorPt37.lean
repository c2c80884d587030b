/- Unes, Unes2, Unq: these texts in one. -/
import Derived.Test.YtjalgdfnehgocaaGreatDoorShelfF
import Derived.Test.YtjalgdfnehgocaaGreatDoorPt36
import Derived.Test.YtjalgdfnehgocaaGreatDoorPt3
import Derived.Deep.RegionWith
import Derived.Deep.QuietTactic
import Derived.BigQuiet
import Derived.Deep.DeepCutAuto
import Derived.Deep.CutBlock
namespace Go.Proofs.YtjalgdfnehgocaaGreatDoor
open Go.RowKit
set_option linter.unusedVariables false
def Reads (s : ByteArray) (t : ByteArray) (n : Nat) : Prop := ∀ L m rest, Kind L m → s.data.toList = L ++ rest → t.data.toList = m ∧ n = L.length
theorem dec_list (s : ByteArray) (h : 0 < s.size) : dec s = Lib.decodeL s.data.toList := by rw [dec_ne s h, dec_zero]
theorem dec_four (s : ByteArray) (h : 0 < s.size) : (dec s).2 ≤ 4 := by
 rw [dec_ne s h]
 rcases dec_some s h with h1 | ⟨n, h1, h2, h3, h4⟩
 ·rw [h1]; decide
 ·rw [try_dec s _ n h3 h4]; exact h2
theorem reads_plain (s : ByteArray) (h0 : 0 < s.size) (h : (dec s).1 ≠ 92 ∨ s.size = 1) : Reads s (s.extract 0 (dec s).2) (dec s).2 := by
 intro L m rest hK hs
 rw [dec_list s h0] at h ⊢
 rw [ext_list, hs]
 rw [← list_len s, hs] at h
 exact kind_plain L m rest hK h
set_option maxRecDepth 1000000 in
set_option maxHeartbeats 400000 in
theorem unes_plain (s : ByteArray) (w : World) (h0 : 0 < s.size) (hs : s.size ≤ 10000000) (h : (dec s).1 ≠ 92 ∨ s.size = 1) :
  Calls Tryz.prog 37 #[.string s] w fun e w' => ∃ (t : ByteArray) (n : Nat), e = .returned (.tuple #[.string t, .int .i64 n]) ∧ 1 ≤ n ∧ n ≤ s.size ∧ t.size ≤ 4 ∧ Below w.heap.size w w' ∧ Reads s t n := by
 have HR : Hid (Reads s (s.extract 0 (dec s).2) (dec s).2) := reads_plain s h0 h
 obtain ⟨hd1, hd2⟩ := dec_wid s h0
 have hd4 := dec_four s h0
 have hsz : (s.extract 0 (dec s).2).size ≤ 4 := by rw [ByteArray.size_extract]; omega
 have hD : ∀ w, Calls Tryz.prog 60 #[.string s] w fun e w' => e = .returned (.tuple #[.int .i32 (dec s).1, .int .i64 (dec s).2]) ∧ Below w.heap.size w w' := fun w => decode_any s w
 generalize dec s = D at *
 by_cases h1 : D.1 = 92
 ·have h2 : s.size = 1 := by
   rcases h with h | h
   ·exact absurd h1 h
   ·exact h
  have h1' : (D.1 : Int) = 92 := by omega
  have h2' : (s.size : Int) = 1 := by omega
  clear h
  go_enter Tryz.func37, Tryz.ntmps37
  go_wp2_with (go_at_call 60; refine (hD _).mono ?_; rintro e w1 ⟨rfl, hb1⟩)
  go_ret2
  exact ⟨_, _, rfl, hd1, hd2, hsz, hb1, HR.out⟩
 ·have h1' : ¬ (D.1 : Int) = 92 := by omega
  clear h
  go_enter Tryz.func37, Tryz.ntmps37
  go_wp2_with (go_at_call 60; refine (hD _).mono ?_; rintro e w1 ⟨rfl, hb1⟩)
  go_ret2
  exact ⟨_, _, rfl, hd1, hd2, hsz, hb1, HR.out⟩
theorem list_92 (s : ByteArray) (h2 : 2 ≤ s.size) (h : (dec s).1 = 92) : ∃ b tl, s.data.toList = 92 :: b :: tl ∧ s[1]'(by omega) = b := by
 have hl : s.data.toList.length = s.size := list_len s
 have e1 : s.data.toList[1]? = some (s[1]'(by omega)) := by
  rw [List.getElem?_eq_getElem (show 1 < s.data.toList.length by omega)]
  rfl
 rw [dec_list s (by omega)] at h
 match hs : s.data.toList with
 | [] => rw [hs] at hl; simp at hl; omega
 | [x] => rw [hs] at hl; simp at hl; omega
 | x :: b :: tl =>
   rw [hs] at e1 h
   have hb : brk (Lib.decodeL (x :: b :: tl)) = false := by simp [brk, h]
   obtain ⟨hv, he⟩ := decL_pt (x :: b :: tl) (by simp) hb
   rw [h] at he
   have hx : x = 92 := by
    have e92 : (Utf8.encode ((92 : Nat) : Int)).data.toList = [92] := by decide +kernel
    rw [e92] at he
    match hn : (Lib.decodeL (x :: b :: tl)).2 with
    | 0 => rw [hn] at he; simp at he
    | n + 1 =>
      rw [hn] at he
      exact (List.cons.inj he).1
   subst hx
   refine ⟨b, tl, rfl, ?_⟩
   have := Option.some.inj e1
   exact this.symm
theorem reads_x (s : ByteArray) (h2 : 2 ≤ s.size) (HL : ∃ b tl, s.data.toList = 92 :: b :: tl ∧ s[1]'(by omega) = b) (hx : (s[1]'(by omega)).toNat = 120) (v y : Int)
  (hv : ∀ x rest, x ≤ 1114111 → x < 16 ^ 2 → s.data.toList.drop 2 = hexL x 2 ++ rest → v = (x : Nat)) (hy : ∀ x : Nat, x < 256 → v = x → y = x) : Reads s (strOfNums [y]) (min 4 s.size) := by
 obtain ⟨b, tl, hl, hb⟩ := HL
 rw [hb] at hx
 have hb' : b = 120 := UInt8.toNat_inj.1 hx
 intro L m rest hK h
 have hlen := congrArg List.length h
 rw [list_len, List.length_append] at hlen
 rw [hl] at h
 rcases kind_second L m rest tl b hK h with ⟨h3, -⟩ | ⟨k, hk, h3, -⟩ | ⟨-, x, hx2, hm, ht, hL⟩ | ⟨h3, -⟩ | ⟨h3, -⟩
 ·rw [hb'] at h3; exact absurd h3 (by decide)
 ·rw [hb'] at h3
  match k, hk with
  | 0, _ => exact absurd h3 (by decide)
  | 1, _ => exact absurd h3 (by decide)
  | 2, _ => exact absurd h3 (by decide)
  | 3, _ => exact absurd h3 (by decide)
  | 4, _ => exact absurd h3 (by decide)
  | 5, _ => exact absurd h3 (by decide)
  | 6, _ => exact absurd h3 (by decide)
  | k + 7, hk => omega
 ·have hvx := hv x rest (by omega) (by omega) (by rw [hl]; exact ht)
  have hyx := hy x hx2 hvx
  refine ⟨?_, by omega⟩
  rw [hm, hyx]
  simp [strOfNums]
 ·rw [hb'] at h3; exact absurd h3 (by decide)
 ·rw [hb'] at h3; exact absurd h3 (by decide)
theorem reads_u (s : ByteArray) (h2 : 2 ≤ s.size) (HL : ∃ b tl, s.data.toList = 92 :: b :: tl ∧ s[1]'(by omega) = b) (hx : (s[1]'(by omega)).toNat = 117) (v : Int)
  (hv : ∀ x rest, x ≤ 1114111 → x < 16 ^ 4 → s.data.toList.drop 2 = hexL x 4 ++ rest → v = (x : Nat)) : Reads s (Utf8.encode v) (min 6 s.size) := by
 obtain ⟨b, tl, hl, hb⟩ := HL
 rw [hb] at hx
 have hb' : b = 117 := UInt8.toNat_inj.1 hx
 intro L m rest hK h
 have hlen := congrArg List.length h
 rw [list_len, List.length_append] at hlen
 rw [hl] at h
 rcases kind_second L m rest tl b hK h with ⟨h3, -⟩ | ⟨k, hk, h3, -⟩ | ⟨h3, -⟩ | ⟨-, x, hx2, hle, hm, ht, hL⟩ | ⟨h3, -⟩
 ·rw [hb'] at h3; exact absurd h3 (by decide)
 ·rw [hb'] at h3
  match k, hk with
  | 0, _ => exact absurd h3 (by decide)
  | 1, _ => exact absurd h3 (by decide)
  | 2, _ => exact absurd h3 (by decide)
  | 3, _ => exact absurd h3 (by decide)
  | 4, _ => exact absurd h3 (by decide)
  | 5, _ => exact absurd h3 (by decide)
  | 6, _ => exact absurd h3 (by decide)
  | k + 7, hk => omega
 ·rw [hb'] at h3; exact absurd h3 (by decide)
 ·have hvx := hv x rest (by omega) (by omega) (by rw [hl]; exact ht)
  refine ⟨?_, by omega⟩
  rw [hm, hvx]
 ·rw [hb'] at h3; exact absurd h3 (by decide)
theorem reads_U (s : ByteArray) (h2 : 2 ≤ s.size) (HL : ∃ b tl, s.data.toList = 92 :: b :: tl ∧ s[1]'(by omega) = b) (hx : (s[1]'(by omega)).toNat = 85) (v : Int)
  (hv : ∀ x rest, x ≤ 1114111 → x < 16 ^ 8 → s.data.toList.drop 2 = hexL x 8 ++ rest → v = (x : Nat)) : Reads s (Utf8.encode v) (min 10 s.size) := by
 obtain ⟨b, tl, hl, hb⟩ := HL
 rw [hb] at hx
 have hb' : b = 85 := UInt8.toNat_inj.1 hx
 intro L m rest hK h
 have hlen := congrArg List.length h
 rw [list_len, List.length_append] at hlen
 rw [hl] at h
 rcases kind_second L m rest tl b hK h with ⟨h3, -⟩ | ⟨k, hk, h3, -⟩ | ⟨h3, -⟩ | ⟨h3, -⟩ | ⟨-, x, hx2, hm, ht, hL⟩
 ·rw [hb'] at h3; exact absurd h3 (by decide)
 ·rw [hb'] at h3
  match k, hk with
  | 0, _ => exact absurd h3 (by decide)
  | 1, _ => exact absurd h3 (by decide)
  | 2, _ => exact absurd h3 (by decide)
  | 3, _ => exact absurd h3 (by decide)
  | 4, _ => exact absurd h3 (by decide)
  | 5, _ => exact absurd h3 (by decide)
  | 6, _ => exact absurd h3 (by decide)
  | k + 7, hk => omega
 ·rw [hb'] at h3; exact absurd h3 (by decide)
 ·rw [hb'] at h3; exact absurd h3 (by decide)
 ·have hxl := (valid_iff _).1 hx2
  have hvx := hv x rest (by omega) (by omega) (by rw [hl]; exact ht)
  refine ⟨?_, by omega⟩
  rw [hm, hvx]
set_option maxRecDepth 1000000 in
set_option maxHeartbeats 400000 in
theorem unes_x (s : ByteArray) (w : World) (h2 : 2 ≤ s.size) (hs : s.size ≤ 10000000) (h92 : (dec s).1 = 92) (hx : (s[1]'(by omega)).toNat = 120) :
  Calls Tryz.prog 37 #[.string s] w fun e w' => ∃ (t : ByteArray) (n : Nat), e = .returned (.tuple #[.string t, .int .i64 n]) ∧ 1 ≤ n ∧ n ≤ s.size ∧ t.size ≤ 4 ∧ Below w.heap.size w w' ∧ Reads s t n := by
 have hD : ∀ w, Calls Tryz.prog 60 #[.string s] w fun e w' => e = .returned (.tuple #[.int .i32 (dec s).1, .int .i64 (dec s).2]) ∧ Below w.heap.size w w' := fun w => decode_any s w
 rw [h92] at hD
 obtain ⟨d2, hd2⟩ : ∃ d, (dec s).2 = d := ⟨_, rfl⟩
 rw [hd2] at hD
 have hN : ∀ w, Calls Tryz.prog 61 #[.string s, .int .i64 2] w _ := fun w => number_any s 2 w h2 hs (by omega)
 have HL : Hid (∃ b tl, s.data.toList = 92 :: b :: tl ∧ s[1]'(by omega) = b) := list_92 s h2 h92
 have hne : ¬ (s.size : Int) = 1 := by omega
 clear h92 hd2
 have kc := conv1
 go_enter Tryz.func37, Tryz.ntmps37
 go_wp2_with (first | (go_at_call 60; refine (hD _).mono ?_; rintro e w1 ⟨rfl, hb1⟩) | (go_at_call 61; refine (hN _).mono ?_; rintro e w2 ⟨v, rfl, rfl, hv⟩))
 go_ret2
 refine ⟨_, _, rfl, by omega, by omega, ?_, hb1.alloc hb1.size _, reads_x s h2 HL.out hx v _ hv ?_⟩
 ·simp [strOfNums, ByteArray.size]
 ·intro x hx1 hx2
  subst hx2
  omega
set_option maxRecDepth 1000000 in
set_option maxHeartbeats 400000 in
theorem unes_u (s : ByteArray) (w : World) (h2 : 2 ≤ s.size) (hs : s.size ≤ 10000000) (h92 : (dec s).1 = 92) (hx : (s[1]'(by omega)).toNat = 117) :
  Calls Tryz.prog 37 #[.string s] w fun e w' => ∃ (t : ByteArray) (n : Nat), e = .returned (.tuple #[.string t, .int .i64 n]) ∧ 1 ≤ n ∧ n ≤ s.size ∧ t.size ≤ 4 ∧ Below w.heap.size w w' ∧ Reads s t n := by
 have hD : ∀ w, Calls Tryz.prog 60 #[.string s] w fun e w' => e = .returned (.tuple #[.int .i32 (dec s).1, .int .i64 (dec s).2]) ∧ Below w.heap.size w w' := fun w => decode_any s w
 rw [h92] at hD
 obtain ⟨d2, hd2⟩ : ∃ d, (dec s).2 = d := ⟨_, rfl⟩
 rw [hd2] at hD
 have hN : ∀ w, Calls Tryz.prog 61 #[.string s, .int .i64 4] w _ := fun w => number_any s 4 w h2 hs (by omega)
 have HL : Hid (∃ b tl, s.data.toList = 92 :: b :: tl ∧ s[1]'(by omega) = b) := list_92 s h2 h92
 have hne : ¬ (s.size : Int) = 1 := by omega
 clear h92 hd2
 go_enter Tryz.func37, Tryz.ntmps37
 go_wp2_with (first | (go_at_call 60; refine (hD _).mono ?_; rintro e w1 ⟨rfl, hb1⟩) | (go_at_call 61; refine (hN _).mono ?_; rintro e w2 ⟨v, rfl, rfl, hv⟩) | (go_at_call 17; refine (rune_any _ _).mono ?_; rintro e w3 ⟨rfl, rfl⟩))
 go_ret2
 exact ⟨_, _, rfl, by omega, by omega, enc_size_le v, hb1, reads_u s h2 HL.out hx v hv⟩
set_option maxRecDepth 1000000 in
set_option maxHeartbeats 400000 in
theorem unes_U (s : ByteArray) (w : World) (h2 : 2 ≤ s.size) (hs : s.size ≤ 10000000) (h92 : (dec s).1 = 92) (hx : (s[1]'(by omega)).toNat = 85) :
  Calls Tryz.prog 37 #[.string s] w fun e w' => ∃ (t : ByteArray) (n : Nat), e = .returned (.tuple #[.string t, .int .i64 n]) ∧ 1 ≤ n ∧ n ≤ s.size ∧ t.size ≤ 4 ∧ Below w.heap.size w w' ∧ Reads s t n := by
 have hD : ∀ w, Calls Tryz.prog 60 #[.string s] w fun e w' => e = .returned (.tuple #[.int .i32 (dec s).1, .int .i64 (dec s).2]) ∧ Below w.heap.size w w' := fun w => decode_any s w
 rw [h92] at hD
 obtain ⟨d2, hd2⟩ : ∃ d, (dec s).2 = d := ⟨_, rfl⟩
 rw [hd2] at hD
 have hN : ∀ w, Calls Tryz.prog 61 #[.string s, .int .i64 8] w _ := fun w => number_any s 8 w h2 hs (by omega)
 have HL : Hid (∃ b tl, s.data.toList = 92 :: b :: tl ∧ s[1]'(by omega) = b) := list_92 s h2 h92
 have hne : ¬ (s.size : Int) = 1 := by omega
 clear h92 hd2
 go_enter Tryz.func37, Tryz.ntmps37
 go_wp2_with (first | (go_at_call 60; refine (hD _).mono ?_; rintro e w1 ⟨rfl, hb1⟩) | (go_at_call 61; refine (hN _).mono ?_; rintro e w2 ⟨v, rfl, rfl, hv⟩) | (go_at_call 17; refine (rune_any _ _).mono ?_; rintro e w3 ⟨rfl, rfl⟩))
 go_ret2
 exact ⟨_, _, rfl, by omega, by omega, enc_size_le v, hb1, reads_U s h2 HL.out hx v hv⟩
end Go.Proofs.YtjalgdfnehgocaaGreatDoor
namespace Go.Proofs.YtjalgdfnehgocaaGreatDoor
open Go.RowKit
set_option linter.unusedVariables false
theorem ofNat_inj (a b : Nat) (ha : a < 256) (hb : b < 256) (h : UInt8.ofNat a = UInt8.ofNat b) : a = b := by
 have := congrArg UInt8.toNat h
 simp at this
 omega
theorem escT_lt (k : Nat) : escT k < 256 := by
 unfold escT
 split <;> omega
theorem escT_inj (j k : Nat) (hj : j < 7) (hk : k < 7) (h : escT j = escT k) : j = k := by
 have hd : ∀ j, j < 7 → ∀ k, k < 7 → escT j = escT k → j = k := by decide
 exact hd j hj k hk h
theorem reads_letter (s : ByteArray) (h2 : 2 ≤ s.size) (HL : ∃ b tl, s.data.toList = 92 :: b :: tl ∧ s[1]'(by omega) = b) (j : Nat) (hj : j < 7) (hx : (s[1]'(by omega)).toNat = escT j) : Reads s (Utf8.encode ((7 + j : Nat) : Int)) 2 := by
 obtain ⟨b, tl, hl, hb⟩ := HL
 rw [hb] at hx
 intro L m rest hK h
 rw [hl] at h
 have hb' : b = UInt8.ofNat (escT j) := by rw [← hx]; simp
 have hno : ∀ c : UInt8, c.toNat ∉ [97, 98, 116, 110, 118, 102, 114] → b ≠ c := by
  intro c hc hbc
  rw [← hbc, hx] at hc
  have : ∀ j, j < 7 → escT j ∈ [97, 98, 116, 110, 118, 102, 114] := by decide
  exact hc (this j hj)
 rcases kind_second L m rest tl b hK h with ⟨h3, -⟩ | ⟨k, hk, h3, hm, hL⟩ | ⟨h3, -⟩ | ⟨h3, -⟩ | ⟨h3, -⟩
 ·rcases h3 with h3 | h3
  ·exact absurd h3 (hno _ (by decide))
  ·exact absurd h3 (hno _ (by decide))
 ·have hjk : j = k := by
   rw [hb'] at h3
   exact escT_inj j k hj hk (ofNat_inj _ _ (escT_lt _) (escT_lt _) h3)
  subst hjk
  refine ⟨?_, hL.symm⟩
  rw [hm, enc1 _ (by omega)]
 ·exact absurd h3 (hno _ (by decide))
 ·exact absurd h3 (hno _ (by decide))
 ·exact absurd h3 (hno _ (by decide))
theorem reads_sign (s : ByteArray) (h2 : 2 ≤ s.size) (HL : ∃ b tl, s.data.toList = 92 :: b :: tl ∧ s[1]'(by omega) = b) (hx : (s[1]'(by omega)).toNat ≠ 120) (hu : (s[1]'(by omega)).toNat ≠ 117) (hU : (s[1]'(by omega)).toNat ≠ 85) (hno : ∀ j, j < 7 → (s[1]'(by omega)).toNat ≠ escT j) : Reads s (s.extract 1 2) 2 := by
 obtain ⟨b, tl, hl, hb⟩ := HL
 rw [hb] at hx hu hU hno
 intro L m rest hK h
 have he : (s.extract 1 2).data.toList = [b] := by
  rw [ByteArray.data_extract, Array.toList_extract, hl]
  rfl
 rw [hl] at h
 rcases kind_second L m rest tl b hK h with ⟨h3, hm, hL⟩ | ⟨k, hk, h3, hm, hL⟩ | ⟨h3, -⟩ | ⟨h3, -⟩ | ⟨h3, -⟩
 ·exact ⟨by rw [he, hm], hL.symm⟩
 ·refine absurd ?_ (hno k hk)
  rw [h3]
  have := escT_lt k
  simp
  omega
 ·exact absurd (by rw [h3]; rfl) hx
 ·exact absurd (by rw [h3]; rfl) hu
 ·exact absurd (by rw [h3]; rfl) hU
theorem idx_0 (w : World) : (Instr.index 112 (.agg #[.int .i32 97, .int .i32 98, .int .i32 116, .int .i32 110, .int .i32 118, .int .i32 102, .int .i32 114]) (.int .i64 0)).run Tryz.prog w = .ok (.int .i32 97) w := by
 simp [Instr.index, run_underlying Tryz.underlying112, asIntOf, go_sem]
theorem idx_1 (w : World) : (Instr.index 112 (.agg #[.int .i32 97, .int .i32 98, .int .i32 116, .int .i32 110, .int .i32 118, .int .i32 102, .int .i32 114]) (.int .i64 1)).run Tryz.prog w = .ok (.int .i32 98) w := by
 simp [Instr.index, run_underlying Tryz.underlying112, asIntOf, go_sem]
theorem idx_2 (w : World) : (Instr.index 112 (.agg #[.int .i32 97, .int .i32 98, .int .i32 116, .int .i32 110, .int .i32 118, .int .i32 102, .int .i32 114]) (.int .i64 2)).run Tryz.prog w = .ok (.int .i32 116) w := by
 simp [Instr.index, run_underlying Tryz.underlying112, asIntOf, go_sem]
theorem idx_3 (w : World) : (Instr.index 112 (.agg #[.int .i32 97, .int .i32 98, .int .i32 116, .int .i32 110, .int .i32 118, .int .i32 102, .int .i32 114]) (.int .i64 3)).run Tryz.prog w = .ok (.int .i32 110) w := by
 simp [Instr.index, run_underlying Tryz.underlying112, asIntOf, go_sem]
theorem idx_4 (w : World) : (Instr.index 112 (.agg #[.int .i32 97, .int .i32 98, .int .i32 116, .int .i32 110, .int .i32 118, .int .i32 102, .int .i32 114]) (.int .i64 4)).run Tryz.prog w = .ok (.int .i32 118) w := by
 simp [Instr.index, run_underlying Tryz.underlying112, asIntOf, go_sem]
theorem idx_5 (w : World) : (Instr.index 112 (.agg #[.int .i32 97, .int .i32 98, .int .i32 116, .int .i32 110, .int .i32 118, .int .i32 102, .int .i32 114]) (.int .i64 5)).run Tryz.prog w = .ok (.int .i32 102) w := by
 simp [Instr.index, run_underlying Tryz.underlying112, asIntOf, go_sem]
theorem idx_6 (w : World) : (Instr.index 112 (.agg #[.int .i32 97, .int .i32 98, .int .i32 116, .int .i32 110, .int .i32 118, .int .i32 102, .int .i32 114]) (.int .i64 6)).run Tryz.prog w = .ok (.int .i32 114) w := by
 simp [Instr.index, run_underlying Tryz.underlying112, asIntOf, go_sem]
set_option maxRecDepth 1000000 in
set_option maxHeartbeats 1000000 in
theorem unes_rest (s : ByteArray) (w : World) (hE : Esc w) (h2 : 2 ≤ s.size) (hs : s.size ≤ 10000000) (h92 : (dec s).1 = 92) (hx : (s[1]'(by omega)).toNat ≠ 120) (hu : (s[1]'(by omega)).toNat ≠ 117) (hU : (s[1]'(by omega)).toNat ≠ 85) :
  Calls Tryz.prog 37 #[.string s] w fun e w' => ∃ (t : ByteArray) (n : Nat), e = .returned (.tuple #[.string t, .int .i64 n]) ∧ 1 ≤ n ∧ n ≤ s.size ∧ t.size ≤ 4 ∧ Below w.heap.size w w' ∧ Reads s t n := by
 have hD : ∀ w, Calls Tryz.prog 60 #[.string s] w fun e w' => e = .returned (.tuple #[.int .i32 (dec s).1, .int .i64 (dec s).2]) ∧ Below w.heap.size w w' := fun w => decode_any s w
 rw [h92] at hD
 obtain ⟨d2, hd2⟩ : ∃ d, (dec s).2 = d := ⟨_, rfl⟩
 rw [hd2] at hD
 have HS : Hid ((∀ j, j < 7 → (s[1]'(by omega)).toNat ≠ escT j) → Reads s (s.extract 1 2) 2) := reads_sign s h2 (list_92 s h2 h92) hx hu hU
 have HL : Hid (∀ j, j < 7 → (s[1]'(by omega)).toNat = escT j → Reads s (Utf8.encode ((7 + j : Nat) : Int)) 2) := fun j hj h => reads_letter s h2 (list_92 s h2 h92) j hj h
 have hne : ¬ (s.size : Int) = 1 := by omega
 have hlt : (s[1]'(by omega)).toNat < 256 := (s[1]'(by omega)).toNat_lt
 clear h92 hd2
 obtain ⟨y, hy⟩ : ∃ y, (s[1]'(by omega)).toNat = y := ⟨_, rfl⟩
 have HY : Hid ((s[1]'(by omega)).toNat = y) := hy
 rw [hy] at hx hu hU hlt
 have hx' : ¬ (y : Int) = 120 := by omega
 have hu' : ¬ (y : Int) = 117 := by omega
 have hU' : ¬ (y : Int) = 85 := by omega
 have hw : wrap32 (y : Int) = (y : Int) := wrap32_byte y hlt
 go_enter Tryz.func37, Tryz.ntmps37
 go_upto_region 14 with (go_at_call 60; refine (hD _).mono ?_; rintro e w1 ⟨rfl, hb1⟩)
 have hE1 := hE.below hb1
 have c0 : w1.cell? ⟨0, 0, none⟩ = some (.int .i32 97) := hE1.2 0 (by omega)
 have c1 : w1.cell? ⟨0, 1, none⟩ = some (.int .i32 98) := hE1.2 1 (by omega)
 have c2 : w1.cell? ⟨0, 2, none⟩ = some (.int .i32 116) := hE1.2 2 (by omega)
 have c3 : w1.cell? ⟨0, 3, none⟩ = some (.int .i32 110) := hE1.2 3 (by omega)
 have c4 : w1.cell? ⟨0, 4, none⟩ = some (.int .i32 118) := hE1.2 4 (by omega)
 have c5 : w1.cell? ⟨0, 5, none⟩ = some (.int .i32 102) := hE1.2 5 (by omega)
 have c6 : w1.cell? ⟨0, 6, none⟩ = some (.int .i32 114) := hE1.2 6 (by omega)
 go_wp2
 go_loopg [65] 7 (fun g i wr => wr = w1 ∧ ∃ j : Nat, i = .int .i64 j ∧ j + g = 7 ∧ Hid (∀ q, q < j → y ≠ escT q))
 case atStart => exact ⟨rfl, 0, rfl, rfl, fun q hq => absurd hq (by omega)⟩
 case round =>
  obtain ⟨rfl, j, rfl, hjg, hno⟩ := hrel
  have hj : j = 7 ∨ j = 0 ∨ j = 1 ∨ j = 2 ∨ j = 3 ∨ j = 4 ∨ j = 5 ∨ j = 6 := by omega
  rcases hj with rfl | rfl | rfl | rfl | rfl | rfl | rfl | rfl
  ·go_wp2
   go_ret2
   refine ⟨_, 2, rfl, by omega, h2, ?_, hb1, ?_⟩
   ·rw [ByteArray.size_extract]; omega
   ·refine HS.out ?_
    intro j hj
    rw [HY.out]
    exact hno.out j hj
  ·by_cases hf : y = 97
   ·have hf' : (y : Int) = 97 := by omega
    have kx := idx_0
    go_wp2_with (go_at_call 17; refine (rune_any _ _).mono ?_; rintro e w3 ⟨rfl, rfl⟩)
    go_ret2
    exact ⟨_, 2, rfl, by omega, h2, enc_size_le _, hb1, HL.out 0 (by omega) (by rw [HY.out, hf]; rfl)⟩
   ·have hf' : ¬ (97 : Int) = (y : Int) := by omega
    have kx := idx_0
    go_wp2
    go_roundg 6
    case measure => omega
    case rel =>
     refine ⟨rfl, 1, by go_num, by omega, ?_⟩
     intro q hq
     by_cases hqk : q = 0
     ·subst hqk; exact hf
     ·exact hno.out q (by omega)
  ·by_cases hf : y = 98
   ·have hf' : (y : Int) = 98 := by omega
    have kx := idx_1
    go_wp2_with (go_at_call 17; refine (rune_any _ _).mono ?_; rintro e w3 ⟨rfl, rfl⟩)
    go_ret2
    exact ⟨_, 2, rfl, by omega, h2, enc_size_le _, hb1, HL.out 1 (by omega) (by rw [HY.out, hf]; rfl)⟩
   ·have hf' : ¬ (98 : Int) = (y : Int) := by omega
    have kx := idx_1
    go_wp2
    go_roundg 5
    case measure => omega
    case rel =>
     refine ⟨rfl, 2, by go_num, by omega, ?_⟩
     intro q hq
     by_cases hqk : q = 1
     ·subst hqk; exact hf
     ·exact hno.out q (by omega)
  ·by_cases hf : y = 116
   ·have hf' : (y : Int) = 116 := by omega
    have kx := idx_2
    go_wp2_with (go_at_call 17; refine (rune_any _ _).mono ?_; rintro e w3 ⟨rfl, rfl⟩)
    go_ret2
    exact ⟨_, 2, rfl, by omega, h2, enc_size_le _, hb1, HL.out 2 (by omega) (by rw [HY.out, hf]; rfl)⟩
   ·have hf' : ¬ (116 : Int) = (y : Int) := by omega
    have kx := idx_2
    go_wp2
    go_roundg 4
    case measure => omega
    case rel =>
     refine ⟨rfl, 3, by go_num, by omega, ?_⟩
     intro q hq
     by_cases hqk : q = 2
     ·subst hqk; exact hf
     ·exact hno.out q (by omega)
  ·by_cases hf : y = 110
   ·have hf' : (y : Int) = 110 := by omega
    have kx := idx_3
    go_wp2_with (go_at_call 17; refine (rune_any _ _).mono ?_; rintro e w3 ⟨rfl, rfl⟩)
    go_ret2
    exact ⟨_, 2, rfl, by omega, h2, enc_size_le _, hb1, HL.out 3 (by omega) (by rw [HY.out, hf]; rfl)⟩
   ·have hf' : ¬ (110 : Int) = (y : Int) := by omega
    have kx := idx_3
    go_wp2
    go_roundg 3
    case measure => omega
    case rel =>
     refine ⟨rfl, 4, by go_num, by omega, ?_⟩
     intro q hq
     by_cases hqk : q = 3
     ·subst hqk; exact hf
     ·exact hno.out q (by omega)
  ·by_cases hf : y = 118
   ·have hf' : (y : Int) = 118 := by omega
    have kx := idx_4
    go_wp2_with (go_at_call 17; refine (rune_any _ _).mono ?_; rintro e w3 ⟨rfl, rfl⟩)
    go_ret2
    exact ⟨_, 2, rfl, by omega, h2, enc_size_le _, hb1, HL.out 4 (by omega) (by rw [HY.out, hf]; rfl)⟩
   ·have hf' : ¬ (118 : Int) = (y : Int) := by omega
    have kx := idx_4
    go_wp2
    go_roundg 2
    case measure => omega
    case rel =>
     refine ⟨rfl, 5, by go_num, by omega, ?_⟩
     intro q hq
     by_cases hqk : q = 4
     ·subst hqk; exact hf
     ·exact hno.out q (by omega)
  ·by_cases hf : y = 102
   ·have hf' : (y : Int) = 102 := by omega
    have kx := idx_5
    go_wp2_with (go_at_call 17; refine (rune_any _ _).mono ?_; rintro e w3 ⟨rfl, rfl⟩)
    go_ret2
    exact ⟨_, 2, rfl, by omega, h2, enc_size_le _, hb1, HL.out 5 (by omega) (by rw [HY.out, hf]; rfl)⟩
   ·have hf' : ¬ (102 : Int) = (y : Int) := by omega
    have kx := idx_5
    go_wp2
    go_roundg 1
    case measure => omega
    case rel =>
     refine ⟨rfl, 6, by go_num, by omega, ?_⟩
     intro q hq
     by_cases hqk : q = 5
     ·subst hqk; exact hf
     ·exact hno.out q (by omega)
  ·by_cases hf : y = 114
   ·have hf' : (y : Int) = 114 := by omega
    have kx := idx_6
    go_wp2_with (go_at_call 17; refine (rune_any _ _).mono ?_; rintro e w3 ⟨rfl, rfl⟩)
    go_ret2
    exact ⟨_, 2, rfl, by omega, h2, enc_size_le _, hb1, HL.out 6 (by omega) (by rw [HY.out, hf]; rfl)⟩
   ·have hf' : ¬ (114 : Int) = (y : Int) := by omega
    have kx := idx_6
    go_wp2
    go_roundg 0
    case measure => omega
    case rel =>
     refine ⟨rfl, 7, by go_num, by omega, ?_⟩
     intro q hq
     by_cases hqk : q = 6
     ·subst hqk; exact hf
     ·exact hno.out q (by omega)
theorem unes_any (s : ByteArray) (w : World) (hE : Esc w) (h0 : 0 < s.size) (hs : s.size ≤ 10000000) :
  Calls Tryz.prog 37 #[.string s] w fun e w' => ∃ (t : ByteArray) (n : Nat), e = .returned (.tuple #[.string t, .int .i64 n]) ∧ 1 ≤ n ∧ n ≤ s.size ∧ t.size ≤ 4 ∧ Below w.heap.size w w' ∧ Reads s t n := by
 by_cases h1 : (dec s).1 ≠ 92 ∨ s.size = 1
 ·exact unes_plain s w h0 hs h1
 ·have h92 : (dec s).1 = 92 := by
   rcases Nat.decEq (dec s).1 92 with h | h
   ·exact absurd (.inl h) h1
   ·exact h
  have h2 : 2 ≤ s.size := by
   have : ¬ s.size = 1 := fun h => h1 (.inr h)
   omega
  by_cases hx : (s[1]'(by omega)).toNat = 120
  ·exact unes_x s w h2 hs h92 hx
  by_cases hu : (s[1]'(by omega)).toNat = 117
  ·exact unes_u s w h2 hs h92 hu
  by_cases hU : (s[1]'(by omega)).toNat = 85
  ·exact unes_U s w h2 hs h92 hU
  ·exact unes_rest s w hE h2 hs h92 hx hu hU
def ReadsAll (s t : ByteArray) : Prop := ∀ a l, s.data.toList = quoI a l → t.data.toList = l
theorem quoI_eq_nil (a : Bool) (l : List UInt8) (h : quoI a l = []) : l = [] := by
 rcases Classical.em (l = []) with h1 | hl
 ·exact h1
 ·exfalso
  rw [quoI_step a l hl] at h
  have h2 := (List.append_eq_nil_iff.1 h).1
  rcases item_kind a l hl with ⟨c, hv, hp, h92, h34, hm, hL⟩ | ⟨b', hb, hm, hL⟩ | ⟨k, hk, hm, hL⟩ | ⟨v, hv, hm, hL⟩ | ⟨v, hv, hle, hm, hL⟩ | ⟨v, hv, hm, hL⟩
  ·obtain ⟨x, t, he, -⟩ := enc_head c hv
   rw [h2, hm, he] at hL
   exact absurd hL (by simp)
  ·rw [h2] at hL; exact absurd hL (by simp)
  ·rw [h2] at hL; exact absurd hL (by simp)
  ·rw [h2] at hL; exact absurd hL (by simp)
  ·rw [h2] at hL; exact absurd hL (by simp)
  ·rw [h2] at hL; exact absurd hL (by simp)
theorem reads_step (u t : ByteArray) (n : Nat) (acc : List UInt8) (h0 : 0 < u.size) (hR : Reads u t n) (a : Bool) (l0 : List UInt8) (h : ∃ l, u.data.toList = quoI a l ∧ acc ++ l = l0) :
  ∃ l, (u.extract n u.size).data.toList = quoI a l ∧ (acc ++ t.data.toList) ++ l = l0 := by
 obtain ⟨l, hu, hl⟩ := h
 have hne : l ≠ [] := by
  intro h1
  rw [h1, quoI_nil] at hu
  have h2 : u.size = 0 := by rw [← list_len, hu]; rfl
  omega
 rw [quoI_step a l hne] at hu
 obtain ⟨h1, h2⟩ := hR _ _ _ (item_kind a l hne) hu
 refine ⟨l.drop (Lib.decodeL l).2, ?_, ?_⟩
 ·rw [tail_list, hu, h2, List.drop_left' rfl]
 ·rw [h1, List.append_assoc, List.take_append_drop]; exact hl
set_option maxRecDepth 1000000 in
set_option maxHeartbeats 1000000 in
theorem unescape_any (s : ByteArray) (w : World) (hE : Esc w) (hs : s.size ≤ 200000) :
  Calls Tryz.prog 25 #[.string s] w fun e w' => ∃ t : ByteArray, e = .returned (.string t) ∧ t.size ≤ 4 * s.size ∧ Below w.heap.size w w' ∧ ReadsAll s t := by
 have hI0 := Lib.IsBuilderF.of (Lib.fresh_isBuilder 82 5 w)
 go_enter Tryz.func25, Tryz.ntmps25
 go_wp2
 go_loopg [0] s.size (fun g t wr => ∃ (u : ByteArray) (acc : List UInt8), t = .string u ∧ u.size ≤ g ∧ u.size ≤ s.size ∧ Lib.IsBuilderF 82 5 w.heap.size w.heap.size (Lib.byteCells acc) wr ∧ Below w.heap.size w wr ∧ acc.length + 4 * u.size ≤ 4 * s.size ∧ Hid (∀ a l0, s.data.toList = quoI a l0 → ∃ l, u.data.toList = quoI a l ∧ acc ++ l = l0))
 case atStart => exact ⟨s, [], rfl, Nat.le_refl _, Nat.le_refl _, hI0, (Below.refl _ w).alloc (Nat.le_refl _) _, by simp, fun a l0 h => ⟨l0, h, rfl⟩⟩
 case round =>
  obtain ⟨u, acc, rfl, hg, hus, hI, hb, hal, hr⟩ := hrel
  by_cases h0 : 0 < u.size
  ·have hne := empty_no u h0
   have hEr := hE.below hb
   go_wp2_with (go_at_call 37; refine (unes_any u _ hEr h0 (by omega)).mono ?_; rintro e w2 ⟨t, n, rfl, hn1, hn2, ht4, hb2, hR⟩)
   have hI2 := isB_below hI hb2
   have hb3 := hb.trans (hb2.mono hb.size)
   have HR : Hid (Reads u t n) := hR
   clear hR
   have hsz3 := hb3.size
   refine (Tryz.writeString w.heap.size w.heap.size _ _ _ hI2 (by rw [Lib.byteCells_length]; omega) hsz3).mono ?_
   rintro e w6 ⟨rfl, h6, hb6, hk6⟩
   go_wp2
   go_roundg (u.size - n)
   case measure => omega
   case rel =>
    refine ⟨_, acc ++ t.data.toList, rfl, ?_, ?_, ?_, hb3.trans hb6, ?_, ?_⟩
    ·rw [tail_size]; exact Nat.le_refl _
    ·rw [tail_size]; omega
    ·rw [str_cells'] at h6
     rw [Lib.byteCells_append]; exact Or.inr h6
    ·rw [tail_size, List.length_append, list_len]; omega
    ·intro a l0 h
     exact reads_step u t n acc h0 HR.out a l0 (hr.out a l0 h)
  ·have hne := empty_yes u (by omega)
   go_wp2_with (go_at_call 39; refine (Tryz.builderString w.heap.size w.heap.size _ _ hI hb.size).mono ?_)
   rintro e w8 ⟨rfl, -, hb8, -⟩
   go_wp2
   go_ret
   refine ⟨_, rfl, ?_, hb.trans hb8, ?_⟩
   ·show acc.toArray.size ≤ _
    simp
    omega
   ·intro a l0 h
    obtain ⟨l, h1, h2⟩ := hr.out a l0 h
    have h3 : u.data.toList = [] := List.eq_nil_of_length_eq_zero (by rw [list_len]; omega)
    rw [h3] at h1
    have h4 := quoI_eq_nil a l h1.symm
    rw [h4, List.append_nil] at h2
    exact h2
end Go.Proofs.YtjalgdfnehgocaaGreatDoor
namespace Go.Proofs.YtjalgdfnehgocaaGreatDoor
open Go.RowKit
set_option linter.unusedVariables false
def inner (s : ByteArray) : ByteArray := ⟨(Lib.trimSuffix (Lib.trimPrefix s.data.toList [34]) [34]).toArray⟩
theorem inner_size (s : ByteArray) : (inner s).size ≤ s.size := by
 have h1 : (Lib.trimPrefix s.data.toList [34]).length ≤ s.size := by
  unfold Lib.trimPrefix
  split
  ·rw [List.length_drop, list_len]; omega
  ·rw [list_len]; omega
 have h2 : (Lib.trimSuffix (Lib.trimPrefix s.data.toList [34]) [34]).length ≤ (Lib.trimPrefix s.data.toList [34]).length := by
  unfold Lib.trimSuffix
  split
  ·rw [List.length_take]; omega
  ·omega
 show (Lib.trimSuffix (Lib.trimPrefix s.data.toList [34]) [34]).toArray.size ≤ _
 simp
 omega
theorem inner_quo (u : ByteArray) (a : Bool) : (inner (quoS u a)).data.toList = quoI a u.data.toList := by
 have h1 : Lib.trimPrefix (34 :: (quoI a u.data.toList ++ [34])) [34] = quoI a u.data.toList ++ [34] := by
  simp [Lib.trimPrefix, Lib.hasPrefix, List.isPrefixOf]
 have h2 : Lib.trimSuffix (quoI a u.data.toList ++ [34]) [34] = quoI a u.data.toList := by
  have : Lib.hasSuffix (quoI a u.data.toList ++ [34]) [34] = true := by
   unfold Lib.hasSuffix
   rw [List.isSuffixOf_iff_suffix]
   exact List.suffix_append _ _
  unfold Lib.trimSuffix
  rw [if_pos this, List.length_append]
  simp
 show (Lib.trimSuffix (Lib.trimPrefix (34 :: (quoI a u.data.toList ++ [34])).toArray.toList [34]) [34]).toArray.toList = _
 show Lib.trimSuffix (Lib.trimPrefix (34 :: (quoI a u.data.toList ++ [34])) [34]) [34] = _
 rw [h1, h2]
theorem toList_beq (a b : ByteArray) : (a.toList == b.toList) = decide (a = b) := by
 by_cases h : a = b
 ·subst h; simp
 ·have := beq_no a b h
  have h2 : (a.toList == b.toList) = false := by
   injection this
  rw [h2]; simp [h]
theorem beq_n (a b : ByteArray) (h : ¬ a = b) : (a.toList == b.toList) = false := by rw [toList_beq]; simp [h]
theorem beq_y (a b : ByteArray) (h : a = b) : (a.toList == b.toList) = true := by rw [toList_beq]; simp [h]
theorem quo_is (t : ByteArray) (a : Bool) (r : ByteArray) (h : quoS t a = r) (w : World) (hE : Esc w) (hs : t.size ≤ 1000000) :
  Calls Tryz.prog 28 #[.string t, .bool a] w fun e w' => e = .returned (.string r) ∧ Below w.heap.size w w' := by
 rw [← h]; exact quote_any t a w hE hs
set_option maxRecDepth 1000000 in
set_option maxHeartbeats 400000 in
theorem unquote_core (s : ByteArray) (w : World) (hE : Esc w) (hs : s.size ≤ 200000) :
  Calls Tryz.prog 18 #[.string s] w fun e w' => ∃ t, ReadsAll (inner s) t ∧ Below w.heap.size w w' ∧
   (((s = quoS t false ∨ s = quoS t true) ∧ e = .returned (.tuple #[.string t, .bool true])) ∨ (¬ (s = quoS t false ∨ s = quoS t true) ∧ e = .returned (.tuple #[.string ⟨#[]⟩, .bool false]))) := by
 have hin := inner_size s
 have hU : ∀ w, Esc w → Calls Tryz.prog 25 #[.string (inner s)] w fun e w' => ∃ t : ByteArray, e = .returned (.string t) ∧ t.size ≤ 4 * (inner s).size ∧ Below w.heap.size w w' ∧ ReadsAll (inner s) t := fun w hE => unescape_any _ w hE (by omega)
 have hP := Tryz.strings_TrimPrefix s ⟨#[34]⟩
 obtain ⟨p, hp⟩ : ∃ p, (⟨(Lib.trimPrefix s.data.toList (ByteArray.mk #[34]).data.toList).toArray⟩ : ByteArray) = p := ⟨_, rfl⟩
 rw [hp] at hP
 have hps : p.size ≤ 9223372036854775807 := by
  have h1 : (Lib.trimPrefix s.data.toList [34]).length ≤ s.size := by
   unfold Lib.trimPrefix
   split
   ·rw [List.length_drop, list_len]; omega
   ·rw [list_len]; omega
  rw [← hp]
  show (Lib.trimPrefix s.data.toList [34]).toArray.size ≤ _
  simp
  omega
 have hS : ∀ w, Calls Tryz.prog 26 #[.string p, .string ⟨#[34]⟩] w fun e w' => e = .returned (.string (inner s)) ∧ w' = w := by
  intro w
  have := Tryz.strings_TrimSuffix p ⟨#[34]⟩ w hps
  rw [← hp] at this ⊢
  exact this
 generalize inner s = i at *
 clear hp hps
 go_enter Tryz.func18, Tryz.ntmps18
 go_upto_region 2 with (first | (go_at_call 27; refine (hP _).mono ?_; rintro e w' ⟨rfl, rfl⟩) | (go_at_call 26; refine (hS _).mono ?_; rintro e w' ⟨rfl, rfl⟩) | (go_at_call 25; refine (hU _ hE).mono ?_; rintro e w1 ⟨t, rfl, ht, hb1, hR⟩))
 have HR : Hid (ReadsAll i t) := hR
 clear hR hU hP hS
 have hE1 := hE.below hb1
 obtain ⟨r1, h1⟩ : ∃ r, quoS t false = r := ⟨_, rfl⟩
 obtain ⟨r2, h2⟩ : ∃ r, quoS t true = r := ⟨_, rfl⟩
 have hQ : ∀ b w, Esc w → Calls Tryz.prog 28 #[.string t, .bool b] w fun e w' => e = .returned (.string (cond b r2 r1)) ∧ Below w.heap.size w w' := by
  intro b w hE
  cases b with
  | false => exact quo_is t false r1 h1 w hE (by omega)
  | true => exact quo_is t true r2 h2 w hE (by omega)
 have H1 : Hid (quoS t false = r1) := h1
 have H2 : Hid (quoS t true = r2) := h2
 clear h1 h2
 by_cases hc1 : s = r1
 ·have hq := beq_y s r1 hc1
  have HC1 : Hid (s = r1) := hc1
  clear hc1
  go_wp2_with (go_at_call 28; refine (hQ _ _ hE1).mono ?_; rintro e w2 ⟨rfl, hb2⟩)
  go_ret2
  refine ⟨t, HR.out, hb1.trans (hb2.mono hb1.size), .inl ⟨.inl ?_, rfl⟩⟩
  rw [H1.out]; exact HC1.out
 ·have hq := beq_n s r1 hc1
  have HC1 : Hid (¬ s = r1) := hc1
  clear hc1
  by_cases hc2 : s = r2
  ·have hq2 := beq_y s r2 hc2
   have HC2 : Hid (s = r2) := hc2
   clear hc2
   go_wp2_with (go_at_call 28; refine (hQ _ _ (by first | exact hE1.below hbA | exact hE1)).mono ?_; rintro e w2 ⟨rfl, hb2⟩; first | (have hbB := hbA.trans (hb2.mono hbA.size)) | (have hbA := hb2))
   go_ret2
   refine ⟨t, HR.out, hb1.trans (hbB.mono hb1.size), .inl ⟨.inr ?_, rfl⟩⟩
   rw [H2.out]; exact HC2.out
  ·have hq2 := beq_n s r2 hc2
   have HC2 : Hid (¬ s = r2) := hc2
   clear hc2
   go_wp2_with (go_at_call 28; refine (hQ _ _ (by first | exact hE1.below hbA | exact hE1)).mono ?_; rintro e w2 ⟨rfl, hb2⟩; first | (have hbB := hbA.trans (hb2.mono hbA.size)) | (have hbA := hb2))
   go_ret2
   refine ⟨t, HR.out, hb1.trans (hbB.mono hb1.size), .inr ⟨?_, rfl⟩⟩
   rw [H1.out, H2.out]
   exact fun h => h.elim HC1.out HC2.out
theorem unquote_yes (u : ByteArray) (a : Bool) (w : World) (hE : Esc w) (hs : (quoS u a).size ≤ 200000) :
  Calls Tryz.prog 18 #[.string (quoS u a)] w fun e w' => e = .returned (.tuple #[.string u, .bool true]) ∧ Below w.heap.size w w' := by
 refine (unquote_core _ w hE hs).mono ?_
 rintro e w' ⟨t, hR, hb, h⟩
 have ht : t = u := by
  have := hR a u.data.toList (inner_quo u a)
  rw [← ba_list t, this, ba_list]
 subst ht
 rcases h with ⟨-, rfl⟩ | ⟨h, -⟩
 ·exact ⟨rfl, hb⟩
 ·refine absurd ?_ h
  cases a with
  | false => exact .inl rfl
  | true => exact .inr rfl
end Go.Proofs.YtjalgdfnehgocaaGreatDoor
