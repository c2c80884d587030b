/- The walk of unescapeFirst. -/
import Derived.Test.YtnoelbomcogndaaDoorNumb
import Derived.Test.YtnoelbomcogndaaDoorQItems
import Derived.Test.YtnoelbomcogndaaDoorQuot
namespace Go.Proofs.YtnoelbomcogndaaDoor
open Go.RowKit
set_option linter.unusedVariables false

/-- What a text tells when it is read as the beginning of a text in quotes. -/
def Reads (s : ByteArray) (t : ByteArray) (n : Nat) : Prop := ∀ L m rest, Kind L m → s.data.toList = L ++ rest → t.data.toList = m ∧ n = L.length

theorem dec_list (s : ByteArray) (h : 0 < s.size) : dec s = Lib.decodeL s.data.toList := by rw [dec_ne s h, dec_zero]
theorem dec_four (s : ByteArray) (h : 0 < s.size) : (dec s).2 ≤ 4 := by
  rw [dec_ne s h]
  rcases dec_some s h with h1 | ⟨n, h1, h2, h3, h4⟩
  · rw [h1]; decide
  · rw [try_dec s _ n h3 h4]; exact h2
theorem reads_plain (s : ByteArray) (h0 : 0 < s.size) (h : (dec s).1 ≠ 92 ∨ s.size = 1) : Reads s (s.extract 0 (dec s).2) (dec s).2 := by
  intro L m rest hK hs
  rw [dec_list s h0] at h ⊢
  rw [ext_list, hs]
  rw [← list_len s, hs] at h
  exact kind_plain L m rest hK h

set_option maxRecDepth 1000000 in
set_option maxHeartbeats 400000 in
theorem unes_plain (s : ByteArray) (w : World) (h0 : 0 < s.size) (hs : s.size ≤ 10000000) (h : (dec s).1 ≠ 92 ∨ s.size = 1) :
    Calls Tryd.prog 44 #[.string s] w fun e w' => ∃ (t : ByteArray) (n : Nat), e = .returned (.tuple #[.string t, .int .i64 n]) ∧ 1 ≤ n ∧ n ≤ s.size ∧ t.size ≤ 4 ∧ Below w.heap.size w w' ∧ Reads s t n := by
  have HR : Hid (Reads s (s.extract 0 (dec s).2) (dec s).2) := reads_plain s h0 h
  obtain ⟨hd1, hd2⟩ := dec_wid s h0
  have hd4 := dec_four s h0
  have hsz : (s.extract 0 (dec s).2).size ≤ 4 := by rw [ByteArray.size_extract]; omega
  have hD : ∀ w, Calls Tryd.prog 19 #[.string s] w fun e w' => e = .returned (.tuple #[.int .i32 (dec s).1, .int .i64 (dec s).2]) ∧ Below w.heap.size w w' := fun w => decode_any s w
  generalize dec s = D at *
  by_cases h1 : D.1 = 92
  · have h2 : s.size = 1 := by
      rcases h with h | h
      · exact absurd h1 h
      · exact h
    have h1' : (D.1 : Int) = 92 := by omega
    have h2' : (s.size : Int) = 1 := by omega
    clear h
    go_enter Tryd.func44, Tryd.ntmps44
    go_wp2_with (go_at_call 19; refine (hD _).mono ?_; rintro e w1 ⟨rfl, hb1⟩)
    go_ret2
    exact ⟨_, _, rfl, hd1, hd2, hsz, hb1, HR.out⟩
  · have h1' : ¬ (D.1 : Int) = 92 := by omega
    clear h
    go_enter Tryd.func44, Tryd.ntmps44
    go_wp2_with (go_at_call 19; refine (hD _).mono ?_; rintro e w1 ⟨rfl, hb1⟩)
    go_ret2
    exact ⟨_, _, rfl, hd1, hd2, hsz, hb1, HR.out⟩

theorem list_92 (s : ByteArray) (h2 : 2 ≤ s.size) (h : (dec s).1 = 92) : ∃ b tl, s.data.toList = 92 :: b :: tl ∧ s[1]'(by omega) = b := by
  have hl : s.data.toList.length = s.size := list_len s
  have e1 : s.data.toList[1]? = some (s[1]'(by omega)) := by
    rw [List.getElem?_eq_getElem (show 1 < s.data.toList.length by omega)]
    rfl
  rw [dec_list s (by omega)] at h
  match hs : s.data.toList with
  | [] => rw [hs] at hl; simp at hl; omega
  | [x] => rw [hs] at hl; simp at hl; omega
  | x :: b :: tl =>
    rw [hs] at e1 h
    have hb : brk (Lib.decodeL (x :: b :: tl)) = false := by simp [brk, h]
    obtain ⟨hv, he⟩ := decL_pt (x :: b :: tl) (by simp) hb
    rw [h] at he
    have hx : x = 92 := by
      have e92 : (Utf8.encode ((92 : Nat) : Int)).data.toList = [92] := by decide +kernel
      rw [e92] at he
      match hn : (Lib.decodeL (x :: b :: tl)).2 with
      | 0 => rw [hn] at he; simp at he
      | n + 1 =>
        rw [hn] at he
        exact (List.cons.inj he).1
    subst hx
    refine ⟨b, tl, rfl, ?_⟩
    have := Option.some.inj e1
    exact this.symm

theorem reads_x (s : ByteArray) (h2 : 2 ≤ s.size) (HL : ∃ b tl, s.data.toList = 92 :: b :: tl ∧ s[1]'(by omega) = b) (hx : (s[1]'(by omega)).toNat = 120) (v y : Int)
    (hv : ∀ x rest, x ≤ 1114111 → x < 16 ^ 2 → s.data.toList.drop 2 = hexL x 2 ++ rest → v = (x : Nat)) (hy : ∀ x : Nat, x < 256 → v = x → y = x) : Reads s (strOfNums [y]) (min 4 s.size) := by
  obtain ⟨b, tl, hl, hb⟩ := HL
  rw [hb] at hx
  have hb' : b = 120 := UInt8.toNat_inj.1 hx
  intro L m rest hK h
  have hlen := congrArg List.length h
  rw [list_len, List.length_append] at hlen
  rw [hl] at h
  rcases kind_second L m rest tl b hK h with ⟨h3, -⟩ | ⟨k, hk, h3, -⟩ | ⟨-, x, hx2, hm, ht, hL⟩ | ⟨h3, -⟩ | ⟨h3, -⟩
  · rw [hb'] at h3; exact absurd h3 (by decide)
  · rw [hb'] at h3
    match k, hk with
    | 0, _ => exact absurd h3 (by decide)
    | 1, _ => exact absurd h3 (by decide)
    | 2, _ => exact absurd h3 (by decide)
    | 3, _ => exact absurd h3 (by decide)
    | 4, _ => exact absurd h3 (by decide)
    | 5, _ => exact absurd h3 (by decide)
    | 6, _ => exact absurd h3 (by decide)
    | k + 7, hk => omega
  · have hvx := hv x rest (by omega) (by omega) (by rw [hl]; exact ht)
    have hyx := hy x hx2 hvx
    refine ⟨?_, by omega⟩
    rw [hm, hyx]
    simp [strOfNums]
  · rw [hb'] at h3; exact absurd h3 (by decide)
  · rw [hb'] at h3; exact absurd h3 (by decide)
theorem reads_u (s : ByteArray) (h2 : 2 ≤ s.size) (HL : ∃ b tl, s.data.toList = 92 :: b :: tl ∧ s[1]'(by omega) = b) (hx : (s[1]'(by omega)).toNat = 117) (v : Int)
    (hv : ∀ x rest, x ≤ 1114111 → x < 16 ^ 4 → s.data.toList.drop 2 = hexL x 4 ++ rest → v = (x : Nat)) : Reads s (Utf8.encode v) (min 6 s.size) := by
  obtain ⟨b, tl, hl, hb⟩ := HL
  rw [hb] at hx
  have hb' : b = 117 := UInt8.toNat_inj.1 hx
  intro L m rest hK h
  have hlen := congrArg List.length h
  rw [list_len, List.length_append] at hlen
  rw [hl] at h
  rcases kind_second L m rest tl b hK h with ⟨h3, -⟩ | ⟨k, hk, h3, -⟩ | ⟨h3, -⟩ | ⟨-, x, hx2, hle, hm, ht, hL⟩ | ⟨h3, -⟩
  · rw [hb'] at h3; exact absurd h3 (by decide)
  · rw [hb'] at h3
    match k, hk with
    | 0, _ => exact absurd h3 (by decide)
    | 1, _ => exact absurd h3 (by decide)
    | 2, _ => exact absurd h3 (by decide)
    | 3, _ => exact absurd h3 (by decide)
    | 4, _ => exact absurd h3 (by decide)
    | 5, _ => exact absurd h3 (by decide)
    | 6, _ => exact absurd h3 (by decide)
    | k + 7, hk => omega
  · rw [hb'] at h3; exact absurd h3 (by decide)
  · have hvx := hv x rest (by omega) (by omega) (by rw [hl]; exact ht)
    refine ⟨?_, by omega⟩
    rw [hm, hvx]
  · rw [hb'] at h3; exact absurd h3 (by decide)
theorem reads_U (s : ByteArray) (h2 : 2 ≤ s.size) (HL : ∃ b tl, s.data.toList = 92 :: b :: tl ∧ s[1]'(by omega) = b) (hx : (s[1]'(by omega)).toNat = 85) (v : Int)
    (hv : ∀ x rest, x ≤ 1114111 → x < 16 ^ 8 → s.data.toList.drop 2 = hexL x 8 ++ rest → v = (x : Nat)) : Reads s (Utf8.encode v) (min 10 s.size) := by
  obtain ⟨b, tl, hl, hb⟩ := HL
  rw [hb] at hx
  have hb' : b = 85 := UInt8.toNat_inj.1 hx
  intro L m rest hK h
  have hlen := congrArg List.length h
  rw [list_len, List.length_append] at hlen
  rw [hl] at h
  rcases kind_second L m rest tl b hK h with ⟨h3, -⟩ | ⟨k, hk, h3, -⟩ | ⟨h3, -⟩ | ⟨h3, -⟩ | ⟨-, x, hx2, hm, ht, hL⟩
  · rw [hb'] at h3; exact absurd h3 (by decide)
  · rw [hb'] at h3
    match k, hk with
    | 0, _ => exact absurd h3 (by decide)
    | 1, _ => exact absurd h3 (by decide)
    | 2, _ => exact absurd h3 (by decide)
    | 3, _ => exact absurd h3 (by decide)
    | 4, _ => exact absurd h3 (by decide)
    | 5, _ => exact absurd h3 (by decide)
    | 6, _ => exact absurd h3 (by decide)
    | k + 7, hk => omega
  · rw [hb'] at h3; exact absurd h3 (by decide)
  · rw [hb'] at h3; exact absurd h3 (by decide)
  · have hxl := (valid_iff _).1 hx2
    have hvx := hv x rest (by omega) (by omega) (by rw [hl]; exact ht)
    refine ⟨?_, by omega⟩
    rw [hm, hvx]

set_option maxRecDepth 1000000 in
set_option maxHeartbeats 400000 in
theorem unes_x (s : ByteArray) (w : World) (h2 : 2 ≤ s.size) (hs : s.size ≤ 10000000) (h92 : (dec s).1 = 92) (hx : (s[1]'(by omega)).toNat = 120) :
    Calls Tryd.prog 44 #[.string s] w fun e w' => ∃ (t : ByteArray) (n : Nat), e = .returned (.tuple #[.string t, .int .i64 n]) ∧ 1 ≤ n ∧ n ≤ s.size ∧ t.size ≤ 4 ∧ Below w.heap.size w w' ∧ Reads s t n := by
  have hD : ∀ w, Calls Tryd.prog 19 #[.string s] w fun e w' => e = .returned (.tuple #[.int .i32 (dec s).1, .int .i64 (dec s).2]) ∧ Below w.heap.size w w' := fun w => decode_any s w
  rw [h92] at hD
  obtain ⟨d2, hd2⟩ : ∃ d, (dec s).2 = d := ⟨_, rfl⟩
  rw [hd2] at hD
  have hN : ∀ w, Calls Tryd.prog 58 #[.string s, .int .i64 2] w _ := fun w => number_any s 2 w h2 hs (by omega)
  have HL : Hid (∃ b tl, s.data.toList = 92 :: b :: tl ∧ s[1]'(by omega) = b) := list_92 s h2 h92
  have hne : ¬ (s.size : Int) = 1 := by omega
  clear h92 hd2
  have kc := conv1
  go_enter Tryd.func44, Tryd.ntmps44
  go_wp2_with (first | (go_at_call 19; refine (hD _).mono ?_; rintro e w1 ⟨rfl, hb1⟩) | (go_at_call 58; refine (hN _).mono ?_; rintro e w2 ⟨v, rfl, rfl, hv⟩))
  go_ret2
  refine ⟨_, _, rfl, by omega, by omega, ?_, hb1.alloc hb1.size _, reads_x s h2 HL.out hx v _ hv ?_⟩
  · simp [strOfNums, ByteArray.size]
  · intro x hx1 hx2
    subst hx2
    omega
set_option maxRecDepth 1000000 in
set_option maxHeartbeats 400000 in
theorem unes_u (s : ByteArray) (w : World) (h2 : 2 ≤ s.size) (hs : s.size ≤ 10000000) (h92 : (dec s).1 = 92) (hx : (s[1]'(by omega)).toNat = 117) :
    Calls Tryd.prog 44 #[.string s] w fun e w' => ∃ (t : ByteArray) (n : Nat), e = .returned (.tuple #[.string t, .int .i64 n]) ∧ 1 ≤ n ∧ n ≤ s.size ∧ t.size ≤ 4 ∧ Below w.heap.size w w' ∧ Reads s t n := by
  have hD : ∀ w, Calls Tryd.prog 19 #[.string s] w fun e w' => e = .returned (.tuple #[.int .i32 (dec s).1, .int .i64 (dec s).2]) ∧ Below w.heap.size w w' := fun w => decode_any s w
  rw [h92] at hD
  obtain ⟨d2, hd2⟩ : ∃ d, (dec s).2 = d := ⟨_, rfl⟩
  rw [hd2] at hD
  have hN : ∀ w, Calls Tryd.prog 58 #[.string s, .int .i64 4] w _ := fun w => number_any s 4 w h2 hs (by omega)
  have HL : Hid (∃ b tl, s.data.toList = 92 :: b :: tl ∧ s[1]'(by omega) = b) := list_92 s h2 h92
  have hne : ¬ (s.size : Int) = 1 := by omega
  clear h92 hd2
  go_enter Tryd.func44, Tryd.ntmps44
  go_wp2_with (first | (go_at_call 19; refine (hD _).mono ?_; rintro e w1 ⟨rfl, hb1⟩) | (go_at_call 58; refine (hN _).mono ?_; rintro e w2 ⟨v, rfl, rfl, hv⟩) | (go_at_call 43; refine (rune_any _ _).mono ?_; rintro e w3 ⟨rfl, rfl⟩))
  go_ret2
  exact ⟨_, _, rfl, by omega, by omega, enc_size_le v, hb1, reads_u s h2 HL.out hx v hv⟩
set_option maxRecDepth 1000000 in
set_option maxHeartbeats 400000 in
theorem unes_U (s : ByteArray) (w : World) (h2 : 2 ≤ s.size) (hs : s.size ≤ 10000000) (h92 : (dec s).1 = 92) (hx : (s[1]'(by omega)).toNat = 85) :
    Calls Tryd.prog 44 #[.string s] w fun e w' => ∃ (t : ByteArray) (n : Nat), e = .returned (.tuple #[.string t, .int .i64 n]) ∧ 1 ≤ n ∧ n ≤ s.size ∧ t.size ≤ 4 ∧ Below w.heap.size w w' ∧ Reads s t n := by
  have hD : ∀ w, Calls Tryd.prog 19 #[.string s] w fun e w' => e = .returned (.tuple #[.int .i32 (dec s).1, .int .i64 (dec s).2]) ∧ Below w.heap.size w w' := fun w => decode_any s w
  rw [h92] at hD
  obtain ⟨d2, hd2⟩ : ∃ d, (dec s).2 = d := ⟨_, rfl⟩
  rw [hd2] at hD
  have hN : ∀ w, Calls Tryd.prog 58 #[.string s, .int .i64 8] w _ := fun w => number_any s 8 w h2 hs (by omega)
  have HL : Hid (∃ b tl, s.data.toList = 92 :: b :: tl ∧ s[1]'(by omega) = b) := list_92 s h2 h92
  have hne : ¬ (s.size : Int) = 1 := by omega
  clear h92 hd2
  go_enter Tryd.func44, Tryd.ntmps44
  go_wp2_with (first | (go_at_call 19; refine (hD _).mono ?_; rintro e w1 ⟨rfl, hb1⟩) | (go_at_call 58; refine (hN _).mono ?_; rintro e w2 ⟨v, rfl, rfl, hv⟩) | (go_at_call 43; refine (rune_any _ _).mono ?_; rintro e w3 ⟨rfl, rfl⟩))
  go_ret2
  exact ⟨_, _, rfl, by omega, by omega, enc_size_le v, hb1, reads_U s h2 HL.out hx v hv⟩
end Go.Proofs.YtnoelbomcogndaaDoor
