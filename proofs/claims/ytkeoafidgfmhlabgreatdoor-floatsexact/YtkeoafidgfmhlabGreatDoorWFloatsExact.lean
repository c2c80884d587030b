/- The walk of the law FloatsExact. -/
import Derived.Test.YtkeoafidgfmhlabGreatDoorFVerb6
namespace Go.Proofs.YtkeoafidgfmhlabGreatDoor
open Go.RowKit
set_option linter.unusedVariables false
set_option linter.unusedSimpArgs false

/-- The text up to the point, or the exponent. -/
def AtP (T : ByteArray) (a : Nat) : Prop := a ≤ T.size ∧ (∀ i (h : i < T.size), i < a → (T[i]'h).toNat ≠ 46 ∧ (T[i]'h).toNat ≠ 101 ∧ (T[i]'h).toNat ≠ 69) ∧ (∀ h : a < T.size, (T[a]'h).toNat = 46 ∨ (T[a]'h).toNat = 101 ∨ (T[a]'h).toNat = 69)
set_option maxRecDepth 1000000 in
set_option maxHeartbeats 8000000 in
theorem exact_101 {bits p k m a : Nat} {n e prec q Q Q1 Q2 : Int} {b sg : Bool} {T S S1 S2 : ByteArray} (hq : max 0 (min prec 400) = q) (hq0 : 0 ≤ q) (hq1 : q ≤ 400) (hZ : Si6 b n) (hFi : Fi6 bits n p) (hP : PtC p n sg m e 0) (hX : ExC m e S Q) (hV : Vb7 false false false false false (-1) (-1) 101 k ⟨#[101, 102, 69, 70]⟩ 101) (hF : FlC p n false false false false false (-1) q 101 T true) (hT1 : 0 < T.size) (hT9 : T.size ≤ 200000) (hR : R6C T S1 Q1) (hRo : RoundC S Q (q + 1) S1 Q1 0) (HA : Hid (AtP T a)) (ha1 : a = 1) (hsz : 0 < q → 2 + q < (T.size : Int)) (hce : ∀ (i : Nat) (h : i < T.size), (i : Int) = 2 + q → 0 < q → (T[i]'h).toNat = 101) (w : World) :
    Calls Tryz.prog 6 #[.agg #[.int .u64 bits, .bool b], .int .i64 prec, .int .u64 k] w fun e w' => e = .returned (.bool true) ∧ Below w.heap.size w w' := by
  have hL := lives6_any
  have hBa := bare6_any 101
  have hbA : Below w.heap.size w (w.alloc (.cells #[.int .u64 bits, .bool b] 35)) := (Below.refl _ _).alloc (Nat.le_refl _) _
  have hue : T.toList.isEmpty = false := empty_no T hT1
  have hatz : a ≤ T.size := HA.out.1
  have hT9I : (T.size : Int) ≤ 200000 := by omega
  go_enter Tryz.func6, Tryz.ntmps6
  go_wp2_with (first
    | (go_at_call 9; (with_reducible refine (hZ _).mono ?_); rintro x w1 ⟨rfl, rfl⟩)
    | (go_at_call 15; (with_reducible refine (hFi _).mono ?_); rintro x w1 ⟨rfl, rfl⟩)
    | (go_at_call 10; (with_reducible refine (hP _).mono ?_); rintro x w2 ⟨rfl, hb2⟩)
    | (go_at_call 16; (with_reducible refine (hX _).mono ?_); rintro x w3 ⟨rfl, hb3⟩)
    | (go_at_call 18; refine (hBa _).mono ?_; rintro x w4 ⟨rfl, hb4⟩; have bV := keepb hb4 (B := w3.heap.size) (x := .string S) (y := .int .i64 Q) (by simp [BoxD, go_sem]))
    | (go_at_call 17; (with_reducible refine (hV _).mono ?_); rintro x w5 ⟨rfl, hb5⟩; have bV5 := keepb hb5 bV)
    | (go_at_call 12; (with_reducible refine (hF _).mono ?_); rintro x w6 ⟨rfl, hb6⟩; have bV6 := keepb hb6 (keepb ((Below.refl _ _).alloc (Nat.le_refl _) (.cells #[.bool false, .bool false, .bool false, .bool false, .bool false, .int .i64 (-1), .int .i64 q, .int .i32 101] 24)) bV5); have v7 : w6.cell? ⟨w5.heap.size, 7, none⟩ = some (.int .i32 101) := keep hb6 (by simp [go_sem]))
    | (go_at_call 19; (with_reducible refine (hR _).mono ?_); rintro x w7 ⟨rfl, hb7⟩; have bV7 := keepb hb7 bV6; obtain ⟨v0, v1, v2, v3⟩ := id bV7; have v77 := keep hb7 v7; have hlt7 : w3.heap.size < w7.heap.size := World.block_lt_of_cell? w7 _ v0; have hlt75 : w5.heap.size < w7.heap.size := World.block_lt_of_cell? w7 _ v77)
    | (go_at_call 20; (with_reducible refine (hRo _).mono ?_); rintro x w8 ⟨rfl, hb8⟩; have bS := keepb hb8 (B := w7.heap.size) (x := .string S1) (y := .int .i64 Q1) (by simp [BoxD, go_sem]); have bV8 := keepb hb8 (keepb ((Below.refl _ _).alloc (Nat.le_refl _) (.cells #[.string S1, .int .i64 Q1] 39)) bV7); have v78 := keep hb8 (keep ((Below.refl _ _).alloc (Nat.le_refl _) (.cells #[.string S1, .int .i64 Q1] 39)) v77); obtain ⟨s0, s1, s2, s3⟩ := id bS; obtain ⟨u0, u1, u2, u3⟩ := id bV8; have hlt8a : w7.heap.size < w8.heap.size := World.block_lt_of_cell? w8 _ s0; have hlt8b : w3.heap.size < w8.heap.size := World.block_lt_of_cell? w8 _ u0; have hlt8c : w5.heap.size < w8.heap.size := World.block_lt_of_cell? w8 _ v78))
  have hB8 : Below w.heap.size w w8 := by
    have h2 := bel_call hbA hb2 (Nat.le_refl _)
    have h3 := bel_call h2 hb3 (Nat.le_refl _)
    have h4 := bel_call (h3.alloc h3.size (.cells #[.string S, .int .i64 Q] 39)) hb4 (Nat.le_refl _)
    have h5 := bel_call h4 hb5 (Nat.le_refl _)
    have h6 := bel_call (h5.alloc h5.size (.cells #[.bool false, .bool false, .bool false, .bool false, .bool false, .int .i64 (-1), .int .i64 q, .int .i32 101] 24)) hb6 (Nat.le_refl _)
    have h7 := bel_call h6 hb7 (Nat.le_refl _)
    exact bel_call (h7.alloc h7.size (.cells #[.string S1, .int .i64 Q1] 39)) hb8 (Nat.le_refl _)
  go_loopg [22] a (fun g iv wr => wr = w8.alloc (.cells #[.string S1, .int .i64 Q1] 39) ∧ ∃ i : Nat, iv = .int .i64 i ∧ i + g = a)
  case atStart => exact ⟨rfl, 0, rfl, by omega⟩
  case round =>
    obtain ⟨rfl, i, rfl, hig⟩ := hrel
    by_cases hi : i < a
    · have hiT : i < T.size := by omega
      have hiI : (i : Int) < T.size := by omega
      obtain ⟨n1, n2, n3⟩ := HA.out.2.1 i hiT hi
      have b1 : (((T[i]'hiT).toNat : Int) != 46) = true := by rw [bne_iff_ne]; omega
      have b2 : (((T[i]'hiT).toNat : Int) != 101) = true := by rw [bne_iff_ne]; omega
      have b3 : (((T[i]'hiT).toNat : Int) != 69) = true := by rw [bne_iff_ne]; omega
      clear HA
      go_wp2
      go_roundg (gk - 1)
      case measure => omega
      case rel => exact ⟨rfl, i + 1, by go_num, by omega⟩
    · obtain rfl : i = a := by omega
      have hend := HA.out.2.2
      clear HA
      obtain rfl : i = 1 := ha1
      have hB9 := hB8.alloc hB8.size (.cells #[.string S1, .int .i64 Q1] 39)
      rcases Int.lt_or_le 0 q with hq2 | hq2
      · have hs3 := hsz hq2
        obtain ⟨j, hj⟩ := Int.eq_ofNat_of_zero_le (show 0 ≤ 2 + q by omega)
        have hjT : j < T.size := by omega
        have hjI : (j : Int) < T.size := by omega
        have hcj := hce j hjT hj.symm hq2
        have h1T : 1 < T.size := by omega
        have h1I : (1 : Int) < T.size := by omega
        have hs4 : ¬ (T.size : Int) ≤ (j : Int) := by omega
        have h46 := hend h1T
        clear hend hsz hce
        rcases h46 with h46 | h46 | h46
        all_goals
          go_wp2_with (go_at_call 11; refine (hL _).mono ?_; rintro x w10 ⟨rfl, hb10⟩)
          go_ret
          exact ⟨rfl, bel_call hB9 hb10 (Nat.le_refl _)⟩
      · obtain rfl : q = 0 := by omega
        by_cases h1T : 1 < T.size
        · have hend2 := hend h1T
          clear hend hsz hce
          have h1I : (1 : Int) < T.size := by omega
          rcases hend2 with h46 | h46 | h46
          all_goals
            go_wp2_with (go_at_call 11; refine (hL _).mono ?_; rintro x w10 ⟨rfl, hb10⟩)
            go_ret
            exact ⟨rfl, bel_call hB9 hb10 (Nat.le_refl _)⟩
        · have h1I : ¬ (1 : Int) < T.size := by omega
          clear hend hsz hce
          go_wp2_with (go_at_call 11; refine (hL _).mono ?_; rintro x w10 ⟨rfl, hb10⟩)
          go_ret
          exact ⟨rfl, bel_call hB9 hb10 (Nat.le_refl _)⟩
set_option maxRecDepth 1000000 in
set_option maxHeartbeats 8000000 in
theorem exact_69 {bits p k m a : Nat} {n e prec q Q Q1 Q2 : Int} {b sg : Bool} {T S S1 S2 : ByteArray} (hq : max 0 (min prec 400) = q) (hq0 : 0 ≤ q) (hq1 : q ≤ 400) (hZ : Si6 b n) (hFi : Fi6 bits n p) (hP : PtC p n sg m e 0) (hX : ExC m e S Q) (hV : Vb7 false false false false false (-1) (-1) 101 k ⟨#[101, 102, 69, 70]⟩ 69) (hF : FlC p n false false false false false (-1) q 69 T true) (hT1 : 0 < T.size) (hT9 : T.size ≤ 200000) (hR : R6C T S1 Q1) (hRo : RoundC S Q (q + 1) S1 Q1 0) (HA : Hid (AtP T a)) (ha1 : a = 1) (hsz : 0 < q → 2 + q < (T.size : Int)) (hce : ∀ (i : Nat) (h : i < T.size), (i : Int) = 2 + q → 0 < q → (T[i]'h).toNat = 69) (w : World) :
    Calls Tryz.prog 6 #[.agg #[.int .u64 bits, .bool b], .int .i64 prec, .int .u64 k] w fun e w' => e = .returned (.bool true) ∧ Below w.heap.size w w' := by
  have hL := lives6_any
  have hBa := bare6_any 101
  have hbA : Below w.heap.size w (w.alloc (.cells #[.int .u64 bits, .bool b] 35)) := (Below.refl _ _).alloc (Nat.le_refl _) _
  have hue : T.toList.isEmpty = false := empty_no T hT1
  have hatz : a ≤ T.size := HA.out.1
  have hT9I : (T.size : Int) ≤ 200000 := by omega
  go_enter Tryz.func6, Tryz.ntmps6
  go_wp2_with (first
    | (go_at_call 9; (with_reducible refine (hZ _).mono ?_); rintro x w1 ⟨rfl, rfl⟩)
    | (go_at_call 15; (with_reducible refine (hFi _).mono ?_); rintro x w1 ⟨rfl, rfl⟩)
    | (go_at_call 10; (with_reducible refine (hP _).mono ?_); rintro x w2 ⟨rfl, hb2⟩)
    | (go_at_call 16; (with_reducible refine (hX _).mono ?_); rintro x w3 ⟨rfl, hb3⟩)
    | (go_at_call 18; refine (hBa _).mono ?_; rintro x w4 ⟨rfl, hb4⟩; have bV := keepb hb4 (B := w3.heap.size) (x := .string S) (y := .int .i64 Q) (by simp [BoxD, go_sem]))
    | (go_at_call 17; (with_reducible refine (hV _).mono ?_); rintro x w5 ⟨rfl, hb5⟩; have bV5 := keepb hb5 bV)
    | (go_at_call 12; (with_reducible refine (hF _).mono ?_); rintro x w6 ⟨rfl, hb6⟩; have bV6 := keepb hb6 (keepb ((Below.refl _ _).alloc (Nat.le_refl _) (.cells #[.bool false, .bool false, .bool false, .bool false, .bool false, .int .i64 (-1), .int .i64 q, .int .i32 69] 24)) bV5); have v7 : w6.cell? ⟨w5.heap.size, 7, none⟩ = some (.int .i32 69) := keep hb6 (by simp [go_sem]))
    | (go_at_call 19; (with_reducible refine (hR _).mono ?_); rintro x w7 ⟨rfl, hb7⟩; have bV7 := keepb hb7 bV6; obtain ⟨v0, v1, v2, v3⟩ := id bV7; have v77 := keep hb7 v7; have hlt7 : w3.heap.size < w7.heap.size := World.block_lt_of_cell? w7 _ v0; have hlt75 : w5.heap.size < w7.heap.size := World.block_lt_of_cell? w7 _ v77)
    | (go_at_call 20; (with_reducible refine (hRo _).mono ?_); rintro x w8 ⟨rfl, hb8⟩; have bS := keepb hb8 (B := w7.heap.size) (x := .string S1) (y := .int .i64 Q1) (by simp [BoxD, go_sem]); have bV8 := keepb hb8 (keepb ((Below.refl _ _).alloc (Nat.le_refl _) (.cells #[.string S1, .int .i64 Q1] 39)) bV7); have v78 := keep hb8 (keep ((Below.refl _ _).alloc (Nat.le_refl _) (.cells #[.string S1, .int .i64 Q1] 39)) v77); obtain ⟨s0, s1, s2, s3⟩ := id bS; obtain ⟨u0, u1, u2, u3⟩ := id bV8; have hlt8a : w7.heap.size < w8.heap.size := World.block_lt_of_cell? w8 _ s0; have hlt8b : w3.heap.size < w8.heap.size := World.block_lt_of_cell? w8 _ u0; have hlt8c : w5.heap.size < w8.heap.size := World.block_lt_of_cell? w8 _ v78))
  have hB8 : Below w.heap.size w w8 := by
    have h2 := bel_call hbA hb2 (Nat.le_refl _)
    have h3 := bel_call h2 hb3 (Nat.le_refl _)
    have h4 := bel_call (h3.alloc h3.size (.cells #[.string S, .int .i64 Q] 39)) hb4 (Nat.le_refl _)
    have h5 := bel_call h4 hb5 (Nat.le_refl _)
    have h6 := bel_call (h5.alloc h5.size (.cells #[.bool false, .bool false, .bool false, .bool false, .bool false, .int .i64 (-1), .int .i64 q, .int .i32 69] 24)) hb6 (Nat.le_refl _)
    have h7 := bel_call h6 hb7 (Nat.le_refl _)
    exact bel_call (h7.alloc h7.size (.cells #[.string S1, .int .i64 Q1] 39)) hb8 (Nat.le_refl _)
  go_loopg [22] a (fun g iv wr => wr = w8.alloc (.cells #[.string S1, .int .i64 Q1] 39) ∧ ∃ i : Nat, iv = .int .i64 i ∧ i + g = a)
  case atStart => exact ⟨rfl, 0, rfl, by omega⟩
  case round =>
    obtain ⟨rfl, i, rfl, hig⟩ := hrel
    by_cases hi : i < a
    · have hiT : i < T.size := by omega
      have hiI : (i : Int) < T.size := by omega
      obtain ⟨n1, n2, n3⟩ := HA.out.2.1 i hiT hi
      have b1 : (((T[i]'hiT).toNat : Int) != 46) = true := by rw [bne_iff_ne]; omega
      have b2 : (((T[i]'hiT).toNat : Int) != 101) = true := by rw [bne_iff_ne]; omega
      have b3 : (((T[i]'hiT).toNat : Int) != 69) = true := by rw [bne_iff_ne]; omega
      clear HA
      go_wp2
      go_roundg (gk - 1)
      case measure => omega
      case rel => exact ⟨rfl, i + 1, by go_num, by omega⟩
    · obtain rfl : i = a := by omega
      have hend := HA.out.2.2
      clear HA
      obtain rfl : i = 1 := ha1
      have hB9 := hB8.alloc hB8.size (.cells #[.string S1, .int .i64 Q1] 39)
      rcases Int.lt_or_le 0 q with hq2 | hq2
      · have hs3 := hsz hq2
        obtain ⟨j, hj⟩ := Int.eq_ofNat_of_zero_le (show 0 ≤ 2 + q by omega)
        have hjT : j < T.size := by omega
        have hjI : (j : Int) < T.size := by omega
        have hcj := hce j hjT hj.symm hq2
        have h1T : 1 < T.size := by omega
        have h1I : (1 : Int) < T.size := by omega
        have hs4 : ¬ (T.size : Int) ≤ (j : Int) := by omega
        have h46 := hend h1T
        clear hend hsz hce
        rcases h46 with h46 | h46 | h46
        all_goals
          go_wp2_with (go_at_call 11; refine (hL _).mono ?_; rintro x w10 ⟨rfl, hb10⟩)
          go_ret
          exact ⟨rfl, bel_call hB9 hb10 (Nat.le_refl _)⟩
      · obtain rfl : q = 0 := by omega
        by_cases h1T : 1 < T.size
        · have hend2 := hend h1T
          clear hend hsz hce
          have h1I : (1 : Int) < T.size := by omega
          rcases hend2 with h46 | h46 | h46
          all_goals
            go_wp2_with (go_at_call 11; refine (hL _).mono ?_; rintro x w10 ⟨rfl, hb10⟩)
            go_ret
            exact ⟨rfl, bel_call hB9 hb10 (Nat.le_refl _)⟩
        · have h1I : ¬ (1 : Int) < T.size := by omega
          clear hend hsz hce
          go_wp2_with (go_at_call 11; refine (hL _).mono ?_; rintro x w10 ⟨rfl, hb10⟩)
          go_ret
          exact ⟨rfl, bel_call hB9 hb10 (Nat.le_refl _)⟩
set_option maxRecDepth 1000000 in
set_option maxHeartbeats 8000000 in
theorem exact_102 {bits p k m a : Nat} {n e prec q Q Q1 Q2 : Int} {b sg : Bool} {T S S1 S2 : ByteArray} (hq : max 0 (min prec 400) = q) (hq0 : 0 ≤ q) (hq1 : q ≤ 400) (hZ : Si6 b n) (hFi : Fi6 bits n p) (hP : PtC p n sg m e 0) (hX : ExC m e S Q) (hV : Vb7 false false false false false (-1) (-1) 101 k ⟨#[101, 102, 69, 70]⟩ 102) (hF : FlC p n false false false false false (-1) q 102 T true) (hT1 : 0 < T.size) (hT9 : T.size ≤ 200000) (hR : R6C T S1 Q1) (hRo : RoundC S Q (q + 1) S2 Q2 0) (HA : Hid (AtP T a)) (hPl : PlacesC S Q q S1 Q1 0) (HS : Hid ((T.size : Int) = if q = 0 then (a : Int) else a + 1 + q)) (hdot : ∀ (i : Nat) (h : i < T.size), i = a → (T[i]'h).toNat = 46) (w : World) :
    Calls Tryz.prog 6 #[.agg #[.int .u64 bits, .bool b], .int .i64 prec, .int .u64 k] w fun e w' => e = .returned (.bool true) ∧ Below w.heap.size w w' := by
  have hL := lives6_any
  have hBa := bare6_any 101
  have hbA : Below w.heap.size w (w.alloc (.cells #[.int .u64 bits, .bool b] 35)) := (Below.refl _ _).alloc (Nat.le_refl _) _
  have hue : T.toList.isEmpty = false := empty_no T hT1
  have hatz : a ≤ T.size := HA.out.1
  have hT9I : (T.size : Int) ≤ 200000 := by omega
  go_enter Tryz.func6, Tryz.ntmps6
  go_wp2_with (first
    | (go_at_call 9; (with_reducible refine (hZ _).mono ?_); rintro x w1 ⟨rfl, rfl⟩)
    | (go_at_call 15; (with_reducible refine (hFi _).mono ?_); rintro x w1 ⟨rfl, rfl⟩)
    | (go_at_call 10; (with_reducible refine (hP _).mono ?_); rintro x w2 ⟨rfl, hb2⟩)
    | (go_at_call 16; (with_reducible refine (hX _).mono ?_); rintro x w3 ⟨rfl, hb3⟩)
    | (go_at_call 18; refine (hBa _).mono ?_; rintro x w4 ⟨rfl, hb4⟩; have bV := keepb hb4 (B := w3.heap.size) (x := .string S) (y := .int .i64 Q) (by simp [BoxD, go_sem]))
    | (go_at_call 17; (with_reducible refine (hV _).mono ?_); rintro x w5 ⟨rfl, hb5⟩; have bV5 := keepb hb5 bV)
    | (go_at_call 12; (with_reducible refine (hF _).mono ?_); rintro x w6 ⟨rfl, hb6⟩; have bV6 := keepb hb6 (keepb ((Below.refl _ _).alloc (Nat.le_refl _) (.cells #[.bool false, .bool false, .bool false, .bool false, .bool false, .int .i64 (-1), .int .i64 q, .int .i32 102] 24)) bV5); have v7 : w6.cell? ⟨w5.heap.size, 7, none⟩ = some (.int .i32 102) := keep hb6 (by simp [go_sem]))
    | (go_at_call 19; (with_reducible refine (hR _).mono ?_); rintro x w7 ⟨rfl, hb7⟩; have bV7 := keepb hb7 bV6; obtain ⟨v0, v1, v2, v3⟩ := id bV7; have v77 := keep hb7 v7; have hlt7 : w3.heap.size < w7.heap.size := World.block_lt_of_cell? w7 _ v0; have hlt75 : w5.heap.size < w7.heap.size := World.block_lt_of_cell? w7 _ v77)
    | (go_at_call 20; (with_reducible refine (hRo _).mono ?_); rintro x w8 ⟨rfl, hb8⟩; have bS := keepb hb8 (B := w7.heap.size) (x := .string S1) (y := .int .i64 Q1) (by simp [BoxD, go_sem]); have bV8 := keepb hb8 (keepb ((Below.refl _ _).alloc (Nat.le_refl _) (.cells #[.string S1, .int .i64 Q1] 39)) bV7); have v78 := keep hb8 (keep ((Below.refl _ _).alloc (Nat.le_refl _) (.cells #[.string S1, .int .i64 Q1] 39)) v77); obtain ⟨s0, s1, s2, s3⟩ := id bS; obtain ⟨u0, u1, u2, u3⟩ := id bV8; have hlt8a : w7.heap.size < w8.heap.size := World.block_lt_of_cell? w8 _ s0; have hlt8b : w3.heap.size < w8.heap.size := World.block_lt_of_cell? w8 _ u0; have hlt8c : w5.heap.size < w8.heap.size := World.block_lt_of_cell? w8 _ v78))
  have hB8 : Below w.heap.size w w8 := by
    have h2 := bel_call hbA hb2 (Nat.le_refl _)
    have h3 := bel_call h2 hb3 (Nat.le_refl _)
    have h4 := bel_call (h3.alloc h3.size (.cells #[.string S, .int .i64 Q] 39)) hb4 (Nat.le_refl _)
    have h5 := bel_call h4 hb5 (Nat.le_refl _)
    have h6 := bel_call (h5.alloc h5.size (.cells #[.bool false, .bool false, .bool false, .bool false, .bool false, .int .i64 (-1), .int .i64 q, .int .i32 102] 24)) hb6 (Nat.le_refl _)
    have h7 := bel_call h6 hb7 (Nat.le_refl _)
    exact bel_call (h7.alloc h7.size (.cells #[.string S1, .int .i64 Q1] 39)) hb8 (Nat.le_refl _)
  go_loopg [22] a (fun g iv wr => wr = w8.alloc (.cells #[.string S2, .int .i64 Q2] 39) ∧ ∃ i : Nat, iv = .int .i64 i ∧ i + g = a)
  case atStart => exact ⟨rfl, 0, rfl, by omega⟩
  case round =>
    obtain ⟨rfl, i, rfl, hig⟩ := hrel
    by_cases hi : i < a
    · have hiT : i < T.size := by omega
      have hiI : (i : Int) < T.size := by omega
      obtain ⟨n1, n2, n3⟩ := HA.out.2.1 i hiT hi
      have b1 : (((T[i]'hiT).toNat : Int) != 46) = true := by rw [bne_iff_ne]; omega
      have b2 : (((T[i]'hiT).toNat : Int) != 101) = true := by rw [bne_iff_ne]; omega
      have b3 : (((T[i]'hiT).toNat : Int) != 69) = true := by rw [bne_iff_ne]; omega
      clear HA
      go_wp2
      go_roundg (gk - 1)
      case measure => omega
      case rel => exact ⟨rfl, i + 1, by go_num, by omega⟩
    · obtain rfl : i = a := by omega
      have hend := HA.out.2.2
      clear HA
      rcases Int.lt_or_le 0 q with hq2 | hq2
      · have hq3 : ¬ q = 0 := by omega
        have hsz := HS.out
        clear HS
        rw [if_neg hq3] at hsz
        have hiT : i < T.size := by omega
        have hiI : (i : Int) < T.size := by omega
        have hsz2 : (i : Int) + 1 + q = (T.size : Int) := by omega
        have b0 : (q == 0) = false := by simp; omega
        have h46 := hdot i hiT rfl
        clear hend hsz hdot
        · go_wp2_with (first
            | (go_at_call 21; (with_reducible refine (hPl _).mono ?_); rintro x w9 ⟨rfl, hb9⟩; have bW := keepb hb9 (B := w8.heap.size) (x := .string S2) (y := .int .i64 Q2) (by simp [BoxD, go_sem]); have bS9 := keepb hb9 (keepb ((Below.refl _ _).alloc (Nat.le_refl _) (.cells #[.string S2, .int .i64 Q2] 39)) bS); obtain ⟨t0, t1, t2, t3⟩ := id bW; obtain ⟨r0, r1, r2, r3⟩ := id bS9; have hne : w7.heap.size ≠ w8.heap.size := (by omega); have p0 := set_past (W := w9) (B := w8.heap.size) (C := w7.heap.size) (i := 0) (u := .string S1) (Ne.symm hne) r0; have p1 := set_past (W := w9) (B := w8.heap.size) (C := w7.heap.size) (i := 0) (u := .string S1) (Ne.symm hne) r1)
            | (go_at_call 11; refine (hL _).mono ?_; rintro x w10 ⟨rfl, hb10⟩))
          go_ret
          refine ⟨rfl, ?_⟩
          have h9 := bel_call (hB8.alloc hB8.size (.cells #[.string S2, .int .i64 Q2] 39)) hb9 (Nat.le_refl _)
          have h10 := (h9.setCell (p := ⟨w8.heap.size, 0, none⟩) hB8.size (.string S1)).setCell (p := ⟨w8.heap.size, 1, none⟩) hB8.size (.int .i64 Q1)
          exact bel_call h10 hb10 (Nat.le_refl _)
      · obtain rfl : q = 0 := by omega
        have hsz := HS.out
        clear HS
        rw [if_pos rfl] at hsz
        have hiI : ¬ (i : Int) < T.size := by omega
        have hsz2 : (i : Int) = (T.size : Int) := by omega
        clear hend hsz hdot
        go_wp2_with (first
            | (go_at_call 21; (with_reducible refine (hPl _).mono ?_); rintro x w9 ⟨rfl, hb9⟩; have bW := keepb hb9 (B := w8.heap.size) (x := .string S2) (y := .int .i64 Q2) (by simp [BoxD, go_sem]); have bS9 := keepb hb9 (keepb ((Below.refl _ _).alloc (Nat.le_refl _) (.cells #[.string S2, .int .i64 Q2] 39)) bS); obtain ⟨t0, t1, t2, t3⟩ := id bW; obtain ⟨r0, r1, r2, r3⟩ := id bS9; have hne : w7.heap.size ≠ w8.heap.size := (by omega); have p0 := set_past (W := w9) (B := w8.heap.size) (C := w7.heap.size) (i := 0) (u := .string S1) (Ne.symm hne) r0; have p1 := set_past (W := w9) (B := w8.heap.size) (C := w7.heap.size) (i := 0) (u := .string S1) (Ne.symm hne) r1)
            | (go_at_call 11; refine (hL _).mono ?_; rintro x w10 ⟨rfl, hb10⟩))
        go_ret
        refine ⟨rfl, ?_⟩
        have h9 := bel_call (hB8.alloc hB8.size (.cells #[.string S2, .int .i64 Q2] 39)) hb9 (Nat.le_refl _)
        have h10 := (h9.setCell (p := ⟨w8.heap.size, 0, none⟩) hB8.size (.string S1)).setCell (p := ⟨w8.heap.size, 1, none⟩) hB8.size (.int .i64 Q1)
        exact bel_call h10 hb10 (Nat.le_refl _)
set_option maxRecDepth 1000000 in
set_option maxHeartbeats 8000000 in
theorem exact_70 {bits p k m a : Nat} {n e prec q Q Q1 Q2 : Int} {b sg : Bool} {T S S1 S2 : ByteArray} (hq : max 0 (min prec 400) = q) (hq0 : 0 ≤ q) (hq1 : q ≤ 400) (hZ : Si6 b n) (hFi : Fi6 bits n p) (hP : PtC p n sg m e 0) (hX : ExC m e S Q) (hV : Vb7 false false false false false (-1) (-1) 101 k ⟨#[101, 102, 69, 70]⟩ 70) (hF : FlC p n false false false false false (-1) q 70 T true) (hT1 : 0 < T.size) (hT9 : T.size ≤ 200000) (hR : R6C T S1 Q1) (hRo : RoundC S Q (q + 1) S2 Q2 0) (HA : Hid (AtP T a)) (hPl : PlacesC S Q q S1 Q1 0) (HS : Hid ((T.size : Int) = if q = 0 then (a : Int) else a + 1 + q)) (hdot : ∀ (i : Nat) (h : i < T.size), i = a → (T[i]'h).toNat = 46) (w : World) :
    Calls Tryz.prog 6 #[.agg #[.int .u64 bits, .bool b], .int .i64 prec, .int .u64 k] w fun e w' => e = .returned (.bool true) ∧ Below w.heap.size w w' := by
  have hL := lives6_any
  have hBa := bare6_any 101
  have hbA : Below w.heap.size w (w.alloc (.cells #[.int .u64 bits, .bool b] 35)) := (Below.refl _ _).alloc (Nat.le_refl _) _
  have hue : T.toList.isEmpty = false := empty_no T hT1
  have hatz : a ≤ T.size := HA.out.1
  have hT9I : (T.size : Int) ≤ 200000 := by omega
  go_enter Tryz.func6, Tryz.ntmps6
  go_wp2_with (first
    | (go_at_call 9; (with_reducible refine (hZ _).mono ?_); rintro x w1 ⟨rfl, rfl⟩)
    | (go_at_call 15; (with_reducible refine (hFi _).mono ?_); rintro x w1 ⟨rfl, rfl⟩)
    | (go_at_call 10; (with_reducible refine (hP _).mono ?_); rintro x w2 ⟨rfl, hb2⟩)
    | (go_at_call 16; (with_reducible refine (hX _).mono ?_); rintro x w3 ⟨rfl, hb3⟩)
    | (go_at_call 18; refine (hBa _).mono ?_; rintro x w4 ⟨rfl, hb4⟩; have bV := keepb hb4 (B := w3.heap.size) (x := .string S) (y := .int .i64 Q) (by simp [BoxD, go_sem]))
    | (go_at_call 17; (with_reducible refine (hV _).mono ?_); rintro x w5 ⟨rfl, hb5⟩; have bV5 := keepb hb5 bV)
    | (go_at_call 12; (with_reducible refine (hF _).mono ?_); rintro x w6 ⟨rfl, hb6⟩; have bV6 := keepb hb6 (keepb ((Below.refl _ _).alloc (Nat.le_refl _) (.cells #[.bool false, .bool false, .bool false, .bool false, .bool false, .int .i64 (-1), .int .i64 q, .int .i32 70] 24)) bV5); have v7 : w6.cell? ⟨w5.heap.size, 7, none⟩ = some (.int .i32 70) := keep hb6 (by simp [go_sem]))
    | (go_at_call 19; (with_reducible refine (hR _).mono ?_); rintro x w7 ⟨rfl, hb7⟩; have bV7 := keepb hb7 bV6; obtain ⟨v0, v1, v2, v3⟩ := id bV7; have v77 := keep hb7 v7; have hlt7 : w3.heap.size < w7.heap.size := World.block_lt_of_cell? w7 _ v0; have hlt75 : w5.heap.size < w7.heap.size := World.block_lt_of_cell? w7 _ v77)
    | (go_at_call 20; (with_reducible refine (hRo _).mono ?_); rintro x w8 ⟨rfl, hb8⟩; have bS := keepb hb8 (B := w7.heap.size) (x := .string S1) (y := .int .i64 Q1) (by simp [BoxD, go_sem]); have bV8 := keepb hb8 (keepb ((Below.refl _ _).alloc (Nat.le_refl _) (.cells #[.string S1, .int .i64 Q1] 39)) bV7); have v78 := keep hb8 (keep ((Below.refl _ _).alloc (Nat.le_refl _) (.cells #[.string S1, .int .i64 Q1] 39)) v77); obtain ⟨s0, s1, s2, s3⟩ := id bS; obtain ⟨u0, u1, u2, u3⟩ := id bV8; have hlt8a : w7.heap.size < w8.heap.size := World.block_lt_of_cell? w8 _ s0; have hlt8b : w3.heap.size < w8.heap.size := World.block_lt_of_cell? w8 _ u0; have hlt8c : w5.heap.size < w8.heap.size := World.block_lt_of_cell? w8 _ v78))
  have hB8 : Below w.heap.size w w8 := by
    have h2 := bel_call hbA hb2 (Nat.le_refl _)
    have h3 := bel_call h2 hb3 (Nat.le_refl _)
    have h4 := bel_call (h3.alloc h3.size (.cells #[.string S, .int .i64 Q] 39)) hb4 (Nat.le_refl _)
    have h5 := bel_call h4 hb5 (Nat.le_refl _)
    have h6 := bel_call (h5.alloc h5.size (.cells #[.bool false, .bool false, .bool false, .bool false, .bool false, .int .i64 (-1), .int .i64 q, .int .i32 70] 24)) hb6 (Nat.le_refl _)
    have h7 := bel_call h6 hb7 (Nat.le_refl _)
    exact bel_call (h7.alloc h7.size (.cells #[.string S1, .int .i64 Q1] 39)) hb8 (Nat.le_refl _)
  go_loopg [22] a (fun g iv wr => wr = w8.alloc (.cells #[.string S2, .int .i64 Q2] 39) ∧ ∃ i : Nat, iv = .int .i64 i ∧ i + g = a)
  case atStart => exact ⟨rfl, 0, rfl, by omega⟩
  case round =>
    obtain ⟨rfl, i, rfl, hig⟩ := hrel
    by_cases hi : i < a
    · have hiT : i < T.size := by omega
      have hiI : (i : Int) < T.size := by omega
      obtain ⟨n1, n2, n3⟩ := HA.out.2.1 i hiT hi
      have b1 : (((T[i]'hiT).toNat : Int) != 46) = true := by rw [bne_iff_ne]; omega
      have b2 : (((T[i]'hiT).toNat : Int) != 101) = true := by rw [bne_iff_ne]; omega
      have b3 : (((T[i]'hiT).toNat : Int) != 69) = true := by rw [bne_iff_ne]; omega
      clear HA
      go_wp2
      go_roundg (gk - 1)
      case measure => omega
      case rel => exact ⟨rfl, i + 1, by go_num, by omega⟩
    · obtain rfl : i = a := by omega
      have hend := HA.out.2.2
      clear HA
      rcases Int.lt_or_le 0 q with hq2 | hq2
      · have hq3 : ¬ q = 0 := by omega
        have hsz := HS.out
        clear HS
        rw [if_neg hq3] at hsz
        have hiT : i < T.size := by omega
        have hiI : (i : Int) < T.size := by omega
        have hsz2 : (i : Int) + 1 + q = (T.size : Int) := by omega
        have b0 : (q == 0) = false := by simp; omega
        have h46 := hdot i hiT rfl
        clear hend hsz hdot
        · go_wp2_with (first
            | (go_at_call 21; (with_reducible refine (hPl _).mono ?_); rintro x w9 ⟨rfl, hb9⟩; have bW := keepb hb9 (B := w8.heap.size) (x := .string S2) (y := .int .i64 Q2) (by simp [BoxD, go_sem]); have bS9 := keepb hb9 (keepb ((Below.refl _ _).alloc (Nat.le_refl _) (.cells #[.string S2, .int .i64 Q2] 39)) bS); obtain ⟨t0, t1, t2, t3⟩ := id bW; obtain ⟨r0, r1, r2, r3⟩ := id bS9; have hne : w7.heap.size ≠ w8.heap.size := (by omega); have p0 := set_past (W := w9) (B := w8.heap.size) (C := w7.heap.size) (i := 0) (u := .string S1) (Ne.symm hne) r0; have p1 := set_past (W := w9) (B := w8.heap.size) (C := w7.heap.size) (i := 0) (u := .string S1) (Ne.symm hne) r1)
            | (go_at_call 11; refine (hL _).mono ?_; rintro x w10 ⟨rfl, hb10⟩))
          go_ret
          refine ⟨rfl, ?_⟩
          have h9 := bel_call (hB8.alloc hB8.size (.cells #[.string S2, .int .i64 Q2] 39)) hb9 (Nat.le_refl _)
          have h10 := (h9.setCell (p := ⟨w8.heap.size, 0, none⟩) hB8.size (.string S1)).setCell (p := ⟨w8.heap.size, 1, none⟩) hB8.size (.int .i64 Q1)
          exact bel_call h10 hb10 (Nat.le_refl _)
      · obtain rfl : q = 0 := by omega
        have hsz := HS.out
        clear HS
        rw [if_pos rfl] at hsz
        have hiI : ¬ (i : Int) < T.size := by omega
        have hsz2 : (i : Int) = (T.size : Int) := by omega
        clear hend hsz hdot
        go_wp2_with (first
            | (go_at_call 21; (with_reducible refine (hPl _).mono ?_); rintro x w9 ⟨rfl, hb9⟩; have bW := keepb hb9 (B := w8.heap.size) (x := .string S2) (y := .int .i64 Q2) (by simp [BoxD, go_sem]); have bS9 := keepb hb9 (keepb ((Below.refl _ _).alloc (Nat.le_refl _) (.cells #[.string S2, .int .i64 Q2] 39)) bS); obtain ⟨t0, t1, t2, t3⟩ := id bW; obtain ⟨r0, r1, r2, r3⟩ := id bS9; have hne : w7.heap.size ≠ w8.heap.size := (by omega); have p0 := set_past (W := w9) (B := w8.heap.size) (C := w7.heap.size) (i := 0) (u := .string S1) (Ne.symm hne) r0; have p1 := set_past (W := w9) (B := w8.heap.size) (C := w7.heap.size) (i := 0) (u := .string S1) (Ne.symm hne) r1)
            | (go_at_call 11; refine (hL _).mono ?_; rintro x w10 ⟨rfl, hb10⟩))
        go_ret
        refine ⟨rfl, ?_⟩
        have h9 := bel_call (hB8.alloc hB8.size (.cells #[.string S2, .int .i64 Q2] 39)) hb9 (Nat.le_refl _)
        have h10 := (h9.setCell (p := ⟨w8.heap.size, 0, none⟩) hB8.size (.string S1)).setCell (p := ⟨w8.heap.size, 1, none⟩) hB8.size (.int .i64 Q1)
        exact bel_call h10 hb10 (Nat.le_refl _)

theorem five_low2 : ∃ N M : Nat, N = 1075 ∧ M = 751 ∧ 10 ^ M ≤ 5 ^ N := ⟨1075, 751, rfl, rfl, by decide +kernel⟩
theorem val_low2 {size : Int} {f ww : Nat} {least : Int} {I : Nat} (h : Ly size f ww least I) {p : Nat} (hp : p < I) (h0 : p ≠ 0) : -330 ≤ oP (val f least p) := by
  obtain ⟨N, M, hN, hM, h5⟩ := five_low2
  have hq : 1 ≤ pq f p := by
    have hm : 1 ≤ pm f p := by
      unfold pm
      split
      · rename_i h1
        have := Nat.div_add_mod p (2 ^ f)
        rw [h1, Nat.mul_zero] at this
        omega
      · have := pow_pos2 f; omega
    exact Nat.mul_pos hm (pow_pos2 _)
  have hl : -1074 ≤ least ∧ least ≤ -149 := by rcases h with ⟨-, -, -, rfl, -⟩ | ⟨-, -, -, rfl, -⟩ <;> decide
  have hu : exU 1 (-1075) ≤ un least := by
    have := exU_shift 1 (-1075) (least - 1 + 1075).toNat (by decide) (by omega)
    rw [show (-1075 : Int) + ((least - 1 + 1075).toNat : Nat) = least - 1 by omega, Nat.one_mul] at this
    unfold un
    rw [this]
    have h2 := pow_pos2 (least - 1 + 1075).toNat
    exact Nat.le_mul_of_pos_left _ h2
  have he : exU 1 (-1075) = 5 ^ N * 10 ^ 8925 := by
    rw [exU_dn _ (by decide), Nat.one_mul]
    congr 2
    omega
  have hv : 10 ^ (M + 8925) ≤ val f least p := by
    have h1 : 10 ^ (M + 8925) ≤ exU 1 (-1075) := by rw [he, Nat.pow_add]; exact Nat.mul_le_mul_right _ h5
    have h2 : un least ≤ val f least p := by
      unfold val
      have : 1 ≤ 2 * pq f p := by omega
      exact Nat.le_mul_of_pos_left _ this
    omega
  have := oP_gt hv
  omega
/-- What is rounded to digits stays as great. -/
theorem rnd_lo {v : Nat} {c : Int} (h0 : 1 ≤ c) : oP v ≤ oP (rnd v c) := by
  unfold rnd
  rw [if_neg (by omega)]
  split
  · exact Int.le_refl _
  · rename_i h
    obtain ⟨n, rfl⟩ := Int.eq_ofNat_of_zero_le (show 0 ≤ c by omega)
    have e : (oP v - (n : Int) + 10000).toNat = Qn v n := rfl
    rw [e]
    have hge := Bn_ge (v := v) (n := n) (by omega) (by omega)
    have hqe := Qn_eq (v := v) (n := n) (by omega)
    have hn : Bn v n ≤ near v (Qn v n) := by
      rcases near_is v n with k | ⟨k, -, -⟩
      · omega
      · rw [k]; exact Nat.le_add_right _ _
    have := oP_gt (Nat.le_trans hge hn)
    omega
theorem rnd_nil (c : Int) (h0 : 1 ≤ c) : rnd 0 c = 0 := by
  unfold rnd
  rw [if_neg (by omega), if_pos (by rw [o_zero.1]; simp; omega)]
theorem at_of {T : ByteArray} {i : Nat} {x : UInt8} (h : i < T.size) (hx : T.data.toList[i]? = some x) : (T[i]'h) = x := by
  have h2 : i < T.data.toList.length := by rw [list_len]; exact h
  rw [List.getElem?_eq_getElem h2] at hx
  exact Option.some.inj hx
theorem dig_not {x : UInt8} (h : isD x = true) : x.toNat ≠ 46 ∧ x.toNat ≠ 101 ∧ x.toNat ≠ 69 := by
  have := (isD_iff x).1 h
  omega
theorem V_o1 (r : Nat) : V (oS r).data.toList (1 + pw0 r) = r := by
  by_cases h : r = 0
  · subst h
    rw [zero_S]
    simp [V, num_nil]
  · have e : 1 + pw0 r = oP r := by unfold pw0; rw [if_neg h]; omega
    rw [e]; exact o_val r
/-- What e writes with a precision. -/
theorem exp_exact {v : Nat} {q : Int} (fv : Fine v) (hlo : v = 0 ∨ -330 ≤ oP v) (hq0 : 0 ≤ q) (hq1 : q ≤ 400) (g : Bool) (mk : UInt8) (hmk : mk = if g = true then 69 else 101) : ∃ T, bigT g (expT false q v) = T ∧ R6C T (oS (rnd v (q + 1))) (oP (rnd v (q + 1))) ∧ AtP T 1 ∧ (0 < q → 2 + q < (T.size : Int)) ∧ (∀ (i : Nat) (h : i < T.size), (i : Int) = 2 + q → 0 < q → (T[i]'h).toNat = mk.toNat) ∧ 0 < T.size ∧ T.size ≤ 200000 := by
  have hc : cntE q = q + 1 := by unfold cntE; rw [if_neg (by omega)]
  obtain ⟨r, hr⟩ : ∃ r, rnd v (q + 1) = r := ⟨_, rfl⟩
  have hrl : ((oL r).length : Int) ≤ q + 1 := by rw [← hr]; exact rnd_len (by omega)
  have hpw : -1000 ≤ pw0 r ∧ pw0 r ≤ 1000 := by
    unfold pw0
    split
    · omega
    · rename_i h0
      have h1 := rnd_pt v (q + 1)
      have h2 := rnd_lo (v := v) (c := q + 1) (by omega)
      rw [hr] at h1 h2
      have h3 := fv.p1
      rcases hlo with rfl | h4
      · exact absurd (by rw [← hr, rnd_nil _ (by omega)]) h0
      · omega
  obtain ⟨G, hG⟩ : ∃ G, lnB (oS r) (q + 1) = G := ⟨_, rfl⟩
  have hos := oS_size r
  have hGz : (G.size : Int) = q + 1 := by rw [← hG, lnB_size]; omega
  have hGd : allD G.data.toList = true := by rw [← hG, lnB_list, allD_append, allD_rep, o_dig]; rfl
  have hGv : V G.data.toList (1 + pw0 r) = r := by rw [← hG, V_lnB _ _ _ (by omega)]; exact V_o1 r
  have eT : expT false q v = (ptd false (G.extract 0 1) (G.extract 1 G.size) ++ ⟨#[101]⟩) ++ sgd (pw0 r) 2 := by
    unfold expT sci
    rw [hc, hr, hG]
  obtain ⟨mb, hmb⟩ : ∃ mb : ByteArray, mb = ⟨#[mk]⟩ := ⟨_, rfl⟩
  have hmm : mb = ⟨#[101]⟩ ∨ mb = ⟨#[69]⟩ := by
    rw [hmb, hmk]
    cases g
    · exact .inl rfl
    · exact .inr rfl
  have eB : bigT g (expT false q v) = (ptd false (G.extract 0 1) (G.extract 1 G.size) ++ mb) ++ sgd (pw0 r) 2 := by
    rw [eT, hmb, hmk]
    cases g
    · rfl
    · rw [big7 (low7_ptd false (ext_dig hGd _ _) (ext_dig hGd _ _)) (low7_sgd _)]; rfl
  have hR := sciRead (mk := mb) false hmm hGd (by omega) (by omega) hpw.1 hpw.2 hGv
  rw [← eB] at hR
  obtain ⟨T, hT⟩ : ∃ T, bigT g (expT false q v) = T ∧ True := ⟨_, rfl, trivial⟩
  obtain ⟨A, hA⟩ : ∃ A, G.extract 0 1 = A := ⟨_, rfl⟩
  obtain ⟨B, hB⟩ : ∃ B, G.extract 1 G.size = B := ⟨_, rfl⟩
  have hAz : A.size = 1 := by rw [← hA, ByteArray.size_extract]; omega
  have hBz : (B.size : Int) = q := by rw [← hB, ByteArray.size_extract]; omega
  have dA : allD A.data.toList = true := by rw [← hA]; exact ext_dig hGd _ _
  obtain ⟨a0, ha0⟩ := List.length_eq_one_iff.1 (show A.data.toList.length = 1 by rw [list_len]; exact hAz)
  have da := dig_not (allD_mem dA (by rw [ha0]; exact List.mem_singleton_self a0))
  have hml : mb.data.toList = [mk] := by rw [hmb]
  have hsg := sgd_size (pw0 r) 2 (by decide)
  rw [hA, hB, hT.1] at eB
  rw [hT.1] at hR
  refine ⟨T, hT.1, by rw [hr]; exact hR, ?_⟩
  have hBl : B.data.toList.length = B.size := list_len B
  have hsl : (sgd (pw0 r) 2).data.toList.length = (sgd (pw0 r) 2).size := list_len _
  by_cases hq : q = 0
  · have hl : T.data.toList = a0 :: mk :: (sgd (pw0 r) 2).data.toList := by
      rw [eB]
      unfold ptd
      rw [if_pos ⟨by omega, rfl⟩, app_list, app_list, ha0, hml]
      rfl
    have hz : T.size = 2 + (sgd (pw0 r) 2).size := by rw [← list_len, hl, List.length_cons, List.length_cons]; omega
    refine ⟨⟨by omega, fun i h hi => ?_, fun h => ?_⟩, fun h => by omega, fun i h h1 h2 => by omega, by omega, by omega⟩
    · obtain rfl : i = 0 := by omega
      rw [at_of h (x := a0) (by rw [hl]; rfl)]
      exact da
    · rw [at_of h (x := mk) (by rw [hl]; rfl), hmk]
      cases g
      · exact .inr (.inl rfl)
      · exact .inr (.inr rfl)
  · have hl : T.data.toList = a0 :: 46 :: (B.data.toList ++ (mk :: (sgd (pw0 r) 2).data.toList)) := by
      rw [eB]
      unfold ptd
      rw [if_neg (by omega), app_list, app_list, app_list, app_list, ha0, hml]
      simp
    have hz : T.size = 3 + B.size + (sgd (pw0 r) 2).size := by rw [← list_len, hl, List.length_cons, List.length_cons, List.length_append, List.length_cons]; omega
    refine ⟨⟨by omega, fun i h hi => ?_, fun h => ?_⟩, fun h => by omega, fun i h h1 h2 => ?_, by omega, by omega⟩
    · obtain rfl : i = 0 := by omega
      rw [at_of h (x := a0) (by rw [hl]; rfl)]
      exact da
    · rw [at_of h (x := 46) (by rw [hl]; rfl)]
      exact .inl rfl
    · obtain rfl : i = B.data.toList.length + 1 + 1 := by omega
      rw [at_of h (x := mk) (by rw [hl, List.getElem?_cons_succ, List.getElem?_cons_succ, List.getElem?_append_right (Nat.le_refl _), Nat.sub_self]; rfl)]
/-- What f writes with a precision. -/
theorem fix_exact {v : Nat} {q : Int} (fv : Fine v) (hq0 : 0 ≤ q) (hq1 : q ≤ 400) : ∃ (T : ByteArray) (a : Nat), fixT false q v = T ∧ R6C T (oS (plc v q)) (oP (plc v q)) ∧ AtP T a ∧ ((T.size : Int) = if q = 0 then (a : Int) else a + 1 + q) ∧ (∀ (i : Nat) (h : i < T.size), i = a → (T[i]'h).toNat = 46) ∧ 0 < T.size ∧ T.size ≤ 200000 := by
  have hc : plcF q = q := by unfold plcF; rw [if_neg (by omega)]
  obtain ⟨r, hr⟩ : ∃ r, plc v q = r := ⟨_, rfl⟩
  have hlow : ((oL r).length : Int) - oP r ≤ q := by rw [← hr]; exact plc_low hq0 (by omega)
  have hpt : oP r ≤ 901 := by
    rw [← hr]
    unfold plc
    have := rnd_pt v (oP v + min (max q (-14000)) 14000)
    have := fv.p1
    omega
  have hos := oS_size r
  obtain ⟨A, hA⟩ : ∃ A, arA (oS r) (oP r) = A := ⟨_, rfl⟩
  obtain ⟨B, hB⟩ : ∃ B, lnB (arB (oS r) (oP r)) q = B := ⟨_, rfl⟩
  obtain ⟨dA, dB⟩ := around_dig (o_dig r) (oP r) q
  have hbz := arB_size_is (oS r) (oP r)
  have hBz : (B.size : Int) = q := by rw [← hB, lnB_size]; omega
  have hA1 := (arA_size (oS r) (oP r) (by omega)).2
  have hA2 : (arA (oS r) (oP r)).size ≤ 901 := by
    unfold arA
    split
    · show 1 ≤ 901; decide
    · rw [ByteArray.size_extract]; omega
  have hv := V_around (oS r) (oP r) q (by omega) (by omega)
  have ho : V (oS r).data.toList (oP r) = r := o_val r
  rw [ho] at hv
  rw [hA] at dA hA1 hA2 hv
  rw [hB] at dB hv
  have hR := posRead false dA dB hA1 (by omega) hv
  have eT : fixT false q v = ptd false A B := by
    unfold fixT
    rw [hc, hr, hA, hB]
  have hAl : A.data.toList.length = A.size := list_len A
  have hBl : B.data.toList.length = B.size := list_len B
  have dg : ∀ i (h : i < A.data.toList.length), (A.data.toList[i]).toNat ≠ 46 ∧ (A.data.toList[i]).toNat ≠ 101 ∧ (A.data.toList[i]).toNat ≠ 69 := fun i h => dig_not (allD_mem dA (List.getElem_mem h))
  rw [← eT] at hR
  obtain ⟨T, hT⟩ : ∃ T, fixT false q v = T := ⟨_, rfl⟩
  rw [hT] at hR eT
  refine ⟨T, A.size, hT, by rw [hr]; exact hR, ?_⟩
  by_cases hq : q = 0
  · have hl : T.data.toList = A.data.toList := by
      rw [eT]
      unfold ptd
      rw [if_pos ⟨by omega, rfl⟩]
    have hz : T.size = A.size := by rw [← list_len, hl, hAl]
    refine ⟨⟨by omega, fun i h hi => ?_, fun h => by omega⟩, by rw [if_pos hq]; omega, fun i h h1 => by omega, by omega, by omega⟩
    rw [at_of h (x := A.data.toList[i]'(by omega)) (by rw [hl]; exact List.getElem?_eq_getElem _)]
    exact dg i (by omega)
  · have hl : T.data.toList = A.data.toList ++ (46 :: B.data.toList) := by
      rw [eT]
      unfold ptd
      rw [if_neg (by omega), app_list, app_list]
      simp
    have hz : T.size = A.size + 1 + B.size := by rw [← list_len, hl, List.length_append, List.length_cons]; omega
    have h46 : ∀ (i : Nat) (h : i < T.size), i = A.size → (T[i]'h).toNat = 46 := fun i h hi => by
      subst hi
      rw [at_of h (x := 46) (by rw [hl, ← hAl, List.getElem?_append_right (Nat.le_refl _), Nat.sub_self]; rfl)]
      rfl
    refine ⟨⟨by omega, fun i h hi => ?_, fun h => .inl (h46 _ h rfl)⟩, by rw [if_neg hq]; omega, h46, by omega, by omega⟩
    rw [at_of h (x := A.data.toList[i]'(by omega)) (by rw [hl, List.getElem?_append_left (by omega)]; exact List.getElem?_eq_getElem _)]
    exact dg i (by omega)
theorem floatsExact_walk (m0 : Int) (b : Bool) (hm0 : (Lit.int .u64 m0).wf = true) (prec : Int) (hprec : (Lit.int .i64 prec).wf = true) (k0 : Int) (hk0 : (Lit.int .u64 k0).wf = true) (w : World) :
    Calls Tryz.prog 6 #[.agg #[.int .u64 m0, .bool b], .int .i64 prec, .int .u64 k0] w fun e w' => e = .returned (.bool true) ∧ Below w.heap.size w w' := by
  obtain ⟨bits, n, f, ww, least, I, p, rfl, h, hp, hZ, hFi, hp9⟩ := pat6 m0 hm0 b
  obtain ⟨g0, g1⟩ := wfu64 k0 hk0
  obtain ⟨k, rfl⟩ := Int.eq_ofNat_of_zero_le g0
  have hbp := bare_small h hp
  obtain ⟨d, hd, gd, hF⟩ := fin_of (bits := p) h (by omega) (by rw [hbp]; exact hp)
  rw [hbp] at hd hF
  have hsg : sgn f ww p = false := by
    have h2 := hbp
    unfold sgn
    unfold bare at h2
    have : p / 2 ^ (f + ww) = 0 := Nat.div_eq_of_lt (by have := Nat.mod_lt p (show 0 < 2 ^ (f + ww) from Nat.pow_pos (by decide)); omega)
    rw [this]; rfl
  rw [hsg] at hF
  have hj : k % 4 < 4 := Nat.mod_lt _ (by decide)
  have hV := verb7_any ⟨#[101, 102, 69, 70]⟩ false false false false false (-1) (-1) 101 k (k % 4) hj (by decide) rfl (by omega)
  have hc : ((((⟨#[101, 102, 69, 70]⟩ : ByteArray)[k % 4]'hj).toNat : Nat) : Int) = 101 ∨ ((((⟨#[101, 102, 69, 70]⟩ : ByteArray)[k % 4]'hj).toNat : Nat) : Int) = 102 ∨ ((((⟨#[101, 102, 69, 70]⟩ : ByteArray)[k % 4]'hj).toNat : Nat) : Int) = 69 ∨ ((((⟨#[101, 102, 69, 70]⟩ : ByteArray)[k % 4]'hj).toNat : Nat) : Int) = 70 := by
    generalize k % 4 = j at hj ⊢
    have : j = 0 ∨ j = 1 ∨ j = 2 ∨ j = 3 := by omega
    rcases this with rfl | rfl | rfl | rfl
    · exact .inl rfl
    · exact .inr (.inl rfl)
    · exact .inr (.inr (.inl rfl))
    · exact .inr (.inr (.inr rfl))
  generalize ((((⟨#[101, 102, 69, 70]⟩ : ByteArray)[k % 4]'hj).toNat : Nat) : Int) = c at hc hV
  have hv : fVerb c = true := by rcases hc with rfl | rfl | rfl | rfl <;> decide
  obtain ⟨q, hq⟩ : ∃ q, max 0 (min prec 400) = q := ⟨_, rfl⟩
  have hq0 : 0 ≤ q := by omega
  have hq1 : q ≤ 400 := by omega
  have hqm : min q 1000 = q := by omega
  have hfl := float_fin hF false false false false false (-1) q c hv
  rw [filT_bare _ (asc_fin _ _ _ _ _ _ _)] at hfl
  have hvF := (val_ex h hp).2
  have hlo : val f least p = 0 ∨ -330 ≤ oP (val f least p) := by
    by_cases h0 : p = 0
    · left; subst h0; simp [val, pq, pm]
    · exact .inr (val_low2 h hp h0)
  have hRo := roundC (q + 1) hvF.good
  have hPl := placesC q hvF.good
  rcases hc with rfl | rfl | rfl | rfl
  · rw [finT_101, hqm] at hfl
    obtain ⟨T, hT, hRd, hA, h1, h2, h3, h4⟩ := exp_exact hvF hlo hq0 hq1 false 101 rfl
    have hT : expT false q (val f least p) = T := hT
    rw [hT] at hfl
    exact exact_101 (S2 := ⟨#[]⟩) (Q2 := 0) hq hq0 hq1 hZ hFi hF.pt hF.ex hV hfl h3 h4 hRd hRo hA rfl h1 h2 w
  · rw [finT_102, hqm] at hfl
    obtain ⟨T, a, hT, hRd, hA, h1, h2, h3, h4⟩ := fix_exact hvF hq0 hq1
    rw [hT] at hfl
    exact exact_102 hq hq0 hq1 hZ hFi hF.pt hF.ex hV hfl h3 h4 hRd hRo hA hPl h1 h2 w
  · rw [finT_69, hqm] at hfl
    obtain ⟨T, hT, hRd, hA, h1, h2, h3, h4⟩ := exp_exact hvF hlo hq0 hq1 true 69 rfl
    rw [hT] at hfl
    exact exact_69 (S2 := ⟨#[]⟩) (Q2 := 0) hq hq0 hq1 hZ hFi hF.pt hF.ex hV hfl h3 h4 hRd hRo hA rfl h1 h2 w
  · rw [finT_70, hqm] at hfl
    obtain ⟨T, a, hT, hRd, hA, h1, h2, h3, h4⟩ := fix_exact hvF hq0 hq1
    rw [hT] at hfl
    exact exact_70 hq hq0 hq1 hZ hFi hF.pt hF.ex hV hfl h3 h4 hRd hRo hA hPl h1 h2 w
end Go.Proofs.YtkeoafidgfmhlabGreatDoor
