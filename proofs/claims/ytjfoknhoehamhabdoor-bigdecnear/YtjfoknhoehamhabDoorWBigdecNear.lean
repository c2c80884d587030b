/- The walk of the law BigdecNear. -/
import Derived.Test.YtjfoknhoehamhabDoorBNear
namespace Go.Proofs.YtjfoknhoehamhabDoor
open Go.RowKit
set_option linter.unusedVariables false
set_option linter.unusedSimpArgs false

set_option maxRecDepth 1000000 in
set_option maxHeartbeats 1600000 in
theorem near_err {s : ByteArray} {p n E : Int} (hN : NormC s p ⟨#[]⟩ 0 E) (hE : ¬ E = 0) (w : World) :
    Calls Tryd.prog 5 #[.agg #[.string s, .int .i64 p], .int .i64 n] w fun x w' => x = .returned (.bool true) ∧ Below w.heap.size w w' := by
  have hL := lives4_any
  have hEb : (E != 0) = true := by simp [hE]
  go_enter Tryd.func5, Tryd.ntmps5
  go_wp2_with (first
    | (go_at_call 11; refine (hN _).mono ?_; rintro x w2 ⟨rfl, hb2⟩; have bA := keepb hb2 (B := w.heap.size) (x := .string s) (y := .int .i64 p) (by simp [BoxD, go_sem]); obtain ⟨a0, a1, a2, a3⟩ := id bA; obtain ⟨y0, y1⟩ := bA.reads)
    | (go_at_call 8; refine (hL _).mono ?_; rintro x w3 ⟨rfl, hb3⟩))
  go_ret
  refine ⟨rfl, ?_⟩
  have h2 : Below w.heap.size w w2 := bel_call (B := w.heap.size) (w := w) (by go_grown) hb2 (Nat.le_refl _)
  exact bel_call ((h2.setCell (p := ⟨w.heap.size, 0, none⟩) (Nat.le_refl _) _).setCell (p := ⟨w.heap.size, 1, none⟩) (Nat.le_refl _) _) hb3 (Nat.le_refl _)
set_option maxRecDepth 1000000 in
set_option maxHeartbeats 1600000 in
theorem near_far {s S : ByteArray} {p n P : Int} (hN : NormC s p S P 0) (h : 900 < S.size ∨ (S.size ≤ 900 ∧ P < -2000) ∨ (S.size ≤ 900 ∧ 2000 < P)) (w : World) :
    Calls Tryd.prog 5 #[.agg #[.string s, .int .i64 p], .int .i64 n] w fun x w' => x = .returned (.bool true) ∧ Below w.heap.size w w' := by
  have hL := lives4_any
  rcases h with h | ⟨h1, h⟩ | ⟨h1, h⟩
  · have hI : 900 < (S.size : Int) := by omega
    have hS : S.toList.isEmpty = false := empty_no S (by omega)
    have hS2 : (S.toList == []) = false := by rw [Lib.toList_data]; have hz := list_len S; cases hl : S.data.toList with | nil => rw [hl] at hz; simp at hz; omega | cons a b => rfl
    go_enter Tryd.func5, Tryd.ntmps5
    go_wp2_with (first
      | (go_at_call 11; refine (hN _).mono ?_; rintro x w2 ⟨rfl, hb2⟩; have bA := keepb hb2 (B := w.heap.size) (x := .string s) (y := .int .i64 p) (by simp [BoxD, go_sem]); obtain ⟨a0, a1, a2, a3⟩ := id bA; obtain ⟨y0, y1⟩ := bA.reads)
      | (go_at_call 8; refine (hL _).mono ?_; rintro x w3 ⟨rfl, hb3⟩))
    go_ret
    refine ⟨rfl, ?_⟩
    have h2 : Below w.heap.size w w2 := bel_call (B := w.heap.size) (w := w) (by go_grown) hb2 (Nat.le_refl _)
    exact bel_call ((h2.setCell (p := ⟨w.heap.size, 0, none⟩) (Nat.le_refl _) _).setCell (p := ⟨w.heap.size, 1, none⟩) (Nat.le_refl _) _) hb3 (Nat.le_refl _)
  · have hI : ¬ 900 < (S.size : Int) := by omega
    have hP : ¬ P = 0 := by omega
    have hPb : (P == 0) = false := by simp [hP]
    go_enter Tryd.func5, Tryd.ntmps5
    go_wp2_with (first
      | (go_at_call 11; refine (hN _).mono ?_; rintro x w2 ⟨rfl, hb2⟩; have bA := keepb hb2 (B := w.heap.size) (x := .string s) (y := .int .i64 p) (by simp [BoxD, go_sem]); obtain ⟨a0, a1, a2, a3⟩ := id bA; obtain ⟨y0, y1⟩ := bA.reads)
      | (go_at_call 8; refine (hL _).mono ?_; rintro x w3 ⟨rfl, hb3⟩))
    go_ret
    refine ⟨rfl, ?_⟩
    have h2 : Below w.heap.size w w2 := bel_call (B := w.heap.size) (w := w) (by go_grown) hb2 (Nat.le_refl _)
    exact bel_call ((h2.setCell (p := ⟨w.heap.size, 0, none⟩) (Nat.le_refl _) _).setCell (p := ⟨w.heap.size, 1, none⟩) (Nat.le_refl _) _) hb3 (Nat.le_refl _)
  · have hI : ¬ 900 < (S.size : Int) := by omega
    have hI2 : ¬ P < -2000 := by omega
    have hP : ¬ P = 0 := by omega
    have hPb : (P == 0) = false := by simp [hP]
    go_enter Tryd.func5, Tryd.ntmps5
    go_wp2_with (first
      | (go_at_call 11; refine (hN _).mono ?_; rintro x w2 ⟨rfl, hb2⟩; have bA := keepb hb2 (B := w.heap.size) (x := .string s) (y := .int .i64 p) (by simp [BoxD, go_sem]); obtain ⟨a0, a1, a2, a3⟩ := id bA; obtain ⟨y0, y1⟩ := bA.reads)
      | (go_at_call 8; refine (hL _).mono ?_; rintro x w3 ⟨rfl, hb3⟩))
    go_ret
    refine ⟨rfl, ?_⟩
    have h2 : Below w.heap.size w w2 := bel_call (B := w.heap.size) (w := w) (by go_grown) hb2 (Nat.le_refl _)
    exact bel_call ((h2.setCell (p := ⟨w.heap.size, 0, none⟩) (Nat.le_refl _) _).setCell (p := ⟨w.heap.size, 1, none⟩) (Nat.le_refl _) _) hb3 (Nat.le_refl _)
set_option maxRecDepth 1000000 in
set_option maxHeartbeats 3200000 in
theorem near_main {s S A B : ByteArray} {p n P PA PB : Int} {k mx : Nat} (hN : NormC s p S P 0) (hS : S.size ≤ 900) (hP0 : -2000 ≤ P) (hP1 : P ≤ 2000) (hk : max 0 (min n 1000) = (k : Int)) (hk1 : k ≤ 1000)
    (hR1 : RoundC S P k A PA 0) (hR2 : RoundC A PA k B PB 0) (hPl : PlacesC S P ((k : Int) - P) A PA 0) (hH : HalfC A PA S P (P - k)) (hmx : max (k : Int) 1 = (mx : Int)) (hA : A.size ≤ mx) (hkk : k = 0 ∨ (0 < k ∧ B = A ∧ PB = PA)) (w : World) :
    Calls Tryd.prog 5 #[.agg #[.string s, .int .i64 p], .int .i64 n] w fun x w' => x = .returned (.bool true) ∧ Below w.heap.size w w' := by
  have hL := lives4_any
  have hI : ¬ 900 < (S.size : Int) := by omega
  have hI2 : ¬ P < -2000 := by omega
  have hI3 : ¬ 2000 < P := by omega
  have hAI : ¬ (mx : Int) < (A.size : Int) := by omega
  go_enter Tryd.func5, Tryd.ntmps5
  go_upto_region 4 with (go_at_call 11; refine (hN _).mono ?_; rintro x w2 ⟨rfl, hb2⟩; have bA := keepb hb2 (B := w.heap.size) (x := .string s) (y := .int .i64 p) (by simp [BoxD, go_sem]); obtain ⟨a0, a1, a2, a3⟩ := id bA; obtain ⟨y0, y1⟩ := bA.reads)
  have h2 : Below w.heap.size w w2 := bel_call (B := w.heap.size) (w := w) (by go_grown) hb2 (Nat.le_refl _)
  have bA' := bA.put (.string S) (.int .i64 P)
  have hbW := (h2.setCell (p := ⟨w.heap.size, 0, none⟩) (Nat.le_refl _) (.string S)).setCell (p := ⟨w.heap.size, 1, none⟩) (Nat.le_refl _) (.int .i64 P)
  generalize (w2.setCell ⟨w.heap.size, 0, none⟩ (.string S)).setCell ⟨w.heap.size, 1, none⟩ (.int .i64 P) = Ws at *
  clear hb2 bA a0 a1 a2 a3 y0 y1 h2
  obtain ⟨a0, a1, -, -⟩ := bA'
  have k0 : ∀ x : Cl Ws, x.w.cell? ⟨w.heap.size, 0, none⟩ = some (.string S) := fun x => x.cell a0
  have k1 : ∀ x : Cl Ws, x.w.cell? ⟨w.heap.size, 1, none⟩ = some (.int .i64 P) := fun x => x.cell a1
  have z0 : ∀ x : Cl Ws, w.heap.size < x.w.heap.size := fun x => World.block_lt_of_cell? x.w _ (k0 x)
  have hnx : ∀ w5, Below Ws.heap.size Ws w5 → ∃ y : Cl Ws, w5 = y.w := fun w5 h => ⟨⟨w5, h⟩, rfl⟩
  rcases hkk with hkz | ⟨hk0, rfl, rfl⟩
  · have hkI : ¬ 0 < (k : Int) := by omega
    clear hkz
    go_wp2_with (first
      | (go_at_call 12; (with_reducible refine (hR1 _).mono ?_); rintro x w5 ⟨rfl, hb5⟩; obtain ⟨y5, rfl⟩ := hnx _ hb5)
      | (go_at_call 12; (with_reducible refine (hR2 _).mono ?_); rintro x w6 ⟨rfl, hb6⟩; have bX := keepb hb6 (B := y5.w.heap.size) (x := .string A) (y := .int .i64 PA) (by simp [BoxD, go_sem]); obtain ⟨y6, rfl⟩ := Cl.after hb6; have hl5 : y5.w.heap.size < y6.w.heap.size := World.block_lt_of_cell? _ _ bX.1)
      | (go_at_call 13; refine (hPl _).mono ?_; rintro x w7 ⟨rfl, hb7⟩; have bX7 := keepb hb7 (B := y5.w.heap.size) (x := .string A) (y := .int .i64 PA) (by obtain ⟨q0, q1, q2, q3⟩ := bX; simp [BoxD, go_sem, q0, q1, q2, q3, hl5]); have bY7 := keepb hb7 (B := y6.w.heap.size) (x := .string B) (y := .int .i64 PB) (by simp [BoxD, go_sem]); obtain ⟨y7, rfl⟩ := Cl.after hb7; have hl57 : y5.w.heap.size < y7.w.heap.size := World.block_lt_of_cell? _ _ bX7.1; have hl67 : y6.w.heap.size < y7.w.heap.size := World.block_lt_of_cell? _ _ bY7.1; obtain ⟨m0, m1, m2, m3⟩ := id bX7; obtain ⟨n0, n1, n2, n3⟩ := id bY7)
      | (go_at_call 14; refine (hH _).mono ?_; rintro x w8 ⟨rfl, hb8⟩; obtain ⟨y8, rfl⟩ := Cl.after hb8)
      | (go_at_call 8; refine (Cl.go (hL _)).mono ?_; rintro x w9 ⟨y9, rfl, rfl⟩))
    go_ret
    exact ⟨rfl, bel_call hbW y9.below (Nat.le_refl _)⟩
  · have hkI : 0 < (k : Int) := by omega
    go_wp2_with (first
      | (go_at_call 12; (with_reducible refine (hR1 _).mono ?_); rintro x w5 ⟨rfl, hb5⟩; obtain ⟨y5, rfl⟩ := hnx _ hb5)
      | (go_at_call 12; (with_reducible refine (hR2 _).mono ?_); rintro x w6 ⟨rfl, hb6⟩; have bX := keepb hb6 (B := y5.w.heap.size) (x := .string B) (y := .int .i64 PB) (by simp [BoxD, go_sem]); obtain ⟨y6, rfl⟩ := Cl.after hb6; have hl5 : y5.w.heap.size < y6.w.heap.size := World.block_lt_of_cell? _ _ bX.1)
      | (go_at_call 13; refine (hPl _).mono ?_; rintro x w7 ⟨rfl, hb7⟩; have bX7 := keepb hb7 (B := y5.w.heap.size) (x := .string B) (y := .int .i64 PB) (by obtain ⟨q0, q1, q2, q3⟩ := bX; simp [BoxD, go_sem, q0, q1, q2, q3, hl5]); have bY7 := keepb hb7 (B := y6.w.heap.size) (x := .string B) (y := .int .i64 PB) (by simp [BoxD, go_sem]); obtain ⟨y7, rfl⟩ := Cl.after hb7; have hl57 : y5.w.heap.size < y7.w.heap.size := World.block_lt_of_cell? _ _ bX7.1; have hl67 : y6.w.heap.size < y7.w.heap.size := World.block_lt_of_cell? _ _ bY7.1; obtain ⟨m0, m1, m2, m3⟩ := id bX7; obtain ⟨n0, n1, n2, n3⟩ := id bY7)
      | (go_at_call 14; refine (hH _).mono ?_; rintro x w8 ⟨rfl, hb8⟩; obtain ⟨y8, rfl⟩ := Cl.after hb8)
      | (go_at_call 8; refine (Cl.go (hL _)).mono ?_; rintro x w9 ⟨y9, rfl, rfl⟩))
    go_ret
    exact ⟨rfl, bel_call hbW y9.below (Nat.le_refl _)⟩
theorem bigdecNear_walk (s : ByteArray) (p : Int) (hs : s.size ≤ 9223372036854775807) (_y : (Lit.int .i64 p).wf = true) (n : Int) (_yn : (Lit.int .i64 n).wf = true) (w : World) :
    Calls Tryd.prog 5 #[.agg #[.string s, .int .i64 p], .int .i64 n] w fun x w' => x = .returned (.bool true) ∧ Below w.heap.size w w' := by
  have hN := normC s p hs
  by_cases hE : normE s p = 0
  · rw [hE] at hN
    have nn := nrm_norm s p
    generalize normV s p = v at *
    have hz := oS_size v
    by_cases hf : 900 < (oS v).size ∨ ((oS v).size ≤ 900 ∧ oP v < -2000) ∨ ((oS v).size ≤ 900 ∧ 2000 < oP v)
    · exact near_far hN hf w
    · obtain ⟨k, hk, hk1⟩ : ∃ k : Nat, max 0 (min n 1000) = (k : Int) ∧ k ≤ 1000 := ⟨(max 0 (min n 1000)).toNat, by omega, by omega⟩
      obtain ⟨Q, hQ⟩ : ∃ Q : Nat, oP v - k + 10000 = (Q : Int) := ⟨(oP v - k + 10000).toNat, by omega⟩
      obtain ⟨J, hJ⟩ : ∃ J : Nat, (J : Int) = oP v + 9000 := ⟨(oP v + 9000).toNat, by omega⟩
      have hvK := (o_dec v).lt (q := Q + k) (by push_cast; omega)
      have hm := (o_dec v).mod (E := J) (by omega)
      obtain ⟨g1, g2, g3, g4, g5, g6, g7, d1, d2⟩ := near_good hvK (J := J) (by omega) hm (by omega) (by omega) (by omega)
      have hl := near_len hvK
      have hr := rnd_near (v := v) (n := k) hQ
      have hR1 := roundC (v := v) (k : Int) g1
      rw [hr] at hR1
      have hR2 := roundC (v := near v Q) (k : Int) g2
      have hpc : plc v ((k : Int) - oP v) = near v Q := by
        unfold plc
        rw [show oP v + min (max ((k : Int) - oP v) (-14000)) 14000 = (k : Int) by omega]; exact hr
      have hPl := placesC (v := v) ((k : Int) - oP v) g1
      rw [hpc] at hPl
      have hH : HalfC (oS (near v Q)) (oP (near v Q)) (oS v) (oP v) (oP v - k) := fun w => half_any (Q := Q) (by omega) g2 g1 g3 g4 g5 g6 g7 d1 d2 w
      refine near_main hN (by omega) (by omega) (by omega) hk hk1 hR1 hR2 hPl hH (mx := max k 1) (by omega) (by rw [oS_size]; exact hl) ?_ w
      rcases Nat.eq_zero_or_pos k with h0 | h0
      · exact .inl h0
      · have e : rnd (near v Q) k = near v Q := by
          unfold rnd
          rw [if_neg (by omega), if_pos (by omega)]
        rw [e]
        exact .inr ⟨h0, rfl, rfl⟩
  · have hv : normV s p = 0 := normV_err rfl hE
    rw [hv, zero_S, o_zero.2] at hN
    exact near_err hN hE w
end Go.Proofs.YtjfoknhoehamhabDoor
