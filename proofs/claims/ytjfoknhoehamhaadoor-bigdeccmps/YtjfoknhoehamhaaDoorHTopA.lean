/- The document's Cmp and Add. -/
import Derived.Test.YtjfoknhoehamhaaDoorHSum
namespace Go.Proofs.YtjfoknhoehamhaaDoor
open Go.RowKit
set_option linter.unusedVariables false
set_option linter.unusedSimpArgs false

def HNormC (s : ByteArray) (p : Int) (S : ByteArray) (P E : Int) : Prop := ∀ w, Calls Tryd.prog 10 #[.agg #[.string s, .int .i64 p]] w fun e w' => e = .returned (.tuple #[.agg #[.string S, .int .i64 P], .int .i64 E]) ∧ Below w.heap.size w w'
theorem hnormC (s : ByteArray) (p : Int) (hs : s.size ≤ 9223372036854775807) : HNormC s p (oS (normV s p)) (oP (normV s p)) (normE s p) := fun w => hnorm_any s p w hs
set_option maxRecDepth 1000000 in
set_option maxHeartbeats 800000 in
theorem hc_err1 {s1 s2 S1 : ByteArray} {p1 p2 P1 E1 : Int} (h1 : HNormC s1 p1 S1 P1 E1) (hE : ¬ E1 = 0) (w : World) :
    Calls Tryd.prog 15 #[.agg #[.string s1, .int .i64 p1], .agg #[.string s2, .int .i64 p2]] w fun e w' => e = .returned (.tuple #[.int .i64 0, .int .i64 E1]) ∧ Below w.heap.size w w' := by
  have hEb : (E1 != 0) = true := by simp [hE]
  go_enter Tryd.func15, Tryd.ntmps15
  go_wp2_with (go_at_call_of 10 s1; refine (h1 _).mono ?_; rintro e w2 ⟨rfl, hb2⟩)
  go_ret2
  refine ⟨rfl, ?_⟩
  have h0 := bel_call (B := w.heap.size) (w := w) (by go_grown) hb2 (Nat.le_refl _)
  exact h0.alloc h0.size _
set_option maxRecDepth 1000000 in
set_option maxHeartbeats 800000 in
theorem hc_err2 {s1 s2 S1 S2 : ByteArray} {p1 p2 P1 P2 E2 : Int} (h1 : HNormC s1 p1 S1 P1 0) (h2 : HNormC s2 p2 S2 P2 E2) (hE : ¬ E2 = 0) (w : World) :
    Calls Tryd.prog 15 #[.agg #[.string s1, .int .i64 p1], .agg #[.string s2, .int .i64 p2]] w fun e w' => e = .returned (.tuple #[.int .i64 0, .int .i64 E2]) ∧ Below w.heap.size w w' := by
  have hEb : (E2 != 0) = true := by simp [hE]
  go_enter Tryd.func15, Tryd.ntmps15
  go_wp2_with (first
    | (go_at_call_of 10 s1; refine (h1 _).mono ?_; rintro e w2 ⟨rfl, hb2⟩; have bB := keepb hb2 (B := w.heap.size + 1) (x := .string s2) (y := .int .i64 p2) (by simp [BoxD, go_sem]); obtain ⟨b0, b1, b2, b3⟩ := id bB; have hlt : w.heap.size + 1 < w2.heap.size := World.block_lt_of_cell? w2 _ b0)
    | (go_at_call_of 10 s2; refine (h2 _).mono ?_; rintro e w3 ⟨rfl, hb3⟩))
  go_ret2
  refine ⟨rfl, ?_⟩
  have h0 := bel_call (B := w.heap.size) (w := w) (by go_grown) hb2 (Nat.le_refl _)
  have h1 := bel_call (h0.alloc h0.size _) hb3 (Nat.le_refl _)
  exact h1.alloc h1.size _
set_option maxRecDepth 1000000 in
set_option maxHeartbeats 800000 in
theorem hc_ok {s1 s2 S1 S2 : ByteArray} {p1 p2 P1 P2 r : Int} (h1 : HNormC s1 p1 S1 P1 0) (h2 : HNormC s2 p2 S2 P2 0) (hC : ∀ w, Calls Tryd.prog 34 #[.agg #[.string S1, .int .i64 P1], .agg #[.string S2, .int .i64 P2]] w fun e w' => e = .returned (.int .i64 r) ∧ Below w.heap.size w w') (w : World) :
    Calls Tryd.prog 15 #[.agg #[.string s1, .int .i64 p1], .agg #[.string s2, .int .i64 p2]] w fun e w' => e = .returned (.tuple #[.int .i64 r, .int .i64 0]) ∧ Below w.heap.size w w' := by
  go_enter Tryd.func15, Tryd.ntmps15
  go_wp2_with (first
    | (go_at_call_of 10 s1; refine (h1 _).mono ?_; rintro e w2 ⟨rfl, hb2⟩; have bB := keepb hb2 (B := w.heap.size + 1) (x := .string s2) (y := .int .i64 p2) (by simp [BoxD, go_sem]); obtain ⟨b0, b1, b2, b3⟩ := id bB; have hlt : w.heap.size + 1 < w2.heap.size := World.block_lt_of_cell? w2 _ b0)
    | (go_at_call_of 10 s2; refine (h2 _).mono ?_; rintro e w3 ⟨rfl, hb3⟩; obtain ⟨x0, x1, x2, x3⟩ := keepb hb3 (B := w2.heap.size) (x := .string S1) (y := .int .i64 P1) (by simp [BoxD, go_sem]); have hlt2 : w2.heap.size < w3.heap.size := World.block_lt_of_cell? w3 _ x0)
    | (go_at_call 34; refine (hC _).mono ?_; rintro e w4 ⟨rfl, hb4⟩))
  go_ret2
  refine ⟨rfl, ?_⟩
  have h0 := bel_call (B := w.heap.size) (w := w) (by go_grown) hb2 (Nat.le_refl _)
  have h1 := bel_call (h0.alloc h0.size _) hb3 (Nat.le_refl _)
  exact bel_call (h1.alloc h1.size _) hb4 (Nat.le_refl _)
/-- What the document's Cmp answers. -/
theorem hcmp_any (s1 s2 : ByteArray) (p1 p2 : Int) (w : World) (hs1 : s1.size ≤ 9223372036854775807) (hs2 : s2.size ≤ 9223372036854775807) :
    Calls Tryd.prog 15 #[.agg #[.string s1, .int .i64 p1], .agg #[.string s2, .int .i64 p2]] w fun e w' => e = .returned (.tuple #[.int .i64 (if bE (normE s1 p1) (normE s2 p2) = 0 then ordN (normV s1 p1) (normV s2 p2) else 0), .int .i64 (bE (normE s1 p1) (normE s2 p2))]) ∧ Below w.heap.size w w' := by
  have h1 := hnormC s1 p1 hs1
  have h2 := hnormC s2 p2 hs2
  have n1 := nrm_norm s1 p1
  have n2 := nrm_norm s2 p2
  by_cases e1 : normE s1 p1 = 0
  · rw [e1] at h1
    have eb : bE (normE s1 p1) (normE s2 p2) = normE s2 p2 := if_pos e1
    rw [eb]
    by_cases e2 : normE s2 p2 = 0
    · rw [e2] at h2
      rw [e2, if_pos rfl]
      exact hc_ok h1 h2 (fun w => hcompare_any _ _ w (by have := n1.len; omega) (by have := n2.len; omega) (by have := n1.pt; omega) (by have := n2.pt; omega)) w
    · rw [if_neg e2]
      exact hc_err2 h1 h2 e2 w
  · have eb : bE (normE s1 p1) (normE s2 p2) = normE s1 p1 := if_neg e1
    rw [eb, if_neg e1]
    exact hc_err1 h1 e1 w

set_option maxRecDepth 1000000 in
set_option maxHeartbeats 800000 in
theorem ha_err1 {s1 s2 S1 : ByteArray} {p1 p2 P1 E1 : Int} (h1 : HNormC s1 p1 S1 P1 E1) (hE : ¬ E1 = 0) (w : World) :
    Calls Tryd.prog 17 #[.agg #[.string s1, .int .i64 p1], .agg #[.string s2, .int .i64 p2]] w fun e w' => e = .returned (.tuple #[.agg #[.string ⟨#[]⟩, .int .i64 0], .int .i64 E1]) ∧ Below w.heap.size w w' := by
  have hEb : (E1 != 0) = true := by simp [hE]
  go_enter Tryd.func17, Tryd.ntmps17
  go_wp2_with (go_at_call_of 10 s1; refine (h1 _).mono ?_; rintro e w2 ⟨rfl, hb2⟩; have bR := keepb hb2 (B := w.heap.size + 2) (x := .string ⟨#[]⟩) (y := .int .i64 0) (by simp [BoxD, go_sem]); obtain ⟨r0, r1, r2, r3⟩ := id bR; have hlt : w.heap.size + 2 < w2.heap.size := World.block_lt_of_cell? w2 _ r0)
  refine bodyPost_ret (by simp [results, Tryd.results17, go_sem, cs_same, r0, r1, hlt]; rfl) rfl ?_
  refine ⟨rfl, ?_⟩
  have h0 := bel_call (B := w.heap.size) (w := w) (by go_grown) hb2 (Nat.le_refl _)
  refine Below.alloc ?_ (by simp; omega) _
  iterate 2 (refine Below.setCell ?_ (by dsimp only; omega) _)
  exact h0
set_option maxRecDepth 1000000 in
set_option maxHeartbeats 800000 in
theorem ha_err2 {s1 s2 S1 S2 : ByteArray} {p1 p2 P1 P2 E2 : Int} (h1 : HNormC s1 p1 S1 P1 0) (h2 : HNormC s2 p2 S2 P2 E2) (hE : ¬ E2 = 0) (w : World) :
    Calls Tryd.prog 17 #[.agg #[.string s1, .int .i64 p1], .agg #[.string s2, .int .i64 p2]] w fun e w' => e = .returned (.tuple #[.agg #[.string ⟨#[]⟩, .int .i64 0], .int .i64 E2]) ∧ Below w.heap.size w w' := by
  have hEb : (E2 != 0) = true := by simp [hE]
  go_enter Tryd.func17, Tryd.ntmps17
  go_wp2_with (first
    | (go_at_call_of 10 s1; refine (h1 _).mono ?_; rintro e w2 ⟨rfl, hb2⟩; have bB := keepb hb2 (B := w.heap.size + 1) (x := .string s2) (y := .int .i64 p2) (by simp [BoxD, go_sem]); obtain ⟨b0, b1, b2, b3⟩ := id bB; have bR := keepb hb2 (B := w.heap.size + 2) (x := .string ⟨#[]⟩) (y := .int .i64 0) (by simp [BoxD, go_sem]); have hlt : w.heap.size + 2 < w2.heap.size := World.block_lt_of_cell? w2 _ bR.1; have hlt1 : w.heap.size + 1 < w2.heap.size := (by omega))
    | (go_at_call_of 10 s2; refine (h2 _).mono ?_; rintro e w3 ⟨rfl, hb3⟩; have bR3 := keepb hb3 (B := w.heap.size + 2) (x := .string ⟨#[]⟩) (y := .int .i64 0) (by obtain ⟨q0, q1, q2, q3⟩ := bR; simp [BoxD, go_sem, q0, q1, q2, q3, hlt]); obtain ⟨r0, r1, r2, r3⟩ := id bR3; have hlt3 : w.heap.size + 2 < w3.heap.size := World.block_lt_of_cell? w3 _ r0))
  refine bodyPost_ret (by simp [results, Tryd.results17, go_sem, cs_same, r0, r1, hlt3]; rfl) rfl ?_
  refine ⟨rfl, ?_⟩
  have h0 := bel_call (B := w.heap.size) (w := w) (by go_grown) hb2 (Nat.le_refl _)
  have h1 := bel_call (h0.alloc h0.size _) hb3 (Nat.le_refl _)
  refine Below.alloc ?_ (by simp; omega) _
  iterate 2 (refine Below.setCell ?_ (by dsimp only; omega) _)
  exact h1
set_option maxRecDepth 1000000 in
set_option maxHeartbeats 1600000 in
theorem ha_ok {s1 s2 S1 S2 S : ByteArray} {p1 p2 P1 P2 P : Int} (h1 : HNormC s1 p1 S1 P1 0) (h2 : HNormC s2 p2 S2 P2 0) (hC : ∀ w, Calls Tryd.prog 36 #[.agg #[.string S1, .int .i64 P1], .agg #[.string S2, .int .i64 P2]] w fun e w' => e = .returned (.agg #[.string S, .int .i64 P]) ∧ Below w.heap.size w w') (hS : S.size ≤ 2000) (w : World) :
    Calls Tryd.prog 17 #[.agg #[.string s1, .int .i64 p1], .agg #[.string s2, .int .i64 p2]] w fun e w' => e = .returned (.tuple #[.agg #[.string S, .int .i64 P], .int .i64 0]) ∧ Below w.heap.size w w' := by
  have hSI : ¬ 2000 < (S.size : Int) := by omega
  go_enter Tryd.func17, Tryd.ntmps17
  go_wp2_with (first
    | (go_at_call_of 10 s1; refine (h1 _).mono ?_; rintro e w2 ⟨rfl, hb2⟩; have bB := keepb hb2 (B := w.heap.size + 1) (x := .string s2) (y := .int .i64 p2) (by simp [BoxD, go_sem]); obtain ⟨b0, b1, b2, b3⟩ := id bB; have bR := keepb hb2 (B := w.heap.size + 2) (x := .string ⟨#[]⟩) (y := .int .i64 0) (by simp [BoxD, go_sem]); have hlt : w.heap.size + 2 < w2.heap.size := World.block_lt_of_cell? w2 _ bR.1; have hlt1 : w.heap.size + 1 < w2.heap.size := (by omega))
    | (go_at_call_of 10 s2; refine (h2 _).mono ?_; rintro e w3 ⟨rfl, hb3⟩; have bR3 := keepb hb3 (B := w.heap.size + 2) (x := .string ⟨#[]⟩) (y := .int .i64 0) (by obtain ⟨q0, q1, q2, q3⟩ := bR; simp [BoxD, go_sem, q0, q1, q2, q3, hlt]); obtain ⟨x0, x1, x2, x3⟩ := keepb hb3 (B := w2.heap.size) (x := .string S1) (y := .int .i64 P1) (by simp [BoxD, go_sem]); have hlt2 : w2.heap.size < w3.heap.size := World.block_lt_of_cell? w3 _ x0; have hlt3 : w.heap.size + 2 < w3.heap.size := (by omega))
    | (go_at_call 36; refine (hC _).mono ?_; rintro e w4 ⟨rfl, hb4⟩; have bR4 := keepb hb4 (B := w.heap.size + 2) (x := .string ⟨#[]⟩) (y := .int .i64 0) (by obtain ⟨q0, q1, q2, q3⟩ := bR3; simp [BoxD, go_sem, q0, q1, q2, q3, hlt3]); obtain ⟨r0, r1, r2, r3⟩ := id bR4; have hlt4 : w.heap.size + 2 < w4.heap.size := World.block_lt_of_cell? w4 _ r0; have hne : ¬ w4.heap.size = w.heap.size + 2 := (by omega); have hne2 : ¬ w.heap.size + 2 = w4.heap.size := (by omega)))
  refine bodyPost_ret (by simp [results, Tryd.results17, go_sem, cs_same, r0, r1, hlt4]; rfl) rfl ?_
  refine ⟨rfl, ?_⟩
  have h0 := bel_call (B := w.heap.size) (w := w) (by go_grown) hb2 (Nat.le_refl _)
  have h1 := bel_call (h0.alloc h0.size _) hb3 (Nat.le_refl _)
  have h2 := bel_call (h1.alloc h1.size _) hb4 (Nat.le_refl _)
  refine Below.alloc ?_ (by simp; omega) _
  iterate 2 (refine Below.setCell ?_ (by dsimp only; omega) _)
  exact h2
set_option maxRecDepth 1000000 in
set_option maxHeartbeats 1600000 in
theorem ha_big {s1 s2 S1 S2 S : ByteArray} {p1 p2 P1 P2 P : Int} (h1 : HNormC s1 p1 S1 P1 0) (h2 : HNormC s2 p2 S2 P2 0) (hC : ∀ w, Calls Tryd.prog 36 #[.agg #[.string S1, .int .i64 P1], .agg #[.string S2, .int .i64 P2]] w fun e w' => e = .returned (.agg #[.string S, .int .i64 P]) ∧ Below w.heap.size w w') (hS : 2000 < S.size) (w : World) :
    Calls Tryd.prog 17 #[.agg #[.string s1, .int .i64 p1], .agg #[.string s2, .int .i64 p2]] w fun e w' => e = .returned (.tuple #[.agg #[.string ⟨#[]⟩, .int .i64 0], .int .i64 2]) ∧ Below w.heap.size w w' := by
  have hSI : 2000 < (S.size : Int) := by omega
  go_enter Tryd.func17, Tryd.ntmps17
  go_wp2_with (first
    | (go_at_call_of 10 s1; refine (h1 _).mono ?_; rintro e w2 ⟨rfl, hb2⟩; have bB := keepb hb2 (B := w.heap.size + 1) (x := .string s2) (y := .int .i64 p2) (by simp [BoxD, go_sem]); obtain ⟨b0, b1, b2, b3⟩ := id bB; have bR := keepb hb2 (B := w.heap.size + 2) (x := .string ⟨#[]⟩) (y := .int .i64 0) (by simp [BoxD, go_sem]); have hlt : w.heap.size + 2 < w2.heap.size := World.block_lt_of_cell? w2 _ bR.1; have hlt1 : w.heap.size + 1 < w2.heap.size := (by omega))
    | (go_at_call_of 10 s2; refine (h2 _).mono ?_; rintro e w3 ⟨rfl, hb3⟩; have bR3 := keepb hb3 (B := w.heap.size + 2) (x := .string ⟨#[]⟩) (y := .int .i64 0) (by obtain ⟨q0, q1, q2, q3⟩ := bR; simp [BoxD, go_sem, q0, q1, q2, q3, hlt]); obtain ⟨x0, x1, x2, x3⟩ := keepb hb3 (B := w2.heap.size) (x := .string S1) (y := .int .i64 P1) (by simp [BoxD, go_sem]); have hlt2 : w2.heap.size < w3.heap.size := World.block_lt_of_cell? w3 _ x0; have hlt3 : w.heap.size + 2 < w3.heap.size := (by omega))
    | (go_at_call 36; refine (hC _).mono ?_; rintro e w4 ⟨rfl, hb4⟩; have bR4 := keepb hb4 (B := w.heap.size + 2) (x := .string ⟨#[]⟩) (y := .int .i64 0) (by obtain ⟨q0, q1, q2, q3⟩ := bR3; simp [BoxD, go_sem, q0, q1, q2, q3, hlt3]); obtain ⟨r0, r1, r2, r3⟩ := id bR4; have hlt4 : w.heap.size + 2 < w4.heap.size := World.block_lt_of_cell? w4 _ r0; have hne : ¬ w4.heap.size = w.heap.size + 2 := (by omega); have hne2 : ¬ w.heap.size + 2 = w4.heap.size := (by omega)))
  refine bodyPost_ret (by simp [results, Tryd.results17, go_sem, cs_same, r0, r1, hlt4]; rfl) rfl ?_
  refine ⟨rfl, ?_⟩
  have h0 := bel_call (B := w.heap.size) (w := w) (by go_grown) hb2 (Nat.le_refl _)
  have h1 := bel_call (h0.alloc h0.size _) hb3 (Nat.le_refl _)
  have h2 := bel_call (h1.alloc h1.size _) hb4 (Nat.le_refl _)
  refine Below.alloc ?_ (by simp; omega) _
  iterate 2 (refine Below.setCell ?_ (by dsimp only; omega) _)
  exact h2
/-- What the document's Add answers. -/
theorem hadd_any (s1 s2 : ByteArray) (p1 p2 : Int) (w : World) (hs1 : s1.size ≤ 9223372036854775807) (hs2 : s2.size ≤ 9223372036854775807) :
    Calls Tryd.prog 17 #[.agg #[.string s1, .int .i64 p1], .agg #[.string s2, .int .i64 p2]] w fun e w' => e = .returned (.tuple #[.agg #[.string (oS (aV (bE (normE s1 p1) (normE s2 p2)) (normV s1 p1 + normV s2 p2))), .int .i64 (oP (aV (bE (normE s1 p1) (normE s2 p2)) (normV s1 p1 + normV s2 p2)))], .int .i64 (aE (bE (normE s1 p1) (normE s2 p2)) (normV s1 p1 + normV s2 p2))]) ∧ Below w.heap.size w w' := by
  have h1 := hnormC s1 p1 hs1
  have h2 := hnormC s2 p2 hs2
  have n1 := nrm_norm s1 p1
  have n2 := nrm_norm s2 p2
  have hz := oS_size (normV s1 p1 + normV s2 p2)
  by_cases e1 : normE s1 p1 = 0
  · rw [e1] at h1
    have eb : bE (normE s1 p1) (normE s2 p2) = normE s2 p2 := if_pos e1
    rw [eb]
    by_cases e2 : normE s2 p2 = 0
    · rw [e2] at h2
      rw [e2]
      have hC := fun w => hsum_any (normV s1 p1) (normV s2 p2) w (by have := n1.len; omega) (by have := n2.len; omega) (by have := n1.pt; omega) (by have := n2.pt; omega)
      by_cases hl : 2000 < (oL (normV s1 p1 + normV s2 p2)).length
      · have a1 : aE 0 (normV s1 p1 + normV s2 p2) = 2 := by unfold aE; rw [if_pos rfl, if_pos hl]
        have a2 : aV 0 (normV s1 p1 + normV s2 p2) = 0 := by unfold aV; rw [a1]; rfl
        rw [a1, a2, zero_S, o_zero.2]
        exact ha_big h1 h2 hC (by omega) w
      · have a1 : aE 0 (normV s1 p1 + normV s2 p2) = 0 := by unfold aE; rw [if_pos rfl, if_neg hl]
        have a2 : aV 0 (normV s1 p1 + normV s2 p2) = normV s1 p1 + normV s2 p2 := by unfold aV; rw [a1]; rfl
        rw [a1, a2]
        exact ha_ok h1 h2 hC (by omega) w
    · have a1 : aE (normE s2 p2) (normV s1 p1 + normV s2 p2) = normE s2 p2 := by unfold aE; rw [if_neg e2]
      have a2 : aV (normE s2 p2) (normV s1 p1 + normV s2 p2) = 0 := by unfold aV; rw [a1, if_neg e2]
      rw [a1, a2, zero_S, o_zero.2]
      exact ha_err2 h1 h2 e2 w
  · have eb : bE (normE s1 p1) (normE s2 p2) = normE s1 p1 := if_neg e1
    rw [eb]
    have a1 : aE (normE s1 p1) (normV s1 p1 + normV s2 p2) = normE s1 p1 := by unfold aE; rw [if_neg e1]
    have a2 : aV (normE s1 p1) (normV s1 p1 + normV s2 p2) = 0 := by unfold aV; rw [a1, if_neg e1]
    rw [a1, a2, zero_S, o_zero.2]
    exact ha_err1 h1 e1 w
end Go.Proofs.YtjfoknhoehamhaaDoor
