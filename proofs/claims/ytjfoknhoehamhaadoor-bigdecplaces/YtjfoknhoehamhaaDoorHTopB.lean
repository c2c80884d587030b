/- The document's Round and Places. -/
import Derived.Test.YtjfoknhoehamhaaDoorHNear
namespace Go.Proofs.YtjfoknhoehamhaaDoor
open Go.RowKit
set_option linter.unusedVariables false
set_option linter.unusedSimpArgs false

def HNearC (S : ByteArray) (P p : Int) (S2 : ByteArray) (P2 : Int) : Prop := ∀ w, Calls Tryd.prog 38 #[.agg #[.string S, .int .i64 P], .int .i64 p] w fun e w' => e = .returned (.agg #[.string S2, .int .i64 P2]) ∧ Below w.heap.size w w'
theorem hnearC {v : Nat} (hn : Nrm v) (p : Int) (hp0 : -30000 ≤ p) (hp1 : p ≤ 30000) : HNearC (oS v) (oP v) p (oS (nst v p)) (oP (nst v p)) := fun w => by
  have hlen := hn.len
  have hpt := hn.pt
  have hlow := hn.low
  have hz := oS_size v
  have hl : HLowC (oS v) (oP v) (oP v - (oS v).size) := fun w => hlow_any (oS v) (oP v) w (by omega) (by omega) (by omega)
  by_cases h1 : p ≤ oP v - (oL v).length
  · have e : nst v p = v := by unfold nst; rw [if_pos (.inl h1)]
    rw [e]
    exact hn_whole _ _ p _ w hl (by omega)
  by_cases h2 : oL v = []
  · have e : nst v p = v := by unfold nst; rw [if_pos (.inr h2)]
    rw [e]
    exact hn_nil _ _ p _ w hl (by omega) (by rw [hz, h2]; rfl)
  have hpos : 0 < (oS v).size := by
    rw [hz]
    rcases Nat.eq_zero_or_pos (oL v).length with h | h
    · exact absurd (List.eq_nil_of_length_eq_zero h) h2
    · exact h
  by_cases h3 : oP v - p < 0
  · have e : nst v p = 0 := by unfold nst; rw [if_neg (by intro h; rcases h with h | h; exact h1 h; exact h2 h), if_pos h3]
    rw [e, zero_S, o_zero.2]
    exact hn_zero _ _ p _ w hl (by omega) hpos h3 (by omega) (by omega) (by omega) (by omega)
  obtain ⟨Q, hQ⟩ : ∃ Q : Nat, p + 10000 = (Q : Int) := ⟨(p + 10000).toNat, by omega⟩
  have e : nst v p = near v Q := by
    unfold nst; rw [if_neg (by intro h; rcases h with h | h; exact h1 h; exact h2 h), if_neg h3, hQ]; rfl
  obtain ⟨k, hk⟩ : ∃ k : Nat, oP v - p = (k : Int) := ⟨(oP v - p).toNat, by omega⟩
  have hkl : k < (oL v).length := by omega
  obtain ⟨T, hT⟩ : ∃ T : Nat, T = 15000 := ⟨_, rfl⟩
  have hvT := (o_dec v).lt (q := T) (by omega)
  have hQT : (10 : Nat) ^ Q ≤ 10 ^ T := Nat.pow_le_pow_right (by decide) (by omega)
  have hbv : v / 10 ^ Q * 10 ^ Q ≤ v := Nat.div_mul_le_self _ _
  have hpT : (10 : Nat) ^ (T + 1) = 10 ^ T * 10 := Nat.pow_succ ..
  have sv := small_b (n := v) (T := T + 1) (by omega) (by omega)
  have sb := small_b (n := v / 10 ^ Q * 10 ^ Q) (T := T + 1) (by omega) (by omega)
  have s1 := small_b (n := 10 ^ Q) (T := T + 1) (by omega) (by omega)
  have sa := small_b (n := v / 10 ^ Q * 10 ^ Q + 10 ^ Q) (T := T + 1) (by omega) (by omega)
  have sd := small_b (n := v + v) (T := T + 1) (by omega) (by omega)
  have se := small_b (n := v / 10 ^ Q * 10 ^ Q + (v / 10 ^ Q * 10 ^ Q + 10 ^ Q)) (T := T + 1) (by omega) (by omega)
  obtain ⟨o1, o2⟩ := one_D p Q hQ
  have htk := take_V (o_dec v) k (by omega) Q (by omega)
  have hTl : ((oS v).extract 0 k).data.toList = (oL v).take k := ext_list (oS v) k
  have hTs : ((oS v).extract 0 k).size = k := ext_size1 (oS v) k (by omega)
  have hI : HInC ((oS v).extract 0 k) (oP v) (oS (v / 10 ^ Q * 10 ^ Q)) (oP (v / 10 ^ Q * 10 ^ Q)) := fun w => by
    have := hin_any ((oS v).extract 0 k) (oP v) w (by rw [hTl]; exact allD_of fun x hx => allD_mem (o_dec v).dig (List.mem_of_mem_take hx)) (by omega) (by omega) (by omega)
    rw [hTl, htk] at this
    exact this
  have hSA : HSumC (oS (v / 10 ^ Q * 10 ^ Q)) (oP (v / 10 ^ Q * 10 ^ Q)) ⟨#[49]⟩ (p + 1) (oS (v / 10 ^ Q * 10 ^ Q + 10 ^ Q)) (oP (v / 10 ^ Q * 10 ^ Q + 10 ^ Q)) := fun w => by
    have := hsum_any (v / 10 ^ Q * 10 ^ Q) (10 ^ Q) w (by omega) (by omega) (by omega) (by omega)
    rw [o1, o2] at this
    exact this
  have hSD : HSumC (oS v) (oP v) (oS v) (oP v) (oS (v + v)) (oP (v + v)) := fun w => hsum_any v v w (by omega) (by omega) (by omega) (by omega)
  have hSE : HSumC (oS (v / 10 ^ Q * 10 ^ Q)) (oP (v / 10 ^ Q * 10 ^ Q)) (oS (v / 10 ^ Q * 10 ^ Q + 10 ^ Q)) (oP (v / 10 ^ Q * 10 ^ Q + 10 ^ Q)) (oS (v / 10 ^ Q * 10 ^ Q + (v / 10 ^ Q * 10 ^ Q + 10 ^ Q))) (oP (v / 10 ^ Q * 10 ^ Q + (v / 10 ^ Q * 10 ^ Q + 10 ^ Q))) := fun w => hsum_any _ _ w (by omega) (by omega) (by omega) (by omega)
  have hC : HCompC (oS (v + v)) (oP (v + v)) (oS (v / 10 ^ Q * 10 ^ Q + (v / 10 ^ Q * 10 ^ Q + 10 ^ Q))) (oP (v / 10 ^ Q * 10 ^ Q + (v / 10 ^ Q * 10 ^ Q + 10 ^ Q))) (ordN (v + v) (v / 10 ^ Q * 10 ^ Q + (v / 10 ^ Q * 10 ^ Q + 10 ^ Q))) := fun w => hcompare_any _ _ w (by omega) (by omega) (by omega) (by omega)
  have hD : HDigC (oS (v / 10 ^ Q * 10 ^ Q)) (oP (v / 10 ^ Q * 10 ^ Q)) p (v / 10 ^ Q * 10 ^ Q / 10 ^ Q % 10) := fun w => hdigit_any _ p Q w hQ (by omega) (by omega) (by omega)
  obtain ⟨m1, m2, m3, m4⟩ := near_cmp v Q
  have hm := hn_main w hl (by omega) hpos hk (by omega) rfl hI hSA hSD hSE hC hD (Nat.mod_lt _ (by decide)) (by omega) (by omega) (by omega) (by omega)
  rw [e]
  by_cases r1 : ordN (v + v) (v / 10 ^ Q * 10 ^ Q + (v / 10 ^ Q * 10 ^ Q + 10 ^ Q)) < 0
  · rw [if_pos (.inl r1)] at hm
    rw [m1 r1]; exact hm
  by_cases r2 : ordN (v + v) (v / 10 ^ Q * 10 ^ Q + (v / 10 ^ Q * 10 ^ Q + 10 ^ Q)) = 0
  · by_cases r3 : v / 10 ^ Q * 10 ^ Q / 10 ^ Q % 10 % 2 = 0
    · rw [if_pos (.inr ⟨r2, r3⟩)] at hm
      rw [m2 r2 r3]; exact hm
    · rw [if_neg (by intro h; rcases h with h | h; exact r1 h; exact r3 h.2)] at hm
      rw [m3 r2 r3]; exact hm
  · rw [if_neg (by intro h; rcases h with h | h; exact r1 h; exact r2 h.1)] at hm
    rw [m4 (by omega)]; exact hm
set_option maxRecDepth 1000000 in
set_option maxHeartbeats 800000 in
theorem hr_err {s S : ByteArray} {p P E : Int} (n : Int) (hN : HNormC s p S P E) (hE : ¬ E = 0) (w : World) :
    Calls Tryd.prog 19 #[.agg #[.string s, .int .i64 p], .int .i64 n] w fun e w' => e = .returned (.tuple #[.agg #[.string ⟨#[]⟩, .int .i64 0], .int .i64 E]) ∧ Below w.heap.size w w' := by
  have hEb : (E != 0) = true := by simp [hE]
  go_enter Tryd.func19, Tryd.ntmps19
  go_wp2_with (first
    | (go_at_call 10; refine (hN _).mono ?_; rintro e w2 ⟨rfl, hb2⟩; have bR := keepb hb2 (B := w.heap.size + 1) (x := .string ⟨#[]⟩) (y := .int .i64 0) (by simp [BoxD, go_sem]); obtain ⟨r0, r1, r2, r3⟩ := id bR; have hlt : w.heap.size + 1 < w2.heap.size := World.block_lt_of_cell? w2 _ r0; have hne : ¬ w2.heap.size = w.heap.size + 1 := (by omega); have hne2 : ¬ w.heap.size + 1 = w2.heap.size := (by omega)))
  refine bodyPost_ret (by simp [results, Tryd.results19, go_sem, cs_same, r0, r1, hlt]; rfl) rfl ?_
  refine ⟨rfl, ?_⟩
  have h0 := bel_call (B := w.heap.size) (w := w) (by go_grown) hb2 (Nat.le_refl _)
  refine Below.alloc ?_ (by simp; omega) _
  iterate 2 (refine Below.setCell ?_ (by dsimp only; omega) _)
  exact h0
set_option maxRecDepth 1000000 in
set_option maxHeartbeats 800000 in
theorem hr_low {s S : ByteArray} {p P : Int} (n : Int) (hN : HNormC s p S P 0) (h1 : n < 0) (w : World) :
    Calls Tryd.prog 19 #[.agg #[.string s, .int .i64 p], .int .i64 n] w fun e w' => e = .returned (.tuple #[.agg #[.string ⟨#[]⟩, .int .i64 0], .int .i64 0]) ∧ Below w.heap.size w w' := by
  go_enter Tryd.func19, Tryd.ntmps19
  go_wp2_with (first
    | (go_at_call 10; refine (hN _).mono ?_; rintro e w2 ⟨rfl, hb2⟩; have bR := keepb hb2 (B := w.heap.size + 1) (x := .string ⟨#[]⟩) (y := .int .i64 0) (by simp [BoxD, go_sem]); obtain ⟨r0, r1, r2, r3⟩ := id bR; have hlt : w.heap.size + 1 < w2.heap.size := World.block_lt_of_cell? w2 _ r0; have hne : ¬ w2.heap.size = w.heap.size + 1 := (by omega); have hne2 : ¬ w.heap.size + 1 = w2.heap.size := (by omega)))
  refine bodyPost_ret (by simp [results, Tryd.results19, go_sem, cs_same, r0, r1, hlt]; rfl) rfl ?_
  refine ⟨rfl, ?_⟩
  have h0 := bel_call (B := w.heap.size) (w := w) (by go_grown) hb2 (Nat.le_refl _)
  refine Below.alloc ?_ (by simp; omega) _
  iterate 2 (refine Below.setCell ?_ (by dsimp only; omega) _)
  exact h0
set_option maxRecDepth 1000000 in
set_option maxHeartbeats 800000 in
theorem hr_high {s S : ByteArray} {p P : Int} (n : Int) (hN : HNormC s p S P 0) (h1 : ¬ n < 0) (h2 : 2000 < n) (w : World) :
    Calls Tryd.prog 19 #[.agg #[.string s, .int .i64 p], .int .i64 n] w fun e w' => e = .returned (.tuple #[.agg #[.string S, .int .i64 P], .int .i64 0]) ∧ Below w.heap.size w w' := by
  go_enter Tryd.func19, Tryd.ntmps19
  go_wp2_with (first
    | (go_at_call 10; refine (hN _).mono ?_; rintro e w2 ⟨rfl, hb2⟩; have bR := keepb hb2 (B := w.heap.size + 1) (x := .string ⟨#[]⟩) (y := .int .i64 0) (by simp [BoxD, go_sem]); obtain ⟨r0, r1, r2, r3⟩ := id bR; have hlt : w.heap.size + 1 < w2.heap.size := World.block_lt_of_cell? w2 _ r0; have hne : ¬ w2.heap.size = w.heap.size + 1 := (by omega); have hne2 : ¬ w.heap.size + 1 = w2.heap.size := (by omega)))
  refine bodyPost_ret (by simp [results, Tryd.results19, go_sem, cs_same, r0, r1, hlt]; rfl) rfl ?_
  refine ⟨rfl, ?_⟩
  have h0 := bel_call (B := w.heap.size) (w := w) (by go_grown) hb2 (Nat.le_refl _)
  refine Below.alloc ?_ (by simp; omega) _
  iterate 2 (refine Below.setCell ?_ (by dsimp only; omega) _)
  exact h0
set_option maxRecDepth 1000000 in
set_option maxHeartbeats 800000 in
theorem hr_mid {s S S2 : ByteArray} {p P P2 n : Int} (hN : HNormC s p S P 0) (h1 : ¬ n < 0) (h2 : ¬ 2000 < n) (hR : HNearC S P (P - n) S2 P2) (hP0 : -100000 ≤ P) (hP1 : P ≤ 100000) (w : World) :
    Calls Tryd.prog 19 #[.agg #[.string s, .int .i64 p], .int .i64 n] w fun e w' => e = .returned (.tuple #[.agg #[.string S2, .int .i64 P2], .int .i64 0]) ∧ Below w.heap.size w w' := by
  go_enter Tryd.func19, Tryd.ntmps19
  go_wp2_with (first
    | (go_at_call 10; refine (hN _).mono ?_; rintro e w2 ⟨rfl, hb2⟩; have bR := keepb hb2 (B := w.heap.size + 1) (x := .string ⟨#[]⟩) (y := .int .i64 0) (by simp [BoxD, go_sem]); have hlt : w.heap.size + 1 < w2.heap.size := World.block_lt_of_cell? w2 _ bR.1)
    | (go_at_call 38; refine (hR _).mono ?_; rintro e w3 ⟨rfl, hb3⟩; obtain ⟨r0, r1, r2, r3⟩ := keepb hb3 (B := w.heap.size + 1) (x := .string ⟨#[]⟩) (y := .int .i64 0) (by obtain ⟨q0, q1, q2, q3⟩ := bR; simp [BoxD, go_sem, q0, q1, q2, q3, hlt])))
  refine bodyPost_ret (by simp [results, Tryd.results19, go_sem, cs_same, r0, r1]; rfl) rfl ?_
  refine ⟨rfl, ?_⟩
  have h0 := bel_call (B := w.heap.size) (w := w) (by go_grown) hb2 (Nat.le_refl _)
  have h1 := bel_call (h0.alloc h0.size _) hb3 (Nat.le_refl _)
  iterate 2 (refine Below.setCell ?_ (by dsimp only; omega) _)
  exact h1
set_option maxRecDepth 1000000 in
set_option maxHeartbeats 800000 in
theorem hp_err {s S : ByteArray} {p P E : Int} (n : Int) (hN : HNormC s p S P E) (hE : ¬ E = 0) (w : World) :
    Calls Tryd.prog 21 #[.agg #[.string s, .int .i64 p], .int .i64 n] w fun e w' => e = .returned (.tuple #[.agg #[.string ⟨#[]⟩, .int .i64 0], .int .i64 E]) ∧ Below w.heap.size w w' := by
  have hEb : (E != 0) = true := by simp [hE]
  go_enter Tryd.func21, Tryd.ntmps21
  go_wp2_with (first
    | (go_at_call 10; refine (hN _).mono ?_; rintro e w2 ⟨rfl, hb2⟩; have bR := keepb hb2 (B := w.heap.size + 1) (x := .string ⟨#[]⟩) (y := .int .i64 0) (by simp [BoxD, go_sem]); obtain ⟨r0, r1, r2, r3⟩ := id bR; have hlt : w.heap.size + 1 < w2.heap.size := World.block_lt_of_cell? w2 _ r0; have hne : ¬ w2.heap.size = w.heap.size + 1 := (by omega); have hne2 : ¬ w.heap.size + 1 = w2.heap.size := (by omega)))
  refine bodyPost_ret (by simp [results, Tryd.results21, go_sem, cs_same, r0, r1, hlt]; rfl) rfl ?_
  refine ⟨rfl, ?_⟩
  have h0 := bel_call (B := w.heap.size) (w := w) (by go_grown) hb2 (Nat.le_refl _)
  refine Below.alloc ?_ (by simp; omega) _
  iterate 2 (refine Below.setCell ?_ (by dsimp only; omega) _)
  exact h0
set_option maxRecDepth 1000000 in
set_option maxHeartbeats 800000 in
theorem hp_low {s S : ByteArray} {p P : Int} (n : Int) (hN : HNormC s p S P 0) (h1 : n < -20000) (w : World) :
    Calls Tryd.prog 21 #[.agg #[.string s, .int .i64 p], .int .i64 n] w fun e w' => e = .returned (.tuple #[.agg #[.string ⟨#[]⟩, .int .i64 0], .int .i64 0]) ∧ Below w.heap.size w w' := by
  have h2 : ¬ 20000 < n := by omega
  go_enter Tryd.func21, Tryd.ntmps21
  go_wp2_with (first
    | (go_at_call 10; refine (hN _).mono ?_; rintro e w2 ⟨rfl, hb2⟩; have bR := keepb hb2 (B := w.heap.size + 1) (x := .string ⟨#[]⟩) (y := .int .i64 0) (by simp [BoxD, go_sem]); obtain ⟨r0, r1, r2, r3⟩ := id bR; have hlt : w.heap.size + 1 < w2.heap.size := World.block_lt_of_cell? w2 _ r0; have hne : ¬ w2.heap.size = w.heap.size + 1 := (by omega); have hne2 : ¬ w.heap.size + 1 = w2.heap.size := (by omega)))
  refine bodyPost_ret (by simp [results, Tryd.results21, go_sem, cs_same, r0, r1, hlt]; rfl) rfl ?_
  refine ⟨rfl, ?_⟩
  have h0 := bel_call (B := w.heap.size) (w := w) (by go_grown) hb2 (Nat.le_refl _)
  refine Below.alloc ?_ (by simp; omega) _
  iterate 2 (refine Below.setCell ?_ (by dsimp only; omega) _)
  exact h0
set_option maxRecDepth 1000000 in
set_option maxHeartbeats 800000 in
theorem hp_high {s S : ByteArray} {p P : Int} (n : Int) (hN : HNormC s p S P 0) (h1 : ¬ n < -20000) (h2 : 20000 < n) (w : World) :
    Calls Tryd.prog 21 #[.agg #[.string s, .int .i64 p], .int .i64 n] w fun e w' => e = .returned (.tuple #[.agg #[.string S, .int .i64 P], .int .i64 0]) ∧ Below w.heap.size w w' := by
  go_enter Tryd.func21, Tryd.ntmps21
  go_wp2_with (first
    | (go_at_call 10; refine (hN _).mono ?_; rintro e w2 ⟨rfl, hb2⟩; have bR := keepb hb2 (B := w.heap.size + 1) (x := .string ⟨#[]⟩) (y := .int .i64 0) (by simp [BoxD, go_sem]); obtain ⟨r0, r1, r2, r3⟩ := id bR; have hlt : w.heap.size + 1 < w2.heap.size := World.block_lt_of_cell? w2 _ r0; have hne : ¬ w2.heap.size = w.heap.size + 1 := (by omega); have hne2 : ¬ w.heap.size + 1 = w2.heap.size := (by omega)))
  refine bodyPost_ret (by simp [results, Tryd.results21, go_sem, cs_same, r0, r1, hlt]; rfl) rfl ?_
  refine ⟨rfl, ?_⟩
  have h0 := bel_call (B := w.heap.size) (w := w) (by go_grown) hb2 (Nat.le_refl _)
  refine Below.alloc ?_ (by simp; omega) _
  iterate 2 (refine Below.setCell ?_ (by dsimp only; omega) _)
  exact h0
set_option maxRecDepth 1000000 in
set_option maxHeartbeats 800000 in
theorem hp_mid {s S S2 : ByteArray} {p P P2 n : Int} (hN : HNormC s p S P 0) (h1 : ¬ n < -20000) (h2 : ¬ 20000 < n) (hR : HNearC S P (-n) S2 P2) (hP0 : -100000 ≤ P) (hP1 : P ≤ 100000) (w : World) :
    Calls Tryd.prog 21 #[.agg #[.string s, .int .i64 p], .int .i64 n] w fun e w' => e = .returned (.tuple #[.agg #[.string S2, .int .i64 P2], .int .i64 0]) ∧ Below w.heap.size w w' := by
  go_enter Tryd.func21, Tryd.ntmps21
  go_wp2_with (first
    | (go_at_call 10; refine (hN _).mono ?_; rintro e w2 ⟨rfl, hb2⟩; have bR := keepb hb2 (B := w.heap.size + 1) (x := .string ⟨#[]⟩) (y := .int .i64 0) (by simp [BoxD, go_sem]); have hlt : w.heap.size + 1 < w2.heap.size := World.block_lt_of_cell? w2 _ bR.1)
    | (go_at_call 38; refine (hR _).mono ?_; rintro e w3 ⟨rfl, hb3⟩; obtain ⟨r0, r1, r2, r3⟩ := keepb hb3 (B := w.heap.size + 1) (x := .string ⟨#[]⟩) (y := .int .i64 0) (by obtain ⟨q0, q1, q2, q3⟩ := bR; simp [BoxD, go_sem, q0, q1, q2, q3, hlt])))
  refine bodyPost_ret (by simp [results, Tryd.results21, go_sem, cs_same, r0, r1]; rfl) rfl ?_
  refine ⟨rfl, ?_⟩
  have h0 := bel_call (B := w.heap.size) (w := w) (by go_grown) hb2 (Nat.le_refl _)
  have h1 := bel_call (h0.alloc h0.size _) hb3 (Nat.le_refl _)
  iterate 2 (refine Below.setCell ?_ (by dsimp only; omega) _)
  exact h1
theorem hround_any (s : ByteArray) (p n : Int) (w : World) (hs : s.size ≤ 9223372036854775807) (_hn : (Lit.int .i64 n).wf = true) :
    Calls Tryd.prog 19 #[.agg #[.string s, .int .i64 p], .int .i64 n] w fun e w' => e = .returned (.tuple #[.agg #[.string (oS (bV (normE s p) (rnd (normV s p) n))), .int .i64 (oP (bV (normE s p) (rnd (normV s p) n)))], .int .i64 (normE s p)]) ∧ Below w.heap.size w w' := by
  have hN := hnormC s p hs
  have nn := nrm_norm s p
  have hlow := nn.low
  have hpt := nn.pt
  have hlen := nn.len
  by_cases hE : normE s p = 0
  · rw [hE] at hN ⊢
    have e : bV 0 (rnd (normV s p) n) = rnd (normV s p) n := if_pos rfl
    rw [e, ← rndD_eq nn]
    unfold rndD
    by_cases h1 : n < 0
    · rw [if_pos h1, zero_S, o_zero.2]
      exact hr_low n hN h1 w
    · rw [if_neg h1]
      by_cases h2 : 2000 < n
      · rw [if_pos h2]
        exact hr_high n hN h1 h2 w
      · rw [if_neg h2]
        exact hr_mid hN h1 h2 (hnearC nn _ (by omega) (by omega)) (by omega) (by omega) w
  · have e : bV (normE s p) (rnd (normV s p) n) = 0 := if_neg hE
    rw [e, zero_S, o_zero.2]
    exact hr_err n hN hE w
theorem hplaces_any (s : ByteArray) (p n : Int) (w : World) (hs : s.size ≤ 9223372036854775807) (_hn : (Lit.int .i64 n).wf = true) :
    Calls Tryd.prog 21 #[.agg #[.string s, .int .i64 p], .int .i64 n] w fun e w' => e = .returned (.tuple #[.agg #[.string (oS (bV (normE s p) (plc (normV s p) n))), .int .i64 (oP (bV (normE s p) (plc (normV s p) n)))], .int .i64 (normE s p)]) ∧ Below w.heap.size w w' := by
  have hN := hnormC s p hs
  have nn := nrm_norm s p
  have hlow := nn.low
  have hpt := nn.pt
  have hlen := nn.len
  by_cases hE : normE s p = 0
  · rw [hE] at hN ⊢
    have e : bV 0 (plc (normV s p) n) = plc (normV s p) n := if_pos rfl
    rw [e, ← plcD_eq nn]
    unfold plcD
    by_cases h2 : 20000 < n
    · rw [if_pos h2]
      exact hp_high n hN (by omega) h2 w
    · rw [if_neg h2]
      by_cases h1 : n < -20000
      · rw [if_pos h1, zero_S, o_zero.2]
        exact hp_low n hN h1 w
      · rw [if_neg h1]
        exact hp_mid hN h1 h2 (hnearC nn _ (by omega) (by omega)) (by omega) (by omega) w
  · have e : bV (normE s p) (plc (normV s p) n) = 0 := if_neg hE
    rw [e, zero_S, o_zero.2]
    exact hp_err n hN hE w
end Go.Proofs.YtjfoknhoehamhaaDoor
