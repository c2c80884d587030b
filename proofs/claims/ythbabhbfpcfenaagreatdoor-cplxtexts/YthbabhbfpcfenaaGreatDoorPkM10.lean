/- HTopB, HExact, KWalkA: these texts in one. -/
import Derived.Test.YthbabhbfpcfenaaGreatDoorPkM9
import Derived.Test.YthbabhbfpcfenaaGreatDoorPkM7
import Derived.Test.YthbabhbfpcfenaaGreatDoorPkM6
import Derived.Test.YthbabhbfpcfenaaGreatDoorPkF7
import Derived.Test.YthbabhbfpcfenaaGreatDoorPkF26
/- The document's Round and Places. -/
namespace Go.Proofs.YthbabhbfpcfenaaGreatDoor
open Go.RowKit
set_option linter.unusedVariables false
set_option linter.unusedSimpArgs false

def HNearC (S : ByteArray) (P p : Int) (S2 : ByteArray) (P2 : Int) : Prop := ∀ w, Calls Tryz.prog 109 #[.agg #[.string S, .int .i64 P], .int .i64 p] w fun e w' => e = .returned (.agg #[.string S2, .int .i64 P2]) ∧ Below w.heap.size w w'
theorem hnearC {v : Nat} (hn : Nrm v) (p : Int) (hp0 : -30000 ≤ p) (hp1 : p ≤ 30000) : HNearC (oS v) (oP v) p (oS (nst v p)) (oP (nst v p)) := fun w => by
  have hlen := hn.len
  have hpt := hn.pt
  have hlow := hn.low
  have hz := oS_size v
  have hl : HLowC (oS v) (oP v) (oP v - (oS v).size) := fun w => hlow_any (oS v) (oP v) w (by omega) (by omega) (by omega)
  by_cases h1 : p ≤ oP v - (oL v).length
  · have e : nst v p = v := by unfold nst; rw [if_pos (.inl h1)]
    rw [e]
    exact hn_whole _ _ p _ w hl (by omega)
  by_cases h2 : oL v = []
  · have e : nst v p = v := by unfold nst; rw [if_pos (.inr h2)]
    rw [e]
    exact hn_nil _ _ p _ w hl (by omega) (by rw [hz, h2]; rfl)
  have hpos : 0 < (oS v).size := by
    rw [hz]
    rcases Nat.eq_zero_or_pos (oL v).length with h | h
    · exact absurd (List.eq_nil_of_length_eq_zero h) h2
    · exact h
  by_cases h3 : oP v - p < 0
  · have e : nst v p = 0 := by unfold nst; rw [if_neg (by intro h; rcases h with h | h; exact h1 h; exact h2 h), if_pos h3]
    rw [e, zero_S, o_zero.2]
    exact hn_zero _ _ p _ w hl (by omega) hpos h3 (by omega) (by omega) (by omega) (by omega)
  obtain ⟨Q, hQ⟩ : ∃ Q : Nat, p + 10000 = (Q : Int) := ⟨(p + 10000).toNat, by omega⟩
  have e : nst v p = near v Q := by
    unfold nst; rw [if_neg (by intro h; rcases h with h | h; exact h1 h; exact h2 h), if_neg h3, hQ]; rfl
  obtain ⟨k, hk⟩ : ∃ k : Nat, oP v - p = (k : Int) := ⟨(oP v - p).toNat, by omega⟩
  have hkl : k < (oL v).length := by omega
  obtain ⟨T, hT⟩ : ∃ T : Nat, T = 15000 := ⟨_, rfl⟩
  have hvT := (o_dec v).lt (q := T) (by omega)
  have hQT : (10 : Nat) ^ Q ≤ 10 ^ T := Nat.pow_le_pow_right (by decide) (by omega)
  have hbv : v / 10 ^ Q * 10 ^ Q ≤ v := Nat.div_mul_le_self _ _
  have hpT : (10 : Nat) ^ (T + 1) = 10 ^ T * 10 := Nat.pow_succ ..
  have sv := small_b (n := v) (T := T + 1) (by omega) (by omega)
  have sb := small_b (n := v / 10 ^ Q * 10 ^ Q) (T := T + 1) (by omega) (by omega)
  have s1 := small_b (n := 10 ^ Q) (T := T + 1) (by omega) (by omega)
  have sa := small_b (n := v / 10 ^ Q * 10 ^ Q + 10 ^ Q) (T := T + 1) (by omega) (by omega)
  have sd := small_b (n := v + v) (T := T + 1) (by omega) (by omega)
  have se := small_b (n := v / 10 ^ Q * 10 ^ Q + (v / 10 ^ Q * 10 ^ Q + 10 ^ Q)) (T := T + 1) (by omega) (by omega)
  obtain ⟨o1, o2⟩ := one_D p Q hQ
  have htk := take_V (o_dec v) k (by omega) Q (by omega)
  have hTl : ((oS v).extract 0 k).data.toList = (oL v).take k := ext_list (oS v) k
  have hTs : ((oS v).extract 0 k).size = k := ext_size1 (oS v) k (by omega)
  have hI : HInC ((oS v).extract 0 k) (oP v) (oS (v / 10 ^ Q * 10 ^ Q)) (oP (v / 10 ^ Q * 10 ^ Q)) := fun w => by
    have := hin_any ((oS v).extract 0 k) (oP v) w (by rw [hTl]; exact allD_of fun x hx => allD_mem (o_dec v).dig (List.mem_of_mem_take hx)) (by omega) (by omega) (by omega)
    rw [hTl, htk] at this
    exact this
  have hSA : HSumC (oS (v / 10 ^ Q * 10 ^ Q)) (oP (v / 10 ^ Q * 10 ^ Q)) ⟨#[49]⟩ (p + 1) (oS (v / 10 ^ Q * 10 ^ Q + 10 ^ Q)) (oP (v / 10 ^ Q * 10 ^ Q + 10 ^ Q)) := fun w => by
    have := hsum_any (v / 10 ^ Q * 10 ^ Q) (10 ^ Q) w (by omega) (by omega) (by omega) (by omega)
    rw [o1, o2] at this
    exact this
  have hSD : HSumC (oS v) (oP v) (oS v) (oP v) (oS (v + v)) (oP (v + v)) := fun w => hsum_any v v w (by omega) (by omega) (by omega) (by omega)
  have hSE : HSumC (oS (v / 10 ^ Q * 10 ^ Q)) (oP (v / 10 ^ Q * 10 ^ Q)) (oS (v / 10 ^ Q * 10 ^ Q + 10 ^ Q)) (oP (v / 10 ^ Q * 10 ^ Q + 10 ^ Q)) (oS (v / 10 ^ Q * 10 ^ Q + (v / 10 ^ Q * 10 ^ Q + 10 ^ Q))) (oP (v / 10 ^ Q * 10 ^ Q + (v / 10 ^ Q * 10 ^ Q + 10 ^ Q))) := fun w => hsum_any _ _ w (by omega) (by omega) (by omega) (by omega)
  have hC : HCompC (oS (v + v)) (oP (v + v)) (oS (v / 10 ^ Q * 10 ^ Q + (v / 10 ^ Q * 10 ^ Q + 10 ^ Q))) (oP (v / 10 ^ Q * 10 ^ Q + (v / 10 ^ Q * 10 ^ Q + 10 ^ Q))) (ordN (v + v) (v / 10 ^ Q * 10 ^ Q + (v / 10 ^ Q * 10 ^ Q + 10 ^ Q))) := fun w => hcompare_any _ _ w (by omega) (by omega) (by omega) (by omega)
  have hD : HDigC (oS (v / 10 ^ Q * 10 ^ Q)) (oP (v / 10 ^ Q * 10 ^ Q)) p (v / 10 ^ Q * 10 ^ Q / 10 ^ Q % 10) := fun w => hdigit_any _ p Q w hQ (by omega) (by omega) (by omega)
  obtain ⟨m1, m2, m3, m4⟩ := near_cmp v Q
  have hm := hn_main w hl (by omega) hpos hk (by omega) rfl hI hSA hSD hSE hC hD (Nat.mod_lt _ (by decide)) (by omega) (by omega) (by omega) (by omega)
  rw [e]
  by_cases r1 : ordN (v + v) (v / 10 ^ Q * 10 ^ Q + (v / 10 ^ Q * 10 ^ Q + 10 ^ Q)) < 0
  · rw [if_pos (.inl r1)] at hm
    rw [m1 r1]; exact hm
  by_cases r2 : ordN (v + v) (v / 10 ^ Q * 10 ^ Q + (v / 10 ^ Q * 10 ^ Q + 10 ^ Q)) = 0
  · by_cases r3 : v / 10 ^ Q * 10 ^ Q / 10 ^ Q % 10 % 2 = 0
    · rw [if_pos (.inr ⟨r2, r3⟩)] at hm
      rw [m2 r2 r3]; exact hm
    · rw [if_neg (by intro h; rcases h with h | h; exact r1 h; exact r3 h.2)] at hm
      rw [m3 r2 r3]; exact hm
  · rw [if_neg (by intro h; rcases h with h | h; exact r1 h; exact r2 h.1)] at hm
    rw [m4 (by omega)]; exact hm
set_option maxRecDepth 1000000 in
set_option maxHeartbeats 800000 in
theorem hr_err {s S : ByteArray} {p P E : Int} (n : Int) (hN : HNormC s p S P E) (hE : ¬ E = 0) (w : World) :
    Calls Tryz.prog 65 #[.agg #[.string s, .int .i64 p], .int .i64 n] w fun e w' => e = .returned (.tuple #[.agg #[.string ⟨#[]⟩, .int .i64 0], .int .i64 E]) ∧ Below w.heap.size w w' := by
  have hEb : (E != 0) = true := by simp [hE]
  go_enter Tryz.func65, Tryz.ntmps65
  go_wp2_with (first
    | (go_at_call 108; refine (hN _).mono ?_; rintro e w2 ⟨rfl, hb2⟩; have bR := keepb hb2 (B := w.heap.size + 1) (x := .string ⟨#[]⟩) (y := .int .i64 0) (by simp [BoxD, go_sem]); obtain ⟨r0, r1, r2, r3⟩ := id bR; have hlt : w.heap.size + 1 < w2.heap.size := World.block_lt_of_cell? w2 _ r0; have hne : ¬ w2.heap.size = w.heap.size + 1 := (by omega); have hne2 : ¬ w.heap.size + 1 = w2.heap.size := (by omega)))
  refine bodyPost_ret (by simp [results, Tryz.results65, go_sem, cs_same, r0, r1, hlt]; rfl) rfl ?_
  refine ⟨rfl, ?_⟩
  have h0 := bel_call (B := w.heap.size) (w := w) (by go_grown) hb2 (Nat.le_refl _)
  refine Below.alloc ?_ (by simp; omega) _
  iterate 2 (refine Below.setCell ?_ (by dsimp only; omega) _)
  exact h0
set_option maxRecDepth 1000000 in
set_option maxHeartbeats 800000 in
theorem hr_low {s S : ByteArray} {p P : Int} (n : Int) (hN : HNormC s p S P 0) (h1 : n < 0) (w : World) :
    Calls Tryz.prog 65 #[.agg #[.string s, .int .i64 p], .int .i64 n] w fun e w' => e = .returned (.tuple #[.agg #[.string ⟨#[]⟩, .int .i64 0], .int .i64 0]) ∧ Below w.heap.size w w' := by
  go_enter Tryz.func65, Tryz.ntmps65
  go_wp2_with (first
    | (go_at_call 108; refine (hN _).mono ?_; rintro e w2 ⟨rfl, hb2⟩; have bR := keepb hb2 (B := w.heap.size + 1) (x := .string ⟨#[]⟩) (y := .int .i64 0) (by simp [BoxD, go_sem]); obtain ⟨r0, r1, r2, r3⟩ := id bR; have hlt : w.heap.size + 1 < w2.heap.size := World.block_lt_of_cell? w2 _ r0; have hne : ¬ w2.heap.size = w.heap.size + 1 := (by omega); have hne2 : ¬ w.heap.size + 1 = w2.heap.size := (by omega)))
  refine bodyPost_ret (by simp [results, Tryz.results65, go_sem, cs_same, r0, r1, hlt]; rfl) rfl ?_
  refine ⟨rfl, ?_⟩
  have h0 := bel_call (B := w.heap.size) (w := w) (by go_grown) hb2 (Nat.le_refl _)
  refine Below.alloc ?_ (by simp; omega) _
  iterate 2 (refine Below.setCell ?_ (by dsimp only; omega) _)
  exact h0
set_option maxRecDepth 1000000 in
set_option maxHeartbeats 800000 in
theorem hr_high {s S : ByteArray} {p P : Int} (n : Int) (hN : HNormC s p S P 0) (h1 : ¬ n < 0) (h2 : 2000 < n) (w : World) :
    Calls Tryz.prog 65 #[.agg #[.string s, .int .i64 p], .int .i64 n] w fun e w' => e = .returned (.tuple #[.agg #[.string S, .int .i64 P], .int .i64 0]) ∧ Below w.heap.size w w' := by
  go_enter Tryz.func65, Tryz.ntmps65
  go_wp2_with (first
    | (go_at_call 108; refine (hN _).mono ?_; rintro e w2 ⟨rfl, hb2⟩; have bR := keepb hb2 (B := w.heap.size + 1) (x := .string ⟨#[]⟩) (y := .int .i64 0) (by simp [BoxD, go_sem]); obtain ⟨r0, r1, r2, r3⟩ := id bR; have hlt : w.heap.size + 1 < w2.heap.size := World.block_lt_of_cell? w2 _ r0; have hne : ¬ w2.heap.size = w.heap.size + 1 := (by omega); have hne2 : ¬ w.heap.size + 1 = w2.heap.size := (by omega)))
  refine bodyPost_ret (by simp [results, Tryz.results65, go_sem, cs_same, r0, r1, hlt]; rfl) rfl ?_
  refine ⟨rfl, ?_⟩
  have h0 := bel_call (B := w.heap.size) (w := w) (by go_grown) hb2 (Nat.le_refl _)
  refine Below.alloc ?_ (by simp; omega) _
  iterate 2 (refine Below.setCell ?_ (by dsimp only; omega) _)
  exact h0
set_option maxRecDepth 1000000 in
set_option maxHeartbeats 800000 in
theorem hr_mid {s S S2 : ByteArray} {p P P2 n : Int} (hN : HNormC s p S P 0) (h1 : ¬ n < 0) (h2 : ¬ 2000 < n) (hR : HNearC S P (P - n) S2 P2) (hP0 : -100000 ≤ P) (hP1 : P ≤ 100000) (w : World) :
    Calls Tryz.prog 65 #[.agg #[.string s, .int .i64 p], .int .i64 n] w fun e w' => e = .returned (.tuple #[.agg #[.string S2, .int .i64 P2], .int .i64 0]) ∧ Below w.heap.size w w' := by
  go_enter Tryz.func65, Tryz.ntmps65
  go_wp2_with (first
    | (go_at_call 108; refine (hN _).mono ?_; rintro e w2 ⟨rfl, hb2⟩; have bR := keepb hb2 (B := w.heap.size + 1) (x := .string ⟨#[]⟩) (y := .int .i64 0) (by simp [BoxD, go_sem]); have hlt : w.heap.size + 1 < w2.heap.size := World.block_lt_of_cell? w2 _ bR.1)
    | (go_at_call 109; refine (hR _).mono ?_; rintro e w3 ⟨rfl, hb3⟩; obtain ⟨r0, r1, r2, r3⟩ := keepb hb3 (B := w.heap.size + 1) (x := .string ⟨#[]⟩) (y := .int .i64 0) (by obtain ⟨q0, q1, q2, q3⟩ := bR; simp [BoxD, go_sem, q0, q1, q2, q3, hlt])))
  refine bodyPost_ret (by simp [results, Tryz.results65, go_sem, cs_same, r0, r1]; rfl) rfl ?_
  refine ⟨rfl, ?_⟩
  have h0 := bel_call (B := w.heap.size) (w := w) (by go_grown) hb2 (Nat.le_refl _)
  have h1 := bel_call (h0.alloc h0.size _) hb3 (Nat.le_refl _)
  iterate 2 (refine Below.setCell ?_ (by dsimp only; omega) _)
  exact h1
set_option maxRecDepth 1000000 in
set_option maxHeartbeats 800000 in
theorem hp_err {s S : ByteArray} {p P E : Int} (n : Int) (hN : HNormC s p S P E) (hE : ¬ E = 0) (w : World) :
    Calls Tryz.prog 69 #[.agg #[.string s, .int .i64 p], .int .i64 n] w fun e w' => e = .returned (.tuple #[.agg #[.string ⟨#[]⟩, .int .i64 0], .int .i64 E]) ∧ Below w.heap.size w w' := by
  have hEb : (E != 0) = true := by simp [hE]
  go_enter Tryz.func69, Tryz.ntmps69
  go_wp2_with (first
    | (go_at_call 108; refine (hN _).mono ?_; rintro e w2 ⟨rfl, hb2⟩; have bR := keepb hb2 (B := w.heap.size + 1) (x := .string ⟨#[]⟩) (y := .int .i64 0) (by simp [BoxD, go_sem]); obtain ⟨r0, r1, r2, r3⟩ := id bR; have hlt : w.heap.size + 1 < w2.heap.size := World.block_lt_of_cell? w2 _ r0; have hne : ¬ w2.heap.size = w.heap.size + 1 := (by omega); have hne2 : ¬ w.heap.size + 1 = w2.heap.size := (by omega)))
  refine bodyPost_ret (by simp [results, Tryz.results69, go_sem, cs_same, r0, r1, hlt]; rfl) rfl ?_
  refine ⟨rfl, ?_⟩
  have h0 := bel_call (B := w.heap.size) (w := w) (by go_grown) hb2 (Nat.le_refl _)
  refine Below.alloc ?_ (by simp; omega) _
  iterate 2 (refine Below.setCell ?_ (by dsimp only; omega) _)
  exact h0
set_option maxRecDepth 1000000 in
set_option maxHeartbeats 800000 in
theorem hp_low {s S : ByteArray} {p P : Int} (n : Int) (hN : HNormC s p S P 0) (h1 : n < -20000) (w : World) :
    Calls Tryz.prog 69 #[.agg #[.string s, .int .i64 p], .int .i64 n] w fun e w' => e = .returned (.tuple #[.agg #[.string ⟨#[]⟩, .int .i64 0], .int .i64 0]) ∧ Below w.heap.size w w' := by
  have h2 : ¬ 20000 < n := by omega
  go_enter Tryz.func69, Tryz.ntmps69
  go_wp2_with (first
    | (go_at_call 108; refine (hN _).mono ?_; rintro e w2 ⟨rfl, hb2⟩; have bR := keepb hb2 (B := w.heap.size + 1) (x := .string ⟨#[]⟩) (y := .int .i64 0) (by simp [BoxD, go_sem]); obtain ⟨r0, r1, r2, r3⟩ := id bR; have hlt : w.heap.size + 1 < w2.heap.size := World.block_lt_of_cell? w2 _ r0; have hne : ¬ w2.heap.size = w.heap.size + 1 := (by omega); have hne2 : ¬ w.heap.size + 1 = w2.heap.size := (by omega)))
  refine bodyPost_ret (by simp [results, Tryz.results69, go_sem, cs_same, r0, r1, hlt]; rfl) rfl ?_
  refine ⟨rfl, ?_⟩
  have h0 := bel_call (B := w.heap.size) (w := w) (by go_grown) hb2 (Nat.le_refl _)
  refine Below.alloc ?_ (by simp; omega) _
  iterate 2 (refine Below.setCell ?_ (by dsimp only; omega) _)
  exact h0
set_option maxRecDepth 1000000 in
set_option maxHeartbeats 800000 in
theorem hp_high {s S : ByteArray} {p P : Int} (n : Int) (hN : HNormC s p S P 0) (h1 : ¬ n < -20000) (h2 : 20000 < n) (w : World) :
    Calls Tryz.prog 69 #[.agg #[.string s, .int .i64 p], .int .i64 n] w fun e w' => e = .returned (.tuple #[.agg #[.string S, .int .i64 P], .int .i64 0]) ∧ Below w.heap.size w w' := by
  go_enter Tryz.func69, Tryz.ntmps69
  go_wp2_with (first
    | (go_at_call 108; refine (hN _).mono ?_; rintro e w2 ⟨rfl, hb2⟩; have bR := keepb hb2 (B := w.heap.size + 1) (x := .string ⟨#[]⟩) (y := .int .i64 0) (by simp [BoxD, go_sem]); obtain ⟨r0, r1, r2, r3⟩ := id bR; have hlt : w.heap.size + 1 < w2.heap.size := World.block_lt_of_cell? w2 _ r0; have hne : ¬ w2.heap.size = w.heap.size + 1 := (by omega); have hne2 : ¬ w.heap.size + 1 = w2.heap.size := (by omega)))
  refine bodyPost_ret (by simp [results, Tryz.results69, go_sem, cs_same, r0, r1, hlt]; rfl) rfl ?_
  refine ⟨rfl, ?_⟩
  have h0 := bel_call (B := w.heap.size) (w := w) (by go_grown) hb2 (Nat.le_refl _)
  refine Below.alloc ?_ (by simp; omega) _
  iterate 2 (refine Below.setCell ?_ (by dsimp only; omega) _)
  exact h0
set_option maxRecDepth 1000000 in
set_option maxHeartbeats 800000 in
theorem hp_mid {s S S2 : ByteArray} {p P P2 n : Int} (hN : HNormC s p S P 0) (h1 : ¬ n < -20000) (h2 : ¬ 20000 < n) (hR : HNearC S P (-n) S2 P2) (hP0 : -100000 ≤ P) (hP1 : P ≤ 100000) (w : World) :
    Calls Tryz.prog 69 #[.agg #[.string s, .int .i64 p], .int .i64 n] w fun e w' => e = .returned (.tuple #[.agg #[.string S2, .int .i64 P2], .int .i64 0]) ∧ Below w.heap.size w w' := by
  go_enter Tryz.func69, Tryz.ntmps69
  go_wp2_with (first
    | (go_at_call 108; refine (hN _).mono ?_; rintro e w2 ⟨rfl, hb2⟩; have bR := keepb hb2 (B := w.heap.size + 1) (x := .string ⟨#[]⟩) (y := .int .i64 0) (by simp [BoxD, go_sem]); have hlt : w.heap.size + 1 < w2.heap.size := World.block_lt_of_cell? w2 _ bR.1)
    | (go_at_call 109; refine (hR _).mono ?_; rintro e w3 ⟨rfl, hb3⟩; obtain ⟨r0, r1, r2, r3⟩ := keepb hb3 (B := w.heap.size + 1) (x := .string ⟨#[]⟩) (y := .int .i64 0) (by obtain ⟨q0, q1, q2, q3⟩ := bR; simp [BoxD, go_sem, q0, q1, q2, q3, hlt])))
  refine bodyPost_ret (by simp [results, Tryz.results69, go_sem, cs_same, r0, r1]; rfl) rfl ?_
  refine ⟨rfl, ?_⟩
  have h0 := bel_call (B := w.heap.size) (w := w) (by go_grown) hb2 (Nat.le_refl _)
  have h1 := bel_call (h0.alloc h0.size _) hb3 (Nat.le_refl _)
  iterate 2 (refine Below.setCell ?_ (by dsimp only; omega) _)
  exact h1
theorem hround_any (s : ByteArray) (p n : Int) (w : World) (hs : s.size ≤ 9223372036854775807) (_hn : (Lit.int .i64 n).wf = true) :
    Calls Tryz.prog 65 #[.agg #[.string s, .int .i64 p], .int .i64 n] w fun e w' => e = .returned (.tuple #[.agg #[.string (oS (bV (normE s p) (rnd (normV s p) n))), .int .i64 (oP (bV (normE s p) (rnd (normV s p) n)))], .int .i64 (normE s p)]) ∧ Below w.heap.size w w' := by
  have hN := hnormC s p hs
  have nn := nrm_norm s p
  have hlow := nn.low
  have hpt := nn.pt
  have hlen := nn.len
  by_cases hE : normE s p = 0
  · rw [hE] at hN ⊢
    have e : bV 0 (rnd (normV s p) n) = rnd (normV s p) n := if_pos rfl
    rw [e, ← rndD_eq nn]
    unfold rndD
    by_cases h1 : n < 0
    · rw [if_pos h1, zero_S, o_zero.2]
      exact hr_low n hN h1 w
    · rw [if_neg h1]
      by_cases h2 : 2000 < n
      · rw [if_pos h2]
        exact hr_high n hN h1 h2 w
      · rw [if_neg h2]
        exact hr_mid hN h1 h2 (hnearC nn _ (by omega) (by omega)) (by omega) (by omega) w
  · have e : bV (normE s p) (rnd (normV s p) n) = 0 := if_neg hE
    rw [e, zero_S, o_zero.2]
    exact hr_err n hN hE w
theorem hplaces_any (s : ByteArray) (p n : Int) (w : World) (hs : s.size ≤ 9223372036854775807) (_hn : (Lit.int .i64 n).wf = true) :
    Calls Tryz.prog 69 #[.agg #[.string s, .int .i64 p], .int .i64 n] w fun e w' => e = .returned (.tuple #[.agg #[.string (oS (bV (normE s p) (plc (normV s p) n))), .int .i64 (oP (bV (normE s p) (plc (normV s p) n)))], .int .i64 (normE s p)]) ∧ Below w.heap.size w w' := by
  have hN := hnormC s p hs
  have nn := nrm_norm s p
  have hlow := nn.low
  have hpt := nn.pt
  have hlen := nn.len
  by_cases hE : normE s p = 0
  · rw [hE] at hN ⊢
    have e : bV 0 (plc (normV s p) n) = plc (normV s p) n := if_pos rfl
    rw [e, ← plcD_eq nn]
    unfold plcD
    by_cases h2 : 20000 < n
    · rw [if_pos h2]
      exact hp_high n hN (by omega) h2 w
    · rw [if_neg h2]
      by_cases h1 : n < -20000
      · rw [if_pos h1, zero_S, o_zero.2]
        exact hp_low n hN h1 w
      · rw [if_neg h1]
        exact hp_mid hN h1 h2 (hnearC nn _ (by omega) (by omega)) (by omega) (by omega) w
  · have e : bV (normE s p) (plc (normV s p) n) = 0 := if_neg hE
    rw [e, zero_S, o_zero.2]
    exact hp_err n hN hE w
end Go.Proofs.YthbabhbfpcfenaaGreatDoor

/- The document's Exact. -/
namespace Go.Proofs.YthbabhbfpcfenaaGreatDoor
open Go.RowKit
set_option linter.unusedVariables false
set_option linter.unusedSimpArgs false

/-- What the last statement makes of a row of digits. -/
theorem hx_last {ds : List Nat} {n v : Nat} {b : Int} (hl : ds.length = n) (hd : ∀ d ∈ ds, d < 10) (hn : n ≤ 5000) (hb0 : 0 ≤ b) (hb : b ≤ 1200) (hv : le ds * 10 ^ (-b + 10000).toNat = v) : HInC ⟨(txt ds).toArray⟩ ((n : Int) - b) (oS v) (oP v) := fun w => by
  obtain ⟨h1, h2⟩ := txt_num ds hd
  have hz := mk_size (txt ds)
  rw [txt_len, hl] at hz
  have := hin_any ⟨(txt ds).toArray⟩ ((n : Int) - b) w h2 (by omega) (by omega) (by omega)
  have e : V (⟨(txt ds).toArray⟩ : ByteArray).data.toList ((n : Int) - b) = v := by
    unfold V
    show num (txt ds) * 10 ^ ((n : Int) - b - (txt ds).length + 10000).toNat = v
    rw [h1, txt_len, hl, show (n : Int) - b - (n : Int) + 10000 = -b + 10000 by omega]; exact hv
  rw [e] at this
  exact this
theorem pow2_step {m i : Nat} {ds es : List Nat} (h : le ds = m * 2 ^ i) (h2 : le es = le ds * 2) : le es = m * 2 ^ (i + 1) := by
  rw [h2, h, Nat.pow_succ, Nat.mul_assoc]
theorem pow5_step {m i : Nat} {ds es : List Nat} (h : le ds = m * 5 ^ i) (h2 : le es = le ds * 5) : le es = m * 5 ^ (i + 1) := by
  rw [h2, h, Nat.pow_succ, Nat.mul_assoc]
set_option maxRecDepth 1000000 in
set_option maxHeartbeats 1600000 in
theorem hexact_up (m K : Nat) (w : World) (hm : m < 18446744073709551616) (hK : K ≤ 1200) :
    Calls Tryz.prog 60 #[.int .u64 m, .int .i64 K] w fun x w' => x = .returned (.tuple #[.agg #[.string (oS (exU m K)), .int .i64 (oP (exU m K))], .int .i64 0]) ∧ Below w.heap.size w w' := by
  have HV : Hid (∀ ds : List Nat, le ds = m * 2 ^ K → le ds * 10 ^ (-(0 : Int) + 10000).toNat = exU m K) := fun ds h => by
    unfold exU
    rw [if_pos (by omega), h, Int.toNat_natCast, Int.neg_zero]
  generalize exU m K = v at *
  go_enter Tryz.func60, Tryz.ntmps60
  go_wp2_with (go_at_call 101; refine (hof_any m _ hm).mono ?_; rintro x w2 ⟨⟨ao, n, c, rfl, hn, ds, hL, hv⟩, hb2⟩; have bR := keepb hb2 (B := w.heap.size) (x := .string ⟨#[]⟩) (y := .int .i64 0) (by simp [BoxD, go_sem]))
  have hbw : Below (w.heap.size + 1) (w.alloc (.cells #[.string ⟨#[]⟩, .int .i64 0] 91)) w2 := by simpa using hb2
  have hb0 : Below w.heap.size w w2 := bel_call ((Below.refl _ _).alloc (Nat.le_refl _) _) hb2 (Nat.le_refl _)
  have hL0 : Nm w2 (w.heap.size + 1) ao n c ds := hL.mono (by simp)
  clear hL hb2 hbw
  go_loopg [6, 8] K (fun g v6 v8 wr => ∃ (i n' c' : Nat) (ao' : Option Addr) (es : List Nat), v6 = .slice ao' n' c' ∧ v8 = .int .i64 (i : Int) ∧ i + g = K ∧ n' ≤ 20 + i ∧ Nm wr (w.heap.size + 1) ao' n' c' es ∧ BoxD wr w.heap.size (.string ⟨#[]⟩) (.int .i64 0) ∧ Below w.heap.size w wr ∧ w.heap.size + 1 ≤ wr.heap.size ∧ Hid (le es = m * 2 ^ i))
  case atStart => exact ⟨0, n, c, ao, ds, rfl, rfl, Nat.zero_add _, by omega, hL0, bR, hb0, World.block_lt_of_cell? w2 _ bR.1, by show _ = _; simp [hv]⟩
  case round =>
    obtain ⟨i, n', c', ao', es, rfl, rfl, hig, hn', hL1, bR1, hbl, hsz, HE⟩ := hrel
    by_cases hi : i < K
    · have hiI : (i : Int) < K := by omega
      have hT := htimes_2 _ ao' n' c' es wr hL1 (by omega)
      go_wp2_with (go_at_call 102; refine hT.mono ?_; rintro x w3 ⟨⟨ao3, n3, c3, rfl, hn3, fs, hL3, hv3⟩, hb3⟩)
      go_roundg (gk - 1)
      case measure => omega
      case rel => exact ⟨i + 1, n3, c3, ao3, fs, rfl, by go_num, by omega, by omega, hL3.mono (by omega), keepb hb3 bR1, bel_call hbl hb3 (Nat.le_refl _), Nat.le_trans hsz hb3.size, pow2_step HE.out hv3⟩
    · have hiI : ¬ (i : Int) < K := by omega
      have HE2 : Hid (le es * 10 ^ (-(0 : Int) + 10000).toNat = v) := HV.out es (by have := HE.out; rw [show i = K by omega] at this; exact this)
      clear HE HV
      have hK0 : ¬ (K : Int) < 0 := by omega
      go_wp2
      go_loopg [6, 7, 9] 0 (fun g v6 v7 v9 wr2 => v6 = .slice ao' n' c' ∧ v7 = .int .i64 0 ∧ v9 = .int .i64 0 ∧ wr2 = wr)
      case atStart => exact ⟨rfl, rfl, rfl, rfl⟩
      case round =>
        obtain ⟨rfl, rfl, rfl, rfl⟩ := hrel
        have hTx := htext_any _ ao' n' c' es _ hL1 (by omega)
        have hIn := hx_last (b := 0) hL1.len hL1.lim (by omega) (by omega) (by omega) HE2.out
        rw [Int.sub_zero] at hIn
        obtain ⟨S, hS⟩ : ∃ S, oS v = S := ⟨_, rfl⟩
        obtain ⟨P, hP⟩ : ∃ P, oP v = P := ⟨_, rfl⟩
        rw [hS, hP] at hIn
        have HS : Hid (oS v = S ∧ oP v = P) := ⟨hS, hP⟩
        clear hS hP HE2
        generalize (⟨(txt es).toArray⟩ : ByteArray) = T at *
        go_wp2_with (first | (go_at_call 104; refine hTx.mono ?_; rintro x w5 ⟨rfl, hb5⟩) | (go_at_call 103; refine (hIn _).mono ?_; rintro x w6 ⟨rfl, hb6⟩; obtain ⟨r0, r1, r2, r3⟩ := keepb hb6 (keepb hb5 bR1)))
        refine bodyPost_ret (by simp [results, Tryz.results60, go_sem, cs_same, r0, r1]; rfl) rfl ?_
        rw [HS.out.1, HS.out.2]
        refine ⟨rfl, ?_⟩
        have h5 := bel_call (bel_call hbl hb5 (Nat.le_refl _)) hb6 (Nat.le_refl _)
        iterate 2 (refine Below.setCell ?_ (by dsimp only; omega) _)
        exact h5
set_option maxRecDepth 1000000 in
set_option maxHeartbeats 1600000 in
theorem hexact_down (m K : Nat) (w : World) (hm : m < 18446744073709551616) (hK0 : 0 < K) (hK : K ≤ 1200) :
    Calls Tryz.prog 60 #[.int .u64 m, .int .i64 (-(K : Int))] w fun x w' => x = .returned (.tuple #[.agg #[.string (oS (exU m (-(K : Int)))), .int .i64 (oP (exU m (-(K : Int))))], .int .i64 0]) ∧ Below w.heap.size w w' := by
  have HV : Hid (∀ ds : List Nat, le ds = m * 5 ^ K → le ds * 10 ^ (-(K : Int) + 10000).toNat = exU m (-(K : Int))) := fun ds h => by
    unfold exU
    rw [if_neg (by omega), h, Int.neg_neg, Int.toNat_natCast]
  generalize exU m (-(K : Int)) = v at *
  have hK1 : 0 < (K : Int) := by omega
  go_enter Tryz.func60, Tryz.ntmps60
  go_wp2_with (go_at_call 101; refine (hof_any m _ hm).mono ?_; rintro x w2 ⟨⟨ao, n, c, rfl, hn, ds, hL, hv⟩, hb2⟩; have bR := keepb hb2 (B := w.heap.size) (x := .string ⟨#[]⟩) (y := .int .i64 0) (by simp [BoxD, go_sem]))
  have hb0 : Below w.heap.size w w2 := bel_call ((Below.refl _ _).alloc (Nat.le_refl _) _) hb2 (Nat.le_refl _)
  have hL0 : Nm w2 (w.heap.size + 1) ao n c ds := hL.mono (by simp)
  clear hL hb2
  go_loopg [6, 8] 0 (fun g v6 v8 wr => v6 = .slice ao n c ∧ v8 = .int .i64 0 ∧ wr = w2)
  case atStart => exact ⟨rfl, rfl, rfl⟩
  case round =>
    obtain ⟨rfl, rfl, rfl⟩ := hrel
    go_wp2
    go_loopg [6, 7, 9] K (fun g v6 v7 v9 wr => ∃ (i n' c' : Nat) (ao' : Option Addr) (es : List Nat), v6 = .slice ao' n' c' ∧ v7 = .int .i64 (i : Int) ∧ v9 = .int .i64 (-(i : Int)) ∧ i + g = K ∧ n' ≤ 20 + i ∧ Nm wr (w.heap.size + 1) ao' n' c' es ∧ BoxD wr w.heap.size (.string ⟨#[]⟩) (.int .i64 0) ∧ Below w.heap.size w wr ∧ w.heap.size + 1 ≤ wr.heap.size ∧ Hid (le es = m * 5 ^ i))
    case atStart => exact ⟨0, n, c, ao, ds, rfl, rfl, rfl, Nat.zero_add _, by omega, hL0, bR, hb0, World.block_lt_of_cell? _ _ bR.1, by show _ = _; simp [hv]⟩
    case round =>
      obtain ⟨i, n', c', ao', es, rfl, rfl, rfl, hig, hn', hL1, bR1, hbl, hsz, HE⟩ := hrel
      by_cases hi : i < K
      · have hiI : -(K : Int) < -(i : Int) := by omega
        have hiJ : (i : Int) < (K : Int) := by omega
        have hT := htimes_5 _ ao' n' c' es _ hL1 (by omega)
        go_wp2_with (go_at_call 102; refine hT.mono ?_; rintro x w3 ⟨⟨ao3, n3, c3, rfl, hn3, fs, hL3, hv3⟩, hb3⟩)
        go_roundg (gk - 1)
        case measure => omega
        case rel => exact ⟨i + 1, n3, c3, ao3, fs, rfl, by go_num, by go_num, by omega, by omega, hL3.mono (by omega), keepb hb3 bR1, bel_call hbl hb3 (Nat.le_refl _), Nat.le_trans hsz hb3.size, pow5_step HE.out hv3⟩
      · have hiI : ¬ -(K : Int) < -(i : Int) := by omega
        have hiJ : (i : Int) = (K : Int) := by omega
        obtain rfl : i = K := by omega
        have HE2 : Hid (le es * 10 ^ (-(i : Int) + 10000).toNat = v) := HV.out es HE.out
        clear HE HV hiJ
        have hTx := htext_any _ ao' n' c' es _ hL1 (by omega)
        have hIn := hx_last (b := (i : Int)) hL1.len hL1.lim (by omega) (by omega) (by omega) HE2.out
        obtain ⟨S, hS⟩ : ∃ S, oS v = S := ⟨_, rfl⟩
        obtain ⟨P, hP⟩ : ∃ P, oP v = P := ⟨_, rfl⟩
        rw [hS, hP] at hIn
        have HS : Hid (oS v = S ∧ oP v = P) := ⟨hS, hP⟩
        clear hS hP HE2
        generalize (⟨(txt es).toArray⟩ : ByteArray) = T at *
        go_wp2_with (first | (go_at_call 104; refine hTx.mono ?_; rintro x w5 ⟨rfl, hb5⟩) | (go_at_call 103; refine (hIn _).mono ?_; rintro x w6 ⟨rfl, hb6⟩; obtain ⟨r0, r1, r2, r3⟩ := keepb hb6 (keepb hb5 bR1)))
        refine bodyPost_ret (by simp [results, Tryz.results60, go_sem, cs_same, r0, r1]; rfl) rfl ?_
        rw [HS.out.1, HS.out.2]
        refine ⟨rfl, ?_⟩
        have h5 := bel_call (bel_call hbl hb5 (Nat.le_refl _)) hb6 (Nat.le_refl _)
        iterate 2 (refine Below.setCell ?_ (by dsimp only; omega) _)
        exact h5
set_option maxRecDepth 1000000 in
set_option maxHeartbeats 800000 in
theorem hexact_no (m : Nat) (e : Int) (w : World) (he : e < -1200 ∨ 1200 < e) :
    Calls Tryz.prog 60 #[.int .u64 m, .int .i64 e] w fun e w' => e = .returned (.tuple #[.agg #[.string ⟨#[]⟩, .int .i64 0], .int .i64 1]) ∧ Below w.heap.size w w' := by
  rcases he with h | h
  · go_enter Tryz.func60, Tryz.ntmps60
    go_wp2
    go_returns
    exact ⟨rfl, by go_grown⟩
  · have h' : ¬ e < -1200 := by omega
    go_enter Tryz.func60, Tryz.ntmps60
    go_wp2
    go_returns
    exact ⟨rfl, by go_grown⟩
theorem hexact_any (m : Nat) (e : Int) (w : World) (hm : m < 18446744073709551616) :
    Calls Tryz.prog 60 #[.int .u64 m, .int .i64 e] w fun x w' => x = .returned (.tuple #[.agg #[.string (oS (xV m e)), .int .i64 (oP (xV m e))], .int .i64 (xE e)]) ∧ Below w.heap.size w w' := by
  by_cases he : e < -1200 ∨ 1200 < e
  · have e1 : xE e = 1 := if_pos he
    have e2 : xV m e = 0 := by unfold xV; rw [e1]; rfl
    rw [e1, e2, zero_S, o_zero.2]
    exact hexact_no m e w he
  · have e1 : xE e = 0 := if_neg he
    have e2 : xV m e = exU m e := by unfold xV; rw [if_pos e1]
    rw [e1, e2]
    by_cases h0 : 0 ≤ e
    · obtain ⟨k, rfl⟩ : ∃ k : Nat, e = (k : Int) := ⟨e.toNat, by omega⟩
      exact hexact_up m k w hm (by omega)
    · obtain ⟨k, rfl⟩ : ∃ k : Nat, e = -(k : Int) := ⟨(-e).toNat, by omega⟩
      exact hexact_down m k w hm (by omega) (by omega)
end Go.Proofs.YthbabhbfpcfenaaGreatDoor

/- The document's answer for layer 5: Sized, Shape, pow, Parts. -/
namespace Go.Proofs.YthbabhbfpcfenaaGreatDoor
open Go.RowKit
set_option linter.unusedVariables false
set_option linter.unusedSimpArgs false

set_option maxRecDepth 1000000 in
theorem ksized_no (size : Int) (w : World) (h1 : ¬ size = 32) (h2 : ¬ size = 64) : Calls Tryz.prog 56 #[.int .i64 size] w fun e w' => e = .returned (.bool false) ∧ w' = w := by
  have b1 : (size == 32) = false := by simp [h1]
  have b2 : (size == 64) = false := by simp [h2]
  go_enter Tryz.func56, Tryz.ntmps56
  go_wp2
  go_ret
  exact ⟨rfl, rfl⟩
set_option maxRecDepth 1000000 in
theorem ksized_yes {size : Int} {f ww : Nat} {least : Int} {I : Nat} (h : Ly size f ww least I) (w : World) : Calls Tryz.prog 56 #[.int .i64 size] w fun e w' => e = .returned (.bool true) ∧ w' = w := by
  rcases h with ⟨rfl, -⟩ | ⟨rfl, -⟩ <;>
  · go_enter Tryz.func56, Tryz.ntmps56
    go_wp2
    go_ret
    exact ⟨rfl, rfl⟩
set_option maxRecDepth 1000000 in
theorem kshape_any {size : Int} {f ww : Nat} {least : Int} {I : Nat} (h : Ly size f ww least I) (w : World) : Calls Tryz.prog 57 #[.int .i64 size] w fun e w' => e = .returned (.tuple #[.int .i64 f, .int .i64 ww, .int .i64 least]) ∧ w' = w := by
  rcases h with ⟨rfl, rfl, rfl, rfl, -⟩ | ⟨rfl, rfl, rfl, rfl, -⟩
  · go_enter Tryz.func57, Tryz.ntmps57
    go_wp2
    go_returns
    exact ⟨rfl, rfl⟩
  · go_enter Tryz.func57, Tryz.ntmps57
    go_wp2
    go_returns
    exact ⟨rfl, rfl⟩
set_option maxRecDepth 1000000 in
set_option maxHeartbeats 800000 in
theorem kpow_any (n : Nat) (w : World) (hn : n ≤ 63) : Calls Tryz.prog 58 #[.int .i64 n] w fun e w' => e = .returned (.int .u64 ((2 ^ n : Nat) : Int)) ∧ w' = w := by
  have HP : Hid (∀ k, k ≤ n → 2 ^ k ≤ 9223372036854775808) := fun k hk => by
    have : 2 ^ k ≤ 2 ^ 63 := Nat.pow_le_pow_right (by decide) (by omega)
    have e : (2 : Nat) ^ 63 = 9223372036854775808 := by decide
    omega
  have HS : Hid (∀ k : Nat, 2 ^ (k + 1) = 2 ^ k * 2) := fun k => Nat.pow_succ ..
  obtain ⟨X, hX⟩ : ∃ X : Nat, 2 ^ n = X := ⟨_, rfl⟩
  rw [hX]
  have HXX : Hid (2 ^ n = X) := hX
  clear hX
  go_enter Tryz.func58, Tryz.ntmps58
  go_wp2
  go_loopg [3, 4] n (fun g xv iv wr => wr = w ∧ ∃ k x : Nat, xv = .int .u64 x ∧ iv = .int .i64 k ∧ k + g = n ∧ Hid (x = 2 ^ k))
  case atStart => exact ⟨rfl, 0, 1, rfl, rfl, Nat.zero_add _, rfl⟩
  case round =>
    obtain ⟨rfl, k, x, rfl, rfl, hkg, HX⟩ := hrel
    by_cases hk : k < n
    · have hkI : (k : Int) < n := by omega
      have h2 : 2 * (x : Int) ≤ 9223372036854775808 := by
        have a := HP.out (k + 1) (by omega)
        have b := HS.out k
        have c := HX.out
        omega
      have HX2 : Hid (x * 2 = 2 ^ (k + 1)) := by show _ = _; rw [HS.out, HX.out]
      go_wp2
      go_roundg (gk - 1)
      case measure => omega
      case rel => exact ⟨rfl, k + 1, x * 2, by rw [show ((x * 2 : Nat) : Int) = 2 * (x : Int) by omega], by go_num, by omega, HX2⟩
    · have hkI : ¬ (k : Int) < n := by omega
      obtain rfl : k = n := by omega
      go_wp2
      go_ret
      have e : x = X := by rw [HX.out, HXX.out]
      subst e
      exact ⟨rfl, rfl⟩
abbrev PowC (n : Int) (x : Int) : Prop := ∀ w, Calls Tryz.prog 58 #[.int .i64 n] w fun e w' => e = .returned (.int .u64 x) ∧ w' = w
set_option maxRecDepth 1000000 in
theorem kparts_size {bits : Nat} {size : Int} (h1 : ¬ size = 32) (h2 : ¬ size = 64) (w : World) :
    Calls Tryz.prog 30 #[.int .u64 bits, .int .i64 size] w fun e w' => e = .returned (.tuple #[.bool false, .int .u64 0, .int .i64 0, .int .i64 3]) ∧ Below w.heap.size w w' := by
  have hZ := fun w => ksized_no size w h1 h2
  go_enter Tryz.func30, Tryz.ntmps30
  go_wp2_with (go_at_call 56; refine (hZ _).mono ?_; rintro e w9 ⟨rfl, rfl⟩)
  go_returns
  exact ⟨rfl, Below.refl _ _⟩
set_option maxRecDepth 1000000 in
set_option maxHeartbeats 3200000 in
theorem kparts_32 {bits E M : Nat} {sg : Bool} (hb : bits < 18446744073709551616) (hE : bits / 8388608 % 256 = E) (hM : bits % 8388608 = M) (hsg : (((bits : Int) / 2147483648) % 2 == 1) = sg) (w : World) :
    Calls Tryz.prog 30 #[.int .u64 bits, .int .i64 32] w fun e w' => e = .returned (.tuple #[.bool sg, .int .u64 ((if E = 255 then 0 else if E = 0 then M else M + 8388608 : Nat) : Int), .int .i64 (if E = 255 then 0 else if E = 0 then -149 else -149 + E - 1), .int .i64 (if E = 255 then (if M = 0 then 1 else 2) else 0)]) ∧ Below w.heap.size w w' := by
  have hZ := fun w => ksized_yes lyA w
  have hS := fun w => kshape_any lyA w
  have p1 : PowC 23 8388608 := fun w => kpow_any 23 w (by decide)
  have p2 : PowC 8 256 := fun w => kpow_any 8 w (by decide)
  have p3 : PowC 31 2147483648 := fun w => kpow_any 31 w (by decide)
  have hEI : (bits : Int) / 8388608 % 256 = (E : Int) := by omega
  have hMI : (bits : Int) % 8388608 = (M : Int) := by omega
  have hE1 : E < 256 := by omega
  have hM1 : M < 8388608 := by omega
  clear hE hM
  by_cases k1 : E = 255
  · rw [if_pos k1, if_pos k1, if_pos k1]
    subst k1
    by_cases k2 : M = 0
    · rw [if_pos k2]
      subst k2
      go_enter Tryz.func30, Tryz.ntmps30
      go_wp2_with (first
        | (go_at_call 56; refine (hZ _).mono ?_; rintro e w9 ⟨rfl, rfl⟩)
        | (go_at_call 57; refine (hS _).mono ?_; rintro e w9 ⟨rfl, rfl⟩)
        | (go_at_call 58; (with_reducible refine (p1 _).mono ?_); rintro e w9 ⟨rfl, rfl⟩)
        | (go_at_call 58; (with_reducible refine (p2 _).mono ?_); rintro e w9 ⟨rfl, rfl⟩)
        | (go_at_call 58; (with_reducible refine (p3 _).mono ?_); rintro e w9 ⟨rfl, rfl⟩))
      refine wp_region_above _ (Below.refl _ _) (by kernel_rfl) (by kernel_rfl) ?_
      intro hCl
      repeat (go_big_quiet_step ((first | (go_at_call 58; with_reducible exact Cl.call_same (p1 _)) | (go_at_call 58; with_reducible exact Cl.call_same (p2 _)))))
      refine wpQuiet_nil ?_
      intro _ hw'
      obtain ⟨y, hx⟩ := hw'
      subst hx
      go_wp2_with (first
        | (go_at_call 56; refine (hZ _).mono ?_; rintro e w9 ⟨rfl, rfl⟩)
        | (go_at_call 57; refine (hS _).mono ?_; rintro e w9 ⟨rfl, rfl⟩)
        | (go_at_call 58; (with_reducible refine (p1 _).mono ?_); rintro e w9 ⟨rfl, rfl⟩)
        | (go_at_call 58; (with_reducible refine (p2 _).mono ?_); rintro e w9 ⟨rfl, rfl⟩)
        | (go_at_call 58; (with_reducible refine (p3 _).mono ?_); rintro e w9 ⟨rfl, rfl⟩))
      go_returns
      exact ⟨rfl, y.below⟩
    · rw [if_neg k2]
      have b2 : ((M : Int) == 0) = false := by simp; omega
      go_enter Tryz.func30, Tryz.ntmps30
      go_wp2_with (first
        | (go_at_call 56; refine (hZ _).mono ?_; rintro e w9 ⟨rfl, rfl⟩)
        | (go_at_call 57; refine (hS _).mono ?_; rintro e w9 ⟨rfl, rfl⟩)
        | (go_at_call 58; (with_reducible refine (p1 _).mono ?_); rintro e w9 ⟨rfl, rfl⟩)
        | (go_at_call 58; (with_reducible refine (p2 _).mono ?_); rintro e w9 ⟨rfl, rfl⟩)
        | (go_at_call 58; (with_reducible refine (p3 _).mono ?_); rintro e w9 ⟨rfl, rfl⟩))
      refine wp_region_above _ (Below.refl _ _) (by kernel_rfl) (by kernel_rfl) ?_
      intro hCl
      repeat (go_big_quiet_step ((first | (go_at_call 58; with_reducible exact Cl.call_same (p1 _)) | (go_at_call 58; with_reducible exact Cl.call_same (p2 _)))))
      refine wpQuiet_nil ?_
      intro _ hw'
      obtain ⟨y, hx⟩ := hw'
      subst hx
      go_wp2_with (first
        | (go_at_call 56; refine (hZ _).mono ?_; rintro e w9 ⟨rfl, rfl⟩)
        | (go_at_call 57; refine (hS _).mono ?_; rintro e w9 ⟨rfl, rfl⟩)
        | (go_at_call 58; (with_reducible refine (p1 _).mono ?_); rintro e w9 ⟨rfl, rfl⟩)
        | (go_at_call 58; (with_reducible refine (p2 _).mono ?_); rintro e w9 ⟨rfl, rfl⟩)
        | (go_at_call 58; (with_reducible refine (p3 _).mono ?_); rintro e w9 ⟨rfl, rfl⟩))
      go_returns
      exact ⟨rfl, y.below⟩
  · rw [if_neg k1, if_neg k1, if_neg k1]
    have b1 : ((E : Int) == 255) = false := by simp; omega
    by_cases k2 : E = 0
    · rw [if_pos k2, if_pos k2]
      subst k2
      go_enter Tryz.func30, Tryz.ntmps30
      go_wp2_with (first
        | (go_at_call 56; refine (hZ _).mono ?_; rintro e w9 ⟨rfl, rfl⟩)
        | (go_at_call 57; refine (hS _).mono ?_; rintro e w9 ⟨rfl, rfl⟩)
        | (go_at_call 58; (with_reducible refine (p1 _).mono ?_); rintro e w9 ⟨rfl, rfl⟩)
        | (go_at_call 58; (with_reducible refine (p2 _).mono ?_); rintro e w9 ⟨rfl, rfl⟩)
        | (go_at_call 58; (with_reducible refine (p3 _).mono ?_); rintro e w9 ⟨rfl, rfl⟩))
      refine wp_region_above _ (Below.refl _ _) (by kernel_rfl) (by kernel_rfl) ?_
      intro hCl
      repeat (go_big_quiet_step ((first | (go_at_call 58; with_reducible exact Cl.call_same (p1 _)) | (go_at_call 58; with_reducible exact Cl.call_same (p2 _)))))
      refine wpQuiet_nil ?_
      intro _ hw'
      obtain ⟨y, hx⟩ := hw'
      subst hx
      go_wp2_with (first
        | (go_at_call 56; refine (hZ _).mono ?_; rintro e w9 ⟨rfl, rfl⟩)
        | (go_at_call 57; refine (hS _).mono ?_; rintro e w9 ⟨rfl, rfl⟩)
        | (go_at_call 58; (with_reducible refine (p1 _).mono ?_); rintro e w9 ⟨rfl, rfl⟩)
        | (go_at_call 58; (with_reducible refine (p2 _).mono ?_); rintro e w9 ⟨rfl, rfl⟩)
        | (go_at_call 58; (with_reducible refine (p3 _).mono ?_); rintro e w9 ⟨rfl, rfl⟩))
      go_returns
      exact ⟨rfl, y.below⟩
    · rw [if_neg k2, if_neg k2]
      have b2 : ((E : Int) == 0) = false := by simp; omega
      go_enter Tryz.func30, Tryz.ntmps30
      go_wp2_with (first
        | (go_at_call 56; refine (hZ _).mono ?_; rintro e w9 ⟨rfl, rfl⟩)
        | (go_at_call 57; refine (hS _).mono ?_; rintro e w9 ⟨rfl, rfl⟩)
        | (go_at_call 58; (with_reducible refine (p1 _).mono ?_); rintro e w9 ⟨rfl, rfl⟩)
        | (go_at_call 58; (with_reducible refine (p2 _).mono ?_); rintro e w9 ⟨rfl, rfl⟩)
        | (go_at_call 58; (with_reducible refine (p3 _).mono ?_); rintro e w9 ⟨rfl, rfl⟩))
      refine wp_region_above _ (Below.refl _ _) (by kernel_rfl) (by kernel_rfl) ?_
      intro hCl
      repeat (go_big_quiet_step ((first | (go_at_call 58; with_reducible exact Cl.call_same (p1 _)) | (go_at_call 58; with_reducible exact Cl.call_same (p2 _)))))
      refine wpQuiet_nil ?_
      intro _ hw'
      obtain ⟨y, hx⟩ := hw'
      subst hx
      go_wp2_with (first
        | (go_at_call 56; refine (hZ _).mono ?_; rintro e w9 ⟨rfl, rfl⟩)
        | (go_at_call 57; refine (hS _).mono ?_; rintro e w9 ⟨rfl, rfl⟩)
        | (go_at_call 58; (with_reducible refine (p1 _).mono ?_); rintro e w9 ⟨rfl, rfl⟩)
        | (go_at_call 58; (with_reducible refine (p2 _).mono ?_); rintro e w9 ⟨rfl, rfl⟩)
        | (go_at_call 58; (with_reducible refine (p3 _).mono ?_); rintro e w9 ⟨rfl, rfl⟩))
      go_returns
      exact ⟨rfl, y.below⟩
set_option maxRecDepth 1000000 in
set_option maxHeartbeats 3200000 in
theorem kparts_64 {bits E M : Nat} {sg : Bool} (hb : bits < 18446744073709551616) (hE : bits / 4503599627370496 % 2048 = E) (hM : bits % 4503599627370496 = M) (hsg : (((bits : Int) / 9223372036854775808) % 2 == 1) = sg) (w : World) :
    Calls Tryz.prog 30 #[.int .u64 bits, .int .i64 64] w fun e w' => e = .returned (.tuple #[.bool sg, .int .u64 ((if E = 2047 then 0 else if E = 0 then M else M + 4503599627370496 : Nat) : Int), .int .i64 (if E = 2047 then 0 else if E = 0 then -1074 else -1074 + E - 1), .int .i64 (if E = 2047 then (if M = 0 then 1 else 2) else 0)]) ∧ Below w.heap.size w w' := by
  have hZ := fun w => ksized_yes lyB w
  have hS := fun w => kshape_any lyB w
  have p1 : PowC 52 4503599627370496 := fun w => kpow_any 52 w (by decide)
  have p2 : PowC 11 2048 := fun w => kpow_any 11 w (by decide)
  have p3 : PowC 63 9223372036854775808 := fun w => kpow_any 63 w (by decide)
  have hEI : (bits : Int) / 4503599627370496 % 2048 = (E : Int) := by omega
  have hMI : (bits : Int) % 4503599627370496 = (M : Int) := by omega
  have hE1 : E < 2048 := by omega
  have hM1 : M < 4503599627370496 := by omega
  clear hE hM
  by_cases k1 : E = 2047
  · rw [if_pos k1, if_pos k1, if_pos k1]
    subst k1
    by_cases k2 : M = 0
    · rw [if_pos k2]
      subst k2
      go_enter Tryz.func30, Tryz.ntmps30
      go_wp2_with (first
        | (go_at_call 56; refine (hZ _).mono ?_; rintro e w9 ⟨rfl, rfl⟩)
        | (go_at_call 57; refine (hS _).mono ?_; rintro e w9 ⟨rfl, rfl⟩)
        | (go_at_call 58; (with_reducible refine (p1 _).mono ?_); rintro e w9 ⟨rfl, rfl⟩)
        | (go_at_call 58; (with_reducible refine (p2 _).mono ?_); rintro e w9 ⟨rfl, rfl⟩)
        | (go_at_call 58; (with_reducible refine (p3 _).mono ?_); rintro e w9 ⟨rfl, rfl⟩))
      refine wp_region_above _ (Below.refl _ _) (by kernel_rfl) (by kernel_rfl) ?_
      intro hCl
      repeat (go_big_quiet_step ((first | (go_at_call 58; with_reducible exact Cl.call_same (p1 _)) | (go_at_call 58; with_reducible exact Cl.call_same (p2 _)))))
      refine wpQuiet_nil ?_
      intro _ hw'
      obtain ⟨y, hx⟩ := hw'
      subst hx
      go_wp2_with (first
        | (go_at_call 56; refine (hZ _).mono ?_; rintro e w9 ⟨rfl, rfl⟩)
        | (go_at_call 57; refine (hS _).mono ?_; rintro e w9 ⟨rfl, rfl⟩)
        | (go_at_call 58; (with_reducible refine (p1 _).mono ?_); rintro e w9 ⟨rfl, rfl⟩)
        | (go_at_call 58; (with_reducible refine (p2 _).mono ?_); rintro e w9 ⟨rfl, rfl⟩)
        | (go_at_call 58; (with_reducible refine (p3 _).mono ?_); rintro e w9 ⟨rfl, rfl⟩))
      go_returns
      exact ⟨rfl, y.below⟩
    · rw [if_neg k2]
      have b2 : ((M : Int) == 0) = false := by simp; omega
      go_enter Tryz.func30, Tryz.ntmps30
      go_wp2_with (first
        | (go_at_call 56; refine (hZ _).mono ?_; rintro e w9 ⟨rfl, rfl⟩)
        | (go_at_call 57; refine (hS _).mono ?_; rintro e w9 ⟨rfl, rfl⟩)
        | (go_at_call 58; (with_reducible refine (p1 _).mono ?_); rintro e w9 ⟨rfl, rfl⟩)
        | (go_at_call 58; (with_reducible refine (p2 _).mono ?_); rintro e w9 ⟨rfl, rfl⟩)
        | (go_at_call 58; (with_reducible refine (p3 _).mono ?_); rintro e w9 ⟨rfl, rfl⟩))
      refine wp_region_above _ (Below.refl _ _) (by kernel_rfl) (by kernel_rfl) ?_
      intro hCl
      repeat (go_big_quiet_step ((first | (go_at_call 58; with_reducible exact Cl.call_same (p1 _)) | (go_at_call 58; with_reducible exact Cl.call_same (p2 _)))))
      refine wpQuiet_nil ?_
      intro _ hw'
      obtain ⟨y, hx⟩ := hw'
      subst hx
      go_wp2_with (first
        | (go_at_call 56; refine (hZ _).mono ?_; rintro e w9 ⟨rfl, rfl⟩)
        | (go_at_call 57; refine (hS _).mono ?_; rintro e w9 ⟨rfl, rfl⟩)
        | (go_at_call 58; (with_reducible refine (p1 _).mono ?_); rintro e w9 ⟨rfl, rfl⟩)
        | (go_at_call 58; (with_reducible refine (p2 _).mono ?_); rintro e w9 ⟨rfl, rfl⟩)
        | (go_at_call 58; (with_reducible refine (p3 _).mono ?_); rintro e w9 ⟨rfl, rfl⟩))
      go_returns
      exact ⟨rfl, y.below⟩
  · rw [if_neg k1, if_neg k1, if_neg k1]
    have b1 : ((E : Int) == 2047) = false := by simp; omega
    by_cases k2 : E = 0
    · rw [if_pos k2, if_pos k2]
      subst k2
      go_enter Tryz.func30, Tryz.ntmps30
      go_wp2_with (first
        | (go_at_call 56; refine (hZ _).mono ?_; rintro e w9 ⟨rfl, rfl⟩)
        | (go_at_call 57; refine (hS _).mono ?_; rintro e w9 ⟨rfl, rfl⟩)
        | (go_at_call 58; (with_reducible refine (p1 _).mono ?_); rintro e w9 ⟨rfl, rfl⟩)
        | (go_at_call 58; (with_reducible refine (p2 _).mono ?_); rintro e w9 ⟨rfl, rfl⟩)
        | (go_at_call 58; (with_reducible refine (p3 _).mono ?_); rintro e w9 ⟨rfl, rfl⟩))
      refine wp_region_above _ (Below.refl _ _) (by kernel_rfl) (by kernel_rfl) ?_
      intro hCl
      repeat (go_big_quiet_step ((first | (go_at_call 58; with_reducible exact Cl.call_same (p1 _)) | (go_at_call 58; with_reducible exact Cl.call_same (p2 _)))))
      refine wpQuiet_nil ?_
      intro _ hw'
      obtain ⟨y, hx⟩ := hw'
      subst hx
      go_wp2_with (first
        | (go_at_call 56; refine (hZ _).mono ?_; rintro e w9 ⟨rfl, rfl⟩)
        | (go_at_call 57; refine (hS _).mono ?_; rintro e w9 ⟨rfl, rfl⟩)
        | (go_at_call 58; (with_reducible refine (p1 _).mono ?_); rintro e w9 ⟨rfl, rfl⟩)
        | (go_at_call 58; (with_reducible refine (p2 _).mono ?_); rintro e w9 ⟨rfl, rfl⟩)
        | (go_at_call 58; (with_reducible refine (p3 _).mono ?_); rintro e w9 ⟨rfl, rfl⟩))
      go_returns
      exact ⟨rfl, y.below⟩
    · rw [if_neg k2, if_neg k2]
      have b2 : ((E : Int) == 0) = false := by simp; omega
      go_enter Tryz.func30, Tryz.ntmps30
      go_wp2_with (first
        | (go_at_call 56; refine (hZ _).mono ?_; rintro e w9 ⟨rfl, rfl⟩)
        | (go_at_call 57; refine (hS _).mono ?_; rintro e w9 ⟨rfl, rfl⟩)
        | (go_at_call 58; (with_reducible refine (p1 _).mono ?_); rintro e w9 ⟨rfl, rfl⟩)
        | (go_at_call 58; (with_reducible refine (p2 _).mono ?_); rintro e w9 ⟨rfl, rfl⟩)
        | (go_at_call 58; (with_reducible refine (p3 _).mono ?_); rintro e w9 ⟨rfl, rfl⟩))
      refine wp_region_above _ (Below.refl _ _) (by kernel_rfl) (by kernel_rfl) ?_
      intro hCl
      repeat (go_big_quiet_step ((first | (go_at_call 58; with_reducible exact Cl.call_same (p1 _)) | (go_at_call 58; with_reducible exact Cl.call_same (p2 _)))))
      refine wpQuiet_nil ?_
      intro _ hw'
      obtain ⟨y, hx⟩ := hw'
      subst hx
      go_wp2_with (first
        | (go_at_call 56; refine (hZ _).mono ?_; rintro e w9 ⟨rfl, rfl⟩)
        | (go_at_call 57; refine (hS _).mono ?_; rintro e w9 ⟨rfl, rfl⟩)
        | (go_at_call 58; (with_reducible refine (p1 _).mono ?_); rintro e w9 ⟨rfl, rfl⟩)
        | (go_at_call 58; (with_reducible refine (p2 _).mono ?_); rintro e w9 ⟨rfl, rfl⟩)
        | (go_at_call 58; (with_reducible refine (p3 _).mono ?_); rintro e w9 ⟨rfl, rfl⟩))
      go_returns
      exact ⟨rfl, y.below⟩
theorem kparts_any {bits : Nat} {size : Int} {f ww : Nat} {least : Int} {I : Nat} (h : Ly size f ww least I) (hb : bits < 18446744073709551616) (w : World) :
    Calls Tryz.prog 30 #[.int .u64 bits, .int .i64 size] w fun e w' => e = .returned (.tuple #[.bool (sgn f ww bits), .int .u64 (ptM f ww I bits), .int .i64 (ptE f ww I least bits), .int .i64 (ptK f ww I bits)]) ∧ Below w.heap.size w w' := by
  rcases h with ⟨rfl, rfl, rfl, rfl, rfl⟩ | ⟨rfl, rfl, rfl, rfl, rfl⟩
  · obtain ⟨E, hE⟩ : ∃ E, bits / 8388608 % 256 = E := ⟨_, rfl⟩
    obtain ⟨M, hM⟩ : ∃ M, bits % 8388608 = M := ⟨_, rfl⟩
    have hs : (((bits : Int) / 2147483648) % 2 == 1) = sgn 23 8 bits := by
      have e : sgn 23 8 bits = decide (bits / 2147483648 % 2 = 1) := rfl
      rw [e]
      rcases Nat.mod_two_eq_zero_or_one (bits / 2147483648) with k | k
      · have : (bits : Int) / 2147483648 % 2 = 0 := by omega
        rw [this, k]; rfl
      · have : (bits : Int) / 2147483648 % 2 = 1 := by omega
        rw [this, k]; rfl
    have hbr : bare 23 8 bits = E * 8388608 + M := by
      have : bare 23 8 bits = bits % 2147483648 := rfl
      omega
    have hM1 : M < 8388608 := by omega
    have hE1 : E < 256 := by omega
    have q1 : (E * 8388608 + M) / 2 ^ 23 = E := by rw [show (2 : Nat) ^ 23 = 8388608 from rfl]; omega
    have q2 : (E * 8388608 + M) % 2 ^ 23 = M := by rw [show (2 : Nat) ^ 23 = 8388608 from rfl]; omega
    have r1 : (if E = 255 then 0 else if E = 0 then M else M + 8388608) = ptM 23 8 2139095040 bits := by
      unfold ptM pm
      rw [hbr, q1, q2, show (2 : Nat) ^ 23 = 8388608 from rfl]
      by_cases k : E = 255
      · rw [if_pos k, if_neg (show ¬ E * 8388608 + M < 2139095040 by omega)]
      · rw [if_neg k, if_pos (show E * 8388608 + M < 2139095040 by omega)]
        by_cases k0 : E = 0
        · rw [if_pos k0, if_pos k0]
        · rw [if_neg k0, if_neg k0]; omega
    have r2 : (if E = 255 then (0 : Int) else if E = 0 then -149 else -149 + E - 1) = ptE 23 8 2139095040 (-149) bits := by
      unfold ptE pk
      rw [hbr, q1]
      by_cases k : E = 255
      · rw [if_pos k, if_neg (show ¬ E * 8388608 + M < 2139095040 by omega)]
      · rw [if_neg k, if_pos (show E * 8388608 + M < 2139095040 by omega)]
        by_cases k0 : E = 0
        · rw [if_pos k0]; omega
        · rw [if_neg k0]; omega
    have r3 : (if E = 255 then (if M = 0 then (1 : Int) else 2) else 0) = ptK 23 8 2139095040 bits := by
      unfold ptK
      rw [hbr]
      by_cases k : E = 255
      · rw [if_pos k, if_neg (show ¬ E * 8388608 + M < 2139095040 by omega)]
        by_cases k2 : M = 0
        · rw [if_pos k2, if_pos (show E * 8388608 + M = 2139095040 by omega)]
        · rw [if_neg k2, if_neg (show ¬ E * 8388608 + M = 2139095040 by omega)]
      · rw [if_neg k, if_pos (show E * 8388608 + M < 2139095040 by omega)]
    have := kparts_32 hb hE hM hs w
    rw [r1, r2, r3] at this
    exact this
  · obtain ⟨E, hE⟩ : ∃ E, bits / 4503599627370496 % 2048 = E := ⟨_, rfl⟩
    obtain ⟨M, hM⟩ : ∃ M, bits % 4503599627370496 = M := ⟨_, rfl⟩
    have hs : (((bits : Int) / 9223372036854775808) % 2 == 1) = sgn 52 11 bits := by
      have e : sgn 52 11 bits = decide (bits / 9223372036854775808 % 2 = 1) := rfl
      rw [e]
      rcases Nat.mod_two_eq_zero_or_one (bits / 9223372036854775808) with k | k
      · have : (bits : Int) / 9223372036854775808 % 2 = 0 := by omega
        rw [this, k]; rfl
      · have : (bits : Int) / 9223372036854775808 % 2 = 1 := by omega
        rw [this, k]; rfl
    have hbr : bare 52 11 bits = E * 4503599627370496 + M := by
      have : bare 52 11 bits = bits % 9223372036854775808 := rfl
      omega
    have hM1 : M < 4503599627370496 := by omega
    have hE1 : E < 2048 := by omega
    have q1 : (E * 4503599627370496 + M) / 2 ^ 52 = E := by rw [show (2 : Nat) ^ 52 = 4503599627370496 from rfl]; omega
    have q2 : (E * 4503599627370496 + M) % 2 ^ 52 = M := by rw [show (2 : Nat) ^ 52 = 4503599627370496 from rfl]; omega
    have r1 : (if E = 2047 then 0 else if E = 0 then M else M + 4503599627370496) = ptM 52 11 9218868437227405312 bits := by
      unfold ptM pm
      rw [hbr, q1, q2, show (2 : Nat) ^ 52 = 4503599627370496 from rfl]
      by_cases k : E = 2047
      · rw [if_pos k, if_neg (show ¬ E * 4503599627370496 + M < 9218868437227405312 by omega)]
      · rw [if_neg k, if_pos (show E * 4503599627370496 + M < 9218868437227405312 by omega)]
        by_cases k0 : E = 0
        · rw [if_pos k0, if_pos k0]
        · rw [if_neg k0, if_neg k0]; omega
    have r2 : (if E = 2047 then (0 : Int) else if E = 0 then -1074 else -1074 + E - 1) = ptE 52 11 9218868437227405312 (-1074) bits := by
      unfold ptE pk
      rw [hbr, q1]
      by_cases k : E = 2047
      · rw [if_pos k, if_neg (show ¬ E * 4503599627370496 + M < 9218868437227405312 by omega)]
      · rw [if_neg k, if_pos (show E * 4503599627370496 + M < 9218868437227405312 by omega)]
        by_cases k0 : E = 0
        · rw [if_pos k0]; omega
        · rw [if_neg k0]; omega
    have r3 : (if E = 2047 then (if M = 0 then (1 : Int) else 2) else 0) = ptK 52 11 9218868437227405312 bits := by
      unfold ptK
      rw [hbr]
      by_cases k : E = 2047
      · rw [if_pos k, if_neg (show ¬ E * 4503599627370496 + M < 9218868437227405312 by omega)]
        by_cases k2 : M = 0
        · rw [if_pos k2, if_pos (show E * 4503599627370496 + M = 9218868437227405312 by omega)]
        · rw [if_neg k2, if_neg (show ¬ E * 4503599627370496 + M = 9218868437227405312 by omega)]
      · rw [if_neg k, if_pos (show E * 4503599627370496 + M < 9218868437227405312 by omega)]
    have := kparts_64 hb hE hM hs w
    rw [r1, r2, r3] at this
    exact this
end Go.Proofs.YthbabhbfpcfenaaGreatDoor
