/- HNear: these texts in one. -/
import Derived.Test.YthbabhbfpcfenaaGreatDoorPkM8
/- The document's Nearest. -/
namespace Go.Proofs.YthbabhbfpcfenaaGreatDoor
open Go.RowKit
set_option linter.unusedVariables false
set_option linter.unusedSimpArgs false

theorem small_b {n T : Nat} (h : n < 10 ^ T) (hT : T ≤ 16000) : oP n ≤ 6000 ∧ (oL n).length ≤ 16000 := by
  have hl := o_low n
  rcases oP_le h with h1 | h1
  · omega
  · subst h1
    rw [o_zero.1, o_zero.2]; simp
theorem one_D (p : Int) (Q : Nat) (h : p + 10000 = (Q : Int)) : oS (10 ^ Q) = ⟨#[49]⟩ ∧ oP (10 ^ Q) = p + 1 := by
  have hv : num [49] * 10 ^ (p + 1 - (([49] : List UInt8).length : Int) + 10000).toNat = 10 ^ Q := by
    rw [show (p + 1 - (([49] : List UInt8).length : Int) + 10000).toNat = Q by simp; omega, show num [49] = 1 from rfl, Nat.one_mul]
  have hd : IsDec [49] (p + 1) (10 ^ Q) := ⟨rfl, rfl, rfl, fun h => (by cases h), by simp; omega, hv⟩
  obtain ⟨h1, h2⟩ := o_of hd
  exact ⟨by unfold oS; rw [← h1], h2.symm⟩
theorem near_cmp (v Q : Nat) : (ordN (v + v) (v / 10 ^ Q * 10 ^ Q + (v / 10 ^ Q * 10 ^ Q + 10 ^ Q)) < 0 → near v Q = v / 10 ^ Q * 10 ^ Q) ∧
    (ordN (v + v) (v / 10 ^ Q * 10 ^ Q + (v / 10 ^ Q * 10 ^ Q + 10 ^ Q)) = 0 → v / 10 ^ Q * 10 ^ Q / 10 ^ Q % 10 % 2 = 0 → near v Q = v / 10 ^ Q * 10 ^ Q) ∧
    (ordN (v + v) (v / 10 ^ Q * 10 ^ Q + (v / 10 ^ Q * 10 ^ Q + 10 ^ Q)) = 0 → ¬ v / 10 ^ Q * 10 ^ Q / 10 ^ Q % 10 % 2 = 0 → near v Q = v / 10 ^ Q * 10 ^ Q + 10 ^ Q) ∧
    (0 < ordN (v + v) (v / 10 ^ Q * 10 ^ Q + (v / 10 ^ Q * 10 ^ Q + 10 ^ Q)) → near v Q = v / 10 ^ Q * 10 ^ Q + 10 ^ Q) := by
  have h0 := Nat.div_add_mod v (10 ^ Q)
  rw [Nat.mul_comm] at h0
  have hd : v / 10 ^ Q * 10 ^ Q / 10 ^ Q = v / 10 ^ Q := Nat.mul_div_cancel _ (pow_pos10 Q)
  rw [hd]
  unfold near ordN
  generalize v / 10 ^ Q * 10 ^ Q = b at *
  generalize v % 10 ^ Q = r at *
  generalize v / 10 ^ Q = t at *
  generalize (10 : Nat) ^ Q = A at *
  subst h0
  refine ⟨fun h => ?_, fun h h2 => ?_, fun h h2 => ?_, fun h => ?_⟩
  all_goals
    split at h
    · first | (exfalso; omega) | (rw [if_pos (by omega)]) | (rw [if_neg (by omega)])
    · split at h
      · first | (exfalso; omega) | (rw [if_pos (by omega)]) | (rw [if_neg (by omega)])
      · first | (exfalso; omega) | (rw [if_pos (by omega)]) | (rw [if_neg (by omega)])
set_option maxRecDepth 1000000 in
set_option maxHeartbeats 800000 in
theorem hn_whole (S : ByteArray) (P p L : Int) (w : World) (hl : HLowC S P L) (h : p ≤ L) :
    Calls Tryz.prog 109 #[.agg #[.string S, .int .i64 P], .int .i64 p] w fun e w' => e = .returned (.agg #[.string S, .int .i64 P]) ∧ Below w.heap.size w w' := by
  go_enter Tryz.func109, Tryz.ntmps109
  go_wp2_with (go_at_call 127; refine (hl _).mono ?_; rintro e w2 ⟨rfl, hb2⟩; obtain ⟨a0, a1, a2, a3⟩ := keepb hb2 (B := w.heap.size) (x := .string S) (y := .int .i64 P) (by simp [BoxD, go_sem]); obtain ⟨r0, r1, r2, r3⟩ := keepb hb2 (B := w.heap.size + 1) (x := .string ⟨#[]⟩) (y := .int .i64 0) (by simp [BoxD, go_sem]))
  refine bodyPost_ret (by simp [results, Tryz.results109, go_sem, cs_same, r0, r1]; rfl) rfl ?_
  refine ⟨rfl, ?_⟩
  have h0 := bel_call (B := w.heap.size) (w := w) (by go_grown) hb2 (Nat.le_refl _)
  iterate 2 (refine Below.setCell ?_ (by dsimp only; omega) _)
  exact h0
set_option maxRecDepth 1000000 in
set_option maxHeartbeats 800000 in
theorem hn_nil (S : ByteArray) (P p L : Int) (w : World) (hl : HLowC S P L) (h : ¬ p ≤ L) (hS : S.size = 0) :
    Calls Tryz.prog 109 #[.agg #[.string S, .int .i64 P], .int .i64 p] w fun e w' => e = .returned (.agg #[.string S, .int .i64 P]) ∧ Below w.heap.size w w' := by
  have e1 : S.toList.isEmpty = true := empty_yes S hS
  clear hS
  go_enter Tryz.func109, Tryz.ntmps109
  go_wp2_with (go_at_call 127; refine (hl _).mono ?_; rintro e w2 ⟨rfl, hb2⟩; obtain ⟨a0, a1, a2, a3⟩ := keepb hb2 (B := w.heap.size) (x := .string S) (y := .int .i64 P) (by simp [BoxD, go_sem]); obtain ⟨r0, r1, r2, r3⟩ := keepb hb2 (B := w.heap.size + 1) (x := .string ⟨#[]⟩) (y := .int .i64 0) (by simp [BoxD, go_sem]))
  refine bodyPost_ret (by simp [results, Tryz.results109, go_sem, cs_same, r0, r1]; rfl) rfl ?_
  refine ⟨rfl, ?_⟩
  have h0 := bel_call (B := w.heap.size) (w := w) (by go_grown) hb2 (Nat.le_refl _)
  iterate 2 (refine Below.setCell ?_ (by dsimp only; omega) _)
  exact h0
set_option maxRecDepth 1000000 in
set_option maxHeartbeats 800000 in
theorem hn_zero (S : ByteArray) (P p L : Int) (w : World) (hl : HLowC S P L) (h : ¬ p ≤ L) (hS : 0 < S.size) (hk : P - p < 0) (hP0 : -100000 ≤ P) (hP1 : P ≤ 100000) (hp0 : -100000 ≤ p) (hp1 : p ≤ 100000) :
    Calls Tryz.prog 109 #[.agg #[.string S, .int .i64 P], .int .i64 p] w fun e w' => e = .returned (.agg #[.string ⟨#[]⟩, .int .i64 0]) ∧ Below w.heap.size w w' := by
  have e1 : S.toList.isEmpty = false := empty_no S hS
  clear hS
  go_enter Tryz.func109, Tryz.ntmps109
  go_wp2_with (go_at_call 127; refine (hl _).mono ?_; rintro e w2 ⟨rfl, hb2⟩; obtain ⟨a0, a1, a2, a3⟩ := keepb hb2 (B := w.heap.size) (x := .string S) (y := .int .i64 P) (by simp [BoxD, go_sem]); obtain ⟨r0, r1, r2, r3⟩ := keepb hb2 (B := w.heap.size + 1) (x := .string ⟨#[]⟩) (y := .int .i64 0) (by simp [BoxD, go_sem]))
  refine bodyPost_ret (by simp [results, Tryz.results109, go_sem, cs_same, r0, r1]; rfl) rfl ?_
  refine ⟨rfl, ?_⟩
  have h0 := bel_call (B := w.heap.size) (w := w) (by go_grown) hb2 (Nat.le_refl _)
  iterate 2 (refine Below.setCell ?_ (by dsimp only; omega) _)
  exact h0
def HSumC (S1 : ByteArray) (P1 : Int) (S2 : ByteArray) (P2 : Int) (S : ByteArray) (P : Int) : Prop := ∀ w, Calls Tryz.prog 128 #[.agg #[.string S1, .int .i64 P1], .agg #[.string S2, .int .i64 P2]] w fun e w' => e = .returned (.agg #[.string S, .int .i64 P]) ∧ Below w.heap.size w w'
def HCompC (S1 : ByteArray) (P1 : Int) (S2 : ByteArray) (P2 r : Int) : Prop := ∀ w, Calls Tryz.prog 129 #[.agg #[.string S1, .int .i64 P1], .agg #[.string S2, .int .i64 P2]] w fun e w' => e = .returned (.int .i64 r) ∧ Below w.heap.size w w'
set_option maxRecDepth 1000000 in
set_option maxHeartbeats 3200000 in
theorem hn_main {S T SB SA SD SE : ByteArray} {P p L PB PA PD PE r : Int} {k d : Nat} (w : World) (hl : HLowC S P L) (h : ¬ p ≤ L) (hS : 0 < S.size) (hk : P - p = (k : Int)) (hkS : k ≤ S.size) (hT : S.extract 0 k = T)
    (hI : HInC T P SB PB) (hSA : HSumC SB PB ⟨#[49]⟩ (p + 1) SA PA) (hSD : HSumC S P S P SD PD) (hSE : HSumC SB PB SA PA SE PE) (hC : HCompC SD PD SE PE r) (hD : HDigC SB PB p d) (hd : d < 10)
    (hP0 : -100000 ≤ P) (hP1 : P ≤ 100000) (hp0 : -100000 ≤ p) (hp1 : p ≤ 100000) :
    Calls Tryz.prog 109 #[.agg #[.string S, .int .i64 P], .int .i64 p] w fun e w' => e = .returned (if r < 0 ∨ (r = 0 ∧ d % 2 = 0) then .agg #[.string SB, .int .i64 PB] else .agg #[.string SA, .int .i64 PA]) ∧ Below w.heap.size w w' := by
  have e1 : S.toList.isEmpty = false := empty_no S hS
  clear hS
  have hkI : ((k : Int)).toNat = k := by omega
  go_enter Tryz.func109, Tryz.ntmps109
  go_upto_region 6 with (go_at_call 127; refine (hl _).mono ?_; rintro e w2 ⟨rfl, hb2⟩; have bA := keepb hb2 (B := w.heap.size) (x := .string S) (y := .int .i64 P) (by simp [BoxD, go_sem]); have bR := keepb hb2 (B := w.heap.size + 1) (x := .string ⟨#[]⟩) (y := .int .i64 0) (by simp [BoxD, go_sem]); obtain ⟨a0, a1, a2, a3⟩ := id bA)
  have h0 : Below w.heap.size w w2 := bel_call (B := w.heap.size) (w := w) (by go_grown) hb2 (Nat.le_refl _)
  have hltR : w.heap.size + 1 < w2.heap.size := World.block_lt_of_cell? w2 _ bR.1
  have hlt : w.heap.size < w2.heap.size := by omega
  clear hb2
  go_cut [6] (fun b wx => ∃ B6, b = .pointer (some ⟨B6, 0, none⟩) ∧ w.heap.size + 1 < B6 ∧ BoxD wx B6 (.string SB) (.int .i64 PB) ∧ BoxD wx w.heap.size (.string S) (.int .i64 P) ∧ BoxD wx (w.heap.size + 1) (.string ⟨#[]⟩) (.int .i64 0) ∧ Below w.heap.size w wx)
  case first =>
    as_aux_lemma =>
    have hZ : ∀ x, Below (w2.alloc (Obj.cells #[Value.string ⟨#[]⟩, Value.int IntKind.i64 0] 91)).drew.heap.size (w2.alloc (Obj.cells #[Value.string ⟨#[]⟩, Value.int IntKind.i64 0] 91)).drew x → BoxD x w2.heap.size (.string ⟨#[]⟩) (.int .i64 0) ∧ BoxD x w.heap.size (.string S) (.int .i64 P) ∧ BoxD x (w.heap.size + 1) (.string ⟨#[]⟩) (.int .i64 0) ∧ Below w.heap.size w x := fun x hx => by
      obtain ⟨q0, q1, q2, q3⟩ := bR
      exact ⟨keepb hx (by simp [BoxD, go_sem]), keepb hx (by simp [BoxD, go_sem, a0, a1, a2, a3, hlt]), keepb hx (by simp [BoxD, go_sem, q0, q1, q2, q3, hltR]), bel_call ((h0.alloc h0.size _).drew) hx (Nat.le_refl _)⟩
    have hY : ∀ x, Below w2.drew.heap.size w2.drew x → BoxD (x.alloc (Obj.cells #[Value.string SB, Value.int IntKind.i64 PB] 91)) x.heap.size (.string SB) (.int .i64 PB) ∧ BoxD (x.alloc (Obj.cells #[Value.string SB, Value.int IntKind.i64 PB] 91)) w.heap.size (.string S) (.int .i64 P) ∧ BoxD (x.alloc (Obj.cells #[Value.string SB, Value.int IntKind.i64 PB] 91)) (w.heap.size + 1) (.string ⟨#[]⟩) (.int .i64 0) ∧ Below w.heap.size w (x.alloc (Obj.cells #[Value.string SB, Value.int IntKind.i64 PB] 91)) ∧ w.heap.size + 1 < x.heap.size := fun x hx => by
      have hx2 := hx.size
      have hsx : w.heap.size + 1 < x.heap.size := Nat.lt_of_lt_of_le hltR hx2
      have hsx0 : w.heap.size < x.heap.size := by omega
      obtain ⟨q0, q1, q2, q3⟩ : BoxD x w.heap.size (.string S) (.int .i64 P) := keepb hx bA
      obtain ⟨t0, t1, t2, t3⟩ : BoxD x (w.heap.size + 1) (.string ⟨#[]⟩) (.int .i64 0) := keepb hx bR
      have hbx := bel_call h0.drew hx (Nat.le_refl _)
      exact ⟨by simp [BoxD, go_sem], by simp [BoxD, go_sem, q0, q1, q2, q3, hsx0], by simp [BoxD, go_sem, t0, t1, t2, t3, hsx], hbx.alloc hbx.size _, hsx⟩
    go_region_with (first | (go_at_call 103; refine (hI _).mono ?_; rintro e w3 ⟨rfl, hb3⟩; guard_hyp hb3 : Below (w2.alloc (Obj.cells #[Value.string ⟨#[]⟩, Value.int IntKind.i64 0] 91)).drew.heap.size (w2.alloc (Obj.cells #[Value.string ⟨#[]⟩, Value.int IntKind.i64 0] 91)).drew w3; obtain ⟨z0, z1, z2, z3⟩ := (hZ w3 hb3).1) | (go_at_call 103; refine (hI _).mono ?_; rintro e w3 ⟨rfl, hb3⟩))
    all_goals go_wp2_with fail
    all_goals go_meet
    all_goals first
      | (guard_hyp hb3 : Below (w2.alloc (Obj.cells #[Value.string ⟨#[]⟩, Value.int IntKind.i64 0] 91)).drew.heap.size (w2.alloc (Obj.cells #[Value.string ⟨#[]⟩, Value.int IntKind.i64 0] 91)).drew w3; obtain ⟨k1, k2, k3, k4⟩ := hZ w3 hb3; exact ⟨w2.heap.size, rfl, hltR, k1.put _ _, k2.past (by omega) _ _, k3.past (by omega) _ _, (k4.setCell (by dsimp only; omega) _).setCell (by dsimp only; omega) _⟩)
      | (obtain ⟨k1, k2, k3, k4, k5⟩ := hY w3 hb3; exact ⟨w3.heap.size, rfl, k5, k1, k2, k3, k4⟩)
  case rest =>
  obtain ⟨B6, rfl, hB6, b6, bS, bZ, hbc⟩ := hcut
  clear bA bR a0 a1 a2 a3 h0 hltR hlt hI
  obtain ⟨t0, t1, t2, t3⟩ := id b6
  go_wp2_with (go_at_call 128; refine (hSA _).mono ?_; rintro e w4 ⟨rfl, hb4⟩)
  have b6' := keepb hb4 b6
  have bS' := keepb hb4 bS
  have bZ' := keepb hb4 bZ
  have hlt6 : B6 < w4.heap.size := World.block_lt_of_cell? w4 _ b6'.1
  have hltS : w.heap.size < w4.heap.size := World.block_lt_of_cell? w4 _ bS'.1
  have hltZ : w.heap.size + 1 < w4.heap.size := World.block_lt_of_cell? w4 _ bZ'.1
  obtain ⟨W7, hW7⟩ : ∃ W7, w4.alloc (Obj.cells #[Value.string SA, Value.int IntKind.i64 PA] 91) = W7 := ⟨_, rfl⟩
  have b6w : BoxD W7 B6 (.string SB) (.int .i64 PB) := by obtain ⟨q0, q1, q2, q3⟩ := b6'; rw [← hW7]; simp [BoxD, go_sem, q0, q1, q2, q3, hlt6]
  have bSw : BoxD W7 w.heap.size (.string S) (.int .i64 P) := by obtain ⟨q0, q1, q2, q3⟩ := bS'; rw [← hW7]; simp [BoxD, go_sem, q0, q1, q2, q3, hltS]
  have bZw : BoxD W7 (w.heap.size + 1) (.string ⟨#[]⟩) (.int .i64 0) := by obtain ⟨q0, q1, q2, q3⟩ := bZ'; rw [← hW7]; simp [BoxD, go_sem, q0, q1, q2, q3, hltZ]
  have b7w : BoxD W7 w4.heap.size (.string SA) (.int .i64 PA) := by rw [← hW7]; simp [BoxD, go_sem]
  have hb7 : Below w.heap.size w W7 := by rw [← hW7]; have h1 := bel_call hbc hb4 (Nat.le_refl _); exact h1.alloc h1.size _
  rw [hW7]
  refine wp_region_above W7 (Below.refl _ _) (by kernel_rfl) (by kernel_rfl) ?_
  intro hCl
  have c0 : ∀ x : Cl W7, x.w.cell? ⟨w.heap.size, 0, none⟩ = some (.string S) := fun x => x.cell bSw.1
  have c1 : ∀ x : Cl W7, x.w.cell? ⟨w.heap.size, 1, none⟩ = some (.int .i64 P) := fun x => x.cell bSw.2.1
  have c2 : ∀ x : Cl W7, x.w.cell? ⟨B6, 0, none⟩ = some (.string SB) := fun x => x.cell b6w.1
  have c3 : ∀ x : Cl W7, x.w.cell? ⟨B6, 1, none⟩ = some (.int .i64 PB) := fun x => x.cell b6w.2.1
  have c4 : ∀ x : Cl W7, x.w.cell? ⟨w4.heap.size, 0, none⟩ = some (.string SA) := fun x => x.cell b7w.1
  have c5 : ∀ x : Cl W7, x.w.cell? ⟨w4.heap.size, 1, none⟩ = some (.int .i64 PA) := fun x => x.cell b7w.2.1
  repeat (go_big_quiet_step ((first | (go_at_call_of 128 S; exact Cl.call (hSD _)) | (go_at_call_of 128 SA; exact Cl.call (hSE _)) | (go_at_call 129; exact Cl.call (hC _)))))
  refine wpQuiet_nil ?_
  intro _ hw'
  obtain ⟨y, hx⟩ := hw'
  subst hx
  have b6y := keepb y.below b6w
  have b7y := keepb y.below b7w
  have bZy := keepb y.below bZw
  have hby := bel_call hb7 y.below (Nat.le_refl _)
  clear c0 c1 c2 c3 c4 c5 hCl bSw bZw b7w b6w hb7 hW7 bS' bZ' b6' bS bZ b6 t0 t1 t2 t3 hlt6 hltS hltZ hb4 hbc
  generalize y.w = w8 at *
  clear y
  obtain ⟨t0, t1, t2, t3⟩ := id b6y
  obtain ⟨n0, n1, n2, n3⟩ := id b7y
  obtain ⟨r0, r1, r2, r3⟩ := id bZy
  generalize w4.heap.size = B7 at *
  by_cases hr : r < 0
  · have HC : Hid (r < 0 ∨ (r = 0 ∧ d % 2 = 0)) := .inl hr
    go_wp2
    refine bodyPost_ret (by simp [results, Tryz.results109, go_sem, cs_same, r0, r1]; rfl) rfl ?_
    refine ⟨rfl, ?_⟩
    iterate 2 (refine Below.setCell ?_ (by dsimp only; omega) _)
    exact hby
  by_cases hr0 : r = 0
  · subst hr0
    by_cases hd2 : d % 2 = 0
    · have HC : Hid ((0 : Int) < 0 ∨ ((0 : Int) = 0 ∧ d % 2 = 0)) := .inr ⟨rfl, hd2⟩
      have hd2I : (d : Int) % 2 = 0 := by omega
      clear r0 r1 r2 r3
      go_wp2_with (go_at_call 130; refine (hD _).mono ?_; rintro e w9 ⟨rfl, hb9⟩; obtain ⟨t0, t1, t2, t3⟩ := keepb hb9 b6y; obtain ⟨n0, n1, n2, n3⟩ := keepb hb9 b7y; obtain ⟨r0, r1, r2, r3⟩ := keepb hb9 bZy)
      refine bodyPost_ret (by simp [results, Tryz.results109, go_sem, cs_same, r0, r1]; rfl) rfl ?_
      refine ⟨rfl, ?_⟩
      iterate 2 (refine Below.setCell ?_ (by dsimp only; omega) _)
      exact (bel_call hby hb9 (Nat.le_refl _))
    · have HC : Hid (¬ ((0 : Int) < 0 ∨ ((0 : Int) = 0 ∧ d % 2 = 0))) := by show ¬ _; omega
      have hd2I : (d : Int) % 2 = 1 := by omega
      clear r0 r1 r2 r3
      go_wp2_with (go_at_call 130; refine (hD _).mono ?_; rintro e w9 ⟨rfl, hb9⟩; obtain ⟨t0, t1, t2, t3⟩ := keepb hb9 b6y; obtain ⟨n0, n1, n2, n3⟩ := keepb hb9 b7y; obtain ⟨r0, r1, r2, r3⟩ := keepb hb9 bZy)
      refine bodyPost_ret (by simp [results, Tryz.results109, go_sem, cs_same, r0, r1]; rfl) rfl ?_
      refine ⟨rfl, ?_⟩
      iterate 2 (refine Below.setCell ?_ (by dsimp only; omega) _)
      exact (bel_call hby hb9 (Nat.le_refl _))
  · have HC : Hid (¬ (r < 0 ∨ (r = 0 ∧ d % 2 = 0))) := by show ¬ _; omega
    go_wp2
    refine bodyPost_ret (by simp [results, Tryz.results109, go_sem, cs_same, r0, r1]; rfl) rfl ?_
    refine ⟨rfl, ?_⟩
    iterate 2 (refine Below.setCell ?_ (by dsimp only; omega) _)
    exact hby
end Go.Proofs.YthbabhbfpcfenaaGreatDoor
