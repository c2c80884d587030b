/- The walk of the law IntsZeros. -/
import Derived.Test.YtnoelbomcogndacDoorINumE
namespace Go.Proofs.YtnoelbomcogndacDoor
open Go.RowKit
set_option linter.unusedVariables false

theorem verbs4 (j : Nat) (h : j < (ByteArray.mk #[100, 98, 120, 88]).size) : ¬ (((ByteArray.mk #[100, 98, 120, 88])[j]'h).toNat : Int) = 99 ∧ ¬ (((ByteArray.mk #[100, 98, 120, 88])[j]'h).toNat : Int) = 113 ∧ ¬ (((ByteArray.mk #[100, 98, 120, 88])[j]'h).toNat : Int) = 85 ∧ ¬ baseV (((ByteArray.mk #[100, 98, 120, 88])[j]'h).toNat : Int) = 0 ∧ ¬ (((ByteArray.mk #[100, 98, 120, 88])[j]'h).toNat : Int) = 79 ∧ ¬ (((ByteArray.mk #[100, 98, 120, 88])[j]'h).toNat : Int) = 118 := by
  match j, h with
  | 0, _ => exact (show ¬ ((100 : Nat) : Int) = 99 ∧ ¬ ((100 : Nat) : Int) = 113 ∧ ¬ ((100 : Nat) : Int) = 85 ∧ ¬ baseV ((100 : Nat) : Int) = 0 ∧ ¬ ((100 : Nat) : Int) = 79 ∧ ¬ ((100 : Nat) : Int) = 118 by decide)
  | 1, _ => exact (show ¬ ((98 : Nat) : Int) = 99 ∧ ¬ ((98 : Nat) : Int) = 113 ∧ ¬ ((98 : Nat) : Int) = 85 ∧ ¬ baseV ((98 : Nat) : Int) = 0 ∧ ¬ ((98 : Nat) : Int) = 79 ∧ ¬ ((98 : Nat) : Int) = 118 by decide)
  | 2, _ => exact (show ¬ ((120 : Nat) : Int) = 99 ∧ ¬ ((120 : Nat) : Int) = 113 ∧ ¬ ((120 : Nat) : Int) = 85 ∧ ¬ baseV ((120 : Nat) : Int) = 0 ∧ ¬ ((120 : Nat) : Int) = 79 ∧ ¬ ((120 : Nat) : Int) = 118 by decide)
  | 3, _ => exact (show ¬ ((88 : Nat) : Int) = 99 ∧ ¬ ((88 : Nat) : Int) = 113 ∧ ¬ ((88 : Nat) : Int) = 85 ∧ ¬ baseV ((88 : Nat) : Int) = 0 ∧ ¬ ((88 : Nat) : Int) = 79 ∧ ¬ ((88 : Nat) : Int) = 118 by decide)
  | n + 4, h => exact absurd h (by show ¬ n + 4 < 4; omega)
theorem base_le (c : Int) (h : ¬ baseV c = 0) : 0 < baseV c ∧ baseV c ≤ 16 := by
  rcases baseV_is c h with e | e | e | e <;> omega
/-- The two texts of the law. -/
theorem zeros_pack (n W : Nat) (c : Int) (hW : W ≤ 1000) (h1 : ¬ c = 99) (h2 : ¬ c = 113) (h3 : ¬ c = 85) (h4 : ¬ baseV c = 0) (h5 : ¬ c = 79) : ∃ a b : ByteArray,
    numS n n (signA false false) false false false true (W : Int) (-1) c = a ∧ numS n n (signA false false) false false false false (-1) (W : Int) c = b ∧ numK c = true ∧ (W = 0 → n = 0 → a = ⟨#[48]⟩ ∧ b = ⟨#[]⟩) ∧ (¬ (W = 0 ∧ n = 0) → a = b) := by
  obtain ⟨e1, ek⟩ := numS_base n n (signA false false) false false false true (W : Int) (-1) c h1 h2 h3 h4
  obtain ⟨e2, -⟩ := numS_base n n (signA false false) false false false false (-1) (W : Int) c h1 h2 h3 h4
  have hb := base_le c h4
  have hm : ∀ d, markB d false c = ⟨#[]⟩ := fun d => by unfold markB; rw [if_neg h5, if_pos rfl]
  have hs : signA false false = ⟨#[]⟩ := rfl
  have hw : wdt (W : Int) = W := by unfold wdt; omega
  have hd : digBy n (baseV c) (-1) c = digT (decide (c = 88)) (baseV c) n := by
    unfold digBy
    rw [if_neg (by omega)]
    exact lenS_short _ _ (by unfold wdt; omega)
  have hz := digT_size (decide (c = 88)) (baseV c) n
  have hcn := cnt_digT (decide (c = 88)) (baseV c) n hb.1 hb.2
  have hd0 : n = 0 → digT (decide (c = 88)) (baseV c) n = ⟨#[48]⟩ := by
    intro h
    have e : n % baseV c = 0 := by rw [h]; exact Nat.zero_mod _
    have e2 : n / baseV c = 0 := by rw [h]; exact Nat.zero_div _
    unfold digT digS
    rw [e, e2, digP_zero]
    cases decide (c = 88) <;> rfl
  have ea : numS n n (signA false false) false false false true (W : Int) (-1) c = lenS (digT (decide (c = 88)) (baseV c) n) (W : Int) := by
    have ec : coreB n (baseV c) (signA false false) false false true (W : Int) (-1) c = lenS (digT (decide (c = 88)) (baseV c) n) (W : Int) := by
      unfold coreB
      rw [hd, if_neg (by omega), hm, hs, nil_app', nil_app']
      unfold widD
      rw [if_pos ⟨rfl, rfl, by omega⟩, hw]
      rfl
    rw [e1, ec]
    refine pad_none _ _ _ _ (.inr ?_)
    unfold lenS
    rw [cnt_run_app 48 _ _ (by omega), hcn]
    unfold wdt
    omega
  refine ⟨_, _, ea, rfl, ek, fun hW0 hn0 => ?_, fun hne => ?_⟩
  · refine ⟨?_, ?_⟩
    · rw [lenS_short _ _ (by omega)]; exact hd0 hn0
    · have ec : coreB n (baseV c) (signA false false) false false false (-1) (W : Int) c = ⟨#[]⟩ := by
        have : digBy n (baseV c) (W : Int) c = ⟨#[]⟩ := by unfold digBy; rw [if_pos ⟨hn0, by omega⟩]
        unfold coreB
        rw [this]
        exact if_pos rfl
      rw [e2, ec]
      exact pad_none _ _ _ _ (.inl (by omega))
  · have hdw : digBy n (baseV c) (W : Int) c = lenS (digT (decide (c = 88)) (baseV c) n) (W : Int) := by
      unfold digBy
      rw [if_neg (by omega), hw]
    have hlz := lenS_size (digT (decide (c = 88)) (baseV c) n) (W : Int)
    have ec : coreB n (baseV c) (signA false false) false false false (-1) (W : Int) c = lenS (digT (decide (c = 88)) (baseV c) n) (W : Int) := by
      unfold coreB
      rw [hdw, if_neg (by omega), hm, hs, nil_app', nil_app']
      unfold widD
      rw [if_neg (by simp)]
    rw [e2, ec]
    exact (pad_none _ _ _ _ (.inl (by omega))).symm

set_option maxRecDepth 1000000 in
set_option maxHeartbeats 1000000 in
theorem intsZeros_walk (n0 : Int) (hn0 : (Lit.int .u64 n0).wf = true) (w0 : Int) (_hw0 : (Lit.int .i64 w0).wf = true) (k0 : Int) (hk0 : (Lit.int .u64 k0).wf = true) (w : World) (hE : Esc w) :
    Calls Tryd.prog 5 #[.int .u64 n0, .int .i64 w0, .int .u64 k0] w fun e w' => e = .returned (.bool true) ∧ Below w.heap.size w w' := by
  have hn' := wfu64 n0 hn0
  have hk' := wfu64 k0 hk0
  obtain ⟨k, rfl⟩ : ∃ k : Nat, k0 = k := ⟨k0.toNat, by omega⟩
  obtain ⟨n, rfl⟩ : ∃ n : Nat, n0 = n := ⟨n0.toNat, by omega⟩
  obtain ⟨W, hW, hW1⟩ : ∃ W : Nat, max 0 (min w0 1000) = (W : Int) ∧ W ≤ 1000 := ⟨(max 0 (min w0 1000)).toNat, by omega, by omega⟩
  have hj : k % 4 < (ByteArray.mk #[100, 98, 120, 88]).size := Nat.mod_lt _ (by decide)
  have hV : ∀ w, _ := fun w => iverb_any ⟨#[100, 98, 120, 88]⟩ false false false false true (W : Nat) (-1) 0 k (k % 4) w hj (by decide) rfl (by omega)
  obtain ⟨g1, g2, g3, g4, g5, g6⟩ := verbs4 (k % 4) hj
  generalize ((((ByteArray.mk #[100, 98, 120, 88])[k % 4]'hj).toNat : Nat) : Int) = c at *
  have eu : uVerb false c = c := by simp [uVerb]
  have hA : ∀ w, Esc w → _ := fun w hE => iunsigned_any n false false false false true (W : Nat) (-1) c w hE (by omega)
  have hB : ∀ w, Esc w → _ := fun w hE => iunsigned_any n false false false false false (-1) (W : Nat) c w hE (by omega)
  rw [eu] at hA hB
  obtain ⟨a, b, e1, e2, ek, hz, hnz⟩ := zeros_pack n W c hW1 g1 g2 g3 g4 g5
  rw [e1, ek] at hA
  rw [e2, ek] at hB
  clear hn0 hk0 _hw0 e1 e2 ek g1 g2 g3 g4 g5 g6 hj eu
  by_cases hW0 : W = 0
  · subst hW0
    by_cases hn0 : n = 0
    · subst hn0
      obtain ⟨rfl, rfl⟩ := hz rfl rfl
      clear hz hnz
      go_enter Tryd.func5, Tryd.ntmps5
      go_wp2_with (first | (go_at_call 7; refine (hV _).mono ?_; rintro e w1 ⟨rfl, b0⟩; have H0 := BoxAt.new w1 false false false false true 0 (-1) c b0 hE) | (go_at_call 10; first | (have _h9 := H1; refine (hB _ (((H1.set5 (-1)).set6 0).set4 false).es).mono ?_; rintro e w3 ⟨rfl, b2⟩; have H2 := (((H1.set5 (-1)).set6 0).set4 false).call b2) | (refine (hA _ H0.es).mono ?_; rintro e w2 ⟨rfl, b1⟩; have H1 := H0.call b1; obtain ⟨c0, c1, c2, c3, c4, c5, c6, c7, cf⟩ := H1.cells)) | (go_at_call 9; refine (lives3_any _ H2.es).mono ?_; rintro e w6 ⟨rfl, b6⟩))
      go_ret
      exact ⟨rfl, (H2.bl).trans (b6.mono H2.bl.size)⟩
    · have hn1 : ¬ (n : Int) = 0 := by omega
      have hab := hnz (fun h => hn0 h.2)
      subst hab
      clear hz hnz
      go_enter Tryd.func5, Tryd.ntmps5
      go_wp2_with (first | (go_at_call 7; refine (hV _).mono ?_; rintro e w1 ⟨rfl, b0⟩; have H0 := BoxAt.new w1 false false false false true 0 (-1) c b0 hE) | (go_at_call 10; first | (have _h9 := H1; refine (hB _ (((H1.set5 (-1)).set6 0).set4 false).es).mono ?_; rintro e w3 ⟨rfl, b2⟩; have H2 := (((H1.set5 (-1)).set6 0).set4 false).call b2) | (refine (hA _ H0.es).mono ?_; rintro e w2 ⟨rfl, b1⟩; have H1 := H0.call b1; obtain ⟨c0, c1, c2, c3, c4, c5, c6, c7, cf⟩ := H1.cells)) | (go_at_call 9; refine (lives3_any _ H2.es).mono ?_; rintro e w6 ⟨rfl, b6⟩))
      go_ret
      exact ⟨rfl, (H2.bl).trans (b6.mono H2.bl.size)⟩
  · have hw1 : ¬ (W : Int) = 0 := by omega
    have hab := hnz (fun h => hW0 h.1)
    subst hab
    clear hz hnz
    go_enter Tryd.func5, Tryd.ntmps5
    go_wp2_with (first | (go_at_call 7; refine (hV _).mono ?_; rintro e w1 ⟨rfl, b0⟩; have H0 := BoxAt.new w1 false false false false true (W : Nat) (-1) c b0 hE) | (go_at_call 10; first | (have _h9 := H1; refine (hB _ (((H1.set5 (-1)).set6 (W : Nat)).set4 false).es).mono ?_; rintro e w3 ⟨rfl, b2⟩; have H2 := (((H1.set5 (-1)).set6 (W : Nat)).set4 false).call b2) | (refine (hA _ H0.es).mono ?_; rintro e w2 ⟨rfl, b1⟩; have H1 := H0.call b1; obtain ⟨c0, c1, c2, c3, c4, c5, c6, c7, cf⟩ := H1.cells)) | (go_at_call 9; refine (lives3_any _ H2.es).mono ?_; rintro e w6 ⟨rfl, b6⟩))
    go_ret
    exact ⟨rfl, (H2.bl).trans (b6.mono H2.bl.size)⟩
end Go.Proofs.YtnoelbomcogndacDoor
