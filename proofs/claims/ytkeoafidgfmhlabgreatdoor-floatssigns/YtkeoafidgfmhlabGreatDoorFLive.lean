/- The document's examples that every law of layer 6 asks. -/
import Derived.Test.YtkeoafidgfmhlabGreatDoorFTop
namespace Go.Proofs.YtkeoafidgfmhlabGreatDoor
open Go.RowKit
set_option linter.unusedVariables false
set_option linter.unusedSimpArgs false

theorem SH.uniq {R : Nat → Prop} {v d d' : Nat} (h : SH R v d) (k : SH R v d') : d = d' := by
  rcases h with ⟨n, h1, h2, h3, h4, h5⟩ | ⟨h1, h2⟩
  · exact pick_uniq h5 (k.at h1 h2 h3 h4)
  · rw [h2, k.all h1]
theorem live_sh : ∃ K P : Nat, K = 9999 ∧ P = 4591870180066957722 ∧ SH (fun x => RD 52 9218868437227405312 (un (-1074)) x P) (val 52 (-1074) P) (10 ^ K) := by
  obtain ⟨K, hK, hm, k1, k2, k3, k4, k5⟩ := live_nums
  obtain ⟨P, hP⟩ : ∃ P : Nat, P = 4591870180066957722 := ⟨_, rfl⟩
  refine ⟨K, P, hK, hP, ?_⟩
  have hP1 : 4591870180066957721 = P - 1 := by rw [hP]
  rw [hP1, ← hP] at hm
  rw [← hP] at k1 k2 k3 k4 k5
  have hr : RD 52 9218868437227405312 (un (-1074)) (10 ^ K) P := by
    rw [RD_bounds (by omega) (by omega), if_pos (by rw [hP])]
    exact hm
  generalize hv : val 52 (-1074) P = v at *
  have hp : oP v = 0 := by
    have a := oP_gt k1
    rcases oP_le k2 with b | b
    · omega
    · have := pow_pos10 K; omega
  have hq : Qn v 1 = K := by unfold Qn; omega
  have hB : Bn v 1 = 10 ^ K := by unfold Bn; rw [hq, k3, Nat.one_mul]
  have hl : 1 < (oL v).length := by
    rcases Nat.lt_or_ge 1 (oL v).length with h | h
    · exact h
    · exact absurd ((o_dec v).mod (E := K) (by omega)) k5
  have hn : near v (Qn v 1) = Bn v 1 := by
    unfold near Bn
    rw [hq, if_pos (.inl k4)]
  have hR : RD 52 9218868437227405312 (un (-1074)) (Bn v 1) P := by rw [hB]; exact hr
  exact .inl ⟨1, Nat.le_refl _, hl, fun j h1 h2 => by omega, fun h => h.1 hR, .inl ⟨hR, .inr hn, hB.symm⟩⟩
theorem filT_bare (t : ByteArray) (h : Asc t) : filT (sgF false false false) t false false (-1) = t := by
  have e0 : sgF false false false = ⟨#[]⟩ := rfl
  have ea : (⟨#[]⟩ : ByteArray) ++ t = t := by
    apply ByteArray.ext; apply Array.ext'
    rw [app_list]; rfl
  unfold filT
  rw [if_neg (by simp), e0, ea]
  unfold padS
  have ew : wdt (((wdt (-1) : Nat) : Int) - (cntR t : Nat)) = 0 := by
    have : wdt (-1) = 0 := rfl
    rw [this]; unfold wdt; omega
  rw [ew, run_zero]
  simp only [Bool.false_eq_true, if_false]
  exact ea
abbrev FlB (bits : Nat) (verb : Int) (s : ByteArray) (b : Bool) : Prop := FlC bits 64 false false false false false (-1) (-1) verb s b
theorem one_half : ∃ v : Nat, val 52 (-1074) 4609434218613702656 = v ∧ oS v = ⟨#[49, 53]⟩ ∧ oP v = 1 ∧ v ≠ 0 := by
  have h := (val_ex lyB (p := 4609434218613702656) (by decide)).1
  have hm : pm 52 4609434218613702656 = 6755399441055744 := by decide
  have hk : ((-1074 : Int) + pk 52 4609434218613702656) = -52 := by decide
  rw [hm, hk, exU_dn _ (by decide)] at h
  obtain ⟨K, hK⟩ : ∃ K : Nat, K = 9999 := ⟨_, rfl⟩
  have e1 : ((-52 : Int) + 10000).toNat + 51 = K := by rw [hK]; rfl
  have e2 : (6755399441055744 : Nat) * 5 ^ (-(-52 : Int)).toNat = 15 * 10 ^ 51 := by decide
  rw [e2, Nat.mul_assoc, ← Nat.pow_add, Nat.add_comm, e1] at h
  have hd : IsDec [49, 53] 1 (15 * 10 ^ K) := ⟨by decide, by decide, by decide, (fun h => by cases h), by decide, by
    have : ((1 : Int) - ([49, 53] : List UInt8).length + 10000).toNat = K := by rw [hK]; rfl
    rw [this]; rfl⟩
  obtain ⟨o1, o2⟩ := o_of hd
  refine ⟨15 * 10 ^ K, h.symm, ?_, o2.symm, ?_⟩
  · unfold oS; rw [← o1]
  · have := pow_pos10 K; omega
theorem live_e : FlB 4609434218613702656 101 ⟨#[49, 46, 53, 48, 48, 48, 48, 48, 101, 43, 48, 48]⟩ true := by
  obtain ⟨d, hd, gd, hF⟩ := fin_of (bits := 4609434218613702656) lyB (by decide) (by decide)
  have hb : bare 52 11 4609434218613702656 = 4609434218613702656 := by decide
  have hs : sgn 52 11 4609434218613702656 = false := by decide
  rw [hb, hs] at hF
  obtain ⟨v, hv, h1, h2, h3⟩ := one_half
  rw [hv] at hF
  have := float_fin hF false false false false false (-1) (-1) 101 (by decide)
  rw [finT_101, filT_bare _ (asc_exp _ _ _)] at this
  have e : expT false (min (-1) 1000) v = ⟨#[49, 46, 53, 48, 48, 48, 48, 48, 101, 43, 48, 48]⟩ := by
    have hl : (oL v).length = 2 := by rw [← oS_size, h1]; rfl
    have hr : rnd v (cntE (min (-1) 1000)) = v := by
      have : cntE (min (-1) 1000) = 7 := by decide
      unfold rnd
      rw [this, if_neg (by decide), if_pos (by omega)]
    have hp : pw0 v = 0 := by unfold pw0; rw [if_neg h3, h2]; rfl
    unfold expT
    rw [hr, hp, h1]
    decide
  rw [e] at this
  exact this
theorem live_v : FlB 4591870180066957722 118 ⟨#[48, 46, 49]⟩ true := by
  obtain ⟨d, hd, gd, hF⟩ := fin_of (bits := 4591870180066957722) lyB (by decide) (by decide)
  have hb : bare 52 11 4591870180066957722 = 4591870180066957722 := by decide
  have hs : sgn 52 11 4591870180066957722 = false := by decide
  rw [hb] at hd
  rw [hb, hs] at hF
  obtain ⟨K, P, hK, hP, hsh⟩ := live_sh
  rw [← hP] at hd
  have hdK := hd.uniq hsh
  have := float_fin hF false false false false false (-1) (-1) 118 (by decide)
  rw [finT_118, filT_bare _ (asc_gen _ _ _ _)] at this
  obtain ⟨o1, o2⟩ := one_G (-1) K (by omega)
  have e : ∀ v, genT false (min (-1) 1000) v d = ⟨#[48, 46, 49]⟩ := by
    intro v
    have hd1 : oS d = ⟨#[49]⟩ := by rw [hdK]; exact o1
    have hd2 : oP d = 0 := by rw [hdK]; exact o2
    have hp : pw0 d = -1 := by
      have : d ≠ 0 := by rw [hdK]; have := pow_pos10 K; omega
      unfold pw0; rw [if_neg this, hd2]; rfl
    unfold genT
    rw [if_pos (by decide)]
    unfold genG genD
    rw [hp, hd1]
    decide
  rw [e] at this
  exact this
theorem live_d : FlB 0 100 ⟨#[]⟩ false := float_none (by decide) false false false false false (-1) (-1) 100 (.inl (by decide))
abbrev BareC (verb : Int) : Prop := ∀ w, Calls Tryz.prog 18 #[.int .i32 verb] w fun e w' => e = .returned (.agg #[.bool false, .bool false, .bool false, .bool false, .bool false, .int .i64 (-1), .int .i64 (-1), .int .i32 verb]) ∧ Below w.heap.size w w'
set_option maxRecDepth 1000000 in
theorem bare6_any (verb : Int) : BareC verb := fun w => by
  go_enter Tryz.func18, Tryz.ntmps18
  go_wp2
  go_returns
  exact ⟨rfl, by go_grown⟩
set_option maxRecDepth 1000000 in
set_option maxHeartbeats 1000000 in
theorem lives6_any (w : World) : Calls Tryz.prog 11 #[] w fun e w' => e = .returned (.bool true) ∧ Below w.heap.size w w' := by
  have hE := live_e
  have hV := live_v
  have hD := live_d
  have b1 := bare6_any 101
  have b2 := bare6_any 118
  have b3 := bare6_any 100
  go_enter Tryz.func11, Tryz.ntmps11
  go_wp2_with (first
    | (go_at_call_of 18 (101 : Int); refine (b1 _).mono ?_; rintro x w1 ⟨rfl, hb1⟩)
    | (go_at_call_of 18 (118 : Int); refine (b2 _).mono ?_; rintro x w3 ⟨rfl, hb3⟩)
    | (go_at_call_of 18 (100 : Int); refine (b3 _).mono ?_; rintro x w5 ⟨rfl, hb5⟩)
    | (go_at_call_of 12 (101 : Int); refine (hE _).mono ?_; rintro x w2 ⟨rfl, hb2⟩)
    | (go_at_call_of 12 (118 : Int); refine (hV _).mono ?_; rintro x w4 ⟨rfl, hb4⟩)
    | (go_at_call_of 12 (100 : Int); refine (hD _).mono ?_; rintro x w6 ⟨rfl, hb6⟩))
  go_ret
  refine ⟨rfl, ?_⟩
  exact bel_call (bel_call (bel_call (bel_call (bel_call hb1 hb2 (Nat.le_refl _)) hb3 (Nat.le_refl _)) hb4 (Nat.le_refl _)) hb5 (Nat.le_refl _)) hb6 (Nat.le_refl _)
end Go.Proofs.YtkeoafidgfmhlabGreatDoor
