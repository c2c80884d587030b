/- The document's examples that every law of layer 7 asks. -/
import Derived.Test.YthbabhbfpcfenaaGreatDoorCTop
namespace Go.Proofs.YthbabhbfpcfenaaGreatDoor
open Go.RowKit
set_option linter.unusedVariables false
set_option linter.unusedSimpArgs false

/-- 1.5, 1 and 2 as so many units. -/
theorem halves : ∃ K : Nat, K = 9999 ∧ val 52 (-1074) 4609434218613702656 = 15 * 10 ^ K ∧ val 52 (-1074) 4607182418800017408 = 10 * 10 ^ K ∧ val 52 (-1074) 4611686018427387904 = 20 * 10 ^ K := by
  obtain ⟨K, hK⟩ : ∃ K : Nat, K = 9999 := ⟨_, rfl⟩
  refine ⟨K, hK, ?_, ?_, ?_⟩
  · have h := (val_ex lyB (p := 4609434218613702656) (by decide)).1
    have hm : pm 52 4609434218613702656 = 6755399441055744 := by decide
    have hk : ((-1074 : Int) + pk 52 4609434218613702656) = -52 := by decide
    rw [hm, hk, exU_dn _ (by decide)] at h
    have e1 : ((-52 : Int) + 10000).toNat + 51 = K := by rw [hK]; rfl
    have e2 : (6755399441055744 : Nat) * 5 ^ (-(-52 : Int)).toNat = 15 * 10 ^ 51 := by decide
    rw [e2, Nat.mul_assoc, ← Nat.pow_add, Nat.add_comm, e1] at h
    exact h.symm
  · have h := (val_ex lyB (p := 4607182418800017408) (by decide)).1
    have hm : pm 52 4607182418800017408 = 4503599627370496 := by decide
    have hk : ((-1074 : Int) + pk 52 4607182418800017408) = -52 := by decide
    rw [hm, hk, exU_dn _ (by decide)] at h
    have e1 : ((-52 : Int) + 10000).toNat + 51 = K := by rw [hK]; rfl
    have e2 : (4503599627370496 : Nat) * 5 ^ (-(-52 : Int)).toNat = 10 * 10 ^ 51 := by decide
    rw [e2, Nat.mul_assoc, ← Nat.pow_add, Nat.add_comm, e1] at h
    exact h.symm
  · have h := (val_ex lyB (p := 4611686018427387904) (by decide)).1
    have hm : pm 52 4611686018427387904 = 4503599627370496 := by decide
    have hk : ((-1074 : Int) + pk 52 4611686018427387904) = -51 := by decide
    rw [hm, hk, exU_dn _ (by decide)] at h
    have e1 : ((-51 : Int) + 10000).toNat + 50 = K := by rw [hK]; rfl
    have e2 : (4503599627370496 : Nat) * 5 ^ (-(-51 : Int)).toNat = 20 * 10 ^ 50 := by decide
    rw [e2, Nat.mul_assoc, ← Nat.pow_add, Nat.add_comm, e1] at h
    exact h.symm
theorem sh_15 : ∃ v : Nat, val 52 (-1074) 4609434218613702656 = v ∧ oS v = ⟨#[49, 53]⟩ ∧ oP v = 1 ∧ v ≠ 0 ∧ SH (fun x => RD 52 9218868437227405312 (un (-1074)) x 4609434218613702656) v v := by
  obtain ⟨K, hK, h15, h10, h20⟩ := halves
  have hd : IsDec [49, 53] 1 (15 * 10 ^ K) := ⟨by decide, by decide, by decide, (fun h => by cases h), by decide, by
    have : ((1 : Int) - ([49, 53] : List UInt8).length + 10000).toNat = K := by rw [hK]; rfl
    rw [this]; rfl⟩
  obtain ⟨o1, o2⟩ := o_of hd
  have oS15 : oS (15 * 10 ^ K) = ⟨#[49, 53]⟩ := by unfold oS; rw [← o1]
  have hl : (oL (15 * 10 ^ K)).length = 2 := by rw [← o1]; rfl
  have hpos := pow_pos10 K
  refine ⟨15 * 10 ^ K, h15, oS15, o2.symm, by omega, .inr ⟨fun j h1 h2 => ?_, rfl⟩⟩
  obtain rfl : j = 1 := by omega
  have hQ : Qn (15 * 10 ^ K) 1 = K + 1 := by unfold Qn; rw [← o2, hK]; rfl
  have hB : Bn (15 * 10 ^ K) 1 = 10 * 10 ^ K := by
    unfold Bn
    rw [hQ, Nat.pow_succ]
    have : 15 * 10 ^ K / (10 ^ K * 10) = 1 := by
      rw [Nat.mul_comm 15, Nat.mul_div_mul_left _ _ hpos]
    rw [this]; omega
  have hA : An (15 * 10 ^ K) 1 = 20 * 10 ^ K := by
    unfold An
    rw [hB, hQ, Nat.pow_succ]; omega
  have hu := un_pos (-1074)
  refine ⟨fun h => ?_, fun h => ?_⟩
  · rw [hB, ← h10] at h
    have k := RD_self (f := 52) (I := 9218868437227405312) (u := un (-1074)) (p := 4607182418800017408) hu (by decide)
    exact absurd (RD.uniq hu h k) (by decide)
  · rw [hA, ← h20] at h
    have k := RD_self (f := 52) (I := 9218868437227405312) (u := un (-1074)) (p := 4611686018427387904) hu (by decide)
    exact absurd (RD.uniq hu h k) (by decide)
theorem two_is : ∃ v : Nat, val 52 (-1074) 4611686018427387904 = v ∧ oS v = ⟨#[50]⟩ ∧ oP v = 1 ∧ v ≠ 0 := by
  obtain ⟨K, hK, h15, h10, h20⟩ := halves
  have hd : IsDec [50] 1 (20 * 10 ^ K) := ⟨by decide, by decide, by decide, (fun h => by cases h), by decide, by
    have : ((1 : Int) - ([50] : List UInt8).length + 10000).toNat = K + 1 := by rw [hK]; rfl
    rw [this, Nat.pow_succ]
    have : num [50] = 2 := rfl
    rw [this]; omega⟩
  obtain ⟨o1, o2⟩ := o_of hd
  have hpos := pow_pos10 K
  exact ⟨20 * 10 ^ K, h20, by unfold oS; rw [← o1], o2.symm, by omega⟩
theorem live7_a : FlC 4609434218613702656 64 false false false false false (-1) (-1) 118 ⟨#[49, 46, 53]⟩ true := by
  obtain ⟨d, hd, gd, hF⟩ := fin_of (bits := 4609434218613702656) lyB (by decide) (by decide)
  have hb : bare 52 11 4609434218613702656 = 4609434218613702656 := by decide
  have hs : sgn 52 11 4609434218613702656 = false := by decide
  rw [hb] at hd
  rw [hb, hs] at hF
  obtain ⟨v, hv, h1, h2, h3, hsh⟩ := sh_15
  rw [hv] at hd hF
  have hdv := hd.uniq hsh
  subst hdv
  have := float_fin hF false false false false false (-1) (-1) 118 (by decide)
  rw [finT_118, filT_bare _ (asc_gen _ _ _ _)] at this
  have e : genT false (min (-1) 1000) d d = ⟨#[49, 46, 53]⟩ := by
    have hp : pw0 d = 0 := by unfold pw0; rw [if_neg h3, h2]; rfl
    unfold genT
    rw [if_pos (by decide)]
    unfold genG genD
    rw [hp, h1]
    decide
  rw [e] at this
  exact this
theorem live7_b : FlC 13835058055282163712 64 true false false false false (-1) (-1) 118 ⟨#[45, 50]⟩ true := by
  obtain ⟨d, hd, gd, hF⟩ := fin_of (bits := 13835058055282163712) lyB (by decide) (by decide)
  have hb : bare 52 11 13835058055282163712 = 4611686018427387904 := by decide
  have hs : sgn 52 11 13835058055282163712 = true := by decide
  rw [hb] at hd
  rw [hb, hs] at hF
  obtain ⟨v, hv, h1, h2, h3⟩ := two_is
  rw [hv] at hd hF
  have hl : (oL v).length = 1 := by rw [← oS_size, h1]; rfl
  have hdv : d = v := hd.all fun j a b => by omega
  subst hdv
  have := float_fin hF true false false false false (-1) (-1) 118 (by decide)
  rw [finT_118, filT_off _ _ _ _ (sgF_size _ _ _)] at this
  have e : genT false (min (-1) 1000) d d = ⟨#[50]⟩ := by
    have hp : pw0 d = 0 := by unfold pw0; rw [if_neg h3, h2]; rfl
    unfold genT
    rw [if_pos (by decide)]
    unfold genG genD
    rw [hp, h1]
    decide
  rw [e] at this
  exact this
theorem live7_c : CxC 4609434218613702656 13835058055282163712 128 false false false false false (-1) (-1) 118 ⟨#[40, 49, 46, 53, 45, 50, 105, 41]⟩ true := cx_yes false false false false false (-1) (-1) 118 szp128 live7_a live7_b (by decide) (by decide)
theorem live7_d : SpC ⟨#[40, 49, 101, 43, 48, 54, 45, 50, 105, 41]⟩ ⟨#[49, 101, 43, 48, 54]⟩ ⟨#[45, 50]⟩ true := by
  have h := (split_in (s := ⟨#[40, 49, 101, 43, 48, 54, 45, 50, 105, 41]⟩) (M := ⟨#[49, 101, 43, 48, 54, 45, 50]⟩) (by decide) rfl).2
  have e : lastS (⟨#[49, 101, 43, 48, 54, 45, 50]⟩ : ByteArray).data.toList (⟨#[49, 101, 43, 48, 54, 45, 50]⟩ : ByteArray).size = 5 := by decide
  rw [e] at h
  exact h (by decide)
theorem live7_e : SpC ⟨#[40, 49, 105, 41]⟩ ⟨#[]⟩ ⟨#[]⟩ false :=
  (split_in (s := ⟨#[40, 49, 105, 41]⟩) (M := ⟨#[49]⟩) (by decide) rfl).1 (by decide)
abbrev Li7 : Prop := ∀ w, Calls Tryz.prog 11 #[] w fun e w' => e = .returned (.bool true) ∧ Below w.heap.size w w'
set_option maxRecDepth 1000000 in
set_option maxHeartbeats 1000000 in
theorem lives7_any : Li7 := fun w => by
  have hC := live7_c
  have hD := live7_d
  have hE := live7_e
  generalize hR : (4609434218613702656 : Nat) = R at *
  generalize hI : (13835058055282163712 : Nat) = J at *
  go_enter Tryz.func11, Tryz.ntmps11
  go_wp2_with (first
    | (go_at_call 9; subst hR hI; refine (hC _).mono ?_; rintro x w1 ⟨rfl, hb1⟩)
    | (go_at_call_of 12 (⟨#[40, 49, 101, 43, 48, 54, 45, 50, 105, 41]⟩ : ByteArray); refine (hD _).mono ?_; rintro x w2 ⟨rfl, hb2⟩)
    | (go_at_call_of 12 (⟨#[40, 49, 105, 41]⟩ : ByteArray); refine (hE _).mono ?_; rintro x w3 ⟨rfl, hb3⟩))
  go_ret
  refine ⟨rfl, ?_⟩
  exact bel_call (bel_call hb1 hb2 (Nat.le_refl _)) hb3 (Nat.le_refl _)
end Go.Proofs.YthbabhbfpcfenaaGreatDoor
