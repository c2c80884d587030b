/- The document's Bare by x and X is what the program writes. -/
import Derived.Test.YthbabhbfpcfenabGreatDoorMHexB
namespace Go.Proofs.YthbabhbfpcfenabGreatDoor
open Go.RowKit
set_option linter.unusedVariables false
set_option linter.unusedSimpArgs false

theorem dbl_of {m p : Nat} (h0 : m ≠ 0) (hm : m * 2 ^ nmS m = 16 ^ 13 + p) (hp : p < 16 ^ 13) : Dbl m (nmS m + 8) (p * 256) := by
  have e13 : (16 : Nat) ^ 13 = 4503599627370496 := by decide
  rw [e13] at hm hp
  have e : m * 2 ^ (nmS m + 8) = (4503599627370496 + p) * 256 := by rw [Nat.pow_add, ← Nat.mul_assoc, hm]
  refine ⟨fun i hi => ?_, by rw [e]; omega, by omega⟩
  have h1 : m * 2 ^ i * 2 ≤ m * 2 ^ (nmS m + 8) := by
    rw [Nat.mul_assoc, ← Nat.pow_succ]
    exact Nat.mul_le_mul_left _ (Nat.pow_le_pow_right (by decide) (by omega))
  omega
theorem hxl_size (k n : Nat) : (⟨(hx k n).toArray⟩ : ByteArray).size = k := by rw [mk_size, hx_len]
theorem ezeros_is (s : ByteArray) (n : Int) (h : n ≤ 1000) : lenS s n = lnA s n := by
  unfold lenS lnA wdt
  congr 2
  omega
theorem lead_long {n : Nat} (h : 16 ^ n < 2 ^ 64) : n < (digT false 16 (16 ^ n)).size := by
  have hl : (lnA (digT false 16 (16 ^ n)) ((n + 1 : Nat) : Int)).data.toList = hx (n + 1) (16 ^ n) := dig_hx (by omega) (by rw [Nat.pow_succ]; have : 0 < 16 ^ n := Nat.pow_pos (by decide); omega) h
  have h2 := hx_lead n 0 (Nat.pow_pos (by decide))
  rw [Nat.add_zero, Nat.add_comm 1] at h2
  rw [h2] at hl
  rcases Nat.lt_or_ge n (digT false 16 (16 ^ n)).size with h3 | h3
  · exact h3
  · exfalso
    rw [lnA_list] at hl
    obtain ⟨j, hj⟩ : ∃ j, (((n + 1 : Nat) : Int) - ((digT false 16 (16 ^ n)).size : Nat)).toNat = j + 1 := ⟨n - (digT false 16 (16 ^ n)).size, by omega⟩
    rw [hj, List.replicate_succ, List.cons_append] at hl
    injection hl with e1 e2
    exact absurd e1 (by decide)
/-- The document's x, whatever the precision. -/
theorem mhex_any {m p : Nat} {e k P : Int} {sh : Bool} {ld : UInt8} {X : Int} (hI : HeadI m e ⟨#[ld]⟩ (p * 256) X) (hH : HexI m e P ld p X) (hld : ld = 49 ∨ (ld = 48 ∧ p = 0)) (he0 : -2000 ≤ e) (he1 : e ≤ 2000) (hm : m < 2 ^ 53) (hX0 : -3000 ≤ X) (hX1 : X ≤ 3000) (hkP : k < 0 ∧ P < 0 ∨ 0 ≤ k ∧ k = P ∧ k ≤ 1000) : MhC m e k sh (hexT sh P m e) := by
  have hp := hH.lt
  have e13 : (16 : Nat) ^ 13 = 4503599627370496 := by decide
  have e15 : (16 : Nat) ^ 15 = 1152921504606846976 := by decide
  have hprt : p * 256 < 1152921504606846976 := by omega
  have hm2 : m < 1152921504606846976 := Nat.lt_of_lt_of_le hm (by decide)
  have hD : EdC ((p * 256 : Nat) : Int) 16 (digT false 16 (p * 256)) := fun w => edigits_any (p * 256) 16 w (by omega) (.inr (.inr (.inr rfl)))
  have hdz := digT_size false 16 (p * 256)
  have e15l : lnA (digT false 16 (p * 256)) 15 = ⟨(hx 15 (p * 256)).toArray⟩ := baE (by
    rw [mk_li]; exact dig_hx (k := 15) (by decide) (by omega) (Nat.lt_trans hprt (by decide)))
  have hZ : EzC (digT false 16 (p * 256)) 15 ⟨(hx 15 (p * 256)).toArray⟩ := fun w => by
    have := ezeros_any (digT false 16 (p * 256)) 15 w (by omega) (by decide)
    rw [ezeros_is _ _ (by decide), e15l] at this
    exact this
  have hG : ∀ Y : Int, -4000 ≤ Y → Y ≤ 4000 → MwC Y 2 (sgd Y 2) := fun Y h0 h1 w => mpower_any Y 2 w (by omega) (by omega) (by decide) (by decide)
  have hGz : ∀ Y : Int, (sgd Y 2).size ≤ 80 := fun Y => (sgd_size Y 2 (by decide)).1
  have c1 : (⟨#[48, 120]⟩ : ByteArray).size = 2 := rfl
  have c2 : (⟨#[ld]⟩ : ByteArray).size = 1 := rfl
  have c3 : (⟨#[112]⟩ : ByteArray).size = 1 := rfl
  have hMp : ∀ b : ByteArray, b.size ≤ 2000 → MpC b sh (ptB sh b) := fun b hb w => mpoint_any b sh w (by omega)
  rcases hkP with ⟨hk, hP⟩ | ⟨hk, rfl, hk1⟩
  · obtain ⟨h1, h2⟩ := hH.all (.inl hP)
    rw [hexT_is h1 h2 (hxP_neg hP)]
    have hz : (⟨(rtr (hx 15 (p * 256))).toArray⟩ : ByteArray).size ≤ 15 := by
      rw [mk_size]
      have := rtr_len (hx 15 (p * 256))
      rw [hx_len] at this; exact this
    have hpz := ptB_size sh ⟨(rtr (hx 15 (p * 256))).toArray⟩
    have hgz := hGz X
    have hMP := hMp ⟨(rtr (hx 15 (p * 256))).toArray⟩ (by omega)
    refine hexw_neg hI (by omega) (by omega) hm2 (by omega) (by omega) hk hD hZ (by rw [hxl_size]; decide) (by rw [mk_li]; exact hMP) (hG X (by omega) (by omega)) rfl rfl rfl rfl ?_ ?_ ?_ ?_
    all_goals simp only [app_size, c1, c2, c3]
    all_goals omega
  · obtain ⟨n, rfl⟩ := Int.eq_ofNat_of_zero_le hk
    by_cases h15 : 15 ≤ n
    · obtain ⟨h1, h2⟩ := hH.all (.inr (by omega))
      rw [hexT_is h1 h2 (hxP_15 h15)]
      have hz15 := hxl_size 15 (p * 256)
      have hrz : (run 48 (n - 15)).size = n - 15 := run_size _ _
      have hDz : ((⟨(hx 15 (p * 256)).toArray⟩ : ByteArray) ++ run 48 (n - 15)).size ≤ 1000 := by rw [app_size, hz15, hrz]; omega
      have hpz := ptB_size sh ((⟨(hx 15 (p * 256)).toArray⟩ : ByteArray) ++ run 48 (n - 15))
      have hgz := hGz X
      have hO : ∀ w, Calls Tryz.prog 66 #[.int .i64 ((n : Int) - 15)] w fun e w' => e = .returned (.string (run 48 (n - 15))) ∧ w' = w := fun w => by
        have := mzeros_any ((n : Int) - 15) w (by omega)
        rw [show ((n : Int) - 15).toNat = n - 15 by omega] at this
        exact this
      refine hexw_15 hI (by omega) (by omega) hm2 (by omega) (by omega) (by omega) hk1 hD hZ hO rfl (hMp _ (by omega)) (hG X (by omega) (by omega)) rfl rfl rfl rfl ?_ ?_ ?_ ?_ ?_
      all_goals simp only [app_size, c1, c2, c3, hz15, hrz] at *
      all_goals omega
    · obtain ⟨kd, hkd⟩ : ∃ kd, kpD (p * 256) (16 ^ (15 - n)) (lastD ld n (p * 256 / 16 ^ (15 - n))) = kd := ⟨_, rfl⟩
      have hO : ∀ w, Calls Tryz.prog 66 #[.int .i64 (n : Nat)] w fun e w' => e = .returned (.string (run 48 n)) ∧ w' = w := fun w => mzeros_any (n : Int) w (by omega)
      have hU15 : 16 ^ n ≤ 1152921504606846976 := by rw [← e15]; exact Nat.pow_le_pow_right (by decide) (by omega)
      -- what is kept, and its digits
      have key : ∃ (D : ByteArray) (X2 : Int), hexT sh (n : Nat) m e = hexM sh ⟨#[ld]⟩ D X2 ∧ kd ≤ 16 ^ n ∧ D.size ≤ 15 ∧ X ≤ X2 ∧ X2 ≤ X + 1 ∧ (kd < 16 ^ n → D = ⟨(hx n kd).toArray⟩ ∧ X2 = X) ∧ (kd = 16 ^ n → D = run 48 n ∧ X2 = X + 1) := by
        have hpn : 0 < 16 ^ n := Nat.pow_pos (by decide)
        by_cases h13 : n < 13
        · rw [kpD_lo h13 hp hld] at hkd
          have hle := kpt_le h13 hp
          rw [hkd] at hle
          by_cases hk2 : kd < 16 ^ n
          · obtain ⟨h1, h2⟩ := hH.keep n rfl h13 (by rw [hkd]; exact hk2)
            rw [hkd] at h1
            exact ⟨_, _, hexT_is h1 h2 (hxP_keep h13), hle, by rw [hxl_size]; omega, by omega, by omega, fun _ => ⟨rfl, rfl⟩, fun h => by omega⟩
          · obtain ⟨h1, h2⟩ := hH.carry n rfl h13 (by rw [hkd]; exact hk2)
            exact ⟨_, _, hexT_is h1 h2 (hxP_carry h13), hle, by rw [run_size]; omega, by omega, by omega, fun h => absurd h hk2, fun _ => ⟨rfl, rfl⟩⟩
        · have hn : n = 13 ∨ n = 14 := by omega
          rw [kpD_hi hn] at hkd
          obtain ⟨h1, h2⟩ := hH.all (.inr (by omega))
          have hlt : kd < 16 ^ n := by
            rw [← hkd, show 16 ^ n = 16 ^ 13 * 16 ^ (n - 13) by rw [← Nat.pow_add]; congr 1; omega]
            exact Nat.mul_lt_mul_of_pos_right hp (Nat.pow_pos (by decide))
          have h3 := hxP_13 (p := p) hn
          rw [hkd] at h3
          exact ⟨_, _, hexT_is h1 h2 h3, by omega, by rw [hxl_size]; omega, by omega, by omega, fun _ => ⟨rfl, rfl⟩, fun h => by omega⟩
      obtain ⟨D, X2, hT, hkle, hDz, hX2a, hX2b, hlo, hhi⟩ := key
      rw [hT]
      have hk64 : kd < 18446744073709551616 := by omega
      have hD2 : EdC (kd : Nat) 16 (digT false 16 kd) := fun w => edigits_any kd 16 w hk64 (.inr (.inr (.inr rfl)))
      have hd2z := digT_size false 16 kd
      have hZ2 : EzC (digT false 16 kd) (n : Nat) (lnA (digT false 16 kd) (n : Nat)) := fun w => by
        have := ezeros_any (digT false 16 kd) (n : Int) w (by omega) (by omega)
        rw [ezeros_is _ _ (by omega)] at this
        exact this
      have hlz := lnA_size (digT false 16 kd) (n : Int)
      obtain ⟨T2, hT2⟩ : ∃ T2 : ByteArray, T2 = if n = 0 ∧ kd = 0 then ⟨#[]⟩ else lnA (digT false 16 kd) (n : Int) := ⟨_, rfl⟩
      -- the digits that are kept fit, or they are one and noughts
      have hT2s : (kd < 16 ^ n → T2 = ⟨(hx n kd).toArray⟩) ∧ (kd = 16 ^ n → n < T2.size) ∧ T2.size ≤ 1000 := by
        refine ⟨fun h => ?_, fun h => ?_, ?_⟩
        · rw [hT2]
          by_cases h0 : n = 0
          · subst h0
            have hk0 : kd = 0 := by simp at h; exact h
            rw [if_pos ⟨rfl, hk0⟩]; rfl
          · rw [if_neg (by omega)]
            exact baE (by rw [mk_li]; exact dig_hx (by omega) h (by omega))
        · have hne : ¬ (n = 0 ∧ kd = 0) := by
            rintro ⟨-, h0⟩
            have : 0 < 16 ^ n := Nat.pow_pos (by decide)
            omega
          rw [hT2, if_neg hne]
          have := lead_long (n := n) (by omega)
          rw [h, lnA_size]; omega
        · rw [hT2]
          split
          · decide
          · rw [lnA_size]; omega
      obtain ⟨k1, k2, k3⟩ := hT2s
      have hcase : D = (if n < T2.size then run 48 n else T2) ∧ X2 = (if n < T2.size then X + 1 else X) := by
        rcases Nat.lt_or_ge kd (16 ^ n) with h | h
        · obtain ⟨d1, d2⟩ := hlo h
          have e := k1 h
          have hz : T2.size = n := by rw [e, hxl_size]
          rw [if_neg (by omega), if_neg (by omega), d1, e, d2]
          exact ⟨rfl, rfl⟩
        · obtain ⟨d1, d2⟩ := hhi (by omega)
          have e := k2 (by omega)
          rw [if_pos e, if_pos e]
          exact ⟨d1, d2⟩
      have hpz := ptB_size sh D
      have hgz := hGz X2
      have hldB : (⟨#[ld]⟩ : ByteArray) = ⟨#[48]⟩ ∨ (⟨#[ld]⟩ : ByteArray) = ⟨#[49]⟩ := by
        rcases hld with rfl | ⟨rfl, -⟩
        · exact .inr rfl
        · exact .inl rfl
      have hla : lastD ld n (p * 256 / 16 ^ (15 - n)) = if n = 0 then decide ((⟨#[ld]⟩ : ByteArray) = ⟨#[49]⟩) else decide (p * 256 / 16 ^ (15 - n) % 2 = 1) := by
        unfold lastD
        split
        · rcases hld with rfl | ⟨rfl, -⟩ <;> decide
        · rfl
      refine hexw_few hI (by omega) (by omega) hm2 (by omega) (by omega) rfl (by omega) rfl rfl rfl hprt hldB hla rfl (kd := kd) ?_ hD hZ hD2 hZ2 hT2 k3 hcase.1 hcase.2 hO (hMp D (by omega)) (hG X2 (by omega) (by omega)) rfl rfl rfl rfl ?_ ?_ ?_ ?_
      · rw [← hkd]; rfl
      all_goals simp only [app_size, c1, c2, c3]
      all_goals omega
theorem mhex_is {m : Nat} {e : Int} (sh : Bool) (prec : Int) (hm : m < 2 ^ 53) (he0 : -2000 ≤ e) (he1 : e ≤ 2000) : MhC m e (wdE prec) sh (hexT sh (min prec 1000) m e) := by
  obtain ⟨w1, w2, w3⟩ := wdE_min prec
  have hkP : wdE prec < 0 ∧ min prec 1000 < 0 ∨ 0 ≤ wdE prec ∧ wdE prec = min prec 1000 ∧ wdE prec ≤ 1000 := by
    by_cases h : prec < 0
    · exact .inl ⟨w1 h, by omega⟩
    · exact .inr ⟨by rw [w2 h]; omega, w2 h, w3⟩
  by_cases h0 : m = 0
  · subst h0
    exact mhex_any (p := 0) (ld := 48) (X := 0) (.inl ⟨rfl, rfl, rfl, rfl⟩) (hexI_0 e _) (.inr ⟨rfl, rfl⟩) he0 he1 hm (by decide) (by decide) hkP
  · obtain ⟨hs, p, h1, h2⟩ := nm_in h0 hm
    have hX : e + 52 - (nmS m : Int) = e - ((nmS m + 8 : Nat) : Int) + 60 := by omega
    exact mhex_any (p := p) (ld := 49) (X := e + 52 - nmS m) (.inr ⟨h0, rfl, nmS m + 8, by omega, dbl_of h0 h1 h2, hX⟩) (hexI_m e _ h0 h1 h2) (.inl rfl) he0 he1 hm (by omega) (by omega) hkP
theorem mbare_x {bits m v : Nat} {size e : Int} (hX : HxC m e (oS v) (oP v)) (hm : m < 2 ^ 53) (he0 : -2000 ≤ e) (he1 : e ≤ 2000) (p mi sh sp z : Bool) (wid prec : Int) (d : Nat) : BaC bits size m e p mi sh sp z wid prec 120 (finT sh prec m e v d 120) := by
  rw [finT_120]
  exact bare_120 p mi sh sp z wid prec (fun w => rwidth_any prec w) hX (mhex_is sh prec hm he0 he1)
theorem mbare_X {bits m v : Nat} {size e : Int} (hX : HxC m e (oS v) (oP v)) (hm : m < 2 ^ 53) (he0 : -2000 ≤ e) (he1 : e ≤ 2000) (p mi sh sp z : Bool) (wid prec : Int) (d : Nat) : BaC bits size m e p mi sh sp z wid prec 88 (finT sh prec m e v d 88) := by
  have hP : min prec 1000 ≤ 1000 := by omega
  rw [finT_88]
  have hz : (hexT sh (min prec 1000) m e).size ≤ 100000 := by
    generalize min prec 1000 = P at *
    have hs := hxD_size m P hm
    have hb : ((hxD m P).extract 1 (hxD m P).size).size = 13 := by rw [ByteArray.size_extract, hs]; decide
    have ha : ((hxD m P).extract 0 1).size ≤ 1 := by rw [ByteArray.size_extract]; omega
    have hhp : (hxP ((hxD m P).extract 1 (hxD m P).size) P).size ≤ 2000 := by
      unfold hxP
      split
      · rw [mk_size]
        have := rtr_len ((hxD m P).extract 1 (hxD m P).size).data.toList
        rw [list_len] at this; omega
      · rw [lnB_size, ByteArray.size_extract]; omega
    have ht := ptd_size sh ((hxD m P).extract 0 1) (hxP ((hxD m P).extract 1 (hxD m P).size) P)
    have hg := sgd_size (nmE m e P) 2 (by decide)
    have h3 : (⟨#[112]⟩ : ByteArray).size = 1 := rfl
    have h4 : (⟨#[48, 120]⟩ : ByteArray).size = 2 := rfl
    unfold hexT
    rw [app_size, app_size, app_size]; omega
  refine bare_88 p mi sh sp z wid prec (fun w => rwidth_any prec w) hX (mhex_is sh prec hm he0 he1) (fun w => ?_)
  exact egreat_any (hexT sh (min prec 1000) m e) w hz
end Go.Proofs.YthbabhbfpcfenabGreatDoor
