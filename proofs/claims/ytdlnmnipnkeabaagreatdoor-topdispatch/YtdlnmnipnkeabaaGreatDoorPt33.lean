/- FPi, UTopB, RDecode, RCut, RFill, RPad, UHex, QItems, QLen, Numb, Unes, Unes2, Unq, DDig, EDig, UTexts: these texts in one. -/
import Derived.Test.YtdlnmnipnkeabaaGreatDoorPt32
import Derived.Test.YtdlnmnipnkeabaaGreatDoorPt25
import Derived.Test.YtdlnmnipnkeabaaGreatDoorPt1
import Derived.Test.YtdlnmnipnkeabaaGreatDoorPt20
import Derived.Deep.LoopGhost
import Derived.Deep.RegionWith
import Derived.Deep.QuietTactic
import Derived.BigQuiet
import Derived.Deep.DeepCutAuto
import Derived.Deep.CutBlock
import Derived.Test.YtdlnmnipnkeabaaGreatDoorPt3
import Derived.Test.YtdlnmnipnkeabaaGreatDoorHexW
import Derived.Test.YtdlnmnipnkeabaaGreatDoorPt4
namespace Go.Proofs.YtdlnmnipnkeabaaGreatDoor
open Go.RowKit
set_option linter.unusedVariables false
set_option linter.unusedSimpArgs false
theorem pi_val : ∃ v : Nat, val 52 (-1074) 4614256656552045848 = v ∧ oS (plc v 2) = ⟨#[51, 49, 52]⟩ ∧ oP (plc v 2) = 1 := by
 have h := (val_ex lyB (p := 4614256656552045848) (by decide)).1
 have hm : pm 52 4614256656552045848 = 7074237752028440 := by decide
 have hk : ((-1074 : Int) + pk 52 4614256656552045848) = -51 := by decide
 rw [hm, hk, exU_dn _ (by decide)] at h
 obtain ⟨K, hK⟩ : ∃ K : Nat, K = 9952 := ⟨_, rfl⟩
 have e1 : ((-51 : Int) + 10000).toNat + 3 = K := by rw [hK]; rfl
 have e2 : (7074237752028440 : Nat) * 5 ^ (-(-51 : Int)).toNat = 3141592653589793115997963468544185161590576171875 * 10 ^ 3 := by decide
 rw [e2, Nat.mul_assoc, ← Nat.pow_add, Nat.add_comm, e1] at h
 obtain ⟨D, hD⟩ : ∃ D : Nat, D = 3141592653589793115997963468544185161590576171875 := ⟨_, rfl⟩
 have hdB : IsDec [51, 49, 52, 49, 53, 57, 50, 54, 53, 51, 53, 56, 57, 55, 57, 51, 49, 49, 53, 57, 57, 55, 57, 54, 51, 52, 54, 56, 53, 52, 52, 49, 56, 53, 49, 54, 49, 53, 57, 48, 53, 55, 54, 49, 55, 49, 56, 55, 53] 1 (D * 10 ^ K) := ⟨by decide, by decide, by decide, (fun h => by cases h), by decide, by
  have : ((1 : Int) - ([51, 49, 52, 49, 53, 57, 50, 54, 53, 51, 53, 56, 57, 55, 57, 51, 49, 49, 53, 57, 57, 55, 57, 54, 51, 52, 54, 56, 53, 52, 52, 49, 56, 53, 49, 54, 49, 53, 57, 48, 53, 55, 54, 49, 55, 49, 56, 55, 53] : List UInt8).length + 10000).toNat = K := by rw [hK]; rfl
  rw [this, hD]; rfl⟩
 obtain ⟨o1, o2⟩ := o_of hdB
 rw [← hD] at h
 refine ⟨D * 10 ^ K, h.symm, ?_⟩
 have hr : plc (D * 10 ^ K) 2 = 314 * 10 ^ (K + 46) := by
  unfold plc
  rw [← o2, show (1 : Int) + min (max 2 (-14000)) 14000 = 3 from rfl]
  unfold rnd
  rw [if_neg (by decide), if_neg (by rw [← o1]; decide), ← o2]
  have e3 : ((1 : Int) - 3 + 10000).toNat = K + 46 := by rw [hK]; rfl
  rw [e3]
  have hp := pow_pos10 K
  have q1 : D * 10 ^ K / 10 ^ (K + 46) = 314 := by
   rw [Nat.pow_add, ← Nat.div_div_eq_div_mul, Nat.mul_div_cancel _ hp, hD]
  have q2 : D * 10 ^ K % 10 ^ (K + 46) = D % 10 ^ 46 * 10 ^ K := by
   rw [Nat.pow_add, Nat.mul_comm D, Nat.mul_mod_mul_left, Nat.mul_comm]
  have q3 : 2 * (D % 10 ^ 46) < 10 ^ 46 := by rw [hD]; decide
  have q4 : 2 * (D % 10 ^ 46 * 10 ^ K) < 10 ^ (K + 46) := by
   rw [Nat.pow_add, ← Nat.mul_assoc, Nat.mul_comm (10 ^ K)]
   exact Nat.mul_lt_mul_of_pos_right q3 hp
  unfold near
  rw [q1, q2, if_pos (.inl q4)]
 have hd3 : IsDec [51, 49, 52] 1 (314 * 10 ^ (K + 46)) := ⟨by decide, by decide, by decide, (fun h => by cases h), by decide, by
  have : ((1 : Int) - ([51, 49, 52] : List UInt8).length + 10000).toNat = K + 46 := by rw [hK]; rfl
  rw [this]; rfl⟩
 obtain ⟨r1, r2⟩ := o_of hd3
 rw [hr]
 exact ⟨by unfold oS; rw [← r1], r2.symm⟩
theorem pi_fix : FlCq 4614256656552045848 64 false false false false false 8 2 102 ⟨#[32, 32, 32, 32, 51, 46, 49, 52]⟩ true := by
 have hb : bare 52 11 4614256656552045848 = 4614256656552045848 := by decide
 have hs : sgn 52 11 4614256656552045848 = false := by decide
 have hp : bare 52 11 4614256656552045848 < 9218868437227405312 := by decide
 have hpt := ptc_any lyB (bits := 4614256656552045848) (by decide)
 have e1 : ptM 52 11 9218868437227405312 4614256656552045848 = pm 52 (bare 52 11 4614256656552045848) := by unfold ptM; rw [if_pos hp]
 have e2 : ptE 52 11 9218868437227405312 (-1074) 4614256656552045848 = -1074 + pk 52 (bare 52 11 4614256656552045848) := by unfold ptE; rw [if_pos hp]
 have e3 : ptK 52 11 9218868437227405312 4614256656552045848 = 0 := by unfold ptK; rw [if_pos hp]
 have fv := (val_ex lyB hp).2
 have hX := exactD lyB hp
 rw [e1, e2, e3, hs] at hpt
 rw [hb] at hpt fv hX
 obtain ⟨v, hv, h1, h2⟩ := pi_val
 rw [hv] at fv hX
 have hN := fun w => fixC (bits := 4614256656552045848) (size := 64) (P := 2) (sh := false) hX fv (by decide) w
 have e : fixT false 2 v = ⟨#[51, 46, 49, 52]⟩ := by
  unfold fixT
  rw [show plcF 2 = 2 from rfl, h1, h2]
  decide
 rw [e] at hN
 have e2 : filT (sgF false false false) ⟨#[51, 46, 49, 52]⟩ false false 8 = ⟨#[32, 32, 32, 32, 51, 46, 49, 52]⟩ := by decide +kernel
 refine fin_102_false (S := sgF false false false) false false false false 8 2 hpt rfl hN (fun w => fsign_any false false false false false false 8 2 102 w) (fun w => ?_)
 have := filled_any (sgF false false false) ⟨#[51, 46, 49, 52]⟩ false false false false false 8 2 102 w (sgF_size _ _ _) (by decide)
 rw [e2] at this
 exact this
end Go.Proofs.YtdlnmnipnkeabaaGreatDoor
namespace Go.Proofs.YtdlnmnipnkeabaaGreatDoor
open Go.RowKit
set_option linter.unusedVariables false
set_option linter.unusedSimpArgs false
abbrev VF (b : Int) : Value := .iface 166 (.agg #[.int .i64 13, .string ⟨#[]⟩, .int .i64 0, .int .u64 b])
theorem flat_X (s : ByteArray) (hs : s.size ≤ 1024) : Flat (VX 0 s) (.int .i64 16) (.string ⟨#[]⟩) (.int .u64 0) (.int .u64 0) (.string s) (.int .i64 0) 16 0 262 (.string s) :=
 ⟨fun W => valueOf_X 0 s W hs (by decide), mk_X 0 s, fun W => shape_X 0 s W⟩
theorem chk_F (b : Int) : chk0 (D0 13 b 0 0 ⟨#[]⟩ ⟨#[]⟩) = 0 := by
 unfold chk0
 rw [pre0]
 simp [runV, ok1, ok2, ok3, ok4, fitsB, frmB, typedB, allB, sz_nil]
theorem flat_F (b : Int) (h0 : 0 ≤ b) (h1 : b ≤ 18446744073709551615) : Flat (VF b) (.int .i64 13) (.string ⟨#[]⟩) (.int .u64 b) (.int .u64 0) (.string ⟨#[]⟩) (.int .i64 0) 13 0 259 (.agg #[.int .u64 b, .int .i64 64]) := by
 refine ⟨fun W => valueOf_of _ _ _ _ _ _ _ _ _ _ W (fun V => ?_) ⟨rfl, rfl, rfl, rfl, rfl, rfl, rfl, rfl⟩, fun W => markof_float 13 0 _ b W, fun W => shape_raw (VF b) 13 b 0 0 ⟨#[]⟩ _ _ (.inl ⟨rfl, rfl, rfl⟩) ⟨h0, h1⟩ (fun V => raw_flat (VF b) 13 0 b 0 ⟨#[]⟩ ⟨#[]⟩ V fun V2 => rawof_float 13 0 ⟨#[]⟩ b V2) W⟩
 have hb := build0 13 b 0 0 ⟨#[]⟩ ⟨#[]⟩ V ⟨by simp, ⟨h0, h1⟩, by simp, by simp, Nat.zero_le _, Nat.zero_le _⟩ (by decide) (by decide) (chk_F b)
 have md : mdV (D0 13 b 0 0 ⟨#[]⟩ ⟨#[]⟩) = VF b := by unfold mdV; simp
 rw [md] at hb
 exact hb
set_option maxRecDepth 1000000 in
theorem tnum_any (n : Int) (h0 : 0 ≤ n) (h1 : n < 9223372036854775808) (w : World) : Calls Tryz.prog 13 #[.int .i64 n] w fun e w' => e = .returned (DI 0 n) ∧ Below w.heap.size w w' := by
 have hw : IntKind.u64.wrap n = n := by show n % 18446744073709551616 = n; omega
 go_enter Tryz.func13, Tryz.ntmps13
 go_wp2
 go_returns
 refine ⟨?_, by go_grown⟩
 first | rfl | simp [hw]
set_option maxRecDepth 1000000 in
theorem ttext_any (s : ByteArray) (w : World) : Calls Tryz.prog 11 #[.string s] w fun e w' => e = .returned (DX 0 s) ∧ Below w.heap.size w w' := by
 go_enter Tryz.func11, Tryz.ntmps11
 go_wp2
 go_returns
 exact ⟨rfl, by go_grown⟩
theorem litU_pc {P : Nat → Prop} {g C : Nat} (hPg : P g) (dp : Int) (av : Value) (vs : List Value) (l : List UInt8) (J : World → Prop) (nx : Int) : PcJ P g C dp av vs (lit l) J J nx nx l := by
 intro w l0 E hl
 refine (lit_J (lit l) (ba l) rfl E (by rw [Lib.size_eq]; exact Nat.le_trans hl (by decide))).mono ?_
 rintro e w' ⟨h1, h2, h3⟩
 exact ⟨h1, h2, h3.mono fun k _ h => h ▸ hPg⟩
abbrev pF3 : Pc := ⟨1, [37, 91, 50, 93, 42, 46, 91, 49, 93, 42, 91, 51, 93, 102], fl0, -1, 102, ⟨2, 0, ⟨1, 2⟩⟩, ⟨2, 0, ⟨1, 1⟩⟩, ⟨1, 3⟩⟩
abbrev pX1 : Pc := ⟨1, [37, 120], fl0, -1, 120, nb0, nb0, ix0⟩
theorem prs_lv : prs [37, 91, 50, 93, 42, 46, 91, 49, 93, 42, 91, 51, 93, 102, 124, 37, 120] = [pF3, lit [124], pX1] := by rfl
abbrev lvD : List (List Value) := [[.int .i64 6, .string ⟨#[]⟩, .int .u64 2, .int .u64 0, .string ⟨#[]⟩, .slice none 0 0, .slice none 0 0, .int .i64 0], [.int .i64 6, .string ⟨#[]⟩, .int .u64 8, .int .u64 0, .string ⟨#[]⟩, .slice none 0 0, .slice none 0 0, .int .i64 0], [.int .i64 13, .string ⟨#[]⟩, .int .u64 4614256656552045848, .int .u64 0, .string ⟨#[]⟩, .slice none 0 0, .slice none 0 0, .int .i64 0], [.int .i64 16, .string ⟨#[]⟩, .int .u64 0, .int .u64 0, .string ⟨#[104, 105]⟩, .slice none 0 0, .slice none 0 0, .int .i64 0]]
abbrev lvV : List Value := [VI 0 2, VI 0 8, VF 4614256656552045848, VX 0 ⟨#[104, 105]⟩]
theorem hi_x : padS (hexS ⟨#[104, 105]⟩ false false false (-1)) false false (-1) = ⟨#[54, 56, 54, 57]⟩ := by decide +kernel
theorem lv_sprintf (A c : Nat) (hc1 : 4 ≤ c) (hc2 : c ≤ maxLen) (w : World) (he : Esc w) (hk : KN w) (hA : A < w.heap.size) (hr : w.rangeAt A 0 lvD.flatten) :
  Calls Tryz.prog 29 #[.slice none 0 0, .string ⟨#[37, 91, 50, 93, 42, 46, 91, 49, 93, 42, 91, 51, 93, 102, 124, 37, 120]⟩, .slice (some ⟨A, 0, none⟩) 4 c] w fun e w' => e = .returned (.string ⟨#[32, 32, 32, 32, 51, 46, 49, 52, 124, 54, 56, 54, 57]⟩) ∧ Below w.heap.size w w' := by
 refine sprintf_N _ _ lvV [32, 32, 32, 32, 51, 46, 49, 52, 124, 54, 56, 54, 57] w he hk (by decide) (fun W1 C b1 => ?_) (fun g C M av W1 hE => ?_)
 ·refine begun_raw W1 C 0 A c lvD lvV (Nat.lt_of_lt_of_le hA b1.size) rfl (by decide) hc1 hc2 (fun i d hi => ?_) (fun i d u hi hu => ?_)
  ·match i, hi with
   | 0, hi =>
     simp at hi
     subst hi
     exact ⟨⟨_, _, _, _, _, _, rfl⟩, fun j u hu => (b1.cell (p := ⟨A, 0 * 8 + j, none⟩) hA).trans (by have := hr (0 * 8 + j) u (by rw [← hu]; rcases j with _ | _ | _ | _ | _ | _ | _ | _ | j <;> first | rfl | (simp at hu)); simpa using this)⟩
   | 1, hi =>
     simp at hi
     subst hi
     exact ⟨⟨_, _, _, _, _, _, rfl⟩, fun j u hu => (b1.cell (p := ⟨A, 1 * 8 + j, none⟩) hA).trans (by have := hr (1 * 8 + j) u (by rw [← hu]; rcases j with _ | _ | _ | _ | _ | _ | _ | _ | j <;> first | rfl | (simp at hu)); simpa using this)⟩
   | 2, hi =>
     simp at hi
     subst hi
     exact ⟨⟨_, _, _, _, _, _, rfl⟩, fun j u hu => (b1.cell (p := ⟨A, 2 * 8 + j, none⟩) hA).trans (by have := hr (2 * 8 + j) u (by rw [← hu]; rcases j with _ | _ | _ | _ | _ | _ | _ | _ | j <;> first | rfl | (simp at hu)); simpa using this)⟩
   | 3, hi =>
     simp at hi
     subst hi
     exact ⟨⟨_, _, _, _, _, _, rfl⟩, fun j u hu => (b1.cell (p := ⟨A, 3 * 8 + j, none⟩) hA).trans (by have := hr (3 * 8 + j) u (by rw [← hu]; rcases j with _ | _ | _ | _ | _ | _ | _ | _ | j <;> first | rfl | (simp at hu)); simpa using this)⟩
  ·match i, hi, hu with
   | 0, hi, hu => simp at hi hu; subst hi hu; exact ⟨⟨_, _, rfl⟩, fun V => valueOf_I 0 2 V (by decide) (by decide) (by decide)⟩
   | 1, hi, hu => simp at hi hu; subst hi hu; exact ⟨⟨_, _, rfl⟩, fun V => valueOf_I 0 8 V (by decide) (by decide) (by decide)⟩
   | 2, hi, hu => simp at hi hu; subst hi hu; exact ⟨⟨_, _, rfl⟩, fun V => (flat_F 4614256656552045848 (by decide) (by decide)).vo V⟩
   | 3, hi, hu => simp at hi hu; subst hi hu; exact ⟨⟨_, _, rfl⟩, fun V => valueOf_X 0 ⟨#[104, 105]⟩ V (by decide) (by decide)⟩
 ·have hlen : lvV.length ≤ 1000 := by decide
  refine (format_ix ⟨#[37, 91, 50, 93, 42, 46, 91, 49, 93, 42, 91, 51, 93, 102, 124, 37, 120]⟩ (by decide) [pF3, lit [124], pX1] prs_lv pF3 rfl rfl [32, 32, 32, 32, 51, 46, 49, 52, 124, 54, 56, 54, 57] (J' := JN C M) (P := fun k => k = g) rfl (fun k hk => by omega) hE (nx' := 5) ⟨[32, 32, 32, 32, 51, 46, 49, 52], [124, 54, 56, 54, 57], 4, JN C M, ?_, ⟨[124], [54, 56, 54, 57], 4, JN C M, litU_pc (P := fun k => k = g) rfl _ _ _ _ _ _, ⟨[54, 56, 54, 57], [], 5, JN C M, ?_, ⟨rfl, rfl, rfl⟩, rfl⟩, rfl⟩, rfl⟩ (Or.inr (by decide)) (by decide)).mono ?_
  ·intro V l E hl
   refine piece_J pF3 (ba pF3.text) rfl _ 4 E fun V1 E1 => ?_
   refine dir_U pF3 (ba pF3.text) ⟨false, false, false, false, false, 8, 2, 102⟩ _ _ ⟨#[32, 32, 32, 32, 51, 46, 49, 52]⟩ 2 4 E1 (fun V2 E2 => ?_) (by decide) (tk_good 2 _ _ rfl 2 hlen) rfl (fun k hk => by omega) (fun V2 E2 => ?_) (Nat.le_trans hl (by decide))
   ·exact sized_U pF3 (ba pF3.text) false 8 2 (.inr ⟨by decide, 8, num_star ⟨2, 0, ⟨1, 2⟩⟩ rfl (-1000) 8 (tk_good 1 _ _ rfl 1 hlen) (fun V3 => numberOf_I 8 (-1000) (by decide) (by decide) (by decide) V3), .inl ⟨by decide, rfl, rfl⟩⟩) (.inr ⟨by decide, num_star ⟨2, 0, ⟨1, 1⟩⟩ rfl 0 2 (tk_good 0 _ _ rfl 3 hlen) (fun V3 => numberOf_I 2 0 (by decide) (by decide) (by decide) V3)⟩) E2
   ·refine (shown_flat (flat_F 4614256656552045848 (by decide) (by decide)) _ rfl ⟨false, false, false, false, false, 8, 2, 102⟩ (by decide) ⟨#[32, 32, 32, 32, 51, 46, 49, 52]⟩ (JN.env E2) (fun V3 _ => shaped_float _ _ _ 4614256656552045848 64 0 _ true V3 (fun V4 => pi_fix V4))).mono ?_
    rintro e V' ⟨h1, h2⟩
    exact ⟨h1, E2.up h2, .of_below h2⟩
  ·intro V l E hl
   refine piece_J pX1 (ba pX1.text) rfl _ 5 E fun V1 E1 => ?_
   refine dir_U pX1 (ba pX1.text) (bareQ 120) _ _ ⟨#[54, 56, 54, 57]⟩ 4 5 E1 (fun V2 E2 => ?_) (by decide) (tk_next 3 _ _ rfl 0 hlen) rfl (fun k hk => by omega) (fun V2 E2 => ?_) (Nat.le_trans hl (by decide))
   ·refine (sized_none pX1 (ba pX1.text) rfl rfl g V2).mono ?_
    rintro e V' ⟨h1, h2⟩
    exact ⟨h1, E2.up h2, .of_below h2⟩
   ·refine (shown_flat (flat_X ⟨#[104, 105]⟩ (by decide)) _ rfl (bareQ 120) (by decide) ⟨#[54, 56, 54, 57]⟩ (JN.env E2) (fun V3 e3 => shaped_text _ _ _ _ 0 _ true V3 e3 (fun V4 e4 => by
     have := text_x ⟨#[104, 105]⟩ false false false false false (-1) (-1) V4 e4 (by decide) (by decide)
     rw [hi_x] at this
     exact this))).mono ?_
    rintro e V' ⟨h1, h2⟩
    exact ⟨h1, E2.up h2, .of_below h2⟩
  ·rintro e w' ⟨h1, h2, h3⟩
   exact ⟨h1, ⟨_, h2.p⟩, h3⟩
theorem neP1 (c : Nat) (w : World) : (binOp BinOp.neq 49 (.pointer (some ⟨c, 0, none⟩)) (.pointer none)).run Tryz.prog w = .ok (.bool true) w := by kernel_rfl
set_option maxRecDepth 1000000 in
set_option maxHeartbeats 4000000 in
theorem tlives_any (w : World) (he : Esc w) (hk : KN w) : Calls Tryz.prog 7 #[] w fun e w' => e = .returned (.bool true) ∧ Below w.heap.size w w' := by
 have hN := new_any (.slice none 0 0) (fun a n k _ _ => a = none ∧ n = 0 ∧ k = 0) w (fun _ _ _ _ _ _ h _ => h) (fun W _ => copiedTable_nil W cloneH_nil)
 have hn := fun p w => neP1 p w
 have n2 := fun W => tnum_any 2 (by decide) (by decide) W
 have n8 := fun W => tnum_any 8 (by decide) (by decide) W
 have hx := fun W => ttext_any ⟨#[104, 105]⟩ W
 have hSp : ∀ p B c RB hi a n k W1, (w.heap.size ≤ hi ∧ hi ≤ p ∧ hi ≤ B ∧ hi ≤ c ∧ hi ≤ RB ∧ p ≠ B ∧ p ≠ c ∧ RB ≠ p ∧ RB ≠ B ∧ RB ≠ c ∧ Blk W1 p [.pointer (some ⟨B, 0, none⟩), .int .i64 0] ∧ StoM W1 B c 1 [] (.func (.func 21) #[] #[.pointer (some ⟨RB, 0, none⟩)]) 0 ∧ Blk W1 RB [.slice a n k] ∧ (a = none ∧ n = 0 ∧ k = 0)) → Below w.heap.size w W1 → ∀ W4, Below W1.heap.size W1 W4 →
   Calls Tryz.prog 17 #[.pointer (some ⟨p, 0, none⟩), .string ⟨#[37, 91, 50, 93, 42, 46, 91, 49, 93, 42, 91, 51, 93, 102, 124, 37, 120]⟩, .slice (some ⟨W4.heap.size, 0, none⟩) 4 4] (W4.alloc (.cells #[.int .i64 6, .string ⟨#[]⟩, .int .u64 2, .int .u64 0, .string ⟨#[]⟩, .slice none 0 0, .slice none 0 0, .int .i64 0, .int .i64 6, .string ⟨#[]⟩, .int .u64 8, .int .u64 0, .string ⟨#[]⟩, .slice none 0 0, .slice none 0 0, .int .i64 0, .int .i64 13, .string ⟨#[]⟩, .int .u64 4614256656552045848, .int .u64 0, .string ⟨#[]⟩, .slice none 0 0, .slice none 0 0, .int .i64 0, .int .i64 16, .string ⟨#[]⟩, .int .u64 0, .int .u64 0, .string ⟨#[104, 105]⟩, .slice none 0 0, .slice none 0 0, .int .i64 0] 29)) fun e w' => e = .returned (.string ⟨#[32, 32, 32, 32, 51, 46, 49, 52, 124, 54, 56, 54, 57]⟩) ∧ Below w.heap.size w w' := by
  rintro p B c RB hi a n k W1 ⟨a1, a2, a3, a4, a5, a6, a7, a8, a9, a10, x1, s1, r1, R1⟩ b1 W4 b4
  obtain ⟨W5, hW5⟩ : ∃ W5, W5 = W4.alloc (.cells #[.int .i64 6, .string ⟨#[]⟩, .int .u64 2, .int .u64 0, .string ⟨#[]⟩, .slice none 0 0, .slice none 0 0, .int .i64 0, .int .i64 6, .string ⟨#[]⟩, .int .u64 8, .int .u64 0, .string ⟨#[]⟩, .slice none 0 0, .slice none 0 0, .int .i64 0, .int .i64 13, .string ⟨#[]⟩, .int .u64 4614256656552045848, .int .u64 0, .string ⟨#[]⟩, .slice none 0 0, .slice none 0 0, .int .i64 0, .int .i64 16, .string ⟨#[]⟩, .int .u64 0, .int .u64 0, .string ⟨#[104, 105]⟩, .slice none 0 0, .slice none 0 0, .int .i64 0] 29) := ⟨_, rfl⟩
  have b5 : Below W4.heap.size W4 W5 := by rw [hW5]; exact (Below.refl _ _).alloc (Nat.le_refl _) _
  have y5 : Blk W5 W4.heap.size lvD.flatten := by rw [hW5]; exact Blk.new W4 lvD.flatten _
  have b15 : Below W1.heap.size W1 W5 := b4.trans (b5.mono b4.size)
  have bw5 : Below w.heap.size w W5 := b1.trans (b15.mono b1.size)
  have hA := y5.b
  rw [← hW5]
  clear hW5
  obtain ⟨rfl, rfl, rfl⟩ := R1
  have hp := x1.b
  have hB := s1.bx.b
  have hc := s1.cb
  have h45 := b4.size
  have hw1 := b1.size
  refine (sprintf_q p B c RB none 0 0 _ (.slice (some ⟨W4.heap.size, 0, none⟩) 4 4) ⟨#[32, 32, 32, 32, 51, 46, 49, 52, 124, 54, 56, 54, 57]⟩ W5 ⟨_, _, _, rfl⟩ (x1.up b15) (s1.up b15) (r1.up b15) a6 a7 a8 (fun W kW => ?_)).mono ?_
  ·have bW : Below w.heap.size w W := bw5.trans (kW.below (fun b h => by rcases h with rfl | rfl <;> omega) bw5.size)
   exact lv_sprintf W4.heap.size 4 (by decide) (by decide) W (he.below bW) (hk.up bW) (Nat.lt_of_lt_of_le hA kW.size) (y5.kx kW (by omega)).range
  ·rintro e w' ⟨rfl, k3⟩
   exact ⟨rfl, bw5.trans (k3.below (fun b h => by rcases h with rfl | rfl | rfl <;> omega) bw5.size)⟩
 clear he hk
 go_enter Tryz.func7, Tryz.ntmps7
 go_upto_region 2 with (go_at_call 16; refine hN.mono ?_; rintro e W1 ⟨p, B, c, RB, hi, a, n, k, rfl, hh, b1⟩; have hS1 := hSp p B c RB hi a n k W1 hh.out b1)
 go_wp2_with (first
  | (go_at_call_of 13 (2 : Int); refine (n2 _).mono ?_; rintro e W2 ⟨rfl, b2⟩)
  | (go_at_call_of 13 (8 : Int); refine (n8 _).mono ?_; rintro e W3 ⟨rfl, b3⟩)
  | (go_at_call 11; refine (hx _).mono ?_; rintro e W4 ⟨rfl, b4⟩; have hS4 := hS1 W4 ((b2.trans (b3.mono b2.size)).trans (b4.mono (by have := b2.size; have := b3.size; omega))))
  | (go_at_call 17; refine hS4.mono ?_; rintro e W5 ⟨rfl, b5⟩))
 go_ret
 exact ⟨rfl, b5⟩
end Go.Proofs.YtdlnmnipnkeabaaGreatDoor
namespace Go.Proofs.YtdlnmnipnkeabaaGreatDoor
open Go.RowKit
end Go.Proofs.YtdlnmnipnkeabaaGreatDoor
namespace Go.Proofs.YtdlnmnipnkeabaaGreatDoor
open Go.RowKit
end Go.Proofs.YtdlnmnipnkeabaaGreatDoor
namespace Go.Proofs.YtdlnmnipnkeabaaGreatDoor
open Go.RowKit
end Go.Proofs.YtdlnmnipnkeabaaGreatDoor
namespace Go.Proofs.YtdlnmnipnkeabaaGreatDoor
open Go.RowKit
set_option linter.unusedVariables false
theorem app_nil (s : ByteArray) : s ++ run 32 0 = s := by
 apply ByteArray.ext; rw [ByteArray.data_append]; exact Array.append_empty
theorem nil_app (c : Nat) (s : ByteArray) : run c 0 ++ s = s := by
 apply ByteArray.ext; rw [ByteArray.data_append]; exact Array.empty_append
theorem padS_short (s : ByteArray) (mi z : Bool) (wid : Int) (h : ((wdt wid : Nat) : Int) - (cntR s : Nat) ≤ 0) : padS s mi z wid = s := by
 have e : wdt (((wdt wid : Nat) : Int) - (cntR s : Nat)) = 0 := by
  generalize ((wdt wid : Nat) : Int) - (cntR s : Nat) = x at h
  unfold wdt; omega
 unfold padS
 rw [e]
 cases mi
 ·cases z
  ·exact nil_app 32 s
  ·exact nil_app 48 s
 ·exact app_nil s
end Go.Proofs.YtdlnmnipnkeabaaGreatDoor
namespace Go.Proofs.YtdlnmnipnkeabaaGreatDoor
open Go.RowKit
set_option linter.unusedVariables false
set_option linter.unusedSimpArgs false
abbrev hx2 (x : UInt8) : List UInt8 := [hexB false (x.toNat / 16), hexB false (x.toNat % 16)]
theorem hexGo_flat : ∀ (l : List UInt8) (i : Nat), hexGo false false false i l = l.flatMap hx2
 | [], _ => rfl
 | x :: t, i => by
   rw [hexGo, hexGo_flat t, List.flatMap_cons]
   simp [hexItem]
theorem hx2_len : ∀ l : List UInt8, (l.flatMap hx2).length = 2 * l.length
 | [] => rfl
 | x :: t => by rw [List.flatMap_cons, List.length_append, hx2_len t]; simp; omega
theorem hexS_off (u : ByteArray) : hexS u false false false (-1) = ⟨(u.data.toList.flatMap hx2).toArray⟩ := by
 have e : cutB u (-1) = u := by unfold cutB; rw [if_neg (by omega)]
 unfold hexS
 rw [e, hexGo_flat]
theorem hexS_size (u : ByteArray) : (hexS u false false false (-1)).size = 2 * u.size := by
 rw [hexS_off]
 show (u.data.toList.flatMap hx2).toArray.size = _
 rw [List.size_toArray, hx2_len, Array.length_toList]
 rfl
end Go.Proofs.YtdlnmnipnkeabaaGreatDoor
namespace Go.Proofs.YtdlnmnipnkeabaaGreatDoor
open Go.RowKit
theorem decL_pt (l : List UInt8) (hl : l ≠ []) (hb : brk (Lib.decodeL l) = false) : Utf8.valid ((Lib.decodeL l).1 : Int) = true ∧ l.take (Lib.decodeL l).2 = (Utf8.encode ((Lib.decodeL l).1 : Int)).data.toList := by
 have hs : 0 < (ByteArray.mk l.toArray).size := by
  show 0 < l.toArray.size
  have : l.length ≠ 0 := fun h => hl (List.eq_nil_of_length_eq_zero h)
  simp; omega
 have e : Utf8.decode (ByteArray.mk l.toArray) 0 = Lib.decodeL l := by rw [dec_zero]
 rcases dec_some (ByteArray.mk l.toArray) hs with h | ⟨n, h1, h2, h3, h4⟩
 ·rw [e] at h
  rw [h] at hb
  exact absurd hb (by decide)
 ·have h5 := try_dec _ _ _ h3 h4
  rw [e] at h5
  obtain ⟨hv, he⟩ := h4
  rw [h5]
  refine ⟨hv, ?_⟩
  show l.take n = _
  rw [he, ext_list]
theorem decL_brk (l : List UInt8) (hb : brk (Lib.decodeL l) = true) : (Lib.decodeL l).2 = 1 := by
 simp only [brk, Bool.and_eq_true, beq_iff_eq] at hb
 exact hb.2
theorem take_one (l : List UInt8) (hl : l ≠ []) : l.take 1 = [l.getD 0 0] := by
 match l, hl with
 | x :: t, _ => rfl
def Kind (L m : List UInt8) : Prop :=
 (∃ c : Nat, Utf8.valid (c : Int) = true ∧ plainP c = true ∧ c ≠ 92 ∧ c ≠ 34 ∧ m = (Utf8.encode (c : Int)).data.toList ∧ L = m) ∨
 (∃ b : UInt8, (b = 34 ∨ b = 92) ∧ m = [b] ∧ L = [92, b]) ∨
 (∃ k : Nat, k < 7 ∧ m = [UInt8.ofNat (7 + k)] ∧ L = [92, UInt8.ofNat (escT k)]) ∨
 (∃ v : Nat, v < 256 ∧ m = [UInt8.ofNat v] ∧ L = [92, 120] ++ hexL v 2) ∨
 (∃ v : Nat, Utf8.valid (v : Int) = true ∧ v ≤ 65535 ∧ m = (Utf8.encode (v : Int)).data.toList ∧ L = [92, 117] ++ hexL v 4) ∨
 (∃ v : Nat, Utf8.valid (v : Int) = true ∧ m = (Utf8.encode (v : Int)).data.toList ∧ L = [92, 85] ++ hexL v 8)
end Go.Proofs.YtdlnmnipnkeabaaGreatDoor
namespace Go.Proofs.YtdlnmnipnkeabaaGreatDoor
open Go.RowKit
set_option linter.unusedVariables false
set_option linter.unusedSimpArgs false
theorem enc_low (c : Nat) (hv : Utf8.valid (c : Int) = true) : 1 ≤ (Utf8.encode (c : Int)).data.toList.length ∧ (128 ≤ c → 2 ≤ (Utf8.encode (c : Int)).data.toList.length) ∧ (65536 ≤ c → 3 ≤ (Utf8.encode (c : Int)).data.toList.length) := by
 have h := (valid_iff _).1 hv
 rw [enc_list c hv]
 unfold Lib.encodeRune
 rw [List.length_map]
 unfold Lib.encodeRuneZ
 refine ⟨?_, fun h1 => ?_, fun h1 => ?_⟩
 all_goals
  repeat' split
  all_goals first | (simp only [List.length_cons, List.length_nil]; omega) | (exfalso; omega)
theorem inL_len4 (c : Nat) (a : Bool) (hv : Utf8.valid (c : Int) = true) : (inL c 34 a).length ≤ 4 * (Utf8.encode (c : Int)).data.toList.length := by
 obtain ⟨h1, h2, h3⟩ := enc_low c hv
 generalize hL : (Utf8.encode (c : Int)).data.toList = L at *
 unfold inL
 rw [hL]
 split
 ·simp; omega
 ·split
  ·simp; omega
  ·split
   ·omega
   ·split
    ·simp only [List.length_cons, hexL_len]; omega
    ·rename_i h4
     split
     ·have := h2 (by omega)
      simp only [List.length_cons, hexL_len]; omega
     ·have := h3 (by omega)
      simp only [List.length_cons, hexL_len]; omega
theorem itemL_len4 (a : Bool) (l : List UInt8) (hl : l ≠ []) : (itemL a l).length ≤ 4 * (l.take (Lib.decodeL l).2).length := by
 cases hb : brk (Lib.decodeL l) with
 | true =>
   unfold itemL
   rw [if_pos hb, decL_brk l hb, take_one l hl]
   simp only [List.length_cons, List.length_nil, hexL_len]
   omega
 | false =>
   obtain ⟨hv, he⟩ := decL_pt l hl hb
   unfold itemL
   rw [if_neg (by rw [hb]; simp), he]
   exact inL_len4 _ a hv
theorem quoI_len4 (a : Bool) : ∀ (n : Nat) (l : List UInt8), l.length ≤ n → (quoI a l).length ≤ 4 * l.length
 | 0, l, h => by
   have : l = [] := List.eq_nil_of_length_eq_zero (by omega)
   subst this; simp [quoI_nil]
 | n + 1, l, h => by
   by_cases hl : l = []
   ·subst hl; simp [quoI_nil]
   ·have hw := Lib.decodeL_width l
    have hle := Lib.decodeL_le l hl
    have hn : l.length ≠ 0 := fun h => hl (List.eq_nil_of_length_eq_zero h)
    rw [quoI_step a l hl, List.length_append]
    have h1 := itemL_len4 a l hl
    have h2 := quoI_len4 a n (l.drop (Lib.decodeL l).2) (by rw [List.length_drop]; omega)
    rw [List.length_take] at h1
    rw [List.length_drop] at h2
    omega
theorem quoS_size4 (s : ByteArray) (a : Bool) : (quoS s a).size ≤ 4 * s.size + 2 := by
 have h := quoI_len4 a s.size s.data.toList (by rw [list_len]; exact Nat.le_refl _)
 rw [list_len] at h
 show (34 :: (quoI a s.data.toList ++ [34])).toArray.size ≤ _
 simp
 omega
end Go.Proofs.YtdlnmnipnkeabaaGreatDoor
namespace Go.Proofs.YtdlnmnipnkeabaaGreatDoor
open Go.RowKit
end Go.Proofs.YtdlnmnipnkeabaaGreatDoor
namespace Go.Proofs.YtdlnmnipnkeabaaGreatDoor
open Go.RowKit
set_option linter.unusedVariables false
end Go.Proofs.YtdlnmnipnkeabaaGreatDoor
namespace Go.Proofs.YtdlnmnipnkeabaaGreatDoor
open Go.RowKit
set_option linter.unusedVariables false
end Go.Proofs.YtdlnmnipnkeabaaGreatDoor
namespace Go.Proofs.YtdlnmnipnkeabaaGreatDoor
open Go.RowKit
set_option linter.unusedVariables false
end Go.Proofs.YtdlnmnipnkeabaaGreatDoor
namespace Go.Proofs.YtdlnmnipnkeabaaGreatDoor
open Go.RowKit
set_option linter.unusedVariables false
end Go.Proofs.YtdlnmnipnkeabaaGreatDoor
namespace Go.Proofs.YtdlnmnipnkeabaaGreatDoor
open Go.RowKit
set_option linter.unusedVariables false
end Go.Proofs.YtdlnmnipnkeabaaGreatDoor
namespace Go.Proofs.YtdlnmnipnkeabaaGreatDoor
open Go.RowKit
set_option linter.unusedVariables false
set_option linter.unusedSimpArgs false
def D8 (W : World) (b : Nat) (k : Int) (u : ByteArray) : Prop := W.cell? ⟨b, 0, none⟩ = some (.int .i64 k) ∧ W.cell? ⟨b, 1, none⟩ = some (.string ⟨#[]⟩) ∧ W.cell? ⟨b, 2, none⟩ = some (.int .u64 0) ∧ W.cell? ⟨b, 3, none⟩ = some (.int .u64 0) ∧ W.cell? ⟨b, 4, none⟩ = some (.string u) ∧ W.cell? ⟨b, 5, none⟩ = some (.slice none 0 0) ∧ W.cell? ⟨b, 6, none⟩ = some (.slice none 0 0) ∧ W.cell? ⟨b, 7, none⟩ = some (.int .i64 0)
theorem D8.up {W W' : World} {b : Nat} {k : Int} {u : ByteArray} (h : D8 W b k u) (hb : Below W.heap.size W W') : D8 W' b k u :=
 ⟨up_cell hb h.1, up_cell hb h.2.1, up_cell hb h.2.2.1, up_cell hb h.2.2.2.1, up_cell hb h.2.2.2.2.1, up_cell hb h.2.2.2.2.2.1, up_cell hb h.2.2.2.2.2.2.1, up_cell hb h.2.2.2.2.2.2.2⟩
theorem D8.new (W : World) (k : Int) (u : ByteArray) : D8 (W.alloc (.cells #[.int .i64 k, .string ⟨#[]⟩, .int .u64 0, .int .u64 0, .string u, .slice none 0 0, .slice none 0 0, .int .i64 0] 29)) W.heap.size k u := by
 refine ⟨?_, ?_, ?_, ?_, ?_, ?_, ?_, ?_⟩
 all_goals simp [go_sem]
theorem D8.lt {W : World} {b : Nat} {k : Int} {u : ByteArray} (h : D8 W b k u) : b < W.heap.size := World.block_lt_of_cell? W _ h.1
theorem D8.range {W : World} {b : Nat} {k : Int} {u : ByteArray} (h : D8 W b k u) : W.rangeAt b 0 [.int .i64 k, .string ⟨#[]⟩, .int .u64 0, .int .u64 0, .string u, .slice none 0 0, .slice none 0 0, .int .i64 0] := fun j v hv => by
 obtain ⟨h0, h1, h2, h3, h4, h5, h6, h7⟩ := h
 rw [Nat.zero_add]
 match j, hv with
 | 0, hv => simp at hv; subst hv; exact h0
 | 1, hv => simp at hv; subst hv; exact h1
 | 2, hv => simp at hv; subst hv; exact h2
 | 3, hv => simp at hv; subst hv; exact h3
 | 4, hv => simp at hv; subst hv; exact h4
 | 5, hv => simp at hv; subst hv; exact h5
 | 6, hv => simp at hv; subst hv; exact h6
 | 7, hv => simp at hv; subst hv; exact h7
theorem txt_in {T : ByteArray} (h : T.size ≤ 4096) : txt T.data.toList = T := by
 unfold txt
 rw [if_neg (by rw [← Lib.size_eq]; omega)]
theorem wdt_off : wdt (-1) = 0 := by decide
theorem pad_off (s : ByteArray) : padS s false false (-1) = s := padS_short s false false (-1) (by rw [wdt_off]; omega)
theorem cut_off (s : ByteArray) : cutS s (min (-1) 1000) = s := by unfold cutS; rw [if_pos (by decide)]
end Go.Proofs.YtdlnmnipnkeabaaGreatDoor
