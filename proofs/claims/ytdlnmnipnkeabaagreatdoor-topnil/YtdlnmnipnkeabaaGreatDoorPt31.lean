/- FPi, UTopB, VDocA, VFlat8, Lives3, IBox, INumE, IRead, UNs, UInts, NMark: these texts in one. -/
import Derived.Test.YtdlnmnipnkeabaaGreatDoorPt30
import Derived.Test.YtdlnmnipnkeabaaGreatDoorPt23
import Derived.Test.YtdlnmnipnkeabaaGreatDoorVMade
import Derived.Test.YtdlnmnipnkeabaaGreatDoorPt9
import Derived.Test.YtdlnmnipnkeabaaGreatDoorVRaw
import Derived.Deep.LoopGhost
import Derived.Deep.DeepCutAuto
import Derived.Deep.CutBlock
import Derived.Test.YtdlnmnipnkeabaaGreatDoorINumC
import Derived.Test.YtdlnmnipnkeabaaGreatDoorPt4
import Derived.Test.YtdlnmnipnkeabaaGreatDoorPt1
namespace Go.Proofs.YtdlnmnipnkeabaaGreatDoor
open Go.RowKit
set_option linter.unusedVariables false
set_option linter.unusedSimpArgs false
theorem pi_val : ∃ v : Nat, val 52 (-1074) 4614256656552045848 = v ∧ oS (plc v 2) = ⟨#[51, 49, 52]⟩ ∧ oP (plc v 2) = 1 := by
 have h := (val_ex lyB (p := 4614256656552045848) (by decide)).1
 have hm : pm 52 4614256656552045848 = 7074237752028440 := by decide
 have hk : ((-1074 : Int) + pk 52 4614256656552045848) = -51 := by decide
 rw [hm, hk, exU_dn _ (by decide)] at h
 obtain ⟨K, hK⟩ : ∃ K : Nat, K = 9952 := ⟨_, rfl⟩
 have e1 : ((-51 : Int) + 10000).toNat + 3 = K := by rw [hK]; rfl
 have e2 : (7074237752028440 : Nat) * 5 ^ (-(-51 : Int)).toNat = 3141592653589793115997963468544185161590576171875 * 10 ^ 3 := by decide
 rw [e2, Nat.mul_assoc, ← Nat.pow_add, Nat.add_comm, e1] at h
 obtain ⟨D, hD⟩ : ∃ D : Nat, D = 3141592653589793115997963468544185161590576171875 := ⟨_, rfl⟩
 have hdB : IsDec [51, 49, 52, 49, 53, 57, 50, 54, 53, 51, 53, 56, 57, 55, 57, 51, 49, 49, 53, 57, 57, 55, 57, 54, 51, 52, 54, 56, 53, 52, 52, 49, 56, 53, 49, 54, 49, 53, 57, 48, 53, 55, 54, 49, 55, 49, 56, 55, 53] 1 (D * 10 ^ K) := ⟨by decide, by decide, by decide, (fun h => by cases h), by decide, by
  have : ((1 : Int) - ([51, 49, 52, 49, 53, 57, 50, 54, 53, 51, 53, 56, 57, 55, 57, 51, 49, 49, 53, 57, 57, 55, 57, 54, 51, 52, 54, 56, 53, 52, 52, 49, 56, 53, 49, 54, 49, 53, 57, 48, 53, 55, 54, 49, 55, 49, 56, 55, 53] : List UInt8).length + 10000).toNat = K := by rw [hK]; rfl
  rw [this, hD]; rfl⟩
 obtain ⟨o1, o2⟩ := o_of hdB
 rw [← hD] at h
 refine ⟨D * 10 ^ K, h.symm, ?_⟩
 have hr : plc (D * 10 ^ K) 2 = 314 * 10 ^ (K + 46) := by
  unfold plc
  rw [← o2, show (1 : Int) + min (max 2 (-14000)) 14000 = 3 from rfl]
  unfold rnd
  rw [if_neg (by decide), if_neg (by rw [← o1]; decide), ← o2]
  have e3 : ((1 : Int) - 3 + 10000).toNat = K + 46 := by rw [hK]; rfl
  rw [e3]
  have hp := pow_pos10 K
  have q1 : D * 10 ^ K / 10 ^ (K + 46) = 314 := by
   rw [Nat.pow_add, ← Nat.div_div_eq_div_mul, Nat.mul_div_cancel _ hp, hD]
  have q2 : D * 10 ^ K % 10 ^ (K + 46) = D % 10 ^ 46 * 10 ^ K := by
   rw [Nat.pow_add, Nat.mul_comm D, Nat.mul_mod_mul_left, Nat.mul_comm]
  have q3 : 2 * (D % 10 ^ 46) < 10 ^ 46 := by rw [hD]; decide
  have q4 : 2 * (D % 10 ^ 46 * 10 ^ K) < 10 ^ (K + 46) := by
   rw [Nat.pow_add, ← Nat.mul_assoc, Nat.mul_comm (10 ^ K)]
   exact Nat.mul_lt_mul_of_pos_right q3 hp
  unfold near
  rw [q1, q2, if_pos (.inl q4)]
 have hd3 : IsDec [51, 49, 52] 1 (314 * 10 ^ (K + 46)) := ⟨by decide, by decide, by decide, (fun h => by cases h), by decide, by
  have : ((1 : Int) - ([51, 49, 52] : List UInt8).length + 10000).toNat = K + 46 := by rw [hK]; rfl
  rw [this]; rfl⟩
 obtain ⟨r1, r2⟩ := o_of hd3
 rw [hr]
 exact ⟨by unfold oS; rw [← r1], r2.symm⟩
theorem pi_fix : FlCq 4614256656552045848 64 false false false false false 8 2 102 ⟨#[32, 32, 32, 32, 51, 46, 49, 52]⟩ true := by
 have hb : bare 52 11 4614256656552045848 = 4614256656552045848 := by decide
 have hs : sgn 52 11 4614256656552045848 = false := by decide
 have hp : bare 52 11 4614256656552045848 < 9218868437227405312 := by decide
 have hpt := ptc_any lyB (bits := 4614256656552045848) (by decide)
 have e1 : ptM 52 11 9218868437227405312 4614256656552045848 = pm 52 (bare 52 11 4614256656552045848) := by unfold ptM; rw [if_pos hp]
 have e2 : ptE 52 11 9218868437227405312 (-1074) 4614256656552045848 = -1074 + pk 52 (bare 52 11 4614256656552045848) := by unfold ptE; rw [if_pos hp]
 have e3 : ptK 52 11 9218868437227405312 4614256656552045848 = 0 := by unfold ptK; rw [if_pos hp]
 have fv := (val_ex lyB hp).2
 have hX := exactD lyB hp
 rw [e1, e2, e3, hs] at hpt
 rw [hb] at hpt fv hX
 obtain ⟨v, hv, h1, h2⟩ := pi_val
 rw [hv] at fv hX
 have hN := fun w => fixC (bits := 4614256656552045848) (size := 64) (P := 2) (sh := false) hX fv (by decide) w
 have e : fixT false 2 v = ⟨#[51, 46, 49, 52]⟩ := by
  unfold fixT
  rw [show plcF 2 = 2 from rfl, h1, h2]
  decide
 rw [e] at hN
 have e2 : filT (sgF false false false) ⟨#[51, 46, 49, 52]⟩ false false 8 = ⟨#[32, 32, 32, 32, 51, 46, 49, 52]⟩ := by decide +kernel
 refine fin_102_false (S := sgF false false false) false false false false 8 2 hpt rfl hN (fun w => fsign_any false false false false false false 8 2 102 w) (fun w => ?_)
 have := filled_any (sgF false false false) ⟨#[51, 46, 49, 52]⟩ false false false false false 8 2 102 w (sgF_size _ _ _) (by decide)
 rw [e2] at this
 exact this
end Go.Proofs.YtdlnmnipnkeabaaGreatDoor
namespace Go.Proofs.YtdlnmnipnkeabaaGreatDoor
open Go.RowKit
set_option linter.unusedVariables false
set_option linter.unusedSimpArgs false
abbrev VF (b : Int) : Value := .iface 166 (.agg #[.int .i64 13, .string ⟨#[]⟩, .int .i64 0, .int .u64 b])
theorem flat_X (s : ByteArray) (hs : s.size ≤ 1024) : Flat (VX 0 s) (.int .i64 16) (.string ⟨#[]⟩) (.int .u64 0) (.int .u64 0) (.string s) (.int .i64 0) 16 0 262 (.string s) :=
 ⟨fun W => valueOf_X 0 s W hs (by decide), mk_X 0 s, fun W => shape_X 0 s W⟩
theorem chk_F (b : Int) : chk0 (D0 13 b 0 0 ⟨#[]⟩ ⟨#[]⟩) = 0 := by
 unfold chk0
 rw [pre0]
 simp [runV, ok1, ok2, ok3, ok4, fitsB, frmB, typedB, allB, sz_nil]
theorem flat_F (b : Int) (h0 : 0 ≤ b) (h1 : b ≤ 18446744073709551615) : Flat (VF b) (.int .i64 13) (.string ⟨#[]⟩) (.int .u64 b) (.int .u64 0) (.string ⟨#[]⟩) (.int .i64 0) 13 0 259 (.agg #[.int .u64 b, .int .i64 64]) := by
 refine ⟨fun W => valueOf_of _ _ _ _ _ _ _ _ _ _ W (fun V => ?_) ⟨rfl, rfl, rfl, rfl, rfl, rfl, rfl, rfl⟩, fun W => markof_float 13 0 _ b W, fun W => shape_raw (VF b) 13 b 0 0 ⟨#[]⟩ _ _ (.inl ⟨rfl, rfl, rfl⟩) ⟨h0, h1⟩ (fun V => raw_flat (VF b) 13 0 b 0 ⟨#[]⟩ ⟨#[]⟩ V fun V2 => rawof_float 13 0 ⟨#[]⟩ b V2) W⟩
 have hb := build0 13 b 0 0 ⟨#[]⟩ ⟨#[]⟩ V ⟨by simp, ⟨h0, h1⟩, by simp, by simp, Nat.zero_le _, Nat.zero_le _⟩ (by decide) (by decide) (chk_F b)
 have md : mdV (D0 13 b 0 0 ⟨#[]⟩ ⟨#[]⟩) = VF b := by unfold mdV; simp
 rw [md] at hb
 exact hb
set_option maxRecDepth 1000000 in
theorem tnum_any (n : Int) (h0 : 0 ≤ n) (h1 : n < 9223372036854775808) (w : World) : Calls Tryz.prog 13 #[.int .i64 n] w fun e w' => e = .returned (DI 0 n) ∧ Below w.heap.size w w' := by
 have hw : IntKind.u64.wrap n = n := by show n % 18446744073709551616 = n; omega
 go_enter Tryz.func13, Tryz.ntmps13
 go_wp2
 go_returns
 refine ⟨?_, by go_grown⟩
 first | rfl | simp [hw]
set_option maxRecDepth 1000000 in
theorem ttext_any (s : ByteArray) (w : World) : Calls Tryz.prog 11 #[.string s] w fun e w' => e = .returned (DX 0 s) ∧ Below w.heap.size w w' := by
 go_enter Tryz.func11, Tryz.ntmps11
 go_wp2
 go_returns
 exact ⟨rfl, by go_grown⟩
theorem litU_pc {P : Nat → Prop} {g C : Nat} (hPg : P g) (dp : Int) (av : Value) (vs : List Value) (l : List UInt8) (J : World → Prop) (nx : Int) : PcJ P g C dp av vs (lit l) J J nx nx l := by
 intro w l0 E hl
 refine (lit_J (lit l) (ba l) rfl E (by rw [Lib.size_eq]; exact Nat.le_trans hl (by decide))).mono ?_
 rintro e w' ⟨h1, h2, h3⟩
 exact ⟨h1, h2, h3.mono fun k _ h => h ▸ hPg⟩
abbrev pF3 : Pc := ⟨1, [37, 91, 50, 93, 42, 46, 91, 49, 93, 42, 91, 51, 93, 102], fl0, -1, 102, ⟨2, 0, ⟨1, 2⟩⟩, ⟨2, 0, ⟨1, 1⟩⟩, ⟨1, 3⟩⟩
abbrev pX1 : Pc := ⟨1, [37, 120], fl0, -1, 120, nb0, nb0, ix0⟩
theorem prs_lv : prs [37, 91, 50, 93, 42, 46, 91, 49, 93, 42, 91, 51, 93, 102, 124, 37, 120] = [pF3, lit [124], pX1] := by rfl
abbrev lvD : List (List Value) := [[.int .i64 6, .string ⟨#[]⟩, .int .u64 2, .int .u64 0, .string ⟨#[]⟩, .slice none 0 0, .slice none 0 0, .int .i64 0], [.int .i64 6, .string ⟨#[]⟩, .int .u64 8, .int .u64 0, .string ⟨#[]⟩, .slice none 0 0, .slice none 0 0, .int .i64 0], [.int .i64 13, .string ⟨#[]⟩, .int .u64 4614256656552045848, .int .u64 0, .string ⟨#[]⟩, .slice none 0 0, .slice none 0 0, .int .i64 0], [.int .i64 16, .string ⟨#[]⟩, .int .u64 0, .int .u64 0, .string ⟨#[104, 105]⟩, .slice none 0 0, .slice none 0 0, .int .i64 0]]
abbrev lvV : List Value := [VI 0 2, VI 0 8, VF 4614256656552045848, VX 0 ⟨#[104, 105]⟩]
theorem hi_x : padS (hexS ⟨#[104, 105]⟩ false false false (-1)) false false (-1) = ⟨#[54, 56, 54, 57]⟩ := by decide +kernel
theorem lv_sprintf (A c : Nat) (hc1 : 4 ≤ c) (hc2 : c ≤ maxLen) (w : World) (he : Esc w) (hk : KN w) (hA : A < w.heap.size) (hr : w.rangeAt A 0 lvD.flatten) :
  Calls Tryz.prog 29 #[.slice none 0 0, .string ⟨#[37, 91, 50, 93, 42, 46, 91, 49, 93, 42, 91, 51, 93, 102, 124, 37, 120]⟩, .slice (some ⟨A, 0, none⟩) 4 c] w fun e w' => e = .returned (.string ⟨#[32, 32, 32, 32, 51, 46, 49, 52, 124, 54, 56, 54, 57]⟩) ∧ Below w.heap.size w w' := by
 refine sprintf_N _ _ lvV [32, 32, 32, 32, 51, 46, 49, 52, 124, 54, 56, 54, 57] w he hk (by decide) (fun W1 C b1 => ?_) (fun g C M av W1 hE => ?_)
 ·refine begun_raw W1 C 0 A c lvD lvV (Nat.lt_of_lt_of_le hA b1.size) rfl (by decide) hc1 hc2 (fun i d hi => ?_) (fun i d u hi hu => ?_)
  ·match i, hi with
   | 0, hi =>
     simp at hi
     subst hi
     exact ⟨⟨_, _, _, _, _, _, rfl⟩, fun j u hu => (b1.cell (p := ⟨A, 0 * 8 + j, none⟩) hA).trans (by have := hr (0 * 8 + j) u (by rw [← hu]; rcases j with _ | _ | _ | _ | _ | _ | _ | _ | j <;> first | rfl | (simp at hu)); simpa using this)⟩
   | 1, hi =>
     simp at hi
     subst hi
     exact ⟨⟨_, _, _, _, _, _, rfl⟩, fun j u hu => (b1.cell (p := ⟨A, 1 * 8 + j, none⟩) hA).trans (by have := hr (1 * 8 + j) u (by rw [← hu]; rcases j with _ | _ | _ | _ | _ | _ | _ | _ | j <;> first | rfl | (simp at hu)); simpa using this)⟩
   | 2, hi =>
     simp at hi
     subst hi
     exact ⟨⟨_, _, _, _, _, _, rfl⟩, fun j u hu => (b1.cell (p := ⟨A, 2 * 8 + j, none⟩) hA).trans (by have := hr (2 * 8 + j) u (by rw [← hu]; rcases j with _ | _ | _ | _ | _ | _ | _ | _ | j <;> first | rfl | (simp at hu)); simpa using this)⟩
   | 3, hi =>
     simp at hi
     subst hi
     exact ⟨⟨_, _, _, _, _, _, rfl⟩, fun j u hu => (b1.cell (p := ⟨A, 3 * 8 + j, none⟩) hA).trans (by have := hr (3 * 8 + j) u (by rw [← hu]; rcases j with _ | _ | _ | _ | _ | _ | _ | _ | j <;> first | rfl | (simp at hu)); simpa using this)⟩
  ·match i, hi, hu with
   | 0, hi, hu => simp at hi hu; subst hi hu; exact ⟨⟨_, _, rfl⟩, fun V => valueOf_I 0 2 V (by decide) (by decide) (by decide)⟩
   | 1, hi, hu => simp at hi hu; subst hi hu; exact ⟨⟨_, _, rfl⟩, fun V => valueOf_I 0 8 V (by decide) (by decide) (by decide)⟩
   | 2, hi, hu => simp at hi hu; subst hi hu; exact ⟨⟨_, _, rfl⟩, fun V => (flat_F 4614256656552045848 (by decide) (by decide)).vo V⟩
   | 3, hi, hu => simp at hi hu; subst hi hu; exact ⟨⟨_, _, rfl⟩, fun V => valueOf_X 0 ⟨#[104, 105]⟩ V (by decide) (by decide)⟩
 ·have hlen : lvV.length ≤ 1000 := by decide
  refine (format_ix ⟨#[37, 91, 50, 93, 42, 46, 91, 49, 93, 42, 91, 51, 93, 102, 124, 37, 120]⟩ (by decide) [pF3, lit [124], pX1] prs_lv pF3 rfl rfl [32, 32, 32, 32, 51, 46, 49, 52, 124, 54, 56, 54, 57] (J' := JN C M) (P := fun k => k = g) rfl (fun k hk => by omega) hE (nx' := 5) ⟨[32, 32, 32, 32, 51, 46, 49, 52], [124, 54, 56, 54, 57], 4, JN C M, ?_, ⟨[124], [54, 56, 54, 57], 4, JN C M, litU_pc (P := fun k => k = g) rfl _ _ _ _ _ _, ⟨[54, 56, 54, 57], [], 5, JN C M, ?_, ⟨rfl, rfl, rfl⟩, rfl⟩, rfl⟩, rfl⟩ (Or.inr (by decide)) (by decide)).mono ?_
  ·intro V l E hl
   refine piece_J pF3 (ba pF3.text) rfl _ 4 E fun V1 E1 => ?_
   refine dir_U pF3 (ba pF3.text) ⟨false, false, false, false, false, 8, 2, 102⟩ _ _ ⟨#[32, 32, 32, 32, 51, 46, 49, 52]⟩ 2 4 E1 (fun V2 E2 => ?_) (by decide) (tk_good 2 _ _ rfl 2 hlen) rfl (fun k hk => by omega) (fun V2 E2 => ?_) (Nat.le_trans hl (by decide))
   ·exact sized_U pF3 (ba pF3.text) false 8 2 (.inr ⟨by decide, 8, num_star ⟨2, 0, ⟨1, 2⟩⟩ rfl (-1000) 8 (tk_good 1 _ _ rfl 1 hlen) (fun V3 => numberOf_I 8 (-1000) (by decide) (by decide) (by decide) V3), .inl ⟨by decide, rfl, rfl⟩⟩) (.inr ⟨by decide, num_star ⟨2, 0, ⟨1, 1⟩⟩ rfl 0 2 (tk_good 0 _ _ rfl 3 hlen) (fun V3 => numberOf_I 2 0 (by decide) (by decide) (by decide) V3)⟩) E2
   ·refine (shown_flat (flat_F 4614256656552045848 (by decide) (by decide)) _ rfl ⟨false, false, false, false, false, 8, 2, 102⟩ (by decide) ⟨#[32, 32, 32, 32, 51, 46, 49, 52]⟩ (JN.env E2) (fun V3 _ => shaped_float _ _ _ 4614256656552045848 64 0 _ true V3 (fun V4 => pi_fix V4))).mono ?_
    rintro e V' ⟨h1, h2⟩
    exact ⟨h1, E2.up h2, .of_below h2⟩
  ·intro V l E hl
   refine piece_J pX1 (ba pX1.text) rfl _ 5 E fun V1 E1 => ?_
   refine dir_U pX1 (ba pX1.text) (bareQ 120) _ _ ⟨#[54, 56, 54, 57]⟩ 4 5 E1 (fun V2 E2 => ?_) (by decide) (tk_next 3 _ _ rfl 0 hlen) rfl (fun k hk => by omega) (fun V2 E2 => ?_) (Nat.le_trans hl (by decide))
   ·refine (sized_none pX1 (ba pX1.text) rfl rfl g V2).mono ?_
    rintro e V' ⟨h1, h2⟩
    exact ⟨h1, E2.up h2, .of_below h2⟩
   ·refine (shown_flat (flat_X ⟨#[104, 105]⟩ (by decide)) _ rfl (bareQ 120) (by decide) ⟨#[54, 56, 54, 57]⟩ (JN.env E2) (fun V3 e3 => shaped_text _ _ _ _ 0 _ true V3 e3 (fun V4 e4 => by
     have := text_x ⟨#[104, 105]⟩ false false false false false (-1) (-1) V4 e4 (by decide) (by decide)
     rw [hi_x] at this
     exact this))).mono ?_
    rintro e V' ⟨h1, h2⟩
    exact ⟨h1, E2.up h2, .of_below h2⟩
  ·rintro e w' ⟨h1, h2, h3⟩
   exact ⟨h1, ⟨_, h2.p⟩, h3⟩
theorem neP1 (c : Nat) (w : World) : (binOp BinOp.neq 49 (.pointer (some ⟨c, 0, none⟩)) (.pointer none)).run Tryz.prog w = .ok (.bool true) w := by kernel_rfl
set_option maxRecDepth 1000000 in
set_option maxHeartbeats 4000000 in
theorem tlives_any (w : World) (he : Esc w) (hk : KN w) : Calls Tryz.prog 7 #[] w fun e w' => e = .returned (.bool true) ∧ Below w.heap.size w w' := by
 have hN := new_any (.slice none 0 0) (fun a n k _ _ => a = none ∧ n = 0 ∧ k = 0) w (fun _ _ _ _ _ _ h _ => h) (fun W _ => copiedTable_nil W cloneH_nil)
 have hn := fun p w => neP1 p w
 have n2 := fun W => tnum_any 2 (by decide) (by decide) W
 have n8 := fun W => tnum_any 8 (by decide) (by decide) W
 have hx := fun W => ttext_any ⟨#[104, 105]⟩ W
 have hSp : ∀ p B c RB hi a n k W1, (w.heap.size ≤ hi ∧ hi ≤ p ∧ hi ≤ B ∧ hi ≤ c ∧ hi ≤ RB ∧ p ≠ B ∧ p ≠ c ∧ RB ≠ p ∧ RB ≠ B ∧ RB ≠ c ∧ Blk W1 p [.pointer (some ⟨B, 0, none⟩), .int .i64 0] ∧ StoM W1 B c 1 [] (.func (.func 21) #[] #[.pointer (some ⟨RB, 0, none⟩)]) 0 ∧ Blk W1 RB [.slice a n k] ∧ (a = none ∧ n = 0 ∧ k = 0)) → Below w.heap.size w W1 → ∀ W4, Below W1.heap.size W1 W4 →
   Calls Tryz.prog 17 #[.pointer (some ⟨p, 0, none⟩), .string ⟨#[37, 91, 50, 93, 42, 46, 91, 49, 93, 42, 91, 51, 93, 102, 124, 37, 120]⟩, .slice (some ⟨W4.heap.size, 0, none⟩) 4 4] (W4.alloc (.cells #[.int .i64 6, .string ⟨#[]⟩, .int .u64 2, .int .u64 0, .string ⟨#[]⟩, .slice none 0 0, .slice none 0 0, .int .i64 0, .int .i64 6, .string ⟨#[]⟩, .int .u64 8, .int .u64 0, .string ⟨#[]⟩, .slice none 0 0, .slice none 0 0, .int .i64 0, .int .i64 13, .string ⟨#[]⟩, .int .u64 4614256656552045848, .int .u64 0, .string ⟨#[]⟩, .slice none 0 0, .slice none 0 0, .int .i64 0, .int .i64 16, .string ⟨#[]⟩, .int .u64 0, .int .u64 0, .string ⟨#[104, 105]⟩, .slice none 0 0, .slice none 0 0, .int .i64 0] 29)) fun e w' => e = .returned (.string ⟨#[32, 32, 32, 32, 51, 46, 49, 52, 124, 54, 56, 54, 57]⟩) ∧ Below w.heap.size w w' := by
  rintro p B c RB hi a n k W1 ⟨a1, a2, a3, a4, a5, a6, a7, a8, a9, a10, x1, s1, r1, R1⟩ b1 W4 b4
  obtain ⟨W5, hW5⟩ : ∃ W5, W5 = W4.alloc (.cells #[.int .i64 6, .string ⟨#[]⟩, .int .u64 2, .int .u64 0, .string ⟨#[]⟩, .slice none 0 0, .slice none 0 0, .int .i64 0, .int .i64 6, .string ⟨#[]⟩, .int .u64 8, .int .u64 0, .string ⟨#[]⟩, .slice none 0 0, .slice none 0 0, .int .i64 0, .int .i64 13, .string ⟨#[]⟩, .int .u64 4614256656552045848, .int .u64 0, .string ⟨#[]⟩, .slice none 0 0, .slice none 0 0, .int .i64 0, .int .i64 16, .string ⟨#[]⟩, .int .u64 0, .int .u64 0, .string ⟨#[104, 105]⟩, .slice none 0 0, .slice none 0 0, .int .i64 0] 29) := ⟨_, rfl⟩
  have b5 : Below W4.heap.size W4 W5 := by rw [hW5]; exact (Below.refl _ _).alloc (Nat.le_refl _) _
  have y5 : Blk W5 W4.heap.size lvD.flatten := by rw [hW5]; exact Blk.new W4 lvD.flatten _
  have b15 : Below W1.heap.size W1 W5 := b4.trans (b5.mono b4.size)
  have bw5 : Below w.heap.size w W5 := b1.trans (b15.mono b1.size)
  have hA := y5.b
  rw [← hW5]
  clear hW5
  obtain ⟨rfl, rfl, rfl⟩ := R1
  have hp := x1.b
  have hB := s1.bx.b
  have hc := s1.cb
  have h45 := b4.size
  have hw1 := b1.size
  refine (sprintf_q p B c RB none 0 0 _ (.slice (some ⟨W4.heap.size, 0, none⟩) 4 4) ⟨#[32, 32, 32, 32, 51, 46, 49, 52, 124, 54, 56, 54, 57]⟩ W5 ⟨_, _, _, rfl⟩ (x1.up b15) (s1.up b15) (r1.up b15) a6 a7 a8 (fun W kW => ?_)).mono ?_
  ·have bW : Below w.heap.size w W := bw5.trans (kW.below (fun b h => by rcases h with rfl | rfl <;> omega) bw5.size)
   exact lv_sprintf W4.heap.size 4 (by decide) (by decide) W (he.below bW) (hk.up bW) (Nat.lt_of_lt_of_le hA kW.size) (y5.kx kW (by omega)).range
  ·rintro e w' ⟨rfl, k3⟩
   exact ⟨rfl, bw5.trans (k3.below (fun b h => by rcases h with rfl | rfl | rfl <;> omega) bw5.size)⟩
 clear he hk
 go_enter Tryz.func7, Tryz.ntmps7
 go_upto_region 2 with (go_at_call 16; refine hN.mono ?_; rintro e W1 ⟨p, B, c, RB, hi, a, n, k, rfl, hh, b1⟩; have hS1 := hSp p B c RB hi a n k W1 hh.out b1)
 go_wp2_with (first
  | (go_at_call_of 13 (2 : Int); refine (n2 _).mono ?_; rintro e W2 ⟨rfl, b2⟩)
  | (go_at_call_of 13 (8 : Int); refine (n8 _).mono ?_; rintro e W3 ⟨rfl, b3⟩)
  | (go_at_call 11; refine (hx _).mono ?_; rintro e W4 ⟨rfl, b4⟩; have hS4 := hS1 W4 ((b2.trans (b3.mono b2.size)).trans (b4.mono (by have := b2.size; have := b3.size; omega))))
  | (go_at_call 17; refine hS4.mono ?_; rintro e W5 ⟨rfl, b5⟩))
 go_ret
 exact ⟨rfl, b5⟩
end Go.Proofs.YtdlnmnipnkeabaaGreatDoor
namespace Go.Proofs.YtdlnmnipnkeabaaGreatDoor
open Go.RowKit
set_option linter.unusedVariables false
set_option linter.unusedSimpArgs false
end Go.Proofs.YtdlnmnipnkeabaaGreatDoor
namespace Go.Proofs.YtdlnmnipnkeabaaGreatDoor
open Go.RowKit
set_option linter.unusedVariables false
set_option linter.unusedSimpArgs false
def E8 (W : World) (A : Nat) (k b : Int) : Prop := W.cell? ⟨A, 0, none⟩ = some (.int .i64 k) ∧ W.cell? ⟨A, 1, none⟩ = some (.string ⟨#[]⟩) ∧ W.cell? ⟨A, 2, none⟩ = some (.int .u64 b) ∧ W.cell? ⟨A, 3, none⟩ = some (.int .u64 0) ∧ W.cell? ⟨A, 4, none⟩ = some (.string ⟨#[]⟩) ∧ W.cell? ⟨A, 5, none⟩ = some (.slice none 0 0) ∧ W.cell? ⟨A, 6, none⟩ = some (.slice none 0 0) ∧ W.cell? ⟨A, 7, none⟩ = some (.int .i64 0)
theorem E8.up {W W' : World} {A : Nat} {k b : Int} (h : E8 W A k b) (hb : Below W.heap.size W W') : E8 W' A k b :=
 ⟨up_cell hb h.1, up_cell hb h.2.1, up_cell hb h.2.2.1, up_cell hb h.2.2.2.1, up_cell hb h.2.2.2.2.1, up_cell hb h.2.2.2.2.2.1, up_cell hb h.2.2.2.2.2.2.1, up_cell hb h.2.2.2.2.2.2.2⟩
theorem E8.new (W : World) (k b : Int) : E8 (W.alloc (.cells #[.int .i64 k, .string ⟨#[]⟩, .int .u64 b, .int .u64 0, .string ⟨#[]⟩, .slice none 0 0, .slice none 0 0, .int .i64 0] 29)) W.heap.size k b := by
 refine ⟨?_, ?_, ?_, ?_, ?_, ?_, ?_, ?_⟩
 all_goals simp [go_sem]
end Go.Proofs.YtdlnmnipnkeabaaGreatDoor
namespace Go.Proofs.YtdlnmnipnkeabaaGreatDoor
open Go.RowKit
set_option linter.unusedVariables false
end Go.Proofs.YtdlnmnipnkeabaaGreatDoor
namespace Go.Proofs.YtdlnmnipnkeabaaGreatDoor
open Go.RowKit
set_option linter.unusedVariables false
structure BoxAt (B : Nat) (w0 W : World) (p mi sh sp z : Bool) (wid prec verb : Int) : Prop where
 c0 : W.cell? ⟨B, 0, none⟩ = some (.bool p)
 c1 : W.cell? ⟨B, 1, none⟩ = some (.bool mi)
 c2 : W.cell? ⟨B, 2, none⟩ = some (.bool sh)
 c3 : W.cell? ⟨B, 3, none⟩ = some (.bool sp)
 c4 : W.cell? ⟨B, 4, none⟩ = some (.bool z)
 c5 : W.cell? ⟨B, 5, none⟩ = some (.int .i64 wid)
 c6 : W.cell? ⟨B, 6, none⟩ = some (.int .i64 prec)
 c7 : W.cell? ⟨B, 7, none⟩ = some (.int .i32 verb)
 fr : ∀ i, W.frozen? ⟨B, i, none⟩ = false
 lt : B < W.heap.size
 ge : w0.heap.size ≤ B
 bl : Below w0.heap.size w0 W
 es0 : Esc w0
theorem BoxAt.es {B : Nat} {w0 W : World} {p mi sh sp z : Bool} {wid prec verb : Int} (h : BoxAt B w0 W p mi sh sp z wid prec verb) : Esc W := h.es0.below h.bl
theorem BoxAt.cells {B : Nat} {w0 W : World} {p mi sh sp z : Bool} {wid prec verb : Int} (h : BoxAt B w0 W p mi sh sp z wid prec verb) :
  W.cell? ⟨B, 0, none⟩ = some (.bool p) ∧ W.cell? ⟨B, 1, none⟩ = some (.bool mi) ∧ W.cell? ⟨B, 2, none⟩ = some (.bool sh) ∧ W.cell? ⟨B, 3, none⟩ = some (.bool sp) ∧ W.cell? ⟨B, 4, none⟩ = some (.bool z) ∧ W.cell? ⟨B, 5, none⟩ = some (.int .i64 wid) ∧ W.cell? ⟨B, 6, none⟩ = some (.int .i64 prec) ∧ W.cell? ⟨B, 7, none⟩ = some (.int .i32 verb) ∧ (∀ i, W.frozen? ⟨B, i, none⟩ = false) :=
 ⟨h.c0, h.c1, h.c2, h.c3, h.c4, h.c5, h.c6, h.c7, h.fr⟩
theorem BoxAt.new {w0 : World} (w : World) (p mi sh sp z : Bool) (wid prec verb : Int) (hb : Below w0.heap.size w0 w) (hE : Esc w0) : BoxAt w.heap.size w0 (w.alloc (.cells #[.bool p, .bool mi, .bool sh, .bool sp, .bool z, .int .i64 wid, .int .i64 prec, .int .i32 verb] 113)) p mi sh sp z wid prec verb where
 c0 := by simp
 c1 := by simp
 c2 := by simp
 c3 := by simp
 c4 := by simp
 c5 := by simp
 c6 := by simp
 c7 := by simp
 fr := fun i => by simp
 lt := by simp
 ge := hb.size
 bl := hb.alloc hb.size _
 es0 := hE
theorem BoxAt.call {B : Nat} {w0 W W' : World} {p mi sh sp z : Bool} {wid prec verb : Int} (h : BoxAt B w0 W p mi sh sp z wid prec verb) (b : Below W.heap.size W W') : BoxAt B w0 W' p mi sh sp z wid prec verb where
 c0 := (b.cell (p := ⟨B, 0, none⟩) h.lt).trans h.c0
 c1 := (b.cell (p := ⟨B, 1, none⟩) h.lt).trans h.c1
 c2 := (b.cell (p := ⟨B, 2, none⟩) h.lt).trans h.c2
 c3 := (b.cell (p := ⟨B, 3, none⟩) h.lt).trans h.c3
 c4 := (b.cell (p := ⟨B, 4, none⟩) h.lt).trans h.c4
 c5 := (b.cell (p := ⟨B, 5, none⟩) h.lt).trans h.c5
 c6 := (b.cell (p := ⟨B, 6, none⟩) h.lt).trans h.c6
 c7 := (b.cell (p := ⟨B, 7, none⟩) h.lt).trans h.c7
 fr := fun i => (b.frozen (p := ⟨B, i, none⟩) h.lt).trans (h.fr i)
 lt := Nat.lt_of_lt_of_le h.lt b.size
 ge := h.ge
 bl := h.bl.trans (b.mono h.bl.size)
 es0 := h.es0
theorem BoxAt.drew {B : Nat} {w0 W : World} {p mi sh sp z : Bool} {wid prec verb : Int} (h : BoxAt B w0 W p mi sh sp z wid prec verb) : BoxAt B w0 W.drew p mi sh sp z wid prec verb := h.call (Below.refl _ _).drew
theorem set_otherI {W : World} {B i j : Nat} {u v : Value} (hij : i ≠ j) (h : W.cell? ⟨B, j, none⟩ = some v) : (W.setCell ⟨B, i, none⟩ u).cell? ⟨B, j, none⟩ = some v := by
 rw [World.cell?_setCell_other _ _ _ _ (by intro e; have := congrArg Addr.off e; simp at this; exact hij this)]; exact h
theorem size_set (W : World) (a : Addr) (u : Value) : (W.setCell a u).heap.size = W.heap.size := by simp [World.setCell]
theorem BoxAt.set3 {B : Nat} {w0 W : World} {p mi sh sp z : Bool} {wid prec verb : Int} (h : BoxAt B w0 W p mi sh sp z wid prec verb) (y : Bool) : BoxAt B w0 (W.setCell ⟨B, 3, none⟩ (.bool y)) p mi sh y z wid prec verb where
 c0 := set_otherI (by omega) h.c0
 c1 := set_otherI (by omega) h.c1
 c2 := set_otherI (by omega) h.c2
 c3 := World.cell?_setCell_same _ _ _ h.c3
 c4 := set_otherI (by omega) h.c4
 c5 := set_otherI (by omega) h.c5
 c6 := set_otherI (by omega) h.c6
 c7 := set_otherI (by omega) h.c7
 fr := fun j => by rw [World.frozen?_setCell]; exact h.fr j
 lt := by rw [size_set]; exact h.lt
 ge := h.ge
 bl := h.bl.setCell h.ge _
 es0 := h.es0
theorem BoxAt.set4 {B : Nat} {w0 W : World} {p mi sh sp z : Bool} {wid prec verb : Int} (h : BoxAt B w0 W p mi sh sp z wid prec verb) (y : Bool) : BoxAt B w0 (W.setCell ⟨B, 4, none⟩ (.bool y)) p mi sh sp y wid prec verb where
 c0 := set_otherI (by omega) h.c0
 c1 := set_otherI (by omega) h.c1
 c2 := set_otherI (by omega) h.c2
 c3 := set_otherI (by omega) h.c3
 c4 := World.cell?_setCell_same _ _ _ h.c4
 c5 := set_otherI (by omega) h.c5
 c6 := set_otherI (by omega) h.c6
 c7 := set_otherI (by omega) h.c7
 fr := fun j => by rw [World.frozen?_setCell]; exact h.fr j
 lt := by rw [size_set]; exact h.lt
 ge := h.ge
 bl := h.bl.setCell h.ge _
 es0 := h.es0
theorem BoxAt.set5 {B : Nat} {w0 W : World} {p mi sh sp z : Bool} {wid prec verb : Int} (h : BoxAt B w0 W p mi sh sp z wid prec verb) (y : Int) : BoxAt B w0 (W.setCell ⟨B, 5, none⟩ (.int .i64 y)) p mi sh sp z y prec verb where
 c0 := set_otherI (by omega) h.c0
 c1 := set_otherI (by omega) h.c1
 c2 := set_otherI (by omega) h.c2
 c3 := set_otherI (by omega) h.c3
 c4 := set_otherI (by omega) h.c4
 c5 := World.cell?_setCell_same _ _ _ h.c5
 c6 := set_otherI (by omega) h.c6
 c7 := set_otherI (by omega) h.c7
 fr := fun j => by rw [World.frozen?_setCell]; exact h.fr j
 lt := by rw [size_set]; exact h.lt
 ge := h.ge
 bl := h.bl.setCell h.ge _
 es0 := h.es0
end Go.Proofs.YtdlnmnipnkeabaaGreatDoor
namespace Go.Proofs.YtdlnmnipnkeabaaGreatDoor
open Go.RowKit
set_option linter.unusedVariables false
end Go.Proofs.YtdlnmnipnkeabaaGreatDoor
namespace Go.Proofs.YtdlnmnipnkeabaaGreatDoor
open Go.RowKit
set_option linter.unusedVariables false
end Go.Proofs.YtdlnmnipnkeabaaGreatDoor
namespace Go.Proofs.YtdlnmnipnkeabaaGreatDoor
open Go.RowKit
set_option linter.unusedVariables false
end Go.Proofs.YtdlnmnipnkeabaaGreatDoor
namespace Go.Proofs.YtdlnmnipnkeabaaGreatDoor
open Go.RowKit
set_option linter.unusedVariables false
set_option linter.unusedSimpArgs false
abbrev DN (k b : Int) : Value := .agg #[.int .i64 k, .string ⟨#[]⟩, .int .u64 b, .int .u64 0, .string ⟨#[]⟩, .slice none 0 0, .slice none 0 0, .int .i64 0]
abbrev VS (k n : Int) : Value := .iface 160 (.agg #[.int .i64 k, .string ⟨#[]⟩, .int .i64 0, .int .i64 n])
set_option maxRecDepth 1000000 in
theorem tnum_S (n : Int) (h0 : -9223372036854775808 ≤ n) (h1 : n ≤ 9223372036854775807) (w : World) : Calls Tryz.prog 13 #[.int .i64 n] w fun e w' => e = .returned (DN 6 (n % 18446744073709551616)) ∧ Below w.heap.size w w' := by
 have hw : IntKind.u64.wrap n = n % 18446744073709551616 := rfl
 go_enter Tryz.func13, Tryz.ntmps13
 go_wp2
 go_returns
 refine ⟨?_, by go_grown⟩
 first | rfl | simp [hw]
end Go.Proofs.YtdlnmnipnkeabaaGreatDoor
namespace Go.Proofs.YtdlnmnipnkeabaaGreatDoor
open Go.RowKit
set_option linter.unusedVariables false
set_option linter.unusedSimpArgs false
theorem nm_pointer (v : Value) (w : World) : (Instr.typeAssert (.iface 183 v) 108 194 true).run Tryz.prog w = .ok (.tuple #[.iface 183 v, .bool true]) w := run_typeAssert_hasB Tryz.underlying194 (by kernel_rfl) v 108 w
theorem np_truth (v : Value) (w : World) : (Instr.typeAssert (.iface 183 v) 108 157 true).run Tryz.prog w = .ok (.tuple #[.agg #[.int .i64 0, .string ⟨#[]⟩, .int .i64 0, .bool false], .bool false]) w := by kernel_rfl
theorem np_signed (v : Value) (w : World) : (Instr.typeAssert (.iface 183 v) 108 160 true).run Tryz.prog w = .ok (.tuple #[.agg #[.int .i64 0, .string ⟨#[]⟩, .int .i64 0, .int .i64 0], .bool false]) w := by kernel_rfl
theorem np_unsigned (v : Value) (w : World) : (Instr.typeAssert (.iface 183 v) 108 163 true).run Tryz.prog w = .ok (.tuple #[.agg #[.int .i64 0, .string ⟨#[]⟩, .int .i64 0, .int .u64 0], .bool false]) w := by kernel_rfl
theorem np_float (v : Value) (w : World) : (Instr.typeAssert (.iface 183 v) 108 166 true).run Tryz.prog w = .ok (.tuple #[.agg #[.int .i64 0, .string ⟨#[]⟩, .int .i64 0, .int .u64 0], .bool false]) w := by kernel_rfl
theorem np_pair (v : Value) (w : World) : (Instr.typeAssert (.iface 183 v) 108 168 true).run Tryz.prog w = .ok (.tuple #[.agg #[.int .i64 0, .string ⟨#[]⟩, .int .i64 0, .int .u64 0, .int .u64 0], .bool false]) w := by kernel_rfl
theorem np_text (v : Value) (w : World) : (Instr.typeAssert (.iface 183 v) 108 170 true).run Tryz.prog w = .ok (.tuple #[.agg #[.int .i64 0, .string ⟨#[]⟩, .int .i64 0, .string ⟨#[]⟩], .bool false]) w := by kernel_rfl
theorem np_octets (v : Value) (w : World) : (Instr.typeAssert (.iface 183 v) 108 171 true).run Tryz.prog w = .ok (.tuple #[.agg #[.int .i64 0, .string ⟨#[]⟩, .int .i64 0, .string ⟨#[]⟩], .bool false]) w := by kernel_rfl
theorem np_structure (v : Value) (w : World) : (Instr.typeAssert (.iface 183 v) 108 175 true).run Tryz.prog w = .ok (.tuple #[.agg #[.int .i64 0, .string ⟨#[]⟩, .int .i64 0, .slice none 0 0, .slice none 0 0], .bool false]) w := by kernel_rfl
theorem np_list (v : Value) (w : World) : (Instr.typeAssert (.iface 183 v) 108 177 true).run Tryz.prog w = .ok (.tuple #[.agg #[.int .i64 0, .string ⟨#[]⟩, .int .i64 0, .slice none 0 0], .bool false]) w := by kernel_rfl
theorem np_dictionary (v : Value) (w : World) : (Instr.typeAssert (.iface 183 v) 108 181 true).run Tryz.prog w = .ok (.tuple #[.agg #[.int .i64 0, .string ⟨#[]⟩, .int .i64 0, .slice none 0 0], .bool false]) w := by kernel_rfl
theorem np_pointer (v : Value) (w : World) : (Instr.typeAssert (.iface 183 v) 108 183 true).run Tryz.prog w = .ok (.tuple #[v, .bool true]) w := by kernel_rfl
set_option maxRecDepth 1000000 in
set_option maxHeartbeats 1000000 in
theorem markof_ptr (k h : Int) (ty : ByteArray) (n : Int) (a1 : Option Addr) (n1 c1 : Nat) (w : World) : Calls Tryz.prog 84 #[.iface 183 (.agg #[.int .i64 k, .string ty, .int .i64 h, .int .u64 n, .slice a1 n1 c1])] w fun e w' => e = .returned (.agg #[.int .i64 k, .string ty, .int .i64 h]) ∧ Below w.heap.size w w' := by
 have ha := nm_pointer
 have hit := fun W => itself_any k h ty W
 have hsz := mark_sz
 obtain ⟨W1, hW1⟩ : ∃ W1, W1 = w.alloc (.cells #[.int .i64 0, .string ⟨#[]⟩, .int .i64 0] 147) := ⟨_, rfl⟩
 have hb1 : Below w.heap.size w W1 := by rw [hW1]; exact (Below.refl _ _).alloc (Nat.le_refl _) _
 have c0 : W1.cell? ⟨w.heap.size, 0, none⟩ = some (.int .i64 0) ∧ W1.cell? ⟨w.heap.size, 1, none⟩ = some (.string ⟨#[]⟩) ∧ W1.cell? ⟨w.heap.size, 2, none⟩ = some (.int .i64 0) := by rw [hW1]; simp
 have fz : ∀ i, W1.frozen? ⟨w.heap.size, i, none⟩ = false := fun i => by rw [hW1, frozen?_alloc_cells]; exact frozen_none _ _ (Nat.le_refl _)
 have hz1 : w.heap.size < W1.heap.size := by rw [hW1]; simp
 go_enter Tryz.func84, Tryz.ntmps84
 go_wp2_with fail
 rw [← hW1]
 first | rw [hsz] | skip
 refine (hit _).mono ?_
 rintro e V ⟨rfl, hV⟩
 have d0 := up_cell hV c0.1
 have d1 := up_cell hV c0.2.1
 have d2 := up_cell hV c0.2.2
 have e0 := (hV.frozen (p := ⟨w.heap.size, 0, none⟩) hz1).trans (fz 0)
 have e1 := (hV.frozen (p := ⟨w.heap.size, 1, none⟩) hz1).trans (fz 1)
 have e2 := (hV.frozen (p := ⟨w.heap.size, 2, none⟩) hz1).trans (fz 2)
 clear ha hit hsz c0 fz
 go_wp2
 obtain ⟨r0, r1, r2⟩ := set3 d0 d1 d2 (.int .i64 k) (.string ty) (.int .i64 h)
 refine bodyPost_ret (v := .agg #[.int .i64 k, .string ty, .int .i64 h]) (by simp [results, Tryz.results84, go_sem, r0, r1, r2]) rfl ?_
 exact ⟨rfl, set3_below (hb1.trans (hV.mono hb1.size)) (Nat.le_refl _)⟩
end Go.Proofs.YtdlnmnipnkeabaaGreatDoor
