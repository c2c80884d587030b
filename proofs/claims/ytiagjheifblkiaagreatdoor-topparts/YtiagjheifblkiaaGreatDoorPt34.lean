/- UTopB, UFlt, FLive, FLaw: these texts in one. -/
import Derived.Test.YtiagjheifblkiaaGreatDoorPt19
import Derived.Test.YtiagjheifblkiaaGreatDoorPt33
namespace Go.Proofs.YtiagjheifblkiaaGreatDoor
open Go.RowKit
set_option linter.unusedVariables false
set_option linter.unusedSimpArgs false
abbrev VB (s : ByteArray) : Value := .iface 253 (.agg #[.int .i64 17, .string ⟨#[]⟩, .int .i64 0, .string s])
abbrev VF (b : Int) : Value := .iface 248 (.agg #[.int .i64 13, .string ⟨#[]⟩, .int .i64 0, .int .u64 b])
theorem flat_X (s : ByteArray) (hs : s.size ≤ 1024) : Flat (VX 0 s) (.int .i64 16) (.string ⟨#[]⟩) (.int .u64 0) (.int .u64 0) (.string s) (.int .i64 0) 16 0 338 (.string s) :=
 ⟨fun W => valueOf_X 0 s W hs (by decide), mk_X 0 s, fun W => shape_X 0 s W⟩
theorem chk_F (b : Int) : chk0 (D0 13 b 0 0 ⟨#[]⟩ ⟨#[]⟩) = 0 := by
 unfold chk0
 rw [pre0]
 simp [runV, ok1, ok2, ok3, ok4, fitsB, frmB, typedB, allB, sz_nil]
theorem flat_F (b : Int) (h0 : 0 ≤ b) (h1 : b ≤ 18446744073709551615) : Flat (VF b) (.int .i64 13) (.string ⟨#[]⟩) (.int .u64 b) (.int .u64 0) (.string ⟨#[]⟩) (.int .i64 0) 13 0 335 (.agg #[.int .u64 b, .int .i64 64]) := by
 refine ⟨fun W => valueOf_of _ _ _ _ _ _ _ _ _ _ W (fun V => ?_) ⟨rfl, rfl, rfl, rfl, rfl, rfl, rfl, rfl⟩, fun W => markof_float 13 0 _ b W, fun W => shape_raw (VF b) 13 b 0 0 ⟨#[]⟩ _ _ (.inl ⟨rfl, rfl, rfl⟩) ⟨h0, h1⟩ (fun V => raw_flat (VF b) 13 0 b 0 ⟨#[]⟩ ⟨#[]⟩ V fun V2 => rawof_float 13 0 ⟨#[]⟩ b V2) W⟩
 have hb := build0 13 b 0 0 ⟨#[]⟩ ⟨#[]⟩ V ⟨by simp, ⟨h0, h1⟩, by simp, by simp, Nat.zero_le _, Nat.zero_le _⟩ (by decide) (by decide) (chk_F b)
 have md : mdV (D0 13 b 0 0 ⟨#[]⟩ ⟨#[]⟩) = VF b := by unfold mdV; simp
 rw [md] at hb
 exact hb
set_option maxRecDepth 1000000 in
theorem tnum_any (n : Int) (h0 : 0 ≤ n) (h1 : n < 9223372036854775808) (w : World) : Calls Tryz.prog 10 #[.int .i64 n] w fun e w' => e = .returned (DI 0 n) ∧ Below w.heap.size w w' := by
 have hw : IntKind.u64.wrap n = n := by show n % 18446744073709551616 = n; omega
 go_enter Tryz.func10, Tryz.ntmps10
 go_wp2
 go_returns
 refine ⟨?_, by go_grown⟩
 first | rfl | simp [hw]
set_option maxRecDepth 1000000 in
theorem ttext_any (s : ByteArray) (w : World) : Calls Tryz.prog 24 #[.string s] w fun e w' => e = .returned (DX 0 s) ∧ Below w.heap.size w w' := by
 go_enter Tryz.func24, Tryz.ntmps24
 go_wp2
 go_returns
 exact ⟨rfl, by go_grown⟩
theorem litU_pc {P : Nat → Prop} {g C : Nat} (hPg : P g) (dp : Int) (av : Value) (vs : List Value) (l : List UInt8) (J : World → Prop) (nx : Int) : PcJ P g C dp av vs (lit l) J J nx nx l := by
 intro w l0 E hl
 refine (lit_J (lit l) (ba l) rfl E (by rw [Lib.size_eq]; exact Nat.le_trans hl (by decide))).mono ?_
 rintro e w' ⟨h1, h2, h3⟩
 exact ⟨h1, h2, h3.mono fun k _ h => h ▸ hPg⟩
abbrev pF3 : Pc := ⟨1, [37, 91, 50, 93, 42, 46, 91, 49, 93, 42, 91, 51, 93, 102], fl0, -1, 102, ⟨2, 0, ⟨1, 2⟩⟩, ⟨2, 0, ⟨1, 1⟩⟩, ⟨1, 3⟩⟩
abbrev pX1 : Pc := ⟨1, [37, 120], fl0, -1, 120, nb0, nb0, ix0⟩
theorem prs_lv : prs [37, 91, 50, 93, 42, 46, 91, 49, 93, 42, 91, 51, 93, 102, 124, 37, 120] = [pF3, lit [124], pX1] := by rfl
abbrev lvD : List (List Value) := [[.int .i64 6, .string ⟨#[]⟩, .int .u64 2, .int .u64 0, .string ⟨#[]⟩, .slice none 0 0, .slice none 0 0, .int .i64 0], [.int .i64 6, .string ⟨#[]⟩, .int .u64 8, .int .u64 0, .string ⟨#[]⟩, .slice none 0 0, .slice none 0 0, .int .i64 0], [.int .i64 13, .string ⟨#[]⟩, .int .u64 4614256656552045848, .int .u64 0, .string ⟨#[]⟩, .slice none 0 0, .slice none 0 0, .int .i64 0], [.int .i64 16, .string ⟨#[]⟩, .int .u64 0, .int .u64 0, .string ⟨#[104, 105]⟩, .slice none 0 0, .slice none 0 0, .int .i64 0]]
abbrev lvV : List Value := [VI 0 2, VI 0 8, VF 4614256656552045848, VX 0 ⟨#[104, 105]⟩]
theorem hi_x : padS (hexS ⟨#[104, 105]⟩ false false false (-1)) false false (-1) = ⟨#[54, 56, 54, 57]⟩ := by decide +kernel
theorem lv_sprintf (A c : Nat) (hc1 : 4 ≤ c) (hc2 : c ≤ maxLen) (w : World) (he : Esc w) (hk : KN w) (hA : A < w.heap.size) (hr : w.rangeAt A 0 lvD.flatten) :
  Calls Tryz.prog 66 #[.slice none 0 0, .string ⟨#[37, 91, 50, 93, 42, 46, 91, 49, 93, 42, 91, 51, 93, 102, 124, 37, 120]⟩, .slice (some ⟨A, 0, none⟩) 4 c] w fun e w' => e = .returned (.string ⟨#[32, 32, 32, 32, 51, 46, 49, 52, 124, 54, 56, 54, 57]⟩) ∧ Below w.heap.size w w' := by
 refine sprintf_N _ _ lvV [32, 32, 32, 32, 51, 46, 49, 52, 124, 54, 56, 54, 57] w he hk (by decide) (fun W1 C b1 => ?_) (fun g C M av W1 hE => ?_)
 ·refine begun_raw W1 C 0 A c lvD lvV (Nat.lt_of_lt_of_le hA b1.size) rfl (by decide) hc1 hc2 (fun i d hi => ?_) (fun i d u hi hu => ?_)
  ·match i, hi with
   | 0, hi =>
     simp at hi
     subst hi
     exact ⟨⟨_, _, _, _, _, _, rfl⟩, fun j u hu => (b1.cell (p := ⟨A, 0 * 8 + j, none⟩) hA).trans (by have := hr (0 * 8 + j) u (by rw [← hu]; rcases j with _ | _ | _ | _ | _ | _ | _ | _ | j <;> first | rfl | (simp at hu)); simpa using this)⟩
   | 1, hi =>
     simp at hi
     subst hi
     exact ⟨⟨_, _, _, _, _, _, rfl⟩, fun j u hu => (b1.cell (p := ⟨A, 1 * 8 + j, none⟩) hA).trans (by have := hr (1 * 8 + j) u (by rw [← hu]; rcases j with _ | _ | _ | _ | _ | _ | _ | _ | j <;> first | rfl | (simp at hu)); simpa using this)⟩
   | 2, hi =>
     simp at hi
     subst hi
     exact ⟨⟨_, _, _, _, _, _, rfl⟩, fun j u hu => (b1.cell (p := ⟨A, 2 * 8 + j, none⟩) hA).trans (by have := hr (2 * 8 + j) u (by rw [← hu]; rcases j with _ | _ | _ | _ | _ | _ | _ | _ | j <;> first | rfl | (simp at hu)); simpa using this)⟩
   | 3, hi =>
     simp at hi
     subst hi
     exact ⟨⟨_, _, _, _, _, _, rfl⟩, fun j u hu => (b1.cell (p := ⟨A, 3 * 8 + j, none⟩) hA).trans (by have := hr (3 * 8 + j) u (by rw [← hu]; rcases j with _ | _ | _ | _ | _ | _ | _ | _ | j <;> first | rfl | (simp at hu)); simpa using this)⟩
  ·match i, hi, hu with
   | 0, hi, hu => simp at hi hu; subst hi hu; exact ⟨⟨_, _, rfl⟩, fun V => valueOf_I 0 2 V (by decide) (by decide) (by decide)⟩
   | 1, hi, hu => simp at hi hu; subst hi hu; exact ⟨⟨_, _, rfl⟩, fun V => valueOf_I 0 8 V (by decide) (by decide) (by decide)⟩
   | 2, hi, hu => simp at hi hu; subst hi hu; exact ⟨⟨_, _, rfl⟩, fun V => (flat_F 4614256656552045848 (by decide) (by decide)).vo V⟩
   | 3, hi, hu => simp at hi hu; subst hi hu; exact ⟨⟨_, _, rfl⟩, fun V => valueOf_X 0 ⟨#[104, 105]⟩ V (by decide) (by decide)⟩
 ·have hlen : lvV.length ≤ 1000 := by decide
  refine (format_ix ⟨#[37, 91, 50, 93, 42, 46, 91, 49, 93, 42, 91, 51, 93, 102, 124, 37, 120]⟩ (by decide) [pF3, lit [124], pX1] prs_lv pF3 rfl rfl [32, 32, 32, 32, 51, 46, 49, 52, 124, 54, 56, 54, 57] (J' := JN C M) (P := fun k => k = g) rfl (fun k hk => by omega) hE (nx' := 5) ⟨[32, 32, 32, 32, 51, 46, 49, 52], [124, 54, 56, 54, 57], 4, JN C M, ?_, ⟨[124], [54, 56, 54, 57], 4, JN C M, litU_pc (P := fun k => k = g) rfl _ _ _ _ _ _, ⟨[54, 56, 54, 57], [], 5, JN C M, ?_, ⟨rfl, rfl, rfl⟩, rfl⟩, rfl⟩, rfl⟩ (Or.inr (by decide)) (by decide)).mono ?_
  ·intro V l E hl
   refine piece_J pF3 (ba pF3.text) rfl _ 4 E fun V1 E1 => ?_
   refine dir_U pF3 (ba pF3.text) ⟨false, false, false, false, false, 8, 2, 102⟩ _ _ ⟨#[32, 32, 32, 32, 51, 46, 49, 52]⟩ 2 4 E1 (fun V2 E2 => ?_) (by decide) (tk_good 2 _ _ rfl 2 hlen) rfl (fun k hk => by omega) (fun V2 E2 => ?_) (Nat.le_trans hl (by decide))
   ·exact sized_U pF3 (ba pF3.text) false 8 2 (.inr ⟨by decide, 8, num_star ⟨2, 0, ⟨1, 2⟩⟩ rfl (-1000) 8 (tk_good 1 _ _ rfl 1 hlen) (fun V3 => numberOf_I 8 (-1000) (by decide) (by decide) (by decide) V3), .inl ⟨by decide, rfl, rfl⟩⟩) (.inr ⟨by decide, num_star ⟨2, 0, ⟨1, 1⟩⟩ rfl 0 2 (tk_good 0 _ _ rfl 3 hlen) (fun V3 => numberOf_I 2 0 (by decide) (by decide) (by decide) V3)⟩) E2
   ·refine (shown_flat (flat_F 4614256656552045848 (by decide) (by decide)) _ rfl ⟨false, false, false, false, false, 8, 2, 102⟩ (by decide) ⟨#[32, 32, 32, 32, 51, 46, 49, 52]⟩ (JN.env E2) (fun V3 _ => shaped_float _ _ _ 4614256656552045848 64 0 _ true V3 (fun V4 => pi_fix V4))).mono ?_
    rintro e V' ⟨h1, h2⟩
    exact ⟨h1, E2.up h2, .of_below h2⟩
  ·intro V l E hl
   refine piece_J pX1 (ba pX1.text) rfl _ 5 E fun V1 E1 => ?_
   refine dir_U pX1 (ba pX1.text) (bareQ 120) _ _ ⟨#[54, 56, 54, 57]⟩ 4 5 E1 (fun V2 E2 => ?_) (by decide) (tk_next 3 _ _ rfl 0 hlen) rfl (fun k hk => by omega) (fun V2 E2 => ?_) (Nat.le_trans hl (by decide))
   ·refine (sized_none pX1 (ba pX1.text) rfl rfl g V2).mono ?_
    rintro e V' ⟨h1, h2⟩
    exact ⟨h1, E2.up h2, .of_below h2⟩
   ·refine (shown_flat (flat_X ⟨#[104, 105]⟩ (by decide)) _ rfl (bareQ 120) (by decide) ⟨#[54, 56, 54, 57]⟩ (JN.env E2) (fun V3 e3 => shaped_text _ _ _ _ 0 _ true V3 e3 (fun V4 e4 => by
     have := text_x ⟨#[104, 105]⟩ false false false false false (-1) (-1) V4 e4 (by decide) (by decide)
     rw [hi_x] at this
     exact this))).mono ?_
    rintro e V' ⟨h1, h2⟩
    exact ⟨h1, E2.up h2, .of_below h2⟩
  ·rintro e w' ⟨h1, h2, h3⟩
   exact ⟨h1, ⟨_, h2.p⟩, h3⟩
theorem neP1 (c : Nat) (w : World) : (binOp BinOp.neq 60 (.pointer (some ⟨c, 0, none⟩)) (.pointer none)).run Tryz.prog w = .ok (.bool true) w := by kernel_rfl
set_option maxRecDepth 1000000 in
set_option maxHeartbeats 4000000 in
theorem tlives_any (w : World) (he : Esc w) (hk : KN w) : Calls Tryz.prog 13 #[] w fun e w' => e = .returned (.bool true) ∧ Below w.heap.size w w' := by
 have hN := new_any (.slice none 0 0) (fun a n k _ _ => a = none ∧ n = 0 ∧ k = 0) w (fun _ _ _ _ _ _ h _ => h) (fun W _ => copiedTable_nil W cloneH_nil)
 have hn := fun p w => neP1 p w
 have n2 := fun W => tnum_any 2 (by decide) (by decide) W
 have n8 := fun W => tnum_any 8 (by decide) (by decide) W
 have hx := fun W => ttext_any ⟨#[104, 105]⟩ W
 have hSp : ∀ p B c RB hi a n k W1, (w.heap.size ≤ hi ∧ hi ≤ p ∧ hi ≤ B ∧ hi ≤ c ∧ hi ≤ RB ∧ p ≠ B ∧ p ≠ c ∧ RB ≠ p ∧ RB ≠ B ∧ RB ≠ c ∧ Blk W1 p [.pointer (some ⟨B, 0, none⟩), .int .i64 0] ∧ StoM W1 B c 1 [] (.func (.func 47) #[] #[.pointer (some ⟨RB, 0, none⟩)]) 0 ∧ Blk W1 RB [.slice a n k] ∧ (a = none ∧ n = 0 ∧ k = 0)) → Below w.heap.size w W1 → ∀ W4, Below W1.heap.size W1 W4 →
   Calls Tryz.prog 22 #[.pointer (some ⟨p, 0, none⟩), .string ⟨#[37, 91, 50, 93, 42, 46, 91, 49, 93, 42, 91, 51, 93, 102, 124, 37, 120]⟩, .slice (some ⟨W4.heap.size, 0, none⟩) 4 4] (W4.alloc (.cells #[.int .i64 6, .string ⟨#[]⟩, .int .u64 2, .int .u64 0, .string ⟨#[]⟩, .slice none 0 0, .slice none 0 0, .int .i64 0, .int .i64 6, .string ⟨#[]⟩, .int .u64 8, .int .u64 0, .string ⟨#[]⟩, .slice none 0 0, .slice none 0 0, .int .i64 0, .int .i64 13, .string ⟨#[]⟩, .int .u64 4614256656552045848, .int .u64 0, .string ⟨#[]⟩, .slice none 0 0, .slice none 0 0, .int .i64 0, .int .i64 16, .string ⟨#[]⟩, .int .u64 0, .int .u64 0, .string ⟨#[104, 105]⟩, .slice none 0 0, .slice none 0 0, .int .i64 0] 29)) fun e w' => e = .returned (.string ⟨#[32, 32, 32, 32, 51, 46, 49, 52, 124, 54, 56, 54, 57]⟩) ∧ Below w.heap.size w w' := by
  rintro p B c RB hi a n k W1 ⟨a1, a2, a3, a4, a5, a6, a7, a8, a9, a10, x1, s1, r1, R1⟩ b1 W4 b4
  obtain ⟨W5, hW5⟩ : ∃ W5, W5 = W4.alloc (.cells #[.int .i64 6, .string ⟨#[]⟩, .int .u64 2, .int .u64 0, .string ⟨#[]⟩, .slice none 0 0, .slice none 0 0, .int .i64 0, .int .i64 6, .string ⟨#[]⟩, .int .u64 8, .int .u64 0, .string ⟨#[]⟩, .slice none 0 0, .slice none 0 0, .int .i64 0, .int .i64 13, .string ⟨#[]⟩, .int .u64 4614256656552045848, .int .u64 0, .string ⟨#[]⟩, .slice none 0 0, .slice none 0 0, .int .i64 0, .int .i64 16, .string ⟨#[]⟩, .int .u64 0, .int .u64 0, .string ⟨#[104, 105]⟩, .slice none 0 0, .slice none 0 0, .int .i64 0] 29) := ⟨_, rfl⟩
  have b5 : Below W4.heap.size W4 W5 := by rw [hW5]; exact (Below.refl _ _).alloc (Nat.le_refl _) _
  have y5 : Blk W5 W4.heap.size lvD.flatten := by rw [hW5]; exact Blk.new W4 lvD.flatten _
  have b15 : Below W1.heap.size W1 W5 := b4.trans (b5.mono b4.size)
  have bw5 : Below w.heap.size w W5 := b1.trans (b15.mono b1.size)
  have hA := y5.b
  rw [← hW5]
  clear hW5
  obtain ⟨rfl, rfl, rfl⟩ := R1
  have hp := x1.b
  have hB := s1.bx.b
  have hc := s1.cb
  have h45 := b4.size
  have hw1 := b1.size
  refine (sprintf_q p B c RB none 0 0 _ (.slice (some ⟨W4.heap.size, 0, none⟩) 4 4) ⟨#[32, 32, 32, 32, 51, 46, 49, 52, 124, 54, 56, 54, 57]⟩ W5 ⟨_, _, _, rfl⟩ (x1.up b15) (s1.up b15) (r1.up b15) a6 a7 a8 (fun W kW => ?_)).mono ?_
  ·have bW : Below w.heap.size w W := bw5.trans (kW.below (fun b h => by rcases h with rfl | rfl <;> omega) bw5.size)
   exact lv_sprintf W4.heap.size 4 (by decide) (by decide) W (he.below bW) (hk.up bW) (Nat.lt_of_lt_of_le hA kW.size) (y5.kx kW (by omega)).range
  ·rintro e w' ⟨rfl, k3⟩
   exact ⟨rfl, bw5.trans (k3.below (fun b h => by rcases h with rfl | rfl | rfl <;> omega) bw5.size)⟩
 clear he hk
 go_enter Tryz.func13, Tryz.ntmps13
 go_upto_region 2 with (go_at_call 21; refine hN.mono ?_; rintro e W1 ⟨p, B, c, RB, hi, a, n, k, rfl, hh, b1⟩; have hS1 := hSp p B c RB hi a n k W1 hh.out b1)
 go_wp2_with (first
  | (go_at_call_of 10 (2 : Int); refine (n2 _).mono ?_; rintro e W2 ⟨rfl, b2⟩)
  | (go_at_call_of 10 (8 : Int); refine (n8 _).mono ?_; rintro e W3 ⟨rfl, b3⟩)
  | (go_at_call 24; refine (hx _).mono ?_; rintro e W4 ⟨rfl, b4⟩; have hS4 := hS1 W4 ((b2.trans (b3.mono b2.size)).trans (b4.mono (by have := b2.size; have := b3.size; omega))))
  | (go_at_call 22; refine hS4.mono ?_; rintro e W5 ⟨rfl, b5⟩))
 go_ret
 exact ⟨rfl, b5⟩
end Go.Proofs.YtiagjheifblkiaaGreatDoor
namespace Go.Proofs.YtiagjheifblkiaaGreatDoor
open Go.RowKit
set_option linter.unusedVariables false
set_option linter.unusedSimpArgs false
abbrev VFk (k b : Int) : Value := .iface 248 (.agg #[.int .i64 k, .string ⟨#[]⟩, .int .i64 0, .int .u64 b])
def FkN (k : Nat) (b n : Int) : Prop := (k = 13 ∧ n = 64) ∨ (k = 12 ∧ n = 32 ∧ b < 4294967296)
theorem flat_F2 (b : Int) (h0 : 0 ≤ b) (h1 : b < 4294967296) : Flat (VFk 12 b) (.int .i64 12) (.string ⟨#[]⟩) (.int .u64 b) (.int .u64 0) (.string ⟨#[]⟩) (.int .i64 0) 12 0 335 (.agg #[.int .u64 b, .int .i64 32]) := by
 refine ⟨fun W => valueOf_of _ _ _ _ _ _ _ _ _ _ W (fun V => ?_) ⟨rfl, rfl, rfl, rfl, rfl, rfl, rfl, rfl⟩, fun W => markof_float 12 0 _ b W, fun W => shape_raw (VFk 12 b) 12 b 0 0 ⟨#[]⟩ _ _ (.inr (.inl ⟨rfl, rfl, rfl⟩)) ⟨h0, by omega⟩ (fun V => raw_flat (VFk 12 b) 12 0 b 0 ⟨#[]⟩ ⟨#[]⟩ V fun V2 => rawof_float 12 0 ⟨#[]⟩ b V2) W⟩
 have hc : chk0 (D0 12 b 0 0 ⟨#[]⟩ ⟨#[]⟩) = 0 := by
  unfold chk0
  rw [pre0]
  simp [runV, ok1, ok2, ok3, ok4, fitsB, frmB, typedB, allB, sz_nil]
 have hb := build0 12 b 0 0 ⟨#[]⟩ ⟨#[]⟩ V ⟨by simp, by constructor <;> dsimp only <;> omega, by simp, by simp, Nat.zero_le _, Nat.zero_le _⟩ (by decide) (by decide) hc
 have md : mdV (D0 12 b 0 0 ⟨#[]⟩ ⟨#[]⟩) = VFk 12 b := by
  unfold mdV
  have e : b % 4294967296 = b := by omega
  simp [e]
 rw [md] at hb
 exact hb
theorem flat_Fk {k : Nat} {b n : Int} (hk : FkN k b n) (h0 : 0 ≤ b) (h1 : b ≤ 18446744073709551615) : Flat (VFk k b) (.int .i64 k) (.string ⟨#[]⟩) (.int .u64 b) (.int .u64 0) (.string ⟨#[]⟩) (.int .i64 0) k 0 335 (.agg #[.int .u64 b, .int .i64 n]) := by
 rcases hk with ⟨rfl, rfl⟩ | ⟨rfl, rfl, hb⟩
 ·exact flat_F b h0 h1
 ·exact flat_F2 b h0 hb
theorem shown_F {k b : Nat} {n : Int} (hk : FkN k b n) (hb : b < 18446744073709551616) (f : Sq) (hv : ¬ f.verb = 84) (hp : f.p = false) {T : ByteArray} (hT : FlCq b n false f.mi f.sh f.sp f.z f.wid f.prec f.verb T true) {w : World} {g C M : Nat} {l : List UInt8} {m dp : Int} {av : Value} {nx : Int} (he : Env w g C M l m dp av nx) :
  Calls Tryz.prog 142 #[.pointer (some ⟨g, 0, none⟩), VFk k b, SV f] w fun e w' => e = .returned (.string T) ∧ Below w.heap.size w w' := by
 obtain ⟨ty, hty⟩ : ∃ ty, kindN[k]? = some ty := by
  rcases hk with ⟨rfl, rfl⟩ | ⟨rfl, rfl, hb⟩
  ·exact ⟨_, rfl⟩
  ·exact ⟨_, rfl⟩
 refine shown_flat (flat_Fk hk (by omega) (by omega)) ty hty f hv T he fun W _ => shaped_float f (FA g) ty b n 0 T true W fun W2 => ?_
 obtain ⟨p, mi, sh, sp, z, wid, prec, verb⟩ := f
 dsimp only at hp hT
 subst hp
 exact hT W2
abbrev dF8 (k b : Int) : List Value := [.int .i64 k, .string ⟨#[]⟩, .int .u64 b, .int .u64 0, .string ⟨#[]⟩, .slice none 0 0, .slice none 0 0, .int .i64 0]
theorem pr_F1 (s : ByteArray) (p : Pc) (hps : prs s.data.toList = [p]) (hs : s.size ≤ 1000) (hk : p.kind = 1) (hw : p.wid.k = 0) (hp : p.prec.k = 0) (hx : p.arg.k = 0) (hx2 : p.wid.a.k = 0) (hx3 : p.prec.a.k = 0) (hv : ¬ p.verb = 37) (hv2 : ¬ p.verb = 84) (hpp : (spQ p).p = false)
  {k b : Nat} {n : Int} (hkn : FkN k b n) (hb : b < 18446744073709551616) {T : ByteArray} (hT : FlCq b n false (spQ p).mi (spQ p).sh (spQ p).sp (spQ p).z (spQ p).wid (spQ p).prec (spQ p).verb T true) (hTs : T.size ≤ 4096) (A c : Nat) (hc1 : 1 ≤ c) (hc2 : c ≤ maxLen) (w : World) (he : Esc w) (hkw : KN w) (hA : A < w.heap.size) (hd : w.rangeAt A 0 (dF8 k b)) :
  Calls Tryz.prog 9 #[.slice none 0 0, .string s, .slice (some ⟨A, 0, none⟩) 1 c] w fun e w' => e = .returned (.string T) ∧ Below w.heap.size w w' := by
 have := print_1 s p hps hs hk hw hp hx hx2 hx3 hv A c hc1 hc2 k b 0 0 ⟨#[]⟩ ⟨#[]⟩ _ _ T (by omega) w he hkw hA hd (flat_Fk hkn (by omega) (by omega)).vo (fun {_ _ _ _ _ _ _ _ _} hE => shown_F hkn hb (spQ p) (by show ¬ (p.verb : Int) = 84; omega) hpp hT hE)
 have hx : txt T.data.toList = T := by
  unfold txt
  rw [if_neg (by rw [← Lib.size_eq]; omega)]
 rw [hx] at this
 exact this
theorem pr_F2 (s : ByteArray) (p : Pc) (hps : prs s.data.toList = [p]) (hs : s.size ≤ 1000) (hk : p.kind = 1) (hw : p.wid.k = 0) (hw0 : p.wid.a.k = 0) (hp : p.prec.k = 2) (hp0 : p.prec.a.k = 0) (hx : p.arg.k = 0) (hv : ¬ (spQ p).verb = 37) (hv8 : ¬ (spQ p).verb = 84) (hpp : (spQ p).p = false)
  (q : Int) (hq0 : 0 ≤ q) (hq1 : q ≤ 1000) {k b : Nat} {n : Int} (hkn : FkN k b n) (hb : b < 18446744073709551616) {T : ByteArray} (hT : FlCq b n false (spQ p).mi (spQ p).sh (spQ p).sp (spQ p).z (spQ p).wid q (spQ p).verb T true) (hTs : T.size ≤ 4096)
  (A c : Nat) (hc1 : 2 ≤ c) (hc2 : c ≤ maxLen) (w : World) (he : Esc w) (hkw : KN w) (hA : A < w.heap.size)
  (hd : w.rangeAt A 0 [.int .i64 6, .string ⟨#[]⟩, .int .u64 q, .int .u64 0, .string ⟨#[]⟩, .slice none 0 0, .slice none 0 0, .int .i64 0, .int .i64 k, .string ⟨#[]⟩, .int .u64 b, .int .u64 0, .string ⟨#[]⟩, .slice none 0 0, .slice none 0 0, .int .i64 0]) :
  Calls Tryz.prog 9 #[.slice none 0 0, .string s, .slice (some ⟨A, 0, none⟩) 2 c] w fun e w' => e = .returned (.string T) ∧ Below w.heap.size w w' := by
 have hTl : T.data.toList.length ≤ 4096 := by rw [← Lib.size_eq]; exact hTs
 have hPr : Calls Tryz.prog 9 #[.slice none 0 0, .string s, .slice (some ⟨A, 0, none⟩) 2 c] w fun e w' => e = .returned (.string (txt T.data.toList)) ∧ Below w.heap.size w w' := by
  refine print_N s _ _ w ⟨_, _, _, rfl⟩ fun W bW => ?_
  refine sprintf_N s _ [VI 0 q, VFk k b] T.data.toList W (he.below bW) (hkw.up bW) (by omega) (fun W1 C b1 => ?_) (fun g C M av W1 hE => ?_)
  ·have bw1 := bW.trans (b1.mono bW.size)
   refine begun_raw W1 C 0 A c [dF8 6 q, dF8 k b] [VI 0 q, VFk k b] (Nat.lt_of_lt_of_le hA bw1.size) rfl (by show 2 ≤ 16; decide) hc1 hc2 (fun i d hi => ?_) (fun i d u hi hu => ?_)
   ·match i, hi with
    | 0, hi =>
      simp at hi
      subst hi
      exact ⟨⟨_, _, _, _, _, _, rfl⟩, fun j u hu => (bw1.cell (p := ⟨A, 0 * 8 + j, none⟩) hA).trans (by have := hd (0 * 8 + j) u (by rw [← hu]; rcases j with _ | _ | _ | _ | _ | _ | _ | _ | j <;> first | rfl | (simp at hu)); simpa using this)⟩
    | 1, hi =>
      simp at hi
      subst hi
      exact ⟨⟨_, _, _, _, _, _, rfl⟩, fun j u hu => (bw1.cell (p := ⟨A, 1 * 8 + j, none⟩) hA).trans (by have := hd (1 * 8 + j) u (by rw [← hu]; rcases j with _ | _ | _ | _ | _ | _ | _ | _ | j <;> first | rfl | (simp at hu)); simpa using this)⟩
   ·match i, hi, hu with
    | 0, hi, hu => simp at hi hu; subst hi hu; exact ⟨⟨_, _, rfl⟩, fun V => valueOf_I 0 q V hq0 (by omega) (by decide)⟩
    | 1, hi, hu => simp at hi hu; subst hi hu; exact ⟨⟨_, _, rfl⟩, fun V => (flat_Fk hkn (by omega) (by omega)).vo V⟩
  ·have hlen : [VI 0 q, VFk k b].length ≤ 1000 := by show 2 ≤ 1000; decide
   refine (format_J s (by omega) [p] hps (by
    intro q hq
    simp only [List.mem_cons, List.not_mem_nil, or_false] at hq
    subst hq
    exact ⟨hx, hw0, hp0⟩) T.data.toList [] (J' := JN C M) (P := fun k => k = g) rfl (fun k hk => by omega) hE (nx' := 3) ⟨T.data.toList, [], 3, JN C M, ?_, ⟨rfl, rfl, rfl⟩, by simp⟩ (Or.inl (by show 1 ≤ 1; decide)) (by omega) (fun V E => extra_J E (by show ((2 : Nat) : Int) < 3; decide))).mono ?_
   ·intro V l E hl
    refine piece_J p (ba p.text) hk _ 3 E fun V1 E1 => ?_
    refine dir_U p (ba p.text) ⟨(spQ p).p, (spQ p).mi, (spQ p).sh, (spQ p).sp, (spQ p).z, (spQ p).wid, q, (spQ p).verb⟩ 248 _ T 2 3 E1 (fun V2 E2 => ?_) hv (by rw [hx]; exact tk_next 1 248 _ rfl _ hlen) rfl (fun k hk => by omega) (fun V2 E2 => ?_) (by rw [Lib.size_eq]; exact Nat.le_trans hl (by decide))
    ·exact sized_U p (ba p.text) (spQ p).mi (spQ p).wid q (.inl ⟨hw, rfl, rfl, rfl⟩) (.inr ⟨by omega, num_star p.prec hp 0 q (by rw [hp0]; exact tk_next 0 _ _ rfl _ hlen) (fun V3 => numberOf_I q 0 hq0 hq1 hq0 V3)⟩) E2
    ·refine (shown_F hkn hb ⟨(spQ p).p, (spQ p).mi, (spQ p).sh, (spQ p).sp, (spQ p).z, (spQ p).wid, q, (spQ p).verb⟩ hv8 hpp hT (JN.env E2)).mono ?_
     rintro e V' ⟨h1, h2⟩
     exact ⟨h1, E2.up h2, .of_below h2⟩
   ·rintro e w' ⟨h1, h2, h3⟩
    rw [List.append_nil] at h2
    exact ⟨h1, ⟨_, h2.p⟩, h3⟩
 have hx : txt T.data.toList = T := by
  unfold txt
  rw [if_neg (by omega)]
 rw [hx] at hPr
 exact hPr
end Go.Proofs.YtiagjheifblkiaaGreatDoor
namespace Go.Proofs.YtiagjheifblkiaaGreatDoor
open Go.RowKit
set_option linter.unusedVariables false
set_option linter.unusedSimpArgs false
theorem SH.uniq {R : Nat → Prop} {v d d' : Nat} (h : SH R v d) (k : SH R v d') : d = d' := by
 rcases h with ⟨n, h1, h2, h3, h4, h5⟩ | ⟨h1, h2⟩
 ·exact pick_uniq h5 (k.at h1 h2 h3 h4)
 ·rw [h2, k.all h1]
theorem filT_bare (t : ByteArray) (h : Asc t) : filT (sgF false false false) t false false (-1) = t := by
 have e0 : sgF false false false = ⟨#[]⟩ := rfl
 have ea : (⟨#[]⟩ : ByteArray) ++ t = t := by
  apply ByteArray.ext; apply Array.ext'
  rw [app_list]; rfl
 unfold filT
 rw [if_neg (by simp), e0, ea]
 unfold padS
 have ew : wdt (((wdt (-1) : Nat) : Int) - (cntR t : Nat)) = 0 := by
  have : wdt (-1) = 0 := rfl
  rw [this]; unfold wdt; omega
 rw [ew, run_zero]
 simp only [Bool.false_eq_true, if_false]
 exact ea
end Go.Proofs.YtiagjheifblkiaaGreatDoor
namespace Go.Proofs.YtiagjheifblkiaaGreatDoor
open Go.RowKit
set_option linter.unusedVariables false
set_option linter.unusedSimpArgs false
theorem asc_big {g : Bool} {s : ByteArray} (h : Asc s) : Asc (bigT g s) := by
 unfold bigT
 split
 ·intro x hx
  have hx' : x ∈ Lib.toUpperA s.data.toList := by simpa using hx
  unfold Lib.toUpperA at hx'
  obtain ⟨y, hy, rfl⟩ := List.mem_map.1 hx'
  have h1 := h y hy
  have h2 : (Lib.upperB y).toNat = if 97 ≤ y.toNat ∧ y.toNat ≤ 122 then y.toNat - 32 else y.toNat := by
   have : ∀ y : Fin 256, (Lib.upperB (UInt8.ofNat y.val)).toNat = if 97 ≤ y.val ∧ y.val ≤ 122 then y.val - 32 else y.val := by decide +kernel
   have h3 := this ⟨y.toNat, y.toNat_lt⟩
   simpa using h3
  rw [h2]
  split <;> omega
 ·exact h
theorem asc_fin (sh : Bool) (prec : Int) (m : Nat) (e : Int) (v d : Nat) (verb : Int) : Asc (finT sh prec m e v d verb) := asc_big (asc_num _ _ _ _ _ _ _)
theorem padS_off (s : ByteArray) (mi : Bool) : padS s mi false (-1) = s := by
 have ew : wdt (((wdt (-1) : Nat) : Int) - (cntR s : Nat)) = 0 := by
  have : wdt (-1) = 0 := rfl
  rw [this]; unfold wdt; omega
 unfold padS
 rw [ew, run_zero]
 cases mi
 ·show (⟨#[]⟩ : ByteArray) ++ s = s
  apply ByteArray.ext; apply Array.ext'
  rw [app_list]; rfl
 ·show s ++ (⟨#[]⟩ : ByteArray) = s
  apply ByteArray.ext; apply Array.ext'
  rw [app_list]; simp
theorem filT_off (s t : ByteArray) (mi z : Bool) (hs : s.size ≤ 1) : filT s t mi z (-1) = s ++ t := by
 unfold filT
 rw [padS_off]
 split
 ·have : wdt (-1) = 0 := rfl
  rw [lnA_none t _ (by rw [this]; omega)]
 ·rfl
end Go.Proofs.YtiagjheifblkiaaGreatDoor
