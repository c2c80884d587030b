/- UTopB, VDocA: these texts in one. -/
import Derived.Test.YtjalgdfnehgocaaGreatDoorPt20
import Derived.Test.YtjalgdfnehgocaaGreatDoorPt34
import Derived.Test.YtjalgdfnehgocaaGreatDoorVMade
import Derived.Test.YtjalgdfnehgocaaGreatDoorPt6
namespace Go.Proofs.YtjalgdfnehgocaaGreatDoor
open Go.RowKit
set_option linter.unusedVariables false
set_option linter.unusedSimpArgs false
abbrev VF (b : Int) : Value := .iface 199 (.agg #[.int .i64 13, .string ⟨#[]⟩, .int .i64 0, .int .u64 b])
theorem flat_X (s : ByteArray) (hs : s.size ≤ 1024) : Flat (VX 0 s) (.int .i64 16) (.string ⟨#[]⟩) (.int .u64 0) (.int .u64 0) (.string s) (.int .i64 0) 16 0 286 (.string s) :=
 ⟨fun W => valueOf_X 0 s W hs (by decide), mk_X 0 s, fun W => shape_X 0 s W⟩
theorem chk_F (b : Int) : chk0 (D0 13 b 0 0 ⟨#[]⟩ ⟨#[]⟩) = 0 := by
 unfold chk0
 rw [pre0]
 simp [runV, ok1, ok2, ok3, ok4, fitsB, frmB, typedB, allB, sz_nil]
theorem flat_F (b : Int) (h0 : 0 ≤ b) (h1 : b ≤ 18446744073709551615) : Flat (VF b) (.int .i64 13) (.string ⟨#[]⟩) (.int .u64 b) (.int .u64 0) (.string ⟨#[]⟩) (.int .i64 0) 13 0 283 (.agg #[.int .u64 b, .int .i64 64]) := by
 refine ⟨fun W => valueOf_of _ _ _ _ _ _ _ _ _ _ W (fun V => ?_) ⟨rfl, rfl, rfl, rfl, rfl, rfl, rfl, rfl⟩, fun W => markof_float 13 0 _ b W, fun W => shape_raw (VF b) 13 b 0 0 ⟨#[]⟩ _ _ (.inl ⟨rfl, rfl, rfl⟩) ⟨h0, h1⟩ (fun V => raw_flat (VF b) 13 0 b 0 ⟨#[]⟩ ⟨#[]⟩ V fun V2 => rawof_float 13 0 ⟨#[]⟩ b V2) W⟩
 have hb := build0 13 b 0 0 ⟨#[]⟩ ⟨#[]⟩ V ⟨by simp, ⟨h0, h1⟩, by simp, by simp, Nat.zero_le _, Nat.zero_le _⟩ (by decide) (by decide) (chk_F b)
 have md : mdV (D0 13 b 0 0 ⟨#[]⟩ ⟨#[]⟩) = VF b := by unfold mdV; simp
 rw [md] at hb
 exact hb
set_option maxRecDepth 1000000 in
theorem tnum_any (n : Int) (h0 : 0 ≤ n) (h1 : n < 9223372036854775808) (w : World) : Calls Tryz.prog 14 #[.int .i64 n] w fun e w' => e = .returned (DI 0 n) ∧ Below w.heap.size w w' := by
 have hw : IntKind.u64.wrap n = n := by show n % 18446744073709551616 = n; omega
 go_enter Tryz.func14, Tryz.ntmps14
 go_wp2
 go_returns
 refine ⟨?_, by go_grown⟩
 first | rfl | simp [hw]
set_option maxRecDepth 1000000 in
theorem ttext_any (s : ByteArray) (w : World) : Calls Tryz.prog 15 #[.string s] w fun e w' => e = .returned (DX 0 s) ∧ Below w.heap.size w w' := by
 go_enter Tryz.func15, Tryz.ntmps15
 go_wp2
 go_returns
 exact ⟨rfl, by go_grown⟩
theorem litU_pc {P : Nat → Prop} {g C : Nat} (hPg : P g) (dp : Int) (av : Value) (vs : List Value) (l : List UInt8) (J : World → Prop) (nx : Int) : PcJ P g C dp av vs (lit l) J J nx nx l := by
 intro w l0 E hl
 refine (lit_J (lit l) (ba l) rfl E (by rw [Lib.size_eq]; exact Nat.le_trans hl (by decide))).mono ?_
 rintro e w' ⟨h1, h2, h3⟩
 exact ⟨h1, h2, h3.mono fun k _ h => h ▸ hPg⟩
abbrev pF3 : Pc := ⟨1, [37, 91, 50, 93, 42, 46, 91, 49, 93, 42, 91, 51, 93, 102], fl0, -1, 102, ⟨2, 0, ⟨1, 2⟩⟩, ⟨2, 0, ⟨1, 1⟩⟩, ⟨1, 3⟩⟩
abbrev pX1 : Pc := ⟨1, [37, 120], fl0, -1, 120, nb0, nb0, ix0⟩
theorem prs_lv : prs [37, 91, 50, 93, 42, 46, 91, 49, 93, 42, 91, 51, 93, 102, 124, 37, 120] = [pF3, lit [124], pX1] := by rfl
abbrev lvD : List (List Value) := [[.int .i64 6, .string ⟨#[]⟩, .int .u64 2, .int .u64 0, .string ⟨#[]⟩, .slice none 0 0, .slice none 0 0, .int .i64 0], [.int .i64 6, .string ⟨#[]⟩, .int .u64 8, .int .u64 0, .string ⟨#[]⟩, .slice none 0 0, .slice none 0 0, .int .i64 0], [.int .i64 13, .string ⟨#[]⟩, .int .u64 4614256656552045848, .int .u64 0, .string ⟨#[]⟩, .slice none 0 0, .slice none 0 0, .int .i64 0], [.int .i64 16, .string ⟨#[]⟩, .int .u64 0, .int .u64 0, .string ⟨#[104, 105]⟩, .slice none 0 0, .slice none 0 0, .int .i64 0]]
abbrev lvV : List Value := [VI 0 2, VI 0 8, VF 4614256656552045848, VX 0 ⟨#[104, 105]⟩]
theorem hi_x : padS (hexS ⟨#[104, 105]⟩ false false false (-1)) false false (-1) = ⟨#[54, 56, 54, 57]⟩ := by decide +kernel
theorem lv_sprintf (A c : Nat) (hc1 : 4 ≤ c) (hc2 : c ≤ maxLen) (w : World) (he : Esc w) (hk : KN w) (hA : A < w.heap.size) (hr : w.rangeAt A 0 lvD.flatten) :
  Calls Tryz.prog 59 #[.slice none 0 0, .string ⟨#[37, 91, 50, 93, 42, 46, 91, 49, 93, 42, 91, 51, 93, 102, 124, 37, 120]⟩, .slice (some ⟨A, 0, none⟩) 4 c] w fun e w' => e = .returned (.string ⟨#[32, 32, 32, 32, 51, 46, 49, 52, 124, 54, 56, 54, 57]⟩) ∧ Below w.heap.size w w' := by
 refine sprintf_N _ _ lvV [32, 32, 32, 32, 51, 46, 49, 52, 124, 54, 56, 54, 57] w he hk (by decide) (fun W1 C b1 => ?_) (fun g C M av W1 hE => ?_)
 ·refine begun_raw W1 C 0 A c lvD lvV (Nat.lt_of_lt_of_le hA b1.size) rfl (by decide) hc1 hc2 (fun i d hi => ?_) (fun i d u hi hu => ?_)
  ·match i, hi with
   | 0, hi =>
     simp at hi
     subst hi
     exact ⟨⟨_, _, _, _, _, _, rfl⟩, fun j u hu => (b1.cell (p := ⟨A, 0 * 8 + j, none⟩) hA).trans (by have := hr (0 * 8 + j) u (by rw [← hu]; rcases j with _ | _ | _ | _ | _ | _ | _ | _ | j <;> first | rfl | (simp at hu)); simpa using this)⟩
   | 1, hi =>
     simp at hi
     subst hi
     exact ⟨⟨_, _, _, _, _, _, rfl⟩, fun j u hu => (b1.cell (p := ⟨A, 1 * 8 + j, none⟩) hA).trans (by have := hr (1 * 8 + j) u (by rw [← hu]; rcases j with _ | _ | _ | _ | _ | _ | _ | _ | j <;> first | rfl | (simp at hu)); simpa using this)⟩
   | 2, hi =>
     simp at hi
     subst hi
     exact ⟨⟨_, _, _, _, _, _, rfl⟩, fun j u hu => (b1.cell (p := ⟨A, 2 * 8 + j, none⟩) hA).trans (by have := hr (2 * 8 + j) u (by rw [← hu]; rcases j with _ | _ | _ | _ | _ | _ | _ | _ | j <;> first | rfl | (simp at hu)); simpa using this)⟩
   | 3, hi =>
     simp at hi
     subst hi
     exact ⟨⟨_, _, _, _, _, _, rfl⟩, fun j u hu => (b1.cell (p := ⟨A, 3 * 8 + j, none⟩) hA).trans (by have := hr (3 * 8 + j) u (by rw [← hu]; rcases j with _ | _ | _ | _ | _ | _ | _ | _ | j <;> first | rfl | (simp at hu)); simpa using this)⟩
  ·match i, hi, hu with
   | 0, hi, hu => simp at hi hu; subst hi hu; exact ⟨⟨_, _, rfl⟩, fun V => valueOf_I 0 2 V (by decide) (by decide) (by decide)⟩
   | 1, hi, hu => simp at hi hu; subst hi hu; exact ⟨⟨_, _, rfl⟩, fun V => valueOf_I 0 8 V (by decide) (by decide) (by decide)⟩
   | 2, hi, hu => simp at hi hu; subst hi hu; exact ⟨⟨_, _, rfl⟩, fun V => (flat_F 4614256656552045848 (by decide) (by decide)).vo V⟩
   | 3, hi, hu => simp at hi hu; subst hi hu; exact ⟨⟨_, _, rfl⟩, fun V => valueOf_X 0 ⟨#[104, 105]⟩ V (by decide) (by decide)⟩
 ·have hlen : lvV.length ≤ 1000 := by decide
  refine (format_ix ⟨#[37, 91, 50, 93, 42, 46, 91, 49, 93, 42, 91, 51, 93, 102, 124, 37, 120]⟩ (by decide) [pF3, lit [124], pX1] prs_lv pF3 rfl rfl [32, 32, 32, 32, 51, 46, 49, 52, 124, 54, 56, 54, 57] (J' := JN C M) (P := fun k => k = g) rfl (fun k hk => by omega) hE (nx' := 5) ⟨[32, 32, 32, 32, 51, 46, 49, 52], [124, 54, 56, 54, 57], 4, JN C M, ?_, ⟨[124], [54, 56, 54, 57], 4, JN C M, litU_pc (P := fun k => k = g) rfl _ _ _ _ _ _, ⟨[54, 56, 54, 57], [], 5, JN C M, ?_, ⟨rfl, rfl, rfl⟩, rfl⟩, rfl⟩, rfl⟩ (Or.inr (by decide)) (by decide)).mono ?_
  ·intro V l E hl
   refine piece_J pF3 (ba pF3.text) rfl _ 4 E fun V1 E1 => ?_
   refine dir_U pF3 (ba pF3.text) ⟨false, false, false, false, false, 8, 2, 102⟩ _ _ ⟨#[32, 32, 32, 32, 51, 46, 49, 52]⟩ 2 4 E1 (fun V2 E2 => ?_) (by decide) (tk_good 2 _ _ rfl 2 hlen) rfl (fun k hk => by omega) (fun V2 E2 => ?_) (Nat.le_trans hl (by decide))
   ·exact sized_U pF3 (ba pF3.text) false 8 2 (.inr ⟨by decide, 8, num_star ⟨2, 0, ⟨1, 2⟩⟩ rfl (-1000) 8 (tk_good 1 _ _ rfl 1 hlen) (fun V3 => numberOf_I 8 (-1000) (by decide) (by decide) (by decide) V3), .inl ⟨by decide, rfl, rfl⟩⟩) (.inr ⟨by decide, num_star ⟨2, 0, ⟨1, 1⟩⟩ rfl 0 2 (tk_good 0 _ _ rfl 3 hlen) (fun V3 => numberOf_I 2 0 (by decide) (by decide) (by decide) V3)⟩) E2
   ·refine (shown_flat (flat_F 4614256656552045848 (by decide) (by decide)) _ rfl ⟨false, false, false, false, false, 8, 2, 102⟩ (by decide) ⟨#[32, 32, 32, 32, 51, 46, 49, 52]⟩ (JN.env E2) (fun V3 _ => shaped_float _ _ _ 4614256656552045848 64 0 _ true V3 (fun V4 => pi_fix V4))).mono ?_
    rintro e V' ⟨h1, h2⟩
    exact ⟨h1, E2.up h2, .of_below h2⟩
  ·intro V l E hl
   refine piece_J pX1 (ba pX1.text) rfl _ 5 E fun V1 E1 => ?_
   refine dir_U pX1 (ba pX1.text) (bareQ 120) _ _ ⟨#[54, 56, 54, 57]⟩ 4 5 E1 (fun V2 E2 => ?_) (by decide) (tk_next 3 _ _ rfl 0 hlen) rfl (fun k hk => by omega) (fun V2 E2 => ?_) (Nat.le_trans hl (by decide))
   ·refine (sized_none pX1 (ba pX1.text) rfl rfl g V2).mono ?_
    rintro e V' ⟨h1, h2⟩
    exact ⟨h1, E2.up h2, .of_below h2⟩
   ·refine (shown_flat (flat_X ⟨#[104, 105]⟩ (by decide)) _ rfl (bareQ 120) (by decide) ⟨#[54, 56, 54, 57]⟩ (JN.env E2) (fun V3 e3 => shaped_text _ _ _ _ 0 _ true V3 e3 (fun V4 e4 => by
     have := text_x ⟨#[104, 105]⟩ false false false false false (-1) (-1) V4 e4 (by decide) (by decide)
     rw [hi_x] at this
     exact this))).mono ?_
    rintro e V' ⟨h1, h2⟩
    exact ⟨h1, E2.up h2, .of_below h2⟩
  ·rintro e w' ⟨h1, h2, h3⟩
   exact ⟨h1, ⟨_, h2.p⟩, h3⟩
theorem neP1 (c : Nat) (w : World) : (binOp BinOp.neq 61 (.pointer (some ⟨c, 0, none⟩)) (.pointer none)).run Tryz.prog w = .ok (.bool true) w := by kernel_rfl
set_option maxRecDepth 1000000 in
set_option maxHeartbeats 4000000 in
theorem tlives_any (w : World) (he : Esc w) (hk : KN w) : Calls Tryz.prog 12 #[] w fun e w' => e = .returned (.bool true) ∧ Below w.heap.size w w' := by
 have hN := new_any (.slice none 0 0) (fun a n k _ _ => a = none ∧ n = 0 ∧ k = 0) w (fun _ _ _ _ _ _ h _ => h) (fun W _ => copiedTable_nil W cloneH_nil)
 have hn := fun p w => neP1 p w
 have n2 := fun W => tnum_any 2 (by decide) (by decide) W
 have n8 := fun W => tnum_any 8 (by decide) (by decide) W
 have hx := fun W => ttext_any ⟨#[104, 105]⟩ W
 have hSp : ∀ p B c RB hi a n k W1, (w.heap.size ≤ hi ∧ hi ≤ p ∧ hi ≤ B ∧ hi ≤ c ∧ hi ≤ RB ∧ p ≠ B ∧ p ≠ c ∧ RB ≠ p ∧ RB ≠ B ∧ RB ≠ c ∧ Blk W1 p [.pointer (some ⟨B, 0, none⟩), .int .i64 0] ∧ StoM W1 B c 1 [] (.func (.func 35) #[] #[.pointer (some ⟨RB, 0, none⟩)]) 0 ∧ Blk W1 RB [.slice a n k] ∧ (a = none ∧ n = 0 ∧ k = 0)) → Below w.heap.size w W1 → ∀ W4, Below W1.heap.size W1 W4 →
   Calls Tryz.prog 24 #[.pointer (some ⟨p, 0, none⟩), .string ⟨#[37, 91, 50, 93, 42, 46, 91, 49, 93, 42, 91, 51, 93, 102, 124, 37, 120]⟩, .slice (some ⟨W4.heap.size, 0, none⟩) 4 4] (W4.alloc (.cells #[.int .i64 6, .string ⟨#[]⟩, .int .u64 2, .int .u64 0, .string ⟨#[]⟩, .slice none 0 0, .slice none 0 0, .int .i64 0, .int .i64 6, .string ⟨#[]⟩, .int .u64 8, .int .u64 0, .string ⟨#[]⟩, .slice none 0 0, .slice none 0 0, .int .i64 0, .int .i64 13, .string ⟨#[]⟩, .int .u64 4614256656552045848, .int .u64 0, .string ⟨#[]⟩, .slice none 0 0, .slice none 0 0, .int .i64 0, .int .i64 16, .string ⟨#[]⟩, .int .u64 0, .int .u64 0, .string ⟨#[104, 105]⟩, .slice none 0 0, .slice none 0 0, .int .i64 0] 30)) fun e w' => e = .returned (.string ⟨#[32, 32, 32, 32, 51, 46, 49, 52, 124, 54, 56, 54, 57]⟩) ∧ Below w.heap.size w w' := by
  rintro p B c RB hi a n k W1 ⟨a1, a2, a3, a4, a5, a6, a7, a8, a9, a10, x1, s1, r1, R1⟩ b1 W4 b4
  obtain ⟨W5, hW5⟩ : ∃ W5, W5 = W4.alloc (.cells #[.int .i64 6, .string ⟨#[]⟩, .int .u64 2, .int .u64 0, .string ⟨#[]⟩, .slice none 0 0, .slice none 0 0, .int .i64 0, .int .i64 6, .string ⟨#[]⟩, .int .u64 8, .int .u64 0, .string ⟨#[]⟩, .slice none 0 0, .slice none 0 0, .int .i64 0, .int .i64 13, .string ⟨#[]⟩, .int .u64 4614256656552045848, .int .u64 0, .string ⟨#[]⟩, .slice none 0 0, .slice none 0 0, .int .i64 0, .int .i64 16, .string ⟨#[]⟩, .int .u64 0, .int .u64 0, .string ⟨#[104, 105]⟩, .slice none 0 0, .slice none 0 0, .int .i64 0] 30) := ⟨_, rfl⟩
  have b5 : Below W4.heap.size W4 W5 := by rw [hW5]; exact (Below.refl _ _).alloc (Nat.le_refl _) _
  have y5 : Blk W5 W4.heap.size lvD.flatten := by rw [hW5]; exact Blk.new W4 lvD.flatten _
  have b15 : Below W1.heap.size W1 W5 := b4.trans (b5.mono b4.size)
  have bw5 : Below w.heap.size w W5 := b1.trans (b15.mono b1.size)
  have hA := y5.b
  rw [← hW5]
  clear hW5
  obtain ⟨rfl, rfl, rfl⟩ := R1
  have hp := x1.b
  have hB := s1.bx.b
  have hc := s1.cb
  have h45 := b4.size
  have hw1 := b1.size
  refine (sprintf_q p B c RB none 0 0 _ (.slice (some ⟨W4.heap.size, 0, none⟩) 4 4) ⟨#[32, 32, 32, 32, 51, 46, 49, 52, 124, 54, 56, 54, 57]⟩ W5 ⟨_, _, _, rfl⟩ (x1.up b15) (s1.up b15) (r1.up b15) a6 a7 a8 (fun W kW => ?_)).mono ?_
  ·have bW : Below w.heap.size w W := bw5.trans (kW.below (fun b h => by rcases h with rfl | rfl <;> omega) bw5.size)
   exact lv_sprintf W4.heap.size 4 (by decide) (by decide) W (he.below bW) (hk.up bW) (Nat.lt_of_lt_of_le hA kW.size) (y5.kx kW (by omega)).range
  ·rintro e w' ⟨rfl, k3⟩
   exact ⟨rfl, bw5.trans (k3.below (fun b h => by rcases h with rfl | rfl | rfl <;> omega) bw5.size)⟩
 clear he hk
 go_enter Tryz.func12, Tryz.ntmps12
 go_upto_region 2 with (go_at_call 23; refine hN.mono ?_; rintro e W1 ⟨p, B, c, RB, hi, a, n, k, rfl, hh, b1⟩; have hS1 := hSp p B c RB hi a n k W1 hh.out b1)
 go_wp2_with (first
  | (go_at_call_of 14 (2 : Int); refine (n2 _).mono ?_; rintro e W2 ⟨rfl, b2⟩)
  | (go_at_call_of 14 (8 : Int); refine (n8 _).mono ?_; rintro e W3 ⟨rfl, b3⟩)
  | (go_at_call 15; refine (hx _).mono ?_; rintro e W4 ⟨rfl, b4⟩; have hS4 := hS1 W4 ((b2.trans (b3.mono b2.size)).trans (b4.mono (by have := b2.size; have := b3.size; omega))))
  | (go_at_call 24; refine hS4.mono ?_; rintro e W5 ⟨rfl, b5⟩))
 go_ret
 exact ⟨rfl, b5⟩
end Go.Proofs.YtjalgdfnehgocaaGreatDoor
namespace Go.Proofs.YtjalgdfnehgocaaGreatDoor
open Go.RowKit
set_option linter.unusedVariables false
set_option linter.unusedSimpArgs false
def whoB (k : Int) : Bool := decide (2 ≤ k) && decide (k ≤ 11)
def sgnB (k : Int) : Bool := decide (2 ≤ k) && decide (k ≤ 6)
theorem owhole_any (k : Int) (w : World) : Calls Tryz.prog 49 #[.int .i64 k] w fun e w' => e = .returned (.bool (whoB k)) ∧ w' = w := by
 unfold whoB
 by_cases h1 : 2 ≤ k <;> by_cases h2 : k ≤ 11
 all_goals first
  | omega
  | (go_enter Tryz.func49, Tryz.ntmps49
     go_wp2
     go_ret
     try (simp [h1, h2]; done))
theorem osigned_any (k : Int) (w : World) : Calls Tryz.prog 70 #[.int .i64 k] w fun e w' => e = .returned (.bool (sgnB k)) ∧ w' = w := by
 unfold sgnB
 by_cases h1 : 2 ≤ k <;> by_cases h2 : k ≤ 6
 all_goals first
  | omega
  | (go_enter Tryz.func70, Tryz.ntmps70
     go_wp2
     go_ret
     try (simp [h1, h2]; done))
theorem ogreat_any (k : Int) (w : World) : Calls Tryz.prog 51 #[.int .i64 k] w fun e w' => e = .returned (.bool (great k)) ∧ w' = w := by
 unfold great
 by_cases h1 : 18 ≤ k <;> by_cases h2 : k ≤ 22
 all_goals first
  | omega
  | (go_enter Tryz.func51, Tryz.ntmps51
     go_wp2
     go_ret
     try (simp [h1, h2]; done))
def bitN (k : Int) : Int := if k = 2 ∨ k = 7 then 8 else if k = 3 ∨ k = 8 then 16 else if k = 4 ∨ k = 9 then 32 else 64
theorem obits_any (k : Int) (w : World) : Calls Tryz.prog 69 #[.int .i64 k] w fun e w' => e = .returned (.int .i64 (bitN k)) ∧ w' = w := by
 by_cases h : k = 2 ∨ k = 7 ∨ k = 3 ∨ k = 8 ∨ k = 4 ∨ k = 9
 ·rcases h with rfl | rfl | rfl | rfl | rfl | rfl
  all_goals
   go_enter Tryz.func69, Tryz.ntmps69
   go_wp2
   go_ret
   exact ⟨rfl, rfl⟩
 ·have e2 : (k == 2) = false := by simp; omega
  have e3 : (k == 3) = false := by simp; omega
  have e4 : (k == 4) = false := by simp; omega
  have e7 : (k == 7) = false := by simp; omega
  have e8 : (k == 8) = false := by simp; omega
  have e9 : (k == 9) = false := by simp; omega
  have HB : Hid (bitN k = 64) := by
   show bitN k = 64
   unfold bitN
   rw [if_neg (by omega), if_neg (by omega), if_neg (by omega)]
  clear h
  go_enter Tryz.func69, Tryz.ntmps69
  go_wp2
  go_ret
  rw [HB.out]
  exact ⟨rfl, rfl⟩
def numF (k b : Int) : Int := if sgnB k then sgN k b % 18446744073709551616 else unN k b
theorem swr_back8 (b : Int) (h0 : 0 ≤ b) (h1 : b ≤ 18446744073709551615) : swr 18446744073709551616 b % 18446744073709551616 = b := by
 have e : b % 18446744073709551616 = b := Int.emod_eq_of_lt h0 (by omega)
 unfold swr
 rw [e]
 by_cases h : (18446744073709551616 : Int) ≤ 2 * b
 ·rw [if_pos h, Int.sub_emod_right, e]
 ·rw [if_neg h, e]
set_option maxRecDepth 1000000 in
theorem onumber_2 (b : Int) (w : World) (h0 : 0 ≤ b) (h1 : b ≤ 18446744073709551615) :
  Calls Tryz.prog 50 #[.int .i64 2, .int .u64 b] w fun e w' => e = .returned (.int .u64 (numF 2 b)) ∧ w' = w := by
 have hb : ∀ W, Calls Tryz.prog 69 #[.int .i64 2] W fun e w' => e = .returned (.int .i64 8) ∧ w' = W := fun W => obits_any 2 W
 have hs : ∀ W, Calls Tryz.prog 70 #[.int .i64 2] W fun e w' => e = .returned (.bool true) ∧ w' = W := fun W => osigned_any 2 W
 have hm0 : 0 ≤ b % 256 := Int.emod_nonneg _ (by decide)
 have hm1 : b % 256 < 256 := Int.emod_lt_of_pos _ (by decide)
 by_cases hc : 128 ≤ b % 256
 ·have HN : Hid (numF 2 b = (b % 256 - 256) % 18446744073709551616) := by
   show swr 256 b % 18446744073709551616 = _
   unfold swr
   rw [if_pos (by omega)]
  go_enter Tryz.func50, Tryz.ntmps50
  go_wp2_with (first | (go_at_call 69; refine (hb _).mono ?_; rintro e w1 ⟨rfl, hw⟩; rw [hw]; clear hw) | (go_at_call 70; refine (hs _).mono ?_; rintro e w1 ⟨rfl, hw⟩; rw [hw]; clear hw))
  go_ret
  rw [HN.out]
  exact ⟨rfl, rfl⟩
 ·have HN : Hid (numF 2 b = b % 256) := by
   show swr 256 b % 18446744073709551616 = _
   unfold swr
   rw [if_neg (by omega)]
   omega
  go_enter Tryz.func50, Tryz.ntmps50
  go_wp2_with (first | (go_at_call 69; refine (hb _).mono ?_; rintro e w1 ⟨rfl, hw⟩; rw [hw]; clear hw) | (go_at_call 70; refine (hs _).mono ?_; rintro e w1 ⟨rfl, hw⟩; rw [hw]; clear hw))
  go_ret
  rw [HN.out]
  exact ⟨rfl, rfl⟩
set_option maxRecDepth 1000000 in
theorem onumber_3 (b : Int) (w : World) (h0 : 0 ≤ b) (h1 : b ≤ 18446744073709551615) :
  Calls Tryz.prog 50 #[.int .i64 3, .int .u64 b] w fun e w' => e = .returned (.int .u64 (numF 3 b)) ∧ w' = w := by
 have hb : ∀ W, Calls Tryz.prog 69 #[.int .i64 3] W fun e w' => e = .returned (.int .i64 16) ∧ w' = W := fun W => obits_any 3 W
 have hs : ∀ W, Calls Tryz.prog 70 #[.int .i64 3] W fun e w' => e = .returned (.bool true) ∧ w' = W := fun W => osigned_any 3 W
 have hm0 : 0 ≤ b % 65536 := Int.emod_nonneg _ (by decide)
 have hm1 : b % 65536 < 65536 := Int.emod_lt_of_pos _ (by decide)
 by_cases hc : 32768 ≤ b % 65536
 ·have HN : Hid (numF 3 b = (b % 65536 - 65536) % 18446744073709551616) := by
   show swr 65536 b % 18446744073709551616 = _
   unfold swr
   rw [if_pos (by omega)]
  go_enter Tryz.func50, Tryz.ntmps50
  go_wp2_with (first | (go_at_call 69; refine (hb _).mono ?_; rintro e w1 ⟨rfl, hw⟩; rw [hw]; clear hw) | (go_at_call 70; refine (hs _).mono ?_; rintro e w1 ⟨rfl, hw⟩; rw [hw]; clear hw))
  go_ret
  rw [HN.out]
  exact ⟨rfl, rfl⟩
 ·have HN : Hid (numF 3 b = b % 65536) := by
   show swr 65536 b % 18446744073709551616 = _
   unfold swr
   rw [if_neg (by omega)]
   omega
  go_enter Tryz.func50, Tryz.ntmps50
  go_wp2_with (first | (go_at_call 69; refine (hb _).mono ?_; rintro e w1 ⟨rfl, hw⟩; rw [hw]; clear hw) | (go_at_call 70; refine (hs _).mono ?_; rintro e w1 ⟨rfl, hw⟩; rw [hw]; clear hw))
  go_ret
  rw [HN.out]
  exact ⟨rfl, rfl⟩
set_option maxRecDepth 1000000 in
theorem onumber_4 (b : Int) (w : World) (h0 : 0 ≤ b) (h1 : b ≤ 18446744073709551615) :
  Calls Tryz.prog 50 #[.int .i64 4, .int .u64 b] w fun e w' => e = .returned (.int .u64 (numF 4 b)) ∧ w' = w := by
 have hb : ∀ W, Calls Tryz.prog 69 #[.int .i64 4] W fun e w' => e = .returned (.int .i64 32) ∧ w' = W := fun W => obits_any 4 W
 have hs : ∀ W, Calls Tryz.prog 70 #[.int .i64 4] W fun e w' => e = .returned (.bool true) ∧ w' = W := fun W => osigned_any 4 W
 have hm0 : 0 ≤ b % 4294967296 := Int.emod_nonneg _ (by decide)
 have hm1 : b % 4294967296 < 4294967296 := Int.emod_lt_of_pos _ (by decide)
 by_cases hc : 2147483648 ≤ b % 4294967296
 ·have HN : Hid (numF 4 b = (b % 4294967296 - 4294967296) % 18446744073709551616) := by
   show swr 4294967296 b % 18446744073709551616 = _
   unfold swr
   rw [if_pos (by omega)]
  go_enter Tryz.func50, Tryz.ntmps50
  go_wp2_with (first | (go_at_call 69; refine (hb _).mono ?_; rintro e w1 ⟨rfl, hw⟩; rw [hw]; clear hw) | (go_at_call 70; refine (hs _).mono ?_; rintro e w1 ⟨rfl, hw⟩; rw [hw]; clear hw))
  go_ret
  rw [HN.out]
  exact ⟨rfl, rfl⟩
 ·have HN : Hid (numF 4 b = b % 4294967296) := by
   show swr 4294967296 b % 18446744073709551616 = _
   unfold swr
   rw [if_neg (by omega)]
   omega
  go_enter Tryz.func50, Tryz.ntmps50
  go_wp2_with (first | (go_at_call 69; refine (hb _).mono ?_; rintro e w1 ⟨rfl, hw⟩; rw [hw]; clear hw) | (go_at_call 70; refine (hs _).mono ?_; rintro e w1 ⟨rfl, hw⟩; rw [hw]; clear hw))
  go_ret
  rw [HN.out]
  exact ⟨rfl, rfl⟩
set_option maxRecDepth 1000000 in
theorem onumber_5 (b : Int) (w : World) (h0 : 0 ≤ b) (h1 : b ≤ 18446744073709551615) :
  Calls Tryz.prog 50 #[.int .i64 5, .int .u64 b] w fun e w' => e = .returned (.int .u64 (numF 5 b)) ∧ w' = w := by
 have hb : ∀ W, Calls Tryz.prog 69 #[.int .i64 5] W fun e w' => e = .returned (.int .i64 64) ∧ w' = W := fun W => obits_any 5 W
 have hs : ∀ W, Calls Tryz.prog 70 #[.int .i64 5] W fun e w' => e = .returned (.bool true) ∧ w' = W := fun W => osigned_any 5 W
 have HN : Hid (numF 5 b = b) := by
  show numF 5 b = b
  exact swr_back8 b h0 h1
 go_enter Tryz.func50, Tryz.ntmps50
 go_wp2_with (first | (go_at_call 69; refine (hb _).mono ?_; rintro e w1 ⟨rfl, hw⟩; rw [hw]; clear hw) | (go_at_call 70; refine (hs _).mono ?_; rintro e w1 ⟨rfl, hw⟩; rw [hw]; clear hw))
 go_ret
 rw [HN.out]
 exact ⟨rfl, rfl⟩
set_option maxRecDepth 1000000 in
theorem onumber_6 (b : Int) (w : World) (h0 : 0 ≤ b) (h1 : b ≤ 18446744073709551615) :
  Calls Tryz.prog 50 #[.int .i64 6, .int .u64 b] w fun e w' => e = .returned (.int .u64 (numF 6 b)) ∧ w' = w := by
 have hb : ∀ W, Calls Tryz.prog 69 #[.int .i64 6] W fun e w' => e = .returned (.int .i64 64) ∧ w' = W := fun W => obits_any 6 W
 have hs : ∀ W, Calls Tryz.prog 70 #[.int .i64 6] W fun e w' => e = .returned (.bool true) ∧ w' = W := fun W => osigned_any 6 W
 have HN : Hid (numF 6 b = b) := by
  show numF 6 b = b
  exact swr_back8 b h0 h1
 go_enter Tryz.func50, Tryz.ntmps50
 go_wp2_with (first | (go_at_call 69; refine (hb _).mono ?_; rintro e w1 ⟨rfl, hw⟩; rw [hw]; clear hw) | (go_at_call 70; refine (hs _).mono ?_; rintro e w1 ⟨rfl, hw⟩; rw [hw]; clear hw))
 go_ret
 rw [HN.out]
 exact ⟨rfl, rfl⟩
set_option maxRecDepth 1000000 in
theorem onumber_7 (b : Int) (w : World) (h0 : 0 ≤ b) (h1 : b ≤ 18446744073709551615) :
  Calls Tryz.prog 50 #[.int .i64 7, .int .u64 b] w fun e w' => e = .returned (.int .u64 (numF 7 b)) ∧ w' = w := by
 have hb : ∀ W, Calls Tryz.prog 69 #[.int .i64 7] W fun e w' => e = .returned (.int .i64 8) ∧ w' = W := fun W => obits_any 7 W
 have hs : ∀ W, Calls Tryz.prog 70 #[.int .i64 7] W fun e w' => e = .returned (.bool false) ∧ w' = W := fun W => osigned_any 7 W
 have HN : Hid (numF 7 b = b % 256) := rfl
 go_enter Tryz.func50, Tryz.ntmps50
 go_wp2_with (first | (go_at_call 69; refine (hb _).mono ?_; rintro e w1 ⟨rfl, hw⟩; rw [hw]; clear hw) | (go_at_call 70; refine (hs _).mono ?_; rintro e w1 ⟨rfl, hw⟩; rw [hw]; clear hw))
 go_ret
 rw [HN.out]
 exact ⟨rfl, rfl⟩
set_option maxRecDepth 1000000 in
theorem onumber_8 (b : Int) (w : World) (h0 : 0 ≤ b) (h1 : b ≤ 18446744073709551615) :
  Calls Tryz.prog 50 #[.int .i64 8, .int .u64 b] w fun e w' => e = .returned (.int .u64 (numF 8 b)) ∧ w' = w := by
 have hb : ∀ W, Calls Tryz.prog 69 #[.int .i64 8] W fun e w' => e = .returned (.int .i64 16) ∧ w' = W := fun W => obits_any 8 W
 have hs : ∀ W, Calls Tryz.prog 70 #[.int .i64 8] W fun e w' => e = .returned (.bool false) ∧ w' = W := fun W => osigned_any 8 W
 have HN : Hid (numF 8 b = b % 65536) := rfl
 go_enter Tryz.func50, Tryz.ntmps50
 go_wp2_with (first | (go_at_call 69; refine (hb _).mono ?_; rintro e w1 ⟨rfl, hw⟩; rw [hw]; clear hw) | (go_at_call 70; refine (hs _).mono ?_; rintro e w1 ⟨rfl, hw⟩; rw [hw]; clear hw))
 go_ret
 rw [HN.out]
 exact ⟨rfl, rfl⟩
set_option maxRecDepth 1000000 in
theorem onumber_9 (b : Int) (w : World) (h0 : 0 ≤ b) (h1 : b ≤ 18446744073709551615) :
  Calls Tryz.prog 50 #[.int .i64 9, .int .u64 b] w fun e w' => e = .returned (.int .u64 (numF 9 b)) ∧ w' = w := by
 have hb : ∀ W, Calls Tryz.prog 69 #[.int .i64 9] W fun e w' => e = .returned (.int .i64 32) ∧ w' = W := fun W => obits_any 9 W
 have hs : ∀ W, Calls Tryz.prog 70 #[.int .i64 9] W fun e w' => e = .returned (.bool false) ∧ w' = W := fun W => osigned_any 9 W
 have HN : Hid (numF 9 b = b % 4294967296) := rfl
 go_enter Tryz.func50, Tryz.ntmps50
 go_wp2_with (first | (go_at_call 69; refine (hb _).mono ?_; rintro e w1 ⟨rfl, hw⟩; rw [hw]; clear hw) | (go_at_call 70; refine (hs _).mono ?_; rintro e w1 ⟨rfl, hw⟩; rw [hw]; clear hw))
 go_ret
 rw [HN.out]
 exact ⟨rfl, rfl⟩
set_option maxRecDepth 1000000 in
theorem onumber_10 (b : Int) (w : World) (h0 : 0 ≤ b) (h1 : b ≤ 18446744073709551615) :
  Calls Tryz.prog 50 #[.int .i64 10, .int .u64 b] w fun e w' => e = .returned (.int .u64 (numF 10 b)) ∧ w' = w := by
 have hb : ∀ W, Calls Tryz.prog 69 #[.int .i64 10] W fun e w' => e = .returned (.int .i64 64) ∧ w' = W := fun W => obits_any 10 W
 have hs : ∀ W, Calls Tryz.prog 70 #[.int .i64 10] W fun e w' => e = .returned (.bool false) ∧ w' = W := fun W => osigned_any 10 W
 have HN : Hid (numF 10 b = b) := by
  show numF 10 b = b
  rfl
 go_enter Tryz.func50, Tryz.ntmps50
 go_wp2_with (first | (go_at_call 69; refine (hb _).mono ?_; rintro e w1 ⟨rfl, hw⟩; rw [hw]; clear hw) | (go_at_call 70; refine (hs _).mono ?_; rintro e w1 ⟨rfl, hw⟩; rw [hw]; clear hw))
 go_ret
 rw [HN.out]
 exact ⟨rfl, rfl⟩
set_option maxRecDepth 1000000 in
theorem onumber_11 (b : Int) (w : World) (h0 : 0 ≤ b) (h1 : b ≤ 18446744073709551615) :
  Calls Tryz.prog 50 #[.int .i64 11, .int .u64 b] w fun e w' => e = .returned (.int .u64 (numF 11 b)) ∧ w' = w := by
 have hb : ∀ W, Calls Tryz.prog 69 #[.int .i64 11] W fun e w' => e = .returned (.int .i64 64) ∧ w' = W := fun W => obits_any 11 W
 have hs : ∀ W, Calls Tryz.prog 70 #[.int .i64 11] W fun e w' => e = .returned (.bool false) ∧ w' = W := fun W => osigned_any 11 W
 have HN : Hid (numF 11 b = b) := by
  show numF 11 b = b
  rfl
 go_enter Tryz.func50, Tryz.ntmps50
 go_wp2_with (first | (go_at_call 69; refine (hb _).mono ?_; rintro e w1 ⟨rfl, hw⟩; rw [hw]; clear hw) | (go_at_call 70; refine (hs _).mono ?_; rintro e w1 ⟨rfl, hw⟩; rw [hw]; clear hw))
 go_ret
 rw [HN.out]
 exact ⟨rfl, rfl⟩
theorem onumber_any (k b : Int) (w : World) (h0 : 0 ≤ b) (h1 : b ≤ 18446744073709551615) (hk : whoB k = true) :
  Calls Tryz.prog 50 #[.int .i64 k, .int .u64 b] w fun e w' => e = .returned (.int .u64 (numF k b)) ∧ w' = w := by
 have h : k = 2 ∨ k = 3 ∨ k = 4 ∨ k = 5 ∨ k = 6 ∨ k = 7 ∨ k = 8 ∨ k = 9 ∨ k = 10 ∨ k = 11 := by simp [whoB] at hk; omega
 rcases h with rfl | rfl | rfl | rfl | rfl | rfl | rfl | rfl | rfl | rfl
 ·exact onumber_2 b w h0 h1
 ·exact onumber_3 b w h0 h1
 ·exact onumber_4 b w h0 h1
 ·exact onumber_5 b w h0 h1
 ·exact onumber_6 b w h0 h1
 ·exact onumber_7 b w h0 h1
 ·exact onumber_8 b w h0 h1
 ·exact onumber_9 b w h0 h1
 ·exact onumber_10 b w h0 h1
 ·exact onumber_11 b w h0 h1
end Go.Proofs.YtjalgdfnehgocaaGreatDoor
