/- UTopB, RDecode, RCut, RFill, RPad, UHex, QItems, QLen, Numb: these texts in one. -/
import Derived.Test.YtjalgdfnehgocaaGreatDoorShelfF
import Derived.Test.YtjalgdfnehgocaaGreatDoorPt22
import Derived.Test.YtjalgdfnehgocaaGreatDoorPt35
import Derived.Test.YtjalgdfnehgocaaGreatDoorPt1
import Derived.Test.YtjalgdfnehgocaaGreatDoorPt17
import Derived.Deep.LoopGhost
import Derived.Deep.RegionWith
import Derived.Deep.QuietTactic
import Derived.BigQuiet
import Derived.Deep.DeepCutAuto
import Derived.Deep.CutBlock
import Derived.Test.YtjalgdfnehgocaaGreatDoorPt2
import Derived.Test.YtjalgdfnehgocaaGreatDoorHexW
namespace Go.Proofs.YtjalgdfnehgocaaGreatDoor
open Go.RowKit
set_option linter.unusedVariables false
set_option linter.unusedSimpArgs false
abbrev VB (s : ByteArray) : Value := .iface 204 (.agg #[.int .i64 17, .string ⟨#[]⟩, .int .i64 0, .string s])
abbrev VF (b : Int) : Value := .iface 199 (.agg #[.int .i64 13, .string ⟨#[]⟩, .int .i64 0, .int .u64 b])
theorem flat_X (s : ByteArray) (hs : s.size ≤ 1024) : Flat (VX 0 s) (.int .i64 16) (.string ⟨#[]⟩) (.int .u64 0) (.int .u64 0) (.string s) (.int .i64 0) 16 0 286 (.string s) :=
 ⟨fun W => valueOf_X 0 s W hs (by decide), mk_X 0 s, fun W => shape_X 0 s W⟩
theorem chk_B (s : ByteArray) (hs : s.size ≤ 1024) : chk0 (D0 17 0 0 0 ⟨#[]⟩ s) = 0 := by
 unfold chk0
 rw [pre0]
 simp [runV, ok1, ok2, ok3, ok4, fitsB, frmB, typedB, allB, sz_nil]
 omega
theorem flat_B (s : ByteArray) (hs : s.size ≤ 1024) : Flat (VB s) (.int .i64 17) (.string ⟨#[]⟩) (.int .u64 0) (.int .u64 0) (.string s) (.int .i64 0) 17 0 287 (.string s) := by
 refine ⟨fun W => valueOf_of _ _ _ _ _ _ _ _ _ _ W (fun V => ?_) ⟨rfl, rfl, rfl, rfl, rfl, rfl, rfl, rfl⟩, fun W => markof_octets 17 0 _ s W, fun W => shape_raw (VB s) 17 0 0 0 s _ _ (.inr (.inr (.inr (.inl ⟨rfl, rfl, rfl⟩)))) (by decide) (fun V => raw_flat (VB s) 17 0 0 0 ⟨#[]⟩ s V fun V2 => rawof_octets 17 0 ⟨#[]⟩ s V2) W⟩
 have hb := build0 17 0 0 0 ⟨#[]⟩ s V ⟨by simp, by simp, by simp, by simp, Nat.zero_le _, by dsimp only; unfold maxLen; omega⟩ (by decide) (by decide) (chk_B s hs)
 have md : mdV (D0 17 0 0 0 ⟨#[]⟩ s) = VB s := by unfold mdV; simp
 rw [md] at hb
 exact hb
theorem chk_F (b : Int) : chk0 (D0 13 b 0 0 ⟨#[]⟩ ⟨#[]⟩) = 0 := by
 unfold chk0
 rw [pre0]
 simp [runV, ok1, ok2, ok3, ok4, fitsB, frmB, typedB, allB, sz_nil]
theorem flat_F (b : Int) (h0 : 0 ≤ b) (h1 : b ≤ 18446744073709551615) : Flat (VF b) (.int .i64 13) (.string ⟨#[]⟩) (.int .u64 b) (.int .u64 0) (.string ⟨#[]⟩) (.int .i64 0) 13 0 283 (.agg #[.int .u64 b, .int .i64 64]) := by
 refine ⟨fun W => valueOf_of _ _ _ _ _ _ _ _ _ _ W (fun V => ?_) ⟨rfl, rfl, rfl, rfl, rfl, rfl, rfl, rfl⟩, fun W => markof_float 13 0 _ b W, fun W => shape_raw (VF b) 13 b 0 0 ⟨#[]⟩ _ _ (.inl ⟨rfl, rfl, rfl⟩) ⟨h0, h1⟩ (fun V => raw_flat (VF b) 13 0 b 0 ⟨#[]⟩ ⟨#[]⟩ V fun V2 => rawof_float 13 0 ⟨#[]⟩ b V2) W⟩
 have hb := build0 13 b 0 0 ⟨#[]⟩ ⟨#[]⟩ V ⟨by simp, ⟨h0, h1⟩, by simp, by simp, Nat.zero_le _, Nat.zero_le _⟩ (by decide) (by decide) (chk_F b)
 have md : mdV (D0 13 b 0 0 ⟨#[]⟩ ⟨#[]⟩) = VF b := by unfold mdV; simp
 rw [md] at hb
 exact hb
set_option maxRecDepth 1000000 in
theorem tnum_any (n : Int) (h0 : 0 ≤ n) (h1 : n < 9223372036854775808) (w : World) : Calls Tryz.prog 14 #[.int .i64 n] w fun e w' => e = .returned (DI 0 n) ∧ Below w.heap.size w w' := by
 have hw : IntKind.u64.wrap n = n := by show n % 18446744073709551616 = n; omega
 go_enter Tryz.func14, Tryz.ntmps14
 go_wp2
 go_returns
 refine ⟨?_, by go_grown⟩
 first | rfl | simp [hw]
set_option maxRecDepth 1000000 in
theorem ttext_any (s : ByteArray) (w : World) : Calls Tryz.prog 15 #[.string s] w fun e w' => e = .returned (DX 0 s) ∧ Below w.heap.size w w' := by
 go_enter Tryz.func15, Tryz.ntmps15
 go_wp2
 go_returns
 exact ⟨rfl, by go_grown⟩
theorem litU_pc {P : Nat → Prop} {g C : Nat} (hPg : P g) (dp : Int) (av : Value) (vs : List Value) (l : List UInt8) (J : World → Prop) (nx : Int) : PcJ P g C dp av vs (lit l) J J nx nx l := by
 intro w l0 E hl
 refine (lit_J (lit l) (ba l) rfl E (by rw [Lib.size_eq]; exact Nat.le_trans hl (by decide))).mono ?_
 rintro e w' ⟨h1, h2, h3⟩
 exact ⟨h1, h2, h3.mono fun k _ h => h ▸ hPg⟩
abbrev pF3 : Pc := ⟨1, [37, 91, 50, 93, 42, 46, 91, 49, 93, 42, 91, 51, 93, 102], fl0, -1, 102, ⟨2, 0, ⟨1, 2⟩⟩, ⟨2, 0, ⟨1, 1⟩⟩, ⟨1, 3⟩⟩
abbrev pX1 : Pc := ⟨1, [37, 120], fl0, -1, 120, nb0, nb0, ix0⟩
theorem prs_lv : prs [37, 91, 50, 93, 42, 46, 91, 49, 93, 42, 91, 51, 93, 102, 124, 37, 120] = [pF3, lit [124], pX1] := by rfl
abbrev lvD : List (List Value) := [[.int .i64 6, .string ⟨#[]⟩, .int .u64 2, .int .u64 0, .string ⟨#[]⟩, .slice none 0 0, .slice none 0 0, .int .i64 0], [.int .i64 6, .string ⟨#[]⟩, .int .u64 8, .int .u64 0, .string ⟨#[]⟩, .slice none 0 0, .slice none 0 0, .int .i64 0], [.int .i64 13, .string ⟨#[]⟩, .int .u64 4614256656552045848, .int .u64 0, .string ⟨#[]⟩, .slice none 0 0, .slice none 0 0, .int .i64 0], [.int .i64 16, .string ⟨#[]⟩, .int .u64 0, .int .u64 0, .string ⟨#[104, 105]⟩, .slice none 0 0, .slice none 0 0, .int .i64 0]]
abbrev lvV : List Value := [VI 0 2, VI 0 8, VF 4614256656552045848, VX 0 ⟨#[104, 105]⟩]
theorem hi_x : padS (hexS ⟨#[104, 105]⟩ false false false (-1)) false false (-1) = ⟨#[54, 56, 54, 57]⟩ := by decide +kernel
theorem lv_sprintf (A c : Nat) (hc1 : 4 ≤ c) (hc2 : c ≤ maxLen) (w : World) (he : Esc w) (hk : KN w) (hA : A < w.heap.size) (hr : w.rangeAt A 0 lvD.flatten) :
  Calls Tryz.prog 59 #[.slice none 0 0, .string ⟨#[37, 91, 50, 93, 42, 46, 91, 49, 93, 42, 91, 51, 93, 102, 124, 37, 120]⟩, .slice (some ⟨A, 0, none⟩) 4 c] w fun e w' => e = .returned (.string ⟨#[32, 32, 32, 32, 51, 46, 49, 52, 124, 54, 56, 54, 57]⟩) ∧ Below w.heap.size w w' := by
 refine sprintf_N _ _ lvV [32, 32, 32, 32, 51, 46, 49, 52, 124, 54, 56, 54, 57] w he hk (by decide) (fun W1 C b1 => ?_) (fun g C M av W1 hE => ?_)
 ·refine begun_raw W1 C 0 A c lvD lvV (Nat.lt_of_lt_of_le hA b1.size) rfl (by decide) hc1 hc2 (fun i d hi => ?_) (fun i d u hi hu => ?_)
  ·match i, hi with
   | 0, hi =>
     simp at hi
     subst hi
     exact ⟨⟨_, _, _, _, _, _, rfl⟩, fun j u hu => (b1.cell (p := ⟨A, 0 * 8 + j, none⟩) hA).trans (by have := hr (0 * 8 + j) u (by rw [← hu]; rcases j with _ | _ | _ | _ | _ | _ | _ | _ | j <;> first | rfl | (simp at hu)); simpa using this)⟩
   | 1, hi =>
     simp at hi
     subst hi
     exact ⟨⟨_, _, _, _, _, _, rfl⟩, fun j u hu => (b1.cell (p := ⟨A, 1 * 8 + j, none⟩) hA).trans (by have := hr (1 * 8 + j) u (by rw [← hu]; rcases j with _ | _ | _ | _ | _ | _ | _ | _ | j <;> first | rfl | (simp at hu)); simpa using this)⟩
   | 2, hi =>
     simp at hi
     subst hi
     exact ⟨⟨_, _, _, _, _, _, rfl⟩, fun j u hu => (b1.cell (p := ⟨A, 2 * 8 + j, none⟩) hA).trans (by have := hr (2 * 8 + j) u (by rw [← hu]; rcases j with _ | _ | _ | _ | _ | _ | _ | _ | j <;> first | rfl | (simp at hu)); simpa using this)⟩
   | 3, hi =>
     simp at hi
     subst hi
     exact ⟨⟨_, _, _, _, _, _, rfl⟩, fun j u hu => (b1.cell (p := ⟨A, 3 * 8 + j, none⟩) hA).trans (by have := hr (3 * 8 + j) u (by rw [← hu]; rcases j with _ | _ | _ | _ | _ | _ | _ | _ | j <;> first | rfl | (simp at hu)); simpa using this)⟩
  ·match i, hi, hu with
   | 0, hi, hu => simp at hi hu; subst hi hu; exact ⟨⟨_, _, rfl⟩, fun V => valueOf_I 0 2 V (by decide) (by decide) (by decide)⟩
   | 1, hi, hu => simp at hi hu; subst hi hu; exact ⟨⟨_, _, rfl⟩, fun V => valueOf_I 0 8 V (by decide) (by decide) (by decide)⟩
   | 2, hi, hu => simp at hi hu; subst hi hu; exact ⟨⟨_, _, rfl⟩, fun V => (flat_F 4614256656552045848 (by decide) (by decide)).vo V⟩
   | 3, hi, hu => simp at hi hu; subst hi hu; exact ⟨⟨_, _, rfl⟩, fun V => valueOf_X 0 ⟨#[104, 105]⟩ V (by decide) (by decide)⟩
 ·have hlen : lvV.length ≤ 1000 := by decide
  refine (format_ix ⟨#[37, 91, 50, 93, 42, 46, 91, 49, 93, 42, 91, 51, 93, 102, 124, 37, 120]⟩ (by decide) [pF3, lit [124], pX1] prs_lv pF3 rfl rfl [32, 32, 32, 32, 51, 46, 49, 52, 124, 54, 56, 54, 57] (J' := JN C M) (P := fun k => k = g) rfl (fun k hk => by omega) hE (nx' := 5) ⟨[32, 32, 32, 32, 51, 46, 49, 52], [124, 54, 56, 54, 57], 4, JN C M, ?_, ⟨[124], [54, 56, 54, 57], 4, JN C M, litU_pc (P := fun k => k = g) rfl _ _ _ _ _ _, ⟨[54, 56, 54, 57], [], 5, JN C M, ?_, ⟨rfl, rfl, rfl⟩, rfl⟩, rfl⟩, rfl⟩ (Or.inr (by decide)) (by decide)).mono ?_
  ·intro V l E hl
   refine piece_J pF3 (ba pF3.text) rfl _ 4 E fun V1 E1 => ?_
   refine dir_U pF3 (ba pF3.text) ⟨false, false, false, false, false, 8, 2, 102⟩ _ _ ⟨#[32, 32, 32, 32, 51, 46, 49, 52]⟩ 2 4 E1 (fun V2 E2 => ?_) (by decide) (tk_good 2 _ _ rfl 2 hlen) rfl (fun k hk => by omega) (fun V2 E2 => ?_) (Nat.le_trans hl (by decide))
   ·exact sized_U pF3 (ba pF3.text) false 8 2 (.inr ⟨by decide, 8, num_star ⟨2, 0, ⟨1, 2⟩⟩ rfl (-1000) 8 (tk_good 1 _ _ rfl 1 hlen) (fun V3 => numberOf_I 8 (-1000) (by decide) (by decide) (by decide) V3), .inl ⟨by decide, rfl, rfl⟩⟩) (.inr ⟨by decide, num_star ⟨2, 0, ⟨1, 1⟩⟩ rfl 0 2 (tk_good 0 _ _ rfl 3 hlen) (fun V3 => numberOf_I 2 0 (by decide) (by decide) (by decide) V3)⟩) E2
   ·refine (shown_flat (flat_F 4614256656552045848 (by decide) (by decide)) _ rfl ⟨false, false, false, false, false, 8, 2, 102⟩ (by decide) ⟨#[32, 32, 32, 32, 51, 46, 49, 52]⟩ (JN.env E2) (fun V3 _ => shaped_float _ _ _ 4614256656552045848 64 0 _ true V3 (fun V4 => pi_fix V4))).mono ?_
    rintro e V' ⟨h1, h2⟩
    exact ⟨h1, E2.up h2, .of_below h2⟩
  ·intro V l E hl
   refine piece_J pX1 (ba pX1.text) rfl _ 5 E fun V1 E1 => ?_
   refine dir_U pX1 (ba pX1.text) (bareQ 120) _ _ ⟨#[54, 56, 54, 57]⟩ 4 5 E1 (fun V2 E2 => ?_) (by decide) (tk_next 3 _ _ rfl 0 hlen) rfl (fun k hk => by omega) (fun V2 E2 => ?_) (Nat.le_trans hl (by decide))
   ·refine (sized_none pX1 (ba pX1.text) rfl rfl g V2).mono ?_
    rintro e V' ⟨h1, h2⟩
    exact ⟨h1, E2.up h2, .of_below h2⟩
   ·refine (shown_flat (flat_X ⟨#[104, 105]⟩ (by decide)) _ rfl (bareQ 120) (by decide) ⟨#[54, 56, 54, 57]⟩ (JN.env E2) (fun V3 e3 => shaped_text _ _ _ _ 0 _ true V3 e3 (fun V4 e4 => by
     have := text_x ⟨#[104, 105]⟩ false false false false false (-1) (-1) V4 e4 (by decide) (by decide)
     rw [hi_x] at this
     exact this))).mono ?_
    rintro e V' ⟨h1, h2⟩
    exact ⟨h1, E2.up h2, .of_below h2⟩
  ·rintro e w' ⟨h1, h2, h3⟩
   exact ⟨h1, ⟨_, h2.p⟩, h3⟩
theorem neP1 (c : Nat) (w : World) : (binOp BinOp.neq 61 (.pointer (some ⟨c, 0, none⟩)) (.pointer none)).run Tryz.prog w = .ok (.bool true) w := by kernel_rfl
set_option maxRecDepth 1000000 in
set_option maxHeartbeats 4000000 in
theorem tlives_any (w : World) (he : Esc w) (hk : KN w) : Calls Tryz.prog 12 #[] w fun e w' => e = .returned (.bool true) ∧ Below w.heap.size w w' := by
 have hN := new_any (.slice none 0 0) (fun a n k _ _ => a = none ∧ n = 0 ∧ k = 0) w (fun _ _ _ _ _ _ h _ => h) (fun W _ => copiedTable_nil W cloneH_nil)
 have hn := fun p w => neP1 p w
 have n2 := fun W => tnum_any 2 (by decide) (by decide) W
 have n8 := fun W => tnum_any 8 (by decide) (by decide) W
 have hx := fun W => ttext_any ⟨#[104, 105]⟩ W
 have hSp : ∀ p B c RB hi a n k W1, (w.heap.size ≤ hi ∧ hi ≤ p ∧ hi ≤ B ∧ hi ≤ c ∧ hi ≤ RB ∧ p ≠ B ∧ p ≠ c ∧ RB ≠ p ∧ RB ≠ B ∧ RB ≠ c ∧ Blk W1 p [.pointer (some ⟨B, 0, none⟩), .int .i64 0] ∧ StoM W1 B c 1 [] (.func (.func 35) #[] #[.pointer (some ⟨RB, 0, none⟩)]) 0 ∧ Blk W1 RB [.slice a n k] ∧ (a = none ∧ n = 0 ∧ k = 0)) → Below w.heap.size w W1 → ∀ W4, Below W1.heap.size W1 W4 →
   Calls Tryz.prog 24 #[.pointer (some ⟨p, 0, none⟩), .string ⟨#[37, 91, 50, 93, 42, 46, 91, 49, 93, 42, 91, 51, 93, 102, 124, 37, 120]⟩, .slice (some ⟨W4.heap.size, 0, none⟩) 4 4] (W4.alloc (.cells #[.int .i64 6, .string ⟨#[]⟩, .int .u64 2, .int .u64 0, .string ⟨#[]⟩, .slice none 0 0, .slice none 0 0, .int .i64 0, .int .i64 6, .string ⟨#[]⟩, .int .u64 8, .int .u64 0, .string ⟨#[]⟩, .slice none 0 0, .slice none 0 0, .int .i64 0, .int .i64 13, .string ⟨#[]⟩, .int .u64 4614256656552045848, .int .u64 0, .string ⟨#[]⟩, .slice none 0 0, .slice none 0 0, .int .i64 0, .int .i64 16, .string ⟨#[]⟩, .int .u64 0, .int .u64 0, .string ⟨#[104, 105]⟩, .slice none 0 0, .slice none 0 0, .int .i64 0] 30)) fun e w' => e = .returned (.string ⟨#[32, 32, 32, 32, 51, 46, 49, 52, 124, 54, 56, 54, 57]⟩) ∧ Below w.heap.size w w' := by
  rintro p B c RB hi a n k W1 ⟨a1, a2, a3, a4, a5, a6, a7, a8, a9, a10, x1, s1, r1, R1⟩ b1 W4 b4
  obtain ⟨W5, hW5⟩ : ∃ W5, W5 = W4.alloc (.cells #[.int .i64 6, .string ⟨#[]⟩, .int .u64 2, .int .u64 0, .string ⟨#[]⟩, .slice none 0 0, .slice none 0 0, .int .i64 0, .int .i64 6, .string ⟨#[]⟩, .int .u64 8, .int .u64 0, .string ⟨#[]⟩, .slice none 0 0, .slice none 0 0, .int .i64 0, .int .i64 13, .string ⟨#[]⟩, .int .u64 4614256656552045848, .int .u64 0, .string ⟨#[]⟩, .slice none 0 0, .slice none 0 0, .int .i64 0, .int .i64 16, .string ⟨#[]⟩, .int .u64 0, .int .u64 0, .string ⟨#[104, 105]⟩, .slice none 0 0, .slice none 0 0, .int .i64 0] 30) := ⟨_, rfl⟩
  have b5 : Below W4.heap.size W4 W5 := by rw [hW5]; exact (Below.refl _ _).alloc (Nat.le_refl _) _
  have y5 : Blk W5 W4.heap.size lvD.flatten := by rw [hW5]; exact Blk.new W4 lvD.flatten _
  have b15 : Below W1.heap.size W1 W5 := b4.trans (b5.mono b4.size)
  have bw5 : Below w.heap.size w W5 := b1.trans (b15.mono b1.size)
  have hA := y5.b
  rw [← hW5]
  clear hW5
  obtain ⟨rfl, rfl, rfl⟩ := R1
  have hp := x1.b
  have hB := s1.bx.b
  have hc := s1.cb
  have h45 := b4.size
  have hw1 := b1.size
  refine (sprintf_q p B c RB none 0 0 _ (.slice (some ⟨W4.heap.size, 0, none⟩) 4 4) ⟨#[32, 32, 32, 32, 51, 46, 49, 52, 124, 54, 56, 54, 57]⟩ W5 ⟨_, _, _, rfl⟩ (x1.up b15) (s1.up b15) (r1.up b15) a6 a7 a8 (fun W kW => ?_)).mono ?_
  ·have bW : Below w.heap.size w W := bw5.trans (kW.below (fun b h => by rcases h with rfl | rfl <;> omega) bw5.size)
   exact lv_sprintf W4.heap.size 4 (by decide) (by decide) W (he.below bW) (hk.up bW) (Nat.lt_of_lt_of_le hA kW.size) (y5.kx kW (by omega)).range
  ·rintro e w' ⟨rfl, k3⟩
   exact ⟨rfl, bw5.trans (k3.below (fun b h => by rcases h with rfl | rfl | rfl <;> omega) bw5.size)⟩
 clear he hk
 go_enter Tryz.func12, Tryz.ntmps12
 go_upto_region 2 with (go_at_call 23; refine hN.mono ?_; rintro e W1 ⟨p, B, c, RB, hi, a, n, k, rfl, hh, b1⟩; have hS1 := hSp p B c RB hi a n k W1 hh.out b1)
 go_wp2_with (first
  | (go_at_call_of 14 (2 : Int); refine (n2 _).mono ?_; rintro e W2 ⟨rfl, b2⟩)
  | (go_at_call_of 14 (8 : Int); refine (n8 _).mono ?_; rintro e W3 ⟨rfl, b3⟩)
  | (go_at_call 15; refine (hx _).mono ?_; rintro e W4 ⟨rfl, b4⟩; have hS4 := hS1 W4 ((b2.trans (b3.mono b2.size)).trans (b4.mono (by have := b2.size; have := b3.size; omega))))
  | (go_at_call 24; refine hS4.mono ?_; rintro e W5 ⟨rfl, b5⟩))
 go_ret
 exact ⟨rfl, b5⟩
end Go.Proofs.YtjalgdfnehgocaaGreatDoor
namespace Go.Proofs.YtjalgdfnehgocaaGreatDoor
open Go.RowKit
end Go.Proofs.YtjalgdfnehgocaaGreatDoor
namespace Go.Proofs.YtjalgdfnehgocaaGreatDoor
open Go.RowKit
end Go.Proofs.YtjalgdfnehgocaaGreatDoor
namespace Go.Proofs.YtjalgdfnehgocaaGreatDoor
open Go.RowKit
end Go.Proofs.YtjalgdfnehgocaaGreatDoor
namespace Go.Proofs.YtjalgdfnehgocaaGreatDoor
open Go.RowKit
set_option linter.unusedVariables false
theorem app_nil (s : ByteArray) : s ++ run 32 0 = s := by
 apply ByteArray.ext; rw [ByteArray.data_append]; exact Array.append_empty
theorem nil_app (c : Nat) (s : ByteArray) : run c 0 ++ s = s := by
 apply ByteArray.ext; rw [ByteArray.data_append]; exact Array.empty_append
theorem padS_short (s : ByteArray) (mi z : Bool) (wid : Int) (h : ((wdt wid : Nat) : Int) - (cntR s : Nat) ≤ 0) : padS s mi z wid = s := by
 have e : wdt (((wdt wid : Nat) : Int) - (cntR s : Nat)) = 0 := by
  generalize ((wdt wid : Nat) : Int) - (cntR s : Nat) = x at h
  unfold wdt; omega
 unfold padS
 rw [e]
 cases mi
 ·cases z
  ·exact nil_app 32 s
  ·exact nil_app 48 s
 ·exact app_nil s
end Go.Proofs.YtjalgdfnehgocaaGreatDoor
namespace Go.Proofs.YtjalgdfnehgocaaGreatDoor
open Go.RowKit
set_option linter.unusedVariables false
set_option linter.unusedSimpArgs false
abbrev hx2 (x : UInt8) : List UInt8 := [hexB false (x.toNat / 16), hexB false (x.toNat % 16)]
theorem hexGo_flat : ∀ (l : List UInt8) (i : Nat), hexGo false false false i l = l.flatMap hx2
 | [], _ => rfl
 | x :: t, i => by
   rw [hexGo, hexGo_flat t, List.flatMap_cons]
   simp [hexItem]
theorem hx2_at : ∀ (l : List UInt8) (i : Nat) (h : i < l.length), ((l.flatMap hx2).drop (2 * i)).take 2 = hx2 l[i]
 | [], _, h => by simp at h
 | x :: t, 0, _ => by simp
 | x :: t, i + 1, h => by
   rw [List.flatMap_cons, show 2 * (i + 1) = (hx2 x).length + 2 * i by simp; omega, List.drop_append, List.drop_eq_nil_of_le (by simp), List.nil_append, Nat.add_sub_cancel_left]
   exact hx2_at t i (by simpa using h)
theorem hx2_len : ∀ l : List UInt8, (l.flatMap hx2).length = 2 * l.length
 | [] => rfl
 | x :: t => by rw [List.flatMap_cons, List.length_append, hx2_len t]; simp; omega
theorem hexS_off (u : ByteArray) : hexS u false false false (-1) = ⟨(u.data.toList.flatMap hx2).toArray⟩ := by
 have e : cutB u (-1) = u := by unfold cutB; rw [if_neg (by omega)]
 unfold hexS
 rw [e, hexGo_flat]
theorem lenS_hx : ∀ n : Fin 256, lenS (digT false 16 n.val) 2 = ⟨#[hexB false (n.val / 16), hexB false (n.val % 16)]⟩ := by decide +kernel
theorem hexS_at (u : ByteArray) (i : Nat) (h : i < u.size) : (hexS u false false false (-1)).extract (2 * i) (2 * i + 2) = lenS (digT false 16 (u[i]'h).toNat) 2 := by
 have hb := (u[i]'h).toNat_lt
 rw [lenS_hx ⟨(u[i]'h).toNat, hb⟩, hexS_off]
 apply ByteArray.ext
 rw [ByteArray.data_extract]
 apply Array.ext'
 rw [Array.toList_extract]
 have hl : i < u.data.toList.length := by rw [Array.length_toList]; exact h
 have := hx2_at u.data.toList i hl
 rw [List.extract_eq_take_drop, show 2 * i + 2 - 2 * i = 2 by omega]
 exact this
theorem hexS_size (u : ByteArray) : (hexS u false false false (-1)).size = 2 * u.size := by
 rw [hexS_off]
 show (u.data.toList.flatMap hx2).toArray.size = _
 rw [List.size_toArray, hx2_len, Array.length_toList]
 rfl
end Go.Proofs.YtjalgdfnehgocaaGreatDoor
namespace Go.Proofs.YtjalgdfnehgocaaGreatDoor
open Go.RowKit
theorem decL_pt (l : List UInt8) (hl : l ≠ []) (hb : brk (Lib.decodeL l) = false) : Utf8.valid ((Lib.decodeL l).1 : Int) = true ∧ l.take (Lib.decodeL l).2 = (Utf8.encode ((Lib.decodeL l).1 : Int)).data.toList := by
 have hs : 0 < (ByteArray.mk l.toArray).size := by
  show 0 < l.toArray.size
  have : l.length ≠ 0 := fun h => hl (List.eq_nil_of_length_eq_zero h)
  simp; omega
 have e : Utf8.decode (ByteArray.mk l.toArray) 0 = Lib.decodeL l := by rw [dec_zero]
 rcases dec_some (ByteArray.mk l.toArray) hs with h | ⟨n, h1, h2, h3, h4⟩
 ·rw [e] at h
  rw [h] at hb
  exact absurd hb (by decide)
 ·have h5 := try_dec _ _ _ h3 h4
  rw [e] at h5
  obtain ⟨hv, he⟩ := h4
  rw [h5]
  refine ⟨hv, ?_⟩
  show l.take n = _
  rw [he, ext_list]
theorem decL_brk (l : List UInt8) (hb : brk (Lib.decodeL l) = true) : (Lib.decodeL l).2 = 1 := by
 simp only [brk, Bool.and_eq_true, beq_iff_eq] at hb
 exact hb.2
theorem take_one (l : List UInt8) (hl : l ≠ []) : l.take 1 = [l.getD 0 0] := by
 match l, hl with
 | x :: t, _ => rfl
def Kind (L m : List UInt8) : Prop :=
 (∃ c : Nat, Utf8.valid (c : Int) = true ∧ plainP c = true ∧ c ≠ 92 ∧ c ≠ 34 ∧ m = (Utf8.encode (c : Int)).data.toList ∧ L = m) ∨
 (∃ b : UInt8, (b = 34 ∨ b = 92) ∧ m = [b] ∧ L = [92, b]) ∨
 (∃ k : Nat, k < 7 ∧ m = [UInt8.ofNat (7 + k)] ∧ L = [92, UInt8.ofNat (escT k)]) ∨
 (∃ v : Nat, v < 256 ∧ m = [UInt8.ofNat v] ∧ L = [92, 120] ++ hexL v 2) ∨
 (∃ v : Nat, Utf8.valid (v : Int) = true ∧ v ≤ 65535 ∧ m = (Utf8.encode (v : Int)).data.toList ∧ L = [92, 117] ++ hexL v 4) ∨
 (∃ v : Nat, Utf8.valid (v : Int) = true ∧ m = (Utf8.encode (v : Int)).data.toList ∧ L = [92, 85] ++ hexL v 8)
theorem inL_kind (c : Nat) (a : Bool) (hv : Utf8.valid (c : Int) = true) : Kind (inL c 34 a) (Utf8.encode (c : Int)).data.toList := by
 unfold inL
 split
 ·rename_i h
  have hc : c < 128 := by omega
  refine .inr (.inl ⟨UInt8.ofNat c, ?_, by rw [enc1 c hc], rfl⟩)
  rcases h with rfl | rfl
  ·exact .inl rfl
  ·exact .inr rfl
 ·rename_i h
  split
  ·rename_i h1
   refine .inr (.inr (.inl ⟨c - 7, by omega, ?_, rfl⟩))
   rw [enc1 c (by omega), show 7 + (c - 7) = c by omega]
  ·split
   ·rename_i h2
    exact .inl ⟨c, hv, h2.1, by omega, by omega, rfl, rfl⟩
   ·split
    ·rename_i h3
     exact .inr (.inr (.inr (.inl ⟨c, by omega, by rw [enc1 c h3], rfl⟩)))
    ·split
     ·rename_i h4
      exact .inr (.inr (.inr (.inr (.inl ⟨c, hv, h4, rfl, rfl⟩))))
     ·exact .inr (.inr (.inr (.inr (.inr ⟨c, hv, rfl, rfl⟩))))
theorem item_kind (a : Bool) (l : List UInt8) (hl : l ≠ []) : Kind (itemL a l) (l.take (Lib.decodeL l).2) := by
 cases hb : brk (Lib.decodeL l) with
 | true =>
   unfold itemL
   rw [if_pos hb, decL_brk l hb, take_one l hl]
   exact .inr (.inr (.inr (.inl ⟨_, (l.getD 0 0).toNat_lt, by simp, rfl⟩)))
 | false =>
   obtain ⟨hv, he⟩ := decL_pt l hl hb
   unfold itemL
   rw [if_neg (by rw [hb]; simp), he]
   exact inL_kind _ a hv
theorem enc_head (c : Nat) (hv : Utf8.valid (c : Int) = true) : ∃ x t, (Utf8.encode (c : Int)).data.toList = x :: t ∧ (x = 92 → c = 92) := by
 have h := (valid_iff _).1 hv
 by_cases h1 : c < 128
 ·rw [enc1 c h1]
  refine ⟨_, _, rfl, fun h => ?_⟩
  have := congrArg UInt8.toNat h
  simp at this
  omega
 by_cases h2 : c < 2048
 ·rw [enc2 c (by omega) h2]
  refine ⟨_, _, rfl, fun h => ?_⟩
  have := congrArg UInt8.toNat h
  simp at this
  omega
 by_cases h3 : c < 65536
 ·rw [enc3 c hv (by omega) h3]
  refine ⟨_, _, rfl, fun h => ?_⟩
  have := congrArg UInt8.toNat h
  simp at this
  omega
 ·rw [enc4 c hv (by omega)]
  refine ⟨_, _, rfl, fun h => ?_⟩
  have := congrArg UInt8.toNat h
  simp at this
  omega
theorem kind_second (L m rest tl : List UInt8) (b : UInt8) (hK : Kind L m) (h : 92 :: b :: tl = L ++ rest) :
  ((b = 34 ∨ b = 92) ∧ m = [b] ∧ L.length = 2) ∨ (∃ k, k < 7 ∧ b = UInt8.ofNat (escT k) ∧ m = [UInt8.ofNat (7 + k)] ∧ L.length = 2) ∨
  (b = 120 ∧ ∃ v : Nat, v < 256 ∧ m = [UInt8.ofNat v] ∧ tl = hexL v 2 ++ rest ∧ L.length = 4) ∨
  (b = 117 ∧ ∃ v : Nat, Utf8.valid (v : Int) = true ∧ v ≤ 65535 ∧ m = (Utf8.encode (v : Int)).data.toList ∧ tl = hexL v 4 ++ rest ∧ L.length = 6) ∨
  (b = 85 ∧ ∃ v : Nat, Utf8.valid (v : Int) = true ∧ m = (Utf8.encode (v : Int)).data.toList ∧ tl = hexL v 8 ++ rest ∧ L.length = 10) := by
 rcases hK with ⟨c, hv, hp, h92, h34, hm, hL⟩ | ⟨b', hb, hm, hL⟩ | ⟨k, hk, hm, hL⟩ | ⟨v, hv, hm, hL⟩ | ⟨v, hv, hle, hm, hL⟩ | ⟨v, hv, hm, hL⟩
 ·exfalso
  obtain ⟨x, t, he, hx⟩ := enc_head c hv
  rw [hL, hm, he] at h
  have := (List.cons.inj h).1
  exact h92 (hx this.symm)
 ·rw [hL] at h ⊢
  obtain ⟨-, h2⟩ := List.cons.inj h
  obtain ⟨hb2, -⟩ := List.cons.inj h2
  rw [hb2]; exact .inl ⟨hb, hm, rfl⟩
 ·rw [hL] at h ⊢
  obtain ⟨-, h2⟩ := List.cons.inj h
  obtain ⟨hb2, -⟩ := List.cons.inj h2
  exact .inr (.inl ⟨k, hk, hb2, hm, rfl⟩)
 ·rw [hL] at h ⊢
  obtain ⟨-, h2⟩ := List.cons.inj h
  obtain ⟨hb2, h3⟩ := List.cons.inj h2
  exact .inr (.inr (.inl ⟨hb2, v, hv, hm, h3, by simp [hexL_len]⟩))
 ·rw [hL] at h ⊢
  obtain ⟨-, h2⟩ := List.cons.inj h
  obtain ⟨hb2, h3⟩ := List.cons.inj h2
  exact .inr (.inr (.inr (.inl ⟨hb2, v, hv, hle, hm, h3, by simp [hexL_len]⟩)))
 ·rw [hL] at h ⊢
  obtain ⟨-, h2⟩ := List.cons.inj h
  obtain ⟨hb2, h3⟩ := List.cons.inj h2
  exact .inr (.inr (.inr (.inr ⟨hb2, v, hv, hm, h3, by simp [hexL_len]⟩)))
theorem kind_plain (L m rest : List UInt8) (hK : Kind L m) (h : (Lib.decodeL (L ++ rest)).1 ≠ 92 ∨ (L ++ rest).length = 1) :
  (L ++ rest).take (Lib.decodeL (L ++ rest)).2 = m ∧ (Lib.decodeL (L ++ rest)).2 = L.length := by
 have key : ∀ (b : UInt8) (t : List UInt8), L = 92 :: b :: t → False := by
  intro b t hL
  have hd : Lib.decodeL (L ++ rest) = (92, 1) := by
   have := decL_enc 92 (by decide) ((b :: t) ++ rest)
   rw [hL]
   exact this
  rw [hd] at h
  rcases h with h | h
  ·exact h rfl
  ·rw [hL] at h; simp at h
 rcases hK with ⟨c, hv, hp, h92, h34, hm, hL⟩ | ⟨b', hb, hm, hL⟩ | ⟨k, hk, hm, hL⟩ | ⟨v, hv, hm, hL⟩ | ⟨v, hv, hle, hm, hL⟩ | ⟨v, hv, hm, hL⟩
 ·have hd := decL_enc c hv rest
  rw [← hm, ← hL] at hd
  have hl : (Utf8.encode (c : Int)).size = L.length := by rw [hL, hm, list_len]
  rw [hl] at hd
  rw [hd]
  refine ⟨?_, rfl⟩
  show List.take L.length _ = _
  rw [List.take_left' rfl, hL]
 ·exact (key _ _ hL).elim
 ·exact (key _ _ hL).elim
 ·exact (key _ _ hL).elim
 ·exact (key _ _ hL).elim
 ·exact (key _ _ hL).elim
end Go.Proofs.YtjalgdfnehgocaaGreatDoor
namespace Go.Proofs.YtjalgdfnehgocaaGreatDoor
open Go.RowKit
set_option linter.unusedVariables false
set_option linter.unusedSimpArgs false
theorem enc_low (c : Nat) (hv : Utf8.valid (c : Int) = true) : 1 ≤ (Utf8.encode (c : Int)).data.toList.length ∧ (128 ≤ c → 2 ≤ (Utf8.encode (c : Int)).data.toList.length) ∧ (65536 ≤ c → 3 ≤ (Utf8.encode (c : Int)).data.toList.length) := by
 have h := (valid_iff _).1 hv
 rw [enc_list c hv]
 unfold Lib.encodeRune
 rw [List.length_map]
 unfold Lib.encodeRuneZ
 refine ⟨?_, fun h1 => ?_, fun h1 => ?_⟩
 all_goals
  repeat' split
  all_goals first | (simp only [List.length_cons, List.length_nil]; omega) | (exfalso; omega)
theorem inL_len4 (c : Nat) (a : Bool) (hv : Utf8.valid (c : Int) = true) : (inL c 34 a).length ≤ 4 * (Utf8.encode (c : Int)).data.toList.length := by
 obtain ⟨h1, h2, h3⟩ := enc_low c hv
 generalize hL : (Utf8.encode (c : Int)).data.toList = L at *
 unfold inL
 rw [hL]
 split
 ·simp; omega
 ·split
  ·simp; omega
  ·split
   ·omega
   ·split
    ·simp only [List.length_cons, hexL_len]; omega
    ·rename_i h4
     split
     ·have := h2 (by omega)
      simp only [List.length_cons, hexL_len]; omega
     ·have := h3 (by omega)
      simp only [List.length_cons, hexL_len]; omega
theorem itemL_len4 (a : Bool) (l : List UInt8) (hl : l ≠ []) : (itemL a l).length ≤ 4 * (l.take (Lib.decodeL l).2).length := by
 cases hb : brk (Lib.decodeL l) with
 | true =>
   unfold itemL
   rw [if_pos hb, decL_brk l hb, take_one l hl]
   simp only [List.length_cons, List.length_nil, hexL_len]
   omega
 | false =>
   obtain ⟨hv, he⟩ := decL_pt l hl hb
   unfold itemL
   rw [if_neg (by rw [hb]; simp), he]
   exact inL_len4 _ a hv
theorem quoI_len4 (a : Bool) : ∀ (n : Nat) (l : List UInt8), l.length ≤ n → (quoI a l).length ≤ 4 * l.length
 | 0, l, h => by
   have : l = [] := List.eq_nil_of_length_eq_zero (by omega)
   subst this; simp [quoI_nil]
 | n + 1, l, h => by
   by_cases hl : l = []
   ·subst hl; simp [quoI_nil]
   ·have hw := Lib.decodeL_width l
    have hle := Lib.decodeL_le l hl
    have hn : l.length ≠ 0 := fun h => hl (List.eq_nil_of_length_eq_zero h)
    rw [quoI_step a l hl, List.length_append]
    have h1 := itemL_len4 a l hl
    have h2 := quoI_len4 a n (l.drop (Lib.decodeL l).2) (by rw [List.length_drop]; omega)
    rw [List.length_take] at h1
    rw [List.length_drop] at h2
    omega
theorem quoS_size4 (s : ByteArray) (a : Bool) : (quoS s a).size ≤ 4 * s.size + 2 := by
 have h := quoI_len4 a s.size s.data.toList (by rw [list_len]; exact Nat.le_refl _)
 rw [list_len] at h
 show (34 :: (quoI a s.data.toList ++ [34])).toArray.size ≤ _
 simp
 omega
end Go.Proofs.YtjalgdfnehgocaaGreatDoor
namespace Go.Proofs.YtjalgdfnehgocaaGreatDoor
open Go.RowKit
theorem hexL_get : ∀ (k x j : Nat), j < k → (hexL x k)[j]? = some (hexB false (x / 16 ^ (k - 1 - j) % 16))
 | 0, _, _, h => absurd h (by omega)
 | k + 1, x, j, h => by
   simp only [hexL]
   by_cases hj : j < k
   ·rw [List.getElem?_append_left (by rw [hexL_len]; exact hj), hexL_get k (x / 16) j hj, Nat.div_div_eq_div_mul, show k + 1 - 1 - j = (k - 1 - j) + 1 by omega, Nat.pow_succ, Nat.mul_comm]
   ·have : j = k := by omega
    subst this
    rw [List.getElem?_append_right (by rw [hexL_len]; exact Nat.le_refl _), hexL_len]
    simp
theorem index_hex (d : Nat) (h : d < 16) : Lib.indexByte [48, 49, 50, 51, 52, 53, 54, 55, 56, 57, 97, 98, 99, 100, 101, 102] (hexB false d) = (d : Nat) := by
 match d, h with
 | 0, _ => exact (by decide +kernel)
 | 1, _ => exact (by decide +kernel)
 | 2, _ => exact (by decide +kernel)
 | 3, _ => exact (by decide +kernel)
 | 4, _ => exact (by decide +kernel)
 | 5, _ => exact (by decide +kernel)
 | 6, _ => exact (by decide +kernel)
 | 7, _ => exact (by decide +kernel)
 | 8, _ => exact (by decide +kernel)
 | 9, _ => exact (by decide +kernel)
 | 10, _ => exact (by decide +kernel)
 | 11, _ => exact (by decide +kernel)
 | 12, _ => exact (by decide +kernel)
 | 13, _ => exact (by decide +kernel)
 | 14, _ => exact (by decide +kernel)
 | 15, _ => exact (by decide +kernel)
 | n + 16, h => omega
theorem or_nat (y d : Nat) (hy : y ≤ 1114111) (hd : d < 16) : bits .or .i32 (wrap32 ((y : Int) * 16)) (wrap32 (d : Int)) = ((y * 16 + d : Nat) : Int) := by
 have e1 : wrap32 ((y : Int) * 16) = ((y * 16 : Nat) : Int) := by unfold wrap32; omega
 have e2 : wrap32 (d : Int) = (d : Int) := by unfold wrap32; omega
 rw [e1, e2, (bits_nat .i32 31 (by decide) wraps_i32_31 (y * 16) d (by omega) (by omega)).2]
 have := Nat.two_pow_add_eq_or_of_lt (i := 4) (b := d) (by omega) y
 rw [show y * 16 = 2 ^ 4 * y by omega, ← this]
theorem num_step (s : ByteArray) (k n x : Nat) (vi : Int) (rest : List UInt8) (hx : x ≤ 1114111) (h : s.data.toList.drop 2 = hexL x k ++ rest) (hn : 2 ≤ n) (hk : n < 2 + k) (hns : n < s.size) (hv : vi = ((x / 16 ^ (k + 2 - n) : Nat) : Int)) :
  bits .or .i32 (wrap32 (vi * 16)) (wrap32 (Lib.indexByte [48, 49, 50, 51, 52, 53, 54, 55, 56, 57, 97, 98, 99, 100, 101, 102] (s[n]'hns))) = ((x / 16 ^ (k + 2 - (n + 1)) : Nat) : Int) := by
 have e0 : s.data.toList[n]? = some (s[n]'hns) := by
  rw [List.getElem?_eq_getElem (show n < s.data.toList.length by rw [list_len]; exact hns)]
  rfl
 have e1 : (s.data.toList.drop 2)[n - 2]? = some (s[n]'hns) := by
  rw [List.getElem?_drop, show 2 + (n - 2) = n by omega, e0]
 rw [h, List.getElem?_append_left (by rw [hexL_len]; omega), hexL_get k x (n - 2) (by omega)] at e1
 have e2 := Option.some.inj e1
 obtain ⟨m, hm⟩ : ∃ m, k + 2 - (n + 1) = m := ⟨_, rfl⟩
 rw [show k - 1 - (n - 2) = m by omega] at e2
 have hd : x / 16 ^ m % 16 < 16 := Nat.mod_lt _ (by omega)
 have hle : x / 16 ^ (m + 1) ≤ x := Nat.div_le_self _ _
 rw [← e2, index_hex _ hd, hv, show k + 2 - n = m + 1 by omega, or_nat _ _ (by omega) hd, hm]
 have := Nat.div_add_mod (x / 16 ^ m) 16
 have e3 : x / 16 ^ m / 16 = x / 16 ^ (m + 1) := by rw [Nat.div_div_eq_div_mul, Nat.pow_succ]
 rw [e3] at this
 congr 1
 omega
set_option maxRecDepth 1000000 in
set_option maxHeartbeats 400000 in
theorem number_any (s : ByteArray) (k : Nat) (w : World) (hs : 2 ≤ s.size) (hs' : s.size ≤ 10000000) (hk : k ≤ 8) :
  Calls Tryz.prog 61 #[.string s, .int .i64 k] w fun e w' => ∃ v : Int, e = .returned (.tuple #[.int .i32 v, .int .i64 (min (2 + k) s.size : Nat)]) ∧ w' = w ∧ (∀ x rest, x ≤ 1114111 → x < 16 ^ k → s.data.toList.drop 2 = hexL x k ++ rest → v = (x : Nat)) := by
 obtain ⟨E, hE⟩ : ∃ E : Nat, min (2 + k) s.size = E := ⟨_, rfl⟩
 have hE' : min (2 + (k : Int)) (s.size : Int) = (E : Int) := by omega
 have hE1 : 2 ≤ E ∧ E ≤ s.size ∧ E ≤ 2 + k := by omega
 rw [hE]
 go_enter Tryz.func61, Tryz.ntmps61
 go_wp2
 go_loopg [6, 8] (E - 2) (fun g v i wr => wr = w ∧ ∃ (vi : Int) (n : Nat), v = .int .i32 vi ∧ i = .int .i64 n ∧ 2 ≤ n ∧ n + g = E ∧ Hid (∀ x rest, x ≤ 1114111 → x < 16 ^ k → s.data.toList.drop 2 = hexL x k ++ rest → vi = ((x / 16 ^ (k + 2 - n) : Nat) : Int)))
 case atStart =>
  refine ⟨rfl, 0, 2, rfl, rfl, Nat.le_refl _, by omega, ?_⟩
  intro x rest hx hxk h
  rw [show k + 2 - 2 = k by omega, Nat.div_eq_of_lt hxk]; rfl
 case round =>
  obtain ⟨rfl, vi, n, rfl, rfl, hn2, hng, hv⟩ := hrel
  by_cases hlt : n < E
  ·have hns : n < s.size := by omega
   have hns' : (n : Int) < E := by omega
   go_wp2_with (go_at_call 77; refine (Tryz.strings_IndexByte _ _ _).mono ?_; rintro e w' ⟨rfl, rfl⟩)
   go_roundg (gk - 1)
   case measure => omega
   case rel =>
    refine ⟨rfl, _, n + 1, rfl, by go_num, by omega, by omega, ?_⟩
    intro x rest hx hxk h
    exact num_step s k n x vi rest hx h hn2 (by omega) hns (hv.out x rest hx hxk h)
  ·have hns' : ¬ (n : Int) < E := by omega
   go_wp2
   go_ret2
   refine ⟨vi, rfl, rfl, ?_⟩
   intro x rest hx hxk h
   have hl := congrArg List.length h
   rw [List.length_drop, list_len, List.length_append, hexL_len] at hl
   have := hv.out x rest hx hxk h
   rw [show k + 2 - n = 0 by omega] at this
   simpa using this
end Go.Proofs.YtjalgdfnehgocaaGreatDoor
