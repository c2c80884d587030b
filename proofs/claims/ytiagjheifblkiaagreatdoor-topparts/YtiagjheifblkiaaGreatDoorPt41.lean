/- UTopPa, WTopParts, Laid15P, OpenPairT: these texts in one. -/
import Derived.Test.YtiagjheifblkiaaGreatDoorPt38
import Derived.Test.YtiagjheifblkiaaGreatDoorRows
import Derived.Test.YtiagjheifblkiaaGreatDoorPt7
import Derived.Test.YtiagjheifblkiaaGreatDoorPt2
import Derived.WalkKit
import Derived.ProofKit
import Derived.LaidMore
import Derived.Lay
import Derived.OpenShut
import Derived.Stop.Joined
namespace Go.Proofs.YtiagjheifblkiaaGreatDoor
open Go.RowKit
set_option linter.unusedVariables false
set_option linter.unusedSimpArgs false
abbrev Pr1 (s : ByteArray) (d : List Value) (t : ByteArray) : Prop := ∀ (A0 : Nat) (W : World), Esc W → KN W → A0 < W.heap.size → W.rangeAt A0 0 d → Calls Tryz.prog 9 #[.slice none 0 0, .string s, .slice (some ⟨A0, 0, none⟩) 1 1] W fun e w' => e = .returned (.string t) ∧ Below W.heap.size W w'
theorem beq_nP (a b : ByteArray) (h : ¬ a = b) : (a.toList == b.toList) = false := by
 rw [Lib.toList_data, Lib.toList_data]
 apply beq_false_of_ne
 intro e
 exact h (ByteArray.ext (Array.ext' e))
def vpN : Nat → Nat
 | 0 => 118
 | 1 => 101
 | 2 => 69
 | 3 => 102
 | 4 => 70
 | 5 => 103
 | 6 => 71
 | 7 => 98
 | 8 => 120
 | _ => 88
theorem vpN_at (j : Nat) (hj : j < 10) : (ByteArray.mk #[118, 101, 69, 102, 70, 103, 71, 98, 120, 88]).extract j (j + 1) = ⟨#[UInt8.ofNat (vpN j)]⟩ := by
 have h5 : j = 0 ∨ j = 1 ∨ j = 2 ∨ j = 3 ∨ j = 4 ∨ j = 5 ∨ j = 6 ∨ j = 7 ∨ j = 8 ∨ j = 9 := by omega
 rcases h5 with rfl | rfl | rfl | rfl | rfl | rfl | rfl | rfl | rfl | rfl <;> decide
set_option maxRecDepth 1000000 in
set_option maxHeartbeats 16000000 in
theorem tpa_wv {re im m j : Nat} {S A B1 B V F1 F2 : ByteArray} (hj : m % 10 = j) (hj10 : j < 10) (hV : (ByteArray.mk #[118, 101, 69, 102, 70, 103, 71, 98, 120, 88]).extract j (j + 1) = ⟨#[118]⟩) (hF1 : (⟨#[37]⟩ : ByteArray) ++ ⟨#[118]⟩ = ⟨#[37, 118]⟩) (hF2 : (⟨#[37, 43]⟩ : ByteArray) ++ ⟨#[118]⟩ = ⟨#[37, 43, 118]⟩)
  (hPs : Pr1 ⟨#[37, 118]⟩ [.int .i64 15, .string ⟨#[]⟩, .int .u64 re, .int .u64 im, .string ⟨#[]⟩, .slice none 0 0, .slice none 0 0, .int .i64 0] S)
  (hPa : Pr1 ⟨#[37, 118]⟩ [.int .i64 13, .string ⟨#[]⟩, .int .u64 re, .int .u64 0, .string ⟨#[]⟩, .slice none 0 0, .slice none 0 0, .int .i64 0] A)
  (hPb : Pr1 ⟨#[37, 43, 118]⟩ [.int .i64 13, .string ⟨#[]⟩, .int .u64 im, .int .u64 0, .string ⟨#[]⟩, .slice none 0 0, .slice none 0 0, .int .i64 0] B1)
  (hPg : Pr1 ⟨#[37, 43, 103]⟩ [.int .i64 13, .string ⟨#[]⟩, .int .u64 im, .int .u64 0, .string ⟨#[]⟩, .slice none 0 0, .slice none 0 0, .int .i64 0] B)
  (hSp : SpC S A B true) (hS : ((⟨#[40]⟩ : ByteArray) ++ A ++ B) ++ ⟨#[105, 41]⟩ = S) (zA : A.size ≤ 100000) (zB : B.size ≤ 100000) (w : World) (hk : KN w) (he : Esc w) :
  Calls Tryz.prog 6 #[.agg #[.int .u64 re, .int .u64 im, .bool true, .int .u64 m]] w fun e w' => e = .returned (.bool true) ∧ Below w.heap.size w w' := by
 have hm1 : (m : Int) % 10 = (j : Nat) := by omega
 have hm2 : (m : Int).tmod 10 = (j : Nat) := by rw [Int.tmod_eq_emod_of_nonneg (by omega)]; exact hm1
 have hjI : (j : Int) < 10 := by omega
 have hL := fun W h1 h2 => tlives_any W h1 h2
 have y1 : ¬ 9223372036854775807 < (⟨#[40]⟩ : ByteArray).size + A.size := by rw [show (⟨#[40]⟩ : ByteArray).size = 1 from rfl]; omega
 have y2 : ¬ 9223372036854775807 < ((⟨#[40]⟩ : ByteArray) ++ A).size + B.size := by rw [app_size, show (⟨#[40]⟩ : ByteArray).size = 1 from rfl]; omega
 have y3 : ¬ 9223372036854775807 < ((⟨#[40]⟩ : ByteArray) ++ A ++ B).size + (⟨#[105, 41]⟩ : ByteArray).size := by rw [app_size, app_size, show (⟨#[40]⟩ : ByteArray).size = 1 from rfl, show (⟨#[105, 41]⟩ : ByteArray).size = 2 from rfl]; omega
 clear hj hj10 zA zB
 obtain ⟨W1, hW1⟩ : ∃ W1, W1 = w.alloc (.cells #[.int .u64 re, .int .u64 im, .bool true, .int .u64 m] 53) := ⟨_, rfl⟩
 have b1 : Below w.heap.size w W1 := by rw [hW1]; exact (Below.refl _ _).alloc (Nat.le_refl _) _
 have c0 : W1.cell? ⟨w.heap.size, 0, none⟩ = some (.int .u64 re) := by rw [hW1]; simp [go_sem]
 have c1 : W1.cell? ⟨w.heap.size, 1, none⟩ = some (.int .u64 im) := by rw [hW1]; simp [go_sem]
 have c2 : W1.cell? ⟨w.heap.size, 2, none⟩ = some (.bool true) := by rw [hW1]; simp [go_sem]
 have c3 : W1.cell? ⟨w.heap.size, 3, none⟩ = some (.int .u64 m) := by rw [hW1]; simp [go_sem]
 go_enter Tryz.func6, Tryz.ntmps6
 go_upto_region 1 with fail
 rw [← hW1]
 clear hW1
 go_region
 obtain ⟨W2, hW2⟩ : ∃ W2, W2 = W1.drew := ⟨_, rfl⟩
 have b2 : Below w.heap.size w W2 := by rw [hW2]; exact b1.drew
 rw [← hW2]
 clear hW2 b1 c0 c1 c2 c3
 go_upto_region 6 with fail
 obtain ⟨A2, hA2⟩ : ∃ A2, A2 = W2.alloc (.cells #[.int .i64 15, .string ⟨#[]⟩, .int .u64 re, .int .u64 im, .string ⟨#[]⟩, .slice none 0 0, .slice none 0 0, .int .i64 0] 29) := ⟨_, rfl⟩
 have d2 : Below W2.heap.size W2 A2 := by rw [hA2]; exact (Below.refl _ _).alloc (Nat.le_refl _) _
 have e2 : Below w.heap.size w A2 := b2.trans (d2.mono b2.size)
 have k2 : Blk A2 W2.heap.size [.int .i64 15, .string ⟨#[]⟩, .int .u64 re, .int .u64 im, .string ⟨#[]⟩, .slice none 0 0, .slice none 0 0, .int .i64 0] := by rw [hA2]; exact Blk.new W2 [.int .i64 15, .string ⟨#[]⟩, .int .u64 re, .int .u64 im, .string ⟨#[]⟩, .slice none 0 0, .slice none 0 0, .int .i64 0] _
 have c2 := hPs W2.heap.size A2 (he.below e2) (hk.up e2) k2.b k2.range
 clear d2 k2 hPs
 go_upto_region 7 with (go_at_call 9; rw [← hA2]; clear hA2; refine c2.mono ?_; rintro e W3 ⟨rfl, g2⟩)
 have b3 := e2.trans (g2.mono e2.size)
 clear c2 e2 g2 b2
 obtain ⟨A3, hA3⟩ : ∃ A3, A3 = W3.alloc (.cells #[.int .i64 13, .string ⟨#[]⟩, .int .u64 re, .int .u64 0, .string ⟨#[]⟩, .slice none 0 0, .slice none 0 0, .int .i64 0] 29) := ⟨_, rfl⟩
 have d3 : Below W3.heap.size W3 A3 := by rw [hA3]; exact (Below.refl _ _).alloc (Nat.le_refl _) _
 have e3 : Below w.heap.size w A3 := b3.trans (d3.mono b3.size)
 have k3 : Blk A3 W3.heap.size [.int .i64 13, .string ⟨#[]⟩, .int .u64 re, .int .u64 0, .string ⟨#[]⟩, .slice none 0 0, .slice none 0 0, .int .i64 0] := by rw [hA3]; exact Blk.new W3 [.int .i64 13, .string ⟨#[]⟩, .int .u64 re, .int .u64 0, .string ⟨#[]⟩, .slice none 0 0, .slice none 0 0, .int .i64 0] _
 have c3 := hPa W3.heap.size A3 (he.below e3) (hk.up e3) k3.b k3.range
 clear d3 k3 hPa
 go_upto_region 8 with (go_at_call 9; rw [← hA3]; clear hA3; refine c3.mono ?_; rintro e W4 ⟨rfl, g3⟩)
 have b4 := e3.trans (g3.mono e3.size)
 clear c3 e3 g3 b3
 obtain ⟨A4, hA4⟩ : ∃ A4, A4 = W4.alloc (.cells #[.int .i64 13, .string ⟨#[]⟩, .int .u64 im, .int .u64 0, .string ⟨#[]⟩, .slice none 0 0, .slice none 0 0, .int .i64 0] 29) := ⟨_, rfl⟩
 have d4 : Below W4.heap.size W4 A4 := by rw [hA4]; exact (Below.refl _ _).alloc (Nat.le_refl _) _
 have e4 : Below w.heap.size w A4 := b4.trans (d4.mono b4.size)
 have k4 : Blk A4 W4.heap.size [.int .i64 13, .string ⟨#[]⟩, .int .u64 im, .int .u64 0, .string ⟨#[]⟩, .slice none 0 0, .slice none 0 0, .int .i64 0] := by rw [hA4]; exact Blk.new W4 [.int .i64 13, .string ⟨#[]⟩, .int .u64 im, .int .u64 0, .string ⟨#[]⟩, .slice none 0 0, .slice none 0 0, .int .i64 0] _
 have c4 := hPb W4.heap.size A4 (he.below e4) (hk.up e4) k4.b k4.range
 clear d4 k4 hPb
 go_upto_region 9 with (go_at_call 9; rw [← hA4]; clear hA4; refine c4.mono ?_; rintro e W5 ⟨rfl, g4⟩)
 have b5 := e4.trans (g4.mono e4.size)
 clear c4 e4 g4 b4
 go_upto_region 10 with fail
 obtain ⟨A5, hA5⟩ : ∃ A5, A5 = W5.alloc (.cells #[.int .i64 13, .string ⟨#[]⟩, .int .u64 im, .int .u64 0, .string ⟨#[]⟩, .slice none 0 0, .slice none 0 0, .int .i64 0] 29) := ⟨_, rfl⟩
 have d5 : Below W5.heap.size W5 A5 := by rw [hA5]; exact (Below.refl _ _).alloc (Nat.le_refl _) _
 have e5 : Below w.heap.size w A5 := b5.trans (d5.mono b5.size)
 have k5 : Blk A5 W5.heap.size [.int .i64 13, .string ⟨#[]⟩, .int .u64 im, .int .u64 0, .string ⟨#[]⟩, .slice none 0 0, .slice none 0 0, .int .i64 0] := by rw [hA5]; exact Blk.new W5 [.int .i64 13, .string ⟨#[]⟩, .int .u64 im, .int .u64 0, .string ⟨#[]⟩, .slice none 0 0, .slice none 0 0, .int .i64 0] _
 have c5 := hPg W5.heap.size A5 (he.below e5) (hk.up e5) k5.b k5.range
 clear d5 k5 hPg
 go_upto_region 11 with (go_at_call 9; rw [← hA5]; clear hA5; refine c5.mono ?_; rintro e W6 ⟨rfl, g5⟩)
 have b6 := e5.trans (g5.mono e5.size)
 clear c5 e5 g5 b5
 go_upto_region 12 with (go_at_call 19; refine (hSp _).mono ?_; rintro e W7 ⟨rfl, g6⟩)
 have b7 := b6.trans (g6.mono b6.size)
 clear b6 g6 hSp
 have hl := hL _ (he.below b7) (hk.up b7)
 go_wp2_with (go_at_call 13; refine hl.mono ?_; rintro x w10 ⟨rfl, b10⟩)
 go_ret
 exact ⟨rfl, b7.trans (b10.mono b7.size)⟩
set_option maxRecDepth 1000000 in
set_option maxHeartbeats 16000000 in
theorem tpa_wo {re im m j : Nat} {S A B1 B V F1 F2 : ByteArray} (hj : m % 10 = j) (hj10 : j < 10) (hV : (ByteArray.mk #[118, 101, 69, 102, 70, 103, 71, 98, 120, 88]).extract j (j + 1) = V) (hV1 : V.size = 1) (hVn : ¬ V = ⟨#[118]⟩) (hF1 : (⟨#[37]⟩ : ByteArray) ++ V = F1) (hF2 : (⟨#[37, 43]⟩ : ByteArray) ++ V = F2)
  (hPs : Pr1 F1 [.int .i64 15, .string ⟨#[]⟩, .int .u64 re, .int .u64 im, .string ⟨#[]⟩, .slice none 0 0, .slice none 0 0, .int .i64 0] S)
  (hPa : Pr1 F1 [.int .i64 13, .string ⟨#[]⟩, .int .u64 re, .int .u64 0, .string ⟨#[]⟩, .slice none 0 0, .slice none 0 0, .int .i64 0] A)
  (hPb : Pr1 F2 [.int .i64 13, .string ⟨#[]⟩, .int .u64 im, .int .u64 0, .string ⟨#[]⟩, .slice none 0 0, .slice none 0 0, .int .i64 0] B)
  (hSp : SpC S A B true) (hS : ((⟨#[40]⟩ : ByteArray) ++ A ++ B) ++ ⟨#[105, 41]⟩ = S) (zA : A.size ≤ 100000) (zB : B.size ≤ 100000) (w : World) (hk : KN w) (he : Esc w) :
  Calls Tryz.prog 6 #[.agg #[.int .u64 re, .int .u64 im, .bool true, .int .u64 m]] w fun e w' => e = .returned (.bool true) ∧ Below w.heap.size w w' := by
 have hm1 : (m : Int) % 10 = (j : Nat) := by omega
 have hm2 : (m : Int).tmod 10 = (j : Nat) := by rw [Int.tmod_eq_emod_of_nonneg (by omega)]; exact hm1
 have hjI : (j : Int) < 10 := by omega
 have hL := fun W h1 h2 => tlives_any W h1 h2
 have y1 : ¬ 9223372036854775807 < (⟨#[40]⟩ : ByteArray).size + A.size := by rw [show (⟨#[40]⟩ : ByteArray).size = 1 from rfl]; omega
 have y2 : ¬ 9223372036854775807 < ((⟨#[40]⟩ : ByteArray) ++ A).size + B.size := by rw [app_size, show (⟨#[40]⟩ : ByteArray).size = 1 from rfl]; omega
 have y3 : ¬ 9223372036854775807 < ((⟨#[40]⟩ : ByteArray) ++ A ++ B).size + (⟨#[105, 41]⟩ : ByteArray).size := by rw [app_size, app_size, show (⟨#[40]⟩ : ByteArray).size = 1 from rfl, show (⟨#[105, 41]⟩ : ByteArray).size = 2 from rfl]; omega
 have y4 : ¬ 9223372036854775807 < (⟨#[37]⟩ : ByteArray).size + V.size := by rw [show (⟨#[37]⟩ : ByteArray).size = 1 from rfl]; omega
 have y5 : ¬ 9223372036854775807 < (⟨#[37, 43]⟩ : ByteArray).size + V.size := by rw [show (⟨#[37, 43]⟩ : ByteArray).size = 2 from rfl]; omega
 have y6 : (V.toList == [118]) = false := by simpa using beq_nP V ⟨#[118]⟩ hVn
 clear hV1
 clear hj hj10 zA zB
 obtain ⟨W1, hW1⟩ : ∃ W1, W1 = w.alloc (.cells #[.int .u64 re, .int .u64 im, .bool true, .int .u64 m] 53) := ⟨_, rfl⟩
 have b1 : Below w.heap.size w W1 := by rw [hW1]; exact (Below.refl _ _).alloc (Nat.le_refl _) _
 have c0 : W1.cell? ⟨w.heap.size, 0, none⟩ = some (.int .u64 re) := by rw [hW1]; simp [go_sem]
 have c1 : W1.cell? ⟨w.heap.size, 1, none⟩ = some (.int .u64 im) := by rw [hW1]; simp [go_sem]
 have c2 : W1.cell? ⟨w.heap.size, 2, none⟩ = some (.bool true) := by rw [hW1]; simp [go_sem]
 have c3 : W1.cell? ⟨w.heap.size, 3, none⟩ = some (.int .u64 m) := by rw [hW1]; simp [go_sem]
 go_enter Tryz.func6, Tryz.ntmps6
 go_upto_region 1 with fail
 rw [← hW1]
 clear hW1
 go_region
 obtain ⟨W2, hW2⟩ : ∃ W2, W2 = W1.drew := ⟨_, rfl⟩
 have b2 : Below w.heap.size w W2 := by rw [hW2]; exact b1.drew
 rw [← hW2]
 clear hW2 b1 c0 c1 c2 c3
 go_upto_region 6 with fail
 obtain ⟨A2, hA2⟩ : ∃ A2, A2 = W2.alloc (.cells #[.int .i64 15, .string ⟨#[]⟩, .int .u64 re, .int .u64 im, .string ⟨#[]⟩, .slice none 0 0, .slice none 0 0, .int .i64 0] 29) := ⟨_, rfl⟩
 have d2 : Below W2.heap.size W2 A2 := by rw [hA2]; exact (Below.refl _ _).alloc (Nat.le_refl _) _
 have e2 : Below w.heap.size w A2 := b2.trans (d2.mono b2.size)
 have k2 : Blk A2 W2.heap.size [.int .i64 15, .string ⟨#[]⟩, .int .u64 re, .int .u64 im, .string ⟨#[]⟩, .slice none 0 0, .slice none 0 0, .int .i64 0] := by rw [hA2]; exact Blk.new W2 [.int .i64 15, .string ⟨#[]⟩, .int .u64 re, .int .u64 im, .string ⟨#[]⟩, .slice none 0 0, .slice none 0 0, .int .i64 0] _
 have c2 := hPs W2.heap.size A2 (he.below e2) (hk.up e2) k2.b k2.range
 clear d2 k2 hPs
 go_upto_region 7 with (go_at_call 9; rw [← hA2]; clear hA2; refine c2.mono ?_; rintro e W3 ⟨rfl, g2⟩)
 have b3 := e2.trans (g2.mono e2.size)
 clear c2 e2 g2 b2
 obtain ⟨A3, hA3⟩ : ∃ A3, A3 = W3.alloc (.cells #[.int .i64 13, .string ⟨#[]⟩, .int .u64 re, .int .u64 0, .string ⟨#[]⟩, .slice none 0 0, .slice none 0 0, .int .i64 0] 29) := ⟨_, rfl⟩
 have d3 : Below W3.heap.size W3 A3 := by rw [hA3]; exact (Below.refl _ _).alloc (Nat.le_refl _) _
 have e3 : Below w.heap.size w A3 := b3.trans (d3.mono b3.size)
 have k3 : Blk A3 W3.heap.size [.int .i64 13, .string ⟨#[]⟩, .int .u64 re, .int .u64 0, .string ⟨#[]⟩, .slice none 0 0, .slice none 0 0, .int .i64 0] := by rw [hA3]; exact Blk.new W3 [.int .i64 13, .string ⟨#[]⟩, .int .u64 re, .int .u64 0, .string ⟨#[]⟩, .slice none 0 0, .slice none 0 0, .int .i64 0] _
 have c3 := hPa W3.heap.size A3 (he.below e3) (hk.up e3) k3.b k3.range
 clear d3 k3 hPa
 go_upto_region 8 with (go_at_call 9; rw [← hA3]; clear hA3; refine c3.mono ?_; rintro e W4 ⟨rfl, g3⟩)
 have b4 := e3.trans (g3.mono e3.size)
 clear c3 e3 g3 b3
 obtain ⟨A4, hA4⟩ : ∃ A4, A4 = W4.alloc (.cells #[.int .i64 13, .string ⟨#[]⟩, .int .u64 im, .int .u64 0, .string ⟨#[]⟩, .slice none 0 0, .slice none 0 0, .int .i64 0] 29) := ⟨_, rfl⟩
 have d4 : Below W4.heap.size W4 A4 := by rw [hA4]; exact (Below.refl _ _).alloc (Nat.le_refl _) _
 have e4 : Below w.heap.size w A4 := b4.trans (d4.mono b4.size)
 have k4 : Blk A4 W4.heap.size [.int .i64 13, .string ⟨#[]⟩, .int .u64 im, .int .u64 0, .string ⟨#[]⟩, .slice none 0 0, .slice none 0 0, .int .i64 0] := by rw [hA4]; exact Blk.new W4 [.int .i64 13, .string ⟨#[]⟩, .int .u64 im, .int .u64 0, .string ⟨#[]⟩, .slice none 0 0, .slice none 0 0, .int .i64 0] _
 have c4 := hPb W4.heap.size A4 (he.below e4) (hk.up e4) k4.b k4.range
 clear d4 k4 hPb
 go_upto_region 9 with (go_at_call 9; rw [← hA4]; clear hA4; refine c4.mono ?_; rintro e W5 ⟨rfl, g4⟩)
 have b5 := e4.trans (g4.mono e4.size)
 clear c4 e4 g4 b4
 go_upto_region 11 with fail
 go_upto_region 12 with (go_at_call 19; refine (hSp _).mono ?_; rintro e W6 ⟨rfl, g5⟩)
 have b6 := b5.trans (g5.mono b5.size)
 clear b5 g5 hSp
 have hl := hL _ (he.below b6) (hk.up b6)
 go_wp2_with (go_at_call 13; refine hl.mono ?_; rintro x w10 ⟨rfl, b10⟩)
 go_ret
 exact ⟨rfl, b6.trans (b10.mono b6.size)⟩
set_option maxRecDepth 1000000 in
set_option maxHeartbeats 16000000 in
theorem tpa_nv {re im m j : Nat} {S A B1 B V F1 F2 : ByteArray} (hj : m % 10 = j) (hj10 : j < 10) (hV : (ByteArray.mk #[118, 101, 69, 102, 70, 103, 71, 98, 120, 88]).extract j (j + 1) = ⟨#[118]⟩) (hF1 : (⟨#[37]⟩ : ByteArray) ++ ⟨#[118]⟩ = ⟨#[37, 118]⟩) (hF2 : (⟨#[37, 43]⟩ : ByteArray) ++ ⟨#[118]⟩ = ⟨#[37, 43, 118]⟩)
  (hPs : Pr1 ⟨#[37, 118]⟩ [.int .i64 14, .string ⟨#[]⟩, .int .u64 re, .int .u64 im, .string ⟨#[]⟩, .slice none 0 0, .slice none 0 0, .int .i64 0] S)
  (hPa : Pr1 ⟨#[37, 118]⟩ [.int .i64 12, .string ⟨#[]⟩, .int .u64 re, .int .u64 0, .string ⟨#[]⟩, .slice none 0 0, .slice none 0 0, .int .i64 0] A)
  (hPb : Pr1 ⟨#[37, 43, 118]⟩ [.int .i64 12, .string ⟨#[]⟩, .int .u64 im, .int .u64 0, .string ⟨#[]⟩, .slice none 0 0, .slice none 0 0, .int .i64 0] B1)
  (hPg : Pr1 ⟨#[37, 43, 103]⟩ [.int .i64 12, .string ⟨#[]⟩, .int .u64 im, .int .u64 0, .string ⟨#[]⟩, .slice none 0 0, .slice none 0 0, .int .i64 0] B)
  (hSp : SpC S A B true) (hS : ((⟨#[40]⟩ : ByteArray) ++ A ++ B) ++ ⟨#[105, 41]⟩ = S) (zA : A.size ≤ 100000) (zB : B.size ≤ 100000) (w : World) (hk : KN w) (he : Esc w) :
  Calls Tryz.prog 6 #[.agg #[.int .u64 re, .int .u64 im, .bool false, .int .u64 m]] w fun e w' => e = .returned (.bool true) ∧ Below w.heap.size w w' := by
 have hm1 : (m : Int) % 10 = (j : Nat) := by omega
 have hm2 : (m : Int).tmod 10 = (j : Nat) := by rw [Int.tmod_eq_emod_of_nonneg (by omega)]; exact hm1
 have hjI : (j : Int) < 10 := by omega
 have hL := fun W h1 h2 => tlives_any W h1 h2
 have y1 : ¬ 9223372036854775807 < (⟨#[40]⟩ : ByteArray).size + A.size := by rw [show (⟨#[40]⟩ : ByteArray).size = 1 from rfl]; omega
 have y2 : ¬ 9223372036854775807 < ((⟨#[40]⟩ : ByteArray) ++ A).size + B.size := by rw [app_size, show (⟨#[40]⟩ : ByteArray).size = 1 from rfl]; omega
 have y3 : ¬ 9223372036854775807 < ((⟨#[40]⟩ : ByteArray) ++ A ++ B).size + (⟨#[105, 41]⟩ : ByteArray).size := by rw [app_size, app_size, show (⟨#[40]⟩ : ByteArray).size = 1 from rfl, show (⟨#[105, 41]⟩ : ByteArray).size = 2 from rfl]; omega
 clear hj hj10 zA zB
 obtain ⟨W1, hW1⟩ : ∃ W1, W1 = w.alloc (.cells #[.int .u64 re, .int .u64 im, .bool false, .int .u64 m] 53) := ⟨_, rfl⟩
 have b1 : Below w.heap.size w W1 := by rw [hW1]; exact (Below.refl _ _).alloc (Nat.le_refl _) _
 have c0 : W1.cell? ⟨w.heap.size, 0, none⟩ = some (.int .u64 re) := by rw [hW1]; simp [go_sem]
 have c1 : W1.cell? ⟨w.heap.size, 1, none⟩ = some (.int .u64 im) := by rw [hW1]; simp [go_sem]
 have c2 : W1.cell? ⟨w.heap.size, 2, none⟩ = some (.bool false) := by rw [hW1]; simp [go_sem]
 have c3 : W1.cell? ⟨w.heap.size, 3, none⟩ = some (.int .u64 m) := by rw [hW1]; simp [go_sem]
 go_enter Tryz.func6, Tryz.ntmps6
 go_upto_region 1 with fail
 rw [← hW1]
 clear hW1
 go_region
 obtain ⟨W2, hW2⟩ : ∃ W2, W2 = W1.drew := ⟨_, rfl⟩
 have b2 : Below w.heap.size w W2 := by rw [hW2]; exact b1.drew
 rw [← hW2]
 clear hW2 b1 c0 c1 c2 c3
 go_upto_region 6 with fail
 obtain ⟨A2, hA2⟩ : ∃ A2, A2 = W2.alloc (.cells #[.int .i64 14, .string ⟨#[]⟩, .int .u64 re, .int .u64 im, .string ⟨#[]⟩, .slice none 0 0, .slice none 0 0, .int .i64 0] 29) := ⟨_, rfl⟩
 have d2 : Below W2.heap.size W2 A2 := by rw [hA2]; exact (Below.refl _ _).alloc (Nat.le_refl _) _
 have e2 : Below w.heap.size w A2 := b2.trans (d2.mono b2.size)
 have k2 : Blk A2 W2.heap.size [.int .i64 14, .string ⟨#[]⟩, .int .u64 re, .int .u64 im, .string ⟨#[]⟩, .slice none 0 0, .slice none 0 0, .int .i64 0] := by rw [hA2]; exact Blk.new W2 [.int .i64 14, .string ⟨#[]⟩, .int .u64 re, .int .u64 im, .string ⟨#[]⟩, .slice none 0 0, .slice none 0 0, .int .i64 0] _
 have c2 := hPs W2.heap.size A2 (he.below e2) (hk.up e2) k2.b k2.range
 clear d2 k2 hPs
 go_upto_region 7 with (go_at_call 9; rw [← hA2]; clear hA2; refine c2.mono ?_; rintro e W3 ⟨rfl, g2⟩)
 have b3 := e2.trans (g2.mono e2.size)
 clear c2 e2 g2 b2
 obtain ⟨A3, hA3⟩ : ∃ A3, A3 = W3.alloc (.cells #[.int .i64 12, .string ⟨#[]⟩, .int .u64 re, .int .u64 0, .string ⟨#[]⟩, .slice none 0 0, .slice none 0 0, .int .i64 0] 29) := ⟨_, rfl⟩
 have d3 : Below W3.heap.size W3 A3 := by rw [hA3]; exact (Below.refl _ _).alloc (Nat.le_refl _) _
 have e3 : Below w.heap.size w A3 := b3.trans (d3.mono b3.size)
 have k3 : Blk A3 W3.heap.size [.int .i64 12, .string ⟨#[]⟩, .int .u64 re, .int .u64 0, .string ⟨#[]⟩, .slice none 0 0, .slice none 0 0, .int .i64 0] := by rw [hA3]; exact Blk.new W3 [.int .i64 12, .string ⟨#[]⟩, .int .u64 re, .int .u64 0, .string ⟨#[]⟩, .slice none 0 0, .slice none 0 0, .int .i64 0] _
 have c3 := hPa W3.heap.size A3 (he.below e3) (hk.up e3) k3.b k3.range
 clear d3 k3 hPa
 go_upto_region 8 with (go_at_call 9; rw [← hA3]; clear hA3; refine c3.mono ?_; rintro e W4 ⟨rfl, g3⟩)
 have b4 := e3.trans (g3.mono e3.size)
 clear c3 e3 g3 b3
 obtain ⟨A4, hA4⟩ : ∃ A4, A4 = W4.alloc (.cells #[.int .i64 12, .string ⟨#[]⟩, .int .u64 im, .int .u64 0, .string ⟨#[]⟩, .slice none 0 0, .slice none 0 0, .int .i64 0] 29) := ⟨_, rfl⟩
 have d4 : Below W4.heap.size W4 A4 := by rw [hA4]; exact (Below.refl _ _).alloc (Nat.le_refl _) _
 have e4 : Below w.heap.size w A4 := b4.trans (d4.mono b4.size)
 have k4 : Blk A4 W4.heap.size [.int .i64 12, .string ⟨#[]⟩, .int .u64 im, .int .u64 0, .string ⟨#[]⟩, .slice none 0 0, .slice none 0 0, .int .i64 0] := by rw [hA4]; exact Blk.new W4 [.int .i64 12, .string ⟨#[]⟩, .int .u64 im, .int .u64 0, .string ⟨#[]⟩, .slice none 0 0, .slice none 0 0, .int .i64 0] _
 have c4 := hPb W4.heap.size A4 (he.below e4) (hk.up e4) k4.b k4.range
 clear d4 k4 hPb
 go_upto_region 9 with (go_at_call 9; rw [← hA4]; clear hA4; refine c4.mono ?_; rintro e W5 ⟨rfl, g4⟩)
 have b5 := e4.trans (g4.mono e4.size)
 clear c4 e4 g4 b4
 go_upto_region 10 with fail
 obtain ⟨A5, hA5⟩ : ∃ A5, A5 = W5.alloc (.cells #[.int .i64 12, .string ⟨#[]⟩, .int .u64 im, .int .u64 0, .string ⟨#[]⟩, .slice none 0 0, .slice none 0 0, .int .i64 0] 29) := ⟨_, rfl⟩
 have d5 : Below W5.heap.size W5 A5 := by rw [hA5]; exact (Below.refl _ _).alloc (Nat.le_refl _) _
 have e5 : Below w.heap.size w A5 := b5.trans (d5.mono b5.size)
 have k5 : Blk A5 W5.heap.size [.int .i64 12, .string ⟨#[]⟩, .int .u64 im, .int .u64 0, .string ⟨#[]⟩, .slice none 0 0, .slice none 0 0, .int .i64 0] := by rw [hA5]; exact Blk.new W5 [.int .i64 12, .string ⟨#[]⟩, .int .u64 im, .int .u64 0, .string ⟨#[]⟩, .slice none 0 0, .slice none 0 0, .int .i64 0] _
 have c5 := hPg W5.heap.size A5 (he.below e5) (hk.up e5) k5.b k5.range
 clear d5 k5 hPg
 go_upto_region 11 with (go_at_call 9; rw [← hA5]; clear hA5; refine c5.mono ?_; rintro e W6 ⟨rfl, g5⟩)
 have b6 := e5.trans (g5.mono e5.size)
 clear c5 e5 g5 b5
 go_upto_region 12 with (go_at_call 19; refine (hSp _).mono ?_; rintro e W7 ⟨rfl, g6⟩)
 have b7 := b6.trans (g6.mono b6.size)
 clear b6 g6 hSp
 have hl := hL _ (he.below b7) (hk.up b7)
 go_wp2_with (go_at_call 13; refine hl.mono ?_; rintro x w10 ⟨rfl, b10⟩)
 go_ret
 exact ⟨rfl, b7.trans (b10.mono b7.size)⟩
set_option maxRecDepth 1000000 in
set_option maxHeartbeats 16000000 in
theorem tpa_no {re im m j : Nat} {S A B1 B V F1 F2 : ByteArray} (hj : m % 10 = j) (hj10 : j < 10) (hV : (ByteArray.mk #[118, 101, 69, 102, 70, 103, 71, 98, 120, 88]).extract j (j + 1) = V) (hV1 : V.size = 1) (hVn : ¬ V = ⟨#[118]⟩) (hF1 : (⟨#[37]⟩ : ByteArray) ++ V = F1) (hF2 : (⟨#[37, 43]⟩ : ByteArray) ++ V = F2)
  (hPs : Pr1 F1 [.int .i64 14, .string ⟨#[]⟩, .int .u64 re, .int .u64 im, .string ⟨#[]⟩, .slice none 0 0, .slice none 0 0, .int .i64 0] S)
  (hPa : Pr1 F1 [.int .i64 12, .string ⟨#[]⟩, .int .u64 re, .int .u64 0, .string ⟨#[]⟩, .slice none 0 0, .slice none 0 0, .int .i64 0] A)
  (hPb : Pr1 F2 [.int .i64 12, .string ⟨#[]⟩, .int .u64 im, .int .u64 0, .string ⟨#[]⟩, .slice none 0 0, .slice none 0 0, .int .i64 0] B)
  (hSp : SpC S A B true) (hS : ((⟨#[40]⟩ : ByteArray) ++ A ++ B) ++ ⟨#[105, 41]⟩ = S) (zA : A.size ≤ 100000) (zB : B.size ≤ 100000) (w : World) (hk : KN w) (he : Esc w) :
  Calls Tryz.prog 6 #[.agg #[.int .u64 re, .int .u64 im, .bool false, .int .u64 m]] w fun e w' => e = .returned (.bool true) ∧ Below w.heap.size w w' := by
 have hm1 : (m : Int) % 10 = (j : Nat) := by omega
 have hm2 : (m : Int).tmod 10 = (j : Nat) := by rw [Int.tmod_eq_emod_of_nonneg (by omega)]; exact hm1
 have hjI : (j : Int) < 10 := by omega
 have hL := fun W h1 h2 => tlives_any W h1 h2
 have y1 : ¬ 9223372036854775807 < (⟨#[40]⟩ : ByteArray).size + A.size := by rw [show (⟨#[40]⟩ : ByteArray).size = 1 from rfl]; omega
 have y2 : ¬ 9223372036854775807 < ((⟨#[40]⟩ : ByteArray) ++ A).size + B.size := by rw [app_size, show (⟨#[40]⟩ : ByteArray).size = 1 from rfl]; omega
 have y3 : ¬ 9223372036854775807 < ((⟨#[40]⟩ : ByteArray) ++ A ++ B).size + (⟨#[105, 41]⟩ : ByteArray).size := by rw [app_size, app_size, show (⟨#[40]⟩ : ByteArray).size = 1 from rfl, show (⟨#[105, 41]⟩ : ByteArray).size = 2 from rfl]; omega
 have y4 : ¬ 9223372036854775807 < (⟨#[37]⟩ : ByteArray).size + V.size := by rw [show (⟨#[37]⟩ : ByteArray).size = 1 from rfl]; omega
 have y5 : ¬ 9223372036854775807 < (⟨#[37, 43]⟩ : ByteArray).size + V.size := by rw [show (⟨#[37, 43]⟩ : ByteArray).size = 2 from rfl]; omega
 have y6 : (V.toList == [118]) = false := by simpa using beq_nP V ⟨#[118]⟩ hVn
 clear hV1
 clear hj hj10 zA zB
 obtain ⟨W1, hW1⟩ : ∃ W1, W1 = w.alloc (.cells #[.int .u64 re, .int .u64 im, .bool false, .int .u64 m] 53) := ⟨_, rfl⟩
 have b1 : Below w.heap.size w W1 := by rw [hW1]; exact (Below.refl _ _).alloc (Nat.le_refl _) _
 have c0 : W1.cell? ⟨w.heap.size, 0, none⟩ = some (.int .u64 re) := by rw [hW1]; simp [go_sem]
 have c1 : W1.cell? ⟨w.heap.size, 1, none⟩ = some (.int .u64 im) := by rw [hW1]; simp [go_sem]
 have c2 : W1.cell? ⟨w.heap.size, 2, none⟩ = some (.bool false) := by rw [hW1]; simp [go_sem]
 have c3 : W1.cell? ⟨w.heap.size, 3, none⟩ = some (.int .u64 m) := by rw [hW1]; simp [go_sem]
 go_enter Tryz.func6, Tryz.ntmps6
 go_upto_region 1 with fail
 rw [← hW1]
 clear hW1
 go_region
 obtain ⟨W2, hW2⟩ : ∃ W2, W2 = W1.drew := ⟨_, rfl⟩
 have b2 : Below w.heap.size w W2 := by rw [hW2]; exact b1.drew
 rw [← hW2]
 clear hW2 b1 c0 c1 c2 c3
 go_upto_region 6 with fail
 obtain ⟨A2, hA2⟩ : ∃ A2, A2 = W2.alloc (.cells #[.int .i64 14, .string ⟨#[]⟩, .int .u64 re, .int .u64 im, .string ⟨#[]⟩, .slice none 0 0, .slice none 0 0, .int .i64 0] 29) := ⟨_, rfl⟩
 have d2 : Below W2.heap.size W2 A2 := by rw [hA2]; exact (Below.refl _ _).alloc (Nat.le_refl _) _
 have e2 : Below w.heap.size w A2 := b2.trans (d2.mono b2.size)
 have k2 : Blk A2 W2.heap.size [.int .i64 14, .string ⟨#[]⟩, .int .u64 re, .int .u64 im, .string ⟨#[]⟩, .slice none 0 0, .slice none 0 0, .int .i64 0] := by rw [hA2]; exact Blk.new W2 [.int .i64 14, .string ⟨#[]⟩, .int .u64 re, .int .u64 im, .string ⟨#[]⟩, .slice none 0 0, .slice none 0 0, .int .i64 0] _
 have c2 := hPs W2.heap.size A2 (he.below e2) (hk.up e2) k2.b k2.range
 clear d2 k2 hPs
 go_upto_region 7 with (go_at_call 9; rw [← hA2]; clear hA2; refine c2.mono ?_; rintro e W3 ⟨rfl, g2⟩)
 have b3 := e2.trans (g2.mono e2.size)
 clear c2 e2 g2 b2
 obtain ⟨A3, hA3⟩ : ∃ A3, A3 = W3.alloc (.cells #[.int .i64 12, .string ⟨#[]⟩, .int .u64 re, .int .u64 0, .string ⟨#[]⟩, .slice none 0 0, .slice none 0 0, .int .i64 0] 29) := ⟨_, rfl⟩
 have d3 : Below W3.heap.size W3 A3 := by rw [hA3]; exact (Below.refl _ _).alloc (Nat.le_refl _) _
 have e3 : Below w.heap.size w A3 := b3.trans (d3.mono b3.size)
 have k3 : Blk A3 W3.heap.size [.int .i64 12, .string ⟨#[]⟩, .int .u64 re, .int .u64 0, .string ⟨#[]⟩, .slice none 0 0, .slice none 0 0, .int .i64 0] := by rw [hA3]; exact Blk.new W3 [.int .i64 12, .string ⟨#[]⟩, .int .u64 re, .int .u64 0, .string ⟨#[]⟩, .slice none 0 0, .slice none 0 0, .int .i64 0] _
 have c3 := hPa W3.heap.size A3 (he.below e3) (hk.up e3) k3.b k3.range
 clear d3 k3 hPa
 go_upto_region 8 with (go_at_call 9; rw [← hA3]; clear hA3; refine c3.mono ?_; rintro e W4 ⟨rfl, g3⟩)
 have b4 := e3.trans (g3.mono e3.size)
 clear c3 e3 g3 b3
 obtain ⟨A4, hA4⟩ : ∃ A4, A4 = W4.alloc (.cells #[.int .i64 12, .string ⟨#[]⟩, .int .u64 im, .int .u64 0, .string ⟨#[]⟩, .slice none 0 0, .slice none 0 0, .int .i64 0] 29) := ⟨_, rfl⟩
 have d4 : Below W4.heap.size W4 A4 := by rw [hA4]; exact (Below.refl _ _).alloc (Nat.le_refl _) _
 have e4 : Below w.heap.size w A4 := b4.trans (d4.mono b4.size)
 have k4 : Blk A4 W4.heap.size [.int .i64 12, .string ⟨#[]⟩, .int .u64 im, .int .u64 0, .string ⟨#[]⟩, .slice none 0 0, .slice none 0 0, .int .i64 0] := by rw [hA4]; exact Blk.new W4 [.int .i64 12, .string ⟨#[]⟩, .int .u64 im, .int .u64 0, .string ⟨#[]⟩, .slice none 0 0, .slice none 0 0, .int .i64 0] _
 have c4 := hPb W4.heap.size A4 (he.below e4) (hk.up e4) k4.b k4.range
 clear d4 k4 hPb
 go_upto_region 9 with (go_at_call 9; rw [← hA4]; clear hA4; refine c4.mono ?_; rintro e W5 ⟨rfl, g4⟩)
 have b5 := e4.trans (g4.mono e4.size)
 clear c4 e4 g4 b4
 go_upto_region 11 with fail
 go_upto_region 12 with (go_at_call 19; refine (hSp _).mono ?_; rintro e W6 ⟨rfl, g5⟩)
 have b6 := b5.trans (g5.mono b5.size)
 clear b5 g5 hSp
 have hl := hL _ (he.below b6) (hk.up b6)
 go_wp2_with (go_at_call 13; refine hl.mono ?_; rintro x w10 ⟨rfl, b10⟩)
 go_ret
 exact ⟨rfl, b6.trans (b10.mono b6.size)⟩
end Go.Proofs.YtiagjheifblkiaaGreatDoor
namespace Go.Proofs.YtiagjheifblkiaaGreatDoor
open Go.RowKit
set_option linter.unusedVariables false
set_option linter.unusedSimpArgs false
theorem ap1 (a : UInt8) : (⟨#[37]⟩ : ByteArray) ++ ⟨#[a]⟩ = ⟨#[37, a]⟩ := by
 apply ByteArray.ext; apply Array.ext'
 rw [app_list]; rfl
theorem ap2 (a : UInt8) : (⟨#[37, 43]⟩ : ByteArray) ++ ⟨#[a]⟩ = ⟨#[37, 43, a]⟩ := by
 apply ByteArray.ext; apply Array.ext'
 rw [app_list]; rfl
theorem vp_prs (j : Nat) (hj : j < 10) : ∃ p, prs (⟨#[37, UInt8.ofNat (vpN j)]⟩ : ByteArray).data.toList = [p] ∧ p.kind = 1 ∧ p.wid.k = 0 ∧ p.prec.k = 0 ∧ p.arg.k = 0 ∧ p.wid.a.k = 0 ∧ p.prec.a.k = 0 ∧ p.verb = vpN j ∧ spQ p = ⟨false, false, false, false, false, -1, -1, (vpN j : Nat)⟩ := by
 have h5 : j = 0 ∨ j = 1 ∨ j = 2 ∨ j = 3 ∨ j = 4 ∨ j = 5 ∨ j = 6 ∨ j = 7 ∨ j = 8 ∨ j = 9 := by omega
 rcases h5 with rfl | rfl | rfl | rfl | rfl | rfl | rfl | rfl | rfl | rfl <;> exact ⟨_, rfl, rfl, rfl, rfl, rfl, rfl, rfl, rfl, rfl⟩
theorem vp_prs2 (j : Nat) (hj : j < 10) : ∃ p, prs (⟨#[37, 43, UInt8.ofNat (vpN j)]⟩ : ByteArray).data.toList = [p] ∧ p.kind = 1 ∧ p.wid.k = 0 ∧ p.prec.k = 0 ∧ p.arg.k = 0 ∧ p.wid.a.k = 0 ∧ p.prec.a.k = 0 ∧ p.verb = vpN j ∧ spQ p = ⟨true, false, false, false, false, -1, -1, (vpN j : Nat)⟩ := by
 have h5 : j = 0 ∨ j = 1 ∨ j = 2 ∨ j = 3 ∨ j = 4 ∨ j = 5 ∨ j = 6 ∨ j = 7 ∨ j = 8 ∨ j = 9 := by omega
 rcases h5 with rfl | rfl | rfl | rfl | rfl | rfl | rfl | rfl | rfl | rfl <;> exact ⟨_, rfl, rfl, rfl, rfl, rfl, rfl, rfl, rfl, rfl⟩
theorem vp_in (j : Nat) (hj : j < 10) : fVerb (vpN j : Nat) = true ∧ ¬ vpN j = 37 ∧ ¬ vpN j = 84 ∧ (¬ j = 0 → ¬ vpN j = 118) := by
 have h5 : j = 0 ∨ j = 1 ∨ j = 2 ∨ j = 3 ∨ j = 4 ∨ j = 5 ∨ j = 6 ∨ j = 7 ∨ j = 8 ∨ j = 9 := by omega
 rcases h5 with rfl | rfl | rfl | rfl | rfl | rfl | rfl | rfl | rfl | rfl <;> exact ⟨by decide, by decide, by decide, by decide⟩
theorem n_bytes (j : Nat) (hj : j < 10) (h : ¬ j = 0) : ¬ (⟨#[UInt8.ofNat (vpN j)]⟩ : ByteArray) = ⟨#[118]⟩ := by
 have h5 : j = 0 ∨ j = 1 ∨ j = 2 ∨ j = 3 ∨ j = 4 ∨ j = 5 ∨ j = 6 ∨ j = 7 ∨ j = 8 ∨ j = 9 := by omega
 rcases h5 with rfl | rfl | rfl | rfl | rfl | rfl | rfl | rfl | rfl | rfl
 ·exact absurd rfl h
 all_goals decide
theorem tp_prints {K P re im r i f ww I j : Nat} {n half least : Int} (hK : K = 14 ∨ K = 15) (hP : P = 12 ∨ P = 13) (hr : r < 18446744073709551616) (hi : i < 18446744073709551616) (hLy : Ly half f ww least I) (hz : SzP n half true)
  (hf : Flat (VP K r i) (.int .i64 K) (.string ⟨#[]⟩) (.int .u64 re) (.int .u64 im) (.string ⟨#[]⟩) (.int .i64 0) K 0 337 (.agg #[.int .u64 r, .int .u64 i, .int .i64 n]))
  (hfR : Flat (VFk P r) (.int .i64 P) (.string ⟨#[]⟩) (.int .u64 re) (.int .u64 0) (.string ⟨#[]⟩) (.int .i64 0) P 0 335 (.agg #[.int .u64 r, .int .i64 half]))
  (hfI : Flat (VFk P i) (.int .i64 P) (.string ⟨#[]⟩) (.int .u64 im) (.int .u64 0) (.string ⟨#[]⟩) (.int .i64 0) P 0 335 (.agg #[.int .u64 i, .int .i64 half])) (hj : j < 10) :
  ∃ S A B B1 : ByteArray, Pr1 ⟨#[37, UInt8.ofNat (vpN j)]⟩ [.int .i64 K, .string ⟨#[]⟩, .int .u64 re, .int .u64 im, .string ⟨#[]⟩, .slice none 0 0, .slice none 0 0, .int .i64 0] S ∧ Pr1 ⟨#[37, UInt8.ofNat (vpN j)]⟩ [.int .i64 P, .string ⟨#[]⟩, .int .u64 re, .int .u64 0, .string ⟨#[]⟩, .slice none 0 0, .slice none 0 0, .int .i64 0] A
    ∧ Pr1 ⟨#[37, 43, UInt8.ofNat (vpN j)]⟩ [.int .i64 P, .string ⟨#[]⟩, .int .u64 im, .int .u64 0, .string ⟨#[]⟩, .slice none 0 0, .slice none 0 0, .int .i64 0] B1 ∧ (¬ j = 0 → B1 = B) ∧ (j = 0 → Pr1 ⟨#[37, 43, 103]⟩ [.int .i64 P, .string ⟨#[]⟩, .int .u64 im, .int .u64 0, .string ⟨#[]⟩, .slice none 0 0, .slice none 0 0, .int .i64 0] B)
    ∧ SpC S A B true ∧ ((⟨#[40]⟩ : ByteArray) ++ A ++ B) ++ ⟨#[105, 41]⟩ = S ∧ A.size ≤ 100000 ∧ B.size ≤ 100000 := by
 obtain ⟨hv, hn37, hn84, hn118⟩ := vp_in j hj
 have hvb : (((if j = 0 then 103 else vpN j : Nat) : Nat) : Int) = (vpN j : Nat) ∨ (((vpN j : Nat) : Int) = 118 ∧ (((if j = 0 then 103 else vpN j : Nat) : Nat) : Int) = 103) := by
  by_cases h0 : j = 0
  ·subst h0
   exact .inr ⟨rfl, rfl⟩
  ·rw [if_neg h0]; exact .inl rfl
 obtain ⟨s0, s1, T, fA, -, -, shA, zs0, hs1, zT⟩ := fl_part hLy hr (verb := (vpN j : Nat)) hv (.inl rfl)
 obtain ⟨t0, t1, U, fB0, fB, fBg, shB, zt0, ht1, zU⟩ := fl_part hLy hi hv hvb
 have zt1 : t1.size = 1 := by rcases ht1 with rfl | rfl <;> rfl
 have zA : (s0 ++ T).size ≤ 1201 := by rw [app_size]; omega
 have zB : (t1 ++ U).size ≤ 1201 := by rw [app_size]; omega
 have zB0 : (t0 ++ U).size ≤ 1201 := by rw [app_size]; omega
 have hC := cx_yes false false false false false (-1) (-1) (vpN j : Nat) hz fA fB (by omega) (by omega)
 have hSp := split_pair shA shB ht1 zs0 (by omega) (by omega)
 obtain ⟨p, a1, a2, a3, a4, a5, a6, a7, a8, a9⟩ := vp_prs j hj
 obtain ⟨q, c1, c2, c3, c4, c5, c6, c7, c8, c9⟩ := vp_prs2 j hj
 have zS : (((⟨#[40]⟩ : ByteArray) ++ (s0 ++ T) ++ (t1 ++ U)) ++ ⟨#[105, 41]⟩).size ≤ 4096 := by
  rw [app_size, app_size, app_size, show (⟨#[40]⟩ : ByteArray).size = 1 from rfl, show (⟨#[105, 41]⟩ : ByteArray).size = 2 from rfl]; omega
 refine ⟨_, s0 ++ T, t1 ++ U, if j = 0 then t0 ++ U else t1 ++ U, fun A0 W he hk hA hd => ?_, fun A0 W he hk hA hd => ?_, fun A0 W he hk hA hd => ?_, fun h => if_neg h, fun h A0 W he hk hA hd => ?_, hSp, rfl, by omega, by omega⟩
 ·refine pr_P1 _ p a1 (by show 2 ≤ 1000; decide) a2 a3 a4 a5 a6 a7 (by rw [a8]; exact hn37) (by rw [a8]; exact hn84) hK hf ?_ zS A0 1 (by decide) (by decide) W he hk hA hd
  rw [a9]
  exact hC
 ·refine pr_F9 _ p a1 (by show 2 ≤ 1000; decide) a2 a3 a4 a5 a6 a7 (by rw [a8]; exact hn37) (by rw [a8]; exact hn84) hP hfR ?_ (by omega) A0 1 (by decide) (by decide) W he hk hA hd
  rw [a9]
  exact fA
 ·refine pr_F9 _ q c1 (by show 3 ≤ 1000; decide) c2 c3 c4 c5 c6 c7 (by rw [c8]; exact hn37) (by rw [c8]; exact hn84) hP hfI ?_ (by split <;> omega) A0 1 (by decide) (by decide) W he hk hA hd
  rw [c9]
  by_cases h0 : j = 0
  ·subst h0
   exact fB0
  ·rw [if_neg h0]
   have e : numQ ⟨true, false, false, false, false, -1, -1, (vpN j : Nat)⟩ = ⟨true, false, false, false, false, -1, -1, (vpN j : Nat)⟩ := by
    unfold numQ
    have : decide (((vpN j : Nat) : Int) = 118) = false := decide_eq_false (by have := hn118 h0; omega)
    simp [this]
   rw [e]
   exact fB
 ·subst h
  obtain ⟨q2, e1, e2, e3, e4, e5, e6, e7, e8, e9⟩ := vp_prs2 5 (by decide)
  refine pr_F9 _ q2 e1 (by decide) e2 e3 e4 e5 e6 e7 (by rw [e8]; decide) (by rw [e8]; decide) hP hfI ?_ (by omega) A0 1 (by decide) (by decide) W he hk hA hd
  rw [e9]
  exact fBg
theorem topParts_walk (x y : Int) (b : Bool) (m0 : Int) (hx : (Lit.int .u64 x).wf = true) (hy : (Lit.int .u64 y).wf = true) (hm : (Lit.int .u64 m0).wf = true) (w : World) (hk : KN w) (he : Esc w) :
  Calls Tryz.prog 6 #[.agg #[.int .u64 x, .int .u64 y, .bool b, .int .u64 m0]] w fun e w' => e = .returned (.bool true) ∧ Below w.heap.size w w' := by
 have hx := wfu64 _ hx
 have hy := wfu64 _ hy
 have hm := wfu64 _ hm
 obtain ⟨re, rfl⟩ := Int.eq_ofNat_of_zero_le hx.1
 obtain ⟨im, rfl⟩ := Int.eq_ofNat_of_zero_le hy.1
 obtain ⟨m, rfl⟩ := Int.eq_ofNat_of_zero_le hm.1
 obtain ⟨j, hj⟩ : ∃ j, m % 10 = j := ⟨_, rfl⟩
 have hj10 : j < 10 := by omega
 have hV := vpN_at j hj10
 cases b
 ·have e0 : ((re % 4294967296 : Nat) : Int) = (re : Int) % 4294967296 := by omega
  have e1 : ((im % 4294967296 : Nat) : Int) = (im : Int) % 4294967296 := by omega
  have f0 := flat_P14 (re : Int) (im : Int) (by omega) (by omega) (by omega) (by omega)
  have f1 := flat_F12 (re : Int) (by omega) (by omega)
  have f2 := flat_F12 (im : Int) (by omega) (by omega)
  rw [← e0, ← e1] at f0
  rw [← e0] at f1
  rw [← e1] at f2
  obtain ⟨S, A, B, B1, hPs, hPa, hPb, hB, hPg, hSp, hS, zA, zB⟩ := tp_prints (K := 14) (P := 12) (.inl rfl) (.inl rfl) (by omega) (by omega) lyA szp64 f0 f1 f2 hj10
  by_cases h0 : j = 0
  ·subst h0
   exact tpa_nv (V := ⟨#[]⟩) (F1 := ⟨#[]⟩) (F2 := ⟨#[]⟩) hj hj10 hV (ap1 118) (ap2 118) hPs hPa hPb (hPg rfl) hSp hS zA zB w hk he
  ·rw [hB h0] at hPb
   exact tpa_no (B1 := ⟨#[]⟩) hj hj10 hV rfl (n_bytes j hj10 h0) (ap1 _) (ap2 _) hPs hPa hPb hSp hS zA zB w hk he
 ·have f0 := flat_P15 (re : Int) (im : Int) (by omega) (by omega) (by omega) (by omega)
  have f1 := flat_Fk (k := 13) (b := (re : Int)) (.inl ⟨rfl, rfl⟩) (by omega) (by omega)
  have f2 := flat_Fk (k := 13) (b := (im : Int)) (.inl ⟨rfl, rfl⟩) (by omega) (by omega)
  obtain ⟨S, A, B, B1, hPs, hPa, hPb, hB, hPg, hSp, hS, zA, zB⟩ := tp_prints (K := 15) (P := 13) (.inr rfl) (.inr rfl) (by omega) (by omega) lyB szp128 f0 f1 f2 hj10
  by_cases h0 : j = 0
  ·subst h0
   exact tpa_wv (V := ⟨#[]⟩) (F1 := ⟨#[]⟩) (F2 := ⟨#[]⟩) hj hj10 hV (ap1 118) (ap2 118) hPs hPa hPb (hPg rfl) hSp hS zA zB w hk he
  ·rw [hB h0] at hPb
   exact tpa_wo (B1 := ⟨#[]⟩) hj hj10 hV rfl (n_bytes j hj10 h0) (ap1 _) (ap2 _) hPs hPa hPb hSp hS zA zB w hk he
end Go.Proofs.YtiagjheifblkiaaGreatDoor
namespace Go.Proofs.YtiagjheifblkiaaGreatDoor
open Go.ChangeShapes Go.WideShapes Go.ChangeAt Go.RowKit
theorem laid.own : ownKnob Tryz.prog.godebug = none := by kernel_rfl
theorem laid.tEsc : (Tryz.prog.globals[4]?).map (·.type) = some 381 := by kernel_rfl
theorem laid.door_met (os : Os) (args : Array Value) : laidMetH Tryz.prog Rows.topPartsRow.laid ((World.laidAll Tryz.prog os Rows.topPartsRow.laid).forCall (fun _ _ => 0) ⟨#[], args, []⟩).memory := by
 rw [MakeChecks.laidMetH_plain _ _ _ (by kernel_rfl)]
 exact laidMet_laidAll _ (by kernel_rfl) (by kernel_rfl)
theorem kn_of {W : World} (h : laidMetH Tryz.prog Rows.topPartsRow.laid W) : KN W := by
 rw [MakeChecks.laidMetH_plain _ _ _ (by kernel_rfl)] at h
 obtain ⟨ps, ⟨_, _, _, _, _, _, _, _, _, _, ⟨g', t', cs, fuel, p, q, hg', ht', hvar, hd, _, _⟩, _⟩, _, _⟩ := h
 have hg : Tryz.prog.globalNamed "platen/values.kindNames" = some 3 := by kernel_rfl
 have hty : (Tryz.prog.globals[3]?).map (·.type) = some 232 := by kernel_rfl
 obtain rfl := Option.some.inj (hg.symm.trans hg')
 obtain rfl := Option.some.inj (hty.symm.trans ht')
 obtain ⟨xs, m, -, hx, -, hxl, hf⟩ := DataW.trod_array Tryz.underlying232 hd
 have hce : Tryz.prog.cellsOf 9 = 1 := by kernel_rfl
 intro i s hs
 have hi : i < 23 := by
  have := (List.getElem?_eq_some_iff.1 hs).1
  simpa [kindN] using this
 have hfi := hf i hi
 obtain ⟨y, hy⟩ : ∃ y, xs[i]? = some y := ⟨xs[i]'(by omega), List.getElem?_eq_getElem (by omega)⟩
 rw [hy, hce, Nat.mul_one] at hfi
 obtain ⟨s', hc, hy1, -⟩ := DataW.trod_string Tryz.underlying9 hfi
 have hlist : xs.map (·.1) = kindN.map fun s => (DataW.lit (.string s.data.toList) : DataW Unit) := by
  have h1 : (DataW.agg (kindN.map fun s => (DataW.lit (.string s.data.toList) : DataW Unit)) : DataW Unit) = .agg (xs.map (·.1)) := congrArg Prod.fst hx
  exact (DataW.agg.inj h1).symm
 have h2 : (xs.map (·.1))[i]? = some y.1 := by rw [List.getElem?_map, hy]; rfl
 rw [hlist, List.getElem?_map, hs] at h2
 have h3 : (DataW.lit (.string s.data.toList) : DataW Unit) = y.1 := Option.some.inj h2
 rw [hy1] at h3
 have h4 : s.data.toList = s'.data.toList := Lit.string.inj (DataW.lit.inj h3)
 have h5 : s = s' := by
  obtain ⟨⟨a⟩⟩ := s
  obtain ⟨⟨b⟩⟩ := s'
  simp only at h4
  rw [h4]
 have h6 : cs[i]? = some (.string s') := by
  have := congrArg (·[0]?) hc
  simpa [List.getElem?_take, List.getElem?_drop] using this
 rw [World.var?_cell hg hvar i, h6, h5]
theorem laid.room {W : World} {p : Addr} {v : Value} (h : W.cell? p = some v) : p.block < W.heap.size := by
 rcases Nat.lt_or_ge p.block W.heap.size with h1 | h1
 ·exact h1
 ·simp [World.cell?, Array.getElem?_eq_none h1] at h
theorem laid.get (l : List Value) (i : Nat) (v : Value) (h : (l.drop i).take 1 = [v]) : l[i]? = some v := by
 have h2 := congrArg (fun x => x[0]?) h
 simpa [List.getElem?_take, List.getElem?_drop] using h2
set_option maxRecDepth 1000000 in
theorem esc_of {W : World} (h : laidMetH Tryz.prog Rows.topPartsRow.laid W) : Esc W := by
 rw [MakeChecks.laidMetH_plain _ _ _ (by kernel_rfl)] at h
 obtain ⟨ps, ⟨_, _, _, _, _, _, _, _, _, _, ⟨_, _, _, _, _, _, _, _, _, _, ⟨g0, t0, cs0, f0, p0, q0, hg0, ht0, hv0, hd0, _, _⟩, _⟩, _⟩, _, _⟩ := h
 obtain rfl : 4 = g0 := Option.some.inj (Eq.trans (Eq.symm (by kernel_rfl)) hg0)
 obtain rfl := Option.some.inj (laid.tEsc.symm.trans ht0)
 obtain ⟨xs, m1, rfl, hx1, hlen, hn, hel⟩ := DataW.trod_array Tryz.underlying381 hd0
 have c1 : Tryz.prog.cellsOf 21 = 1 := by kernel_rfl
 have c7 : Tryz.prog.cellsOf 381 = 7 := by kernel_rfl
 simp only [Prod.mk.injEq, Rows.laid_platen_quote_escapes, DataW.agg.injEq] at hx1
 have key : ∀ i, i < 7 → W.cell? ⟨4, i, none⟩ = some (.int .i32 (escT i : Nat)) := by
  intro i hi
  have hcell := World.var?_cell hg0 hv0 i
  have h0 := hel i hi
  have hx : ∃ x, xs[i]? = some x ∧ x.1 = .lit (.int .i32 (escT i : Nat)) := by
   match xs, hn, hx1 with
   | [x0, x1, x2, x3, x4, x5, x6], _, hx1 =>
     simp only [List.map_cons, List.map_nil, List.cons.injEq] at hx1
     obtain ⟨⟨e0, e1, e2, e3, e4, e5, e6, -⟩, -⟩ := hx1
     match i, hi with
     | 0, _ => exact ⟨x0, rfl, e0.symm⟩
     | 1, _ => exact ⟨x1, rfl, e1.symm⟩
     | 2, _ => exact ⟨x2, rfl, e2.symm⟩
     | 3, _ => exact ⟨x3, rfl, e3.symm⟩
     | 4, _ => exact ⟨x4, rfl, e4.symm⟩
     | 5, _ => exact ⟨x5, rfl, e5.symm⟩
     | 6, _ => exact ⟨x6, rfl, e6.symm⟩
     | n + 7, hi => omega
  obtain ⟨x, hxi, hxv⟩ := hx
  rw [hxi, c1, Nat.mul_one] at h0
  obtain ⟨k, f1, f2, _⟩ := DataW.trod_int Tryz.underlying21 h0
  rw [f2] at hxv
  have hk : k = (escT i : Nat) := by simpa using hxv
  rw [hk] at f1
  rw [hcell]
  have := laid.get _ _ _ f1
  simpa using this
 exact ⟨laid.room (key 0 (by omega)), key⟩
end Go.Proofs.YtiagjheifblkiaaGreatDoor
namespace Go.Proofs.YtiagjheifblkiaaGreatDoor
open Go.ChangeShapes Go.WideShapes Go.ChangeAt Go.RowKit
theorem array4p {α : Type} {cs : Array α} (h : cs.size = 4) : ∃ c0 c1 c2 c3, cs = #[c0, c1, c2, c3] := by
 obtain ⟨l⟩ := cs
 match l, h with
 | [c0, c1, c2, c3], _ => exact ⟨c0, c1, c2, c3, rfl⟩
theorem cellsU64p : Tryz.prog.cellsOf 22 = 1 := by kernel_rfl
theorem cellsUintp : Tryz.prog.cellsOf 25 = 1 := by kernel_rfl
theorem cellsBoolp : Tryz.prog.cellsOf 4 = 1 := by kernel_rfl
theorem cellsPairT : Tryz.prog.cellsOf 53 = 4 := by kernel_rfl
set_option maxRecDepth 1000000 in
theorem open_pairT {H : Type} {enc : TypeId × Value → H} {W : World} {base : Nat} {v : Value} {d : DataW H} {p : List MemPlace}
  (hv : Value.okWide Tryz.prog W .any base 53 v) (h : DataW.Trod enc Tryz.prog W 0 (fun _ => true) true 53 v d p) :
  ∃ (x y : Int) (b : Bool) (k : Int), v = .agg #[.int .u64 x, .int .u64 y, .bool b, .int .u64 k] ∧ (Lit.int .u64 x).wf = true ∧ (Lit.int .u64 y).wf = true ∧ (Lit.int .u64 k).wf = true := by
 obtain ⟨cs, rfl, hsz⟩ := okWide_struct Tryz.underlying53 hv
 obtain ⟨c0, c1, c2, c3, rfl⟩ := array4p (hsz.trans cellsPairT)
 obtain ⟨fuel, hf0⟩ := h
 obtain ⟨xs, n, _, _, _, hlen, hf⟩ := DataW.trod_struct Tryz.underlying53 hf0
 match xs, hlen with
 | [y0, y1, y2, y3], _ =>
   have g0 : DataW.trod enc Tryz.prog W 0 (fun _ => true) true n 22 [c0] = some y0 := by simpa [Value.cells, cellsU64p] using hf 0 _ rfl
   have g1 : DataW.trod enc Tryz.prog W 0 (fun _ => true) true n 22 [c1] = some y1 := by simpa [Value.cells, cellsU64p] using hf 1 _ rfl
   have g2 : DataW.trod enc Tryz.prog W 0 (fun _ => true) true n 4 [c2] = some y2 := by simpa [Value.cells, cellsU64p, cellsBoolp] using hf 2 _ rfl
   have g3 : DataW.trod enc Tryz.prog W 0 (fun _ => true) true n 25 [c3] = some y3 := by simpa [Value.cells, cellsU64p, cellsBoolp, cellsUintp] using hf 3 _ rfl
   obtain ⟨x, e0, _, w0⟩ := DataW.trod_int Tryz.underlying22 g0
   obtain ⟨y, e1, _, w1⟩ := DataW.trod_int Tryz.underlying22 g1
   obtain ⟨b, e2, _⟩ := DataW.trod_bool Tryz.underlying4 g2
   obtain ⟨k, e3, _, w3⟩ := DataW.trod_int Tryz.underlying25 g3
   simp only [List.cons.injEq, and_true] at e0 e1 e2 e3
   subst e0 e1 e2 e3
   exact ⟨x, y, b, k, rfl, w0, w1, w3⟩
end Go.Proofs.YtiagjheifblkiaaGreatDoor
