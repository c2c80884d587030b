/- Inq, Inq2, Quot: these texts in one. -/
import Derived.Test.YtdlnmnipnkeabaaGreatDoorPt3
namespace Go.Proofs.YtdlnmnipnkeabaaGreatDoor
open Go.RowKit
def Esc (w : World) : Prop := 2 < w.heap.size ∧ ∀ i, i < 7 → w.cell? ⟨2, i, none⟩ = some (.int .i32 (escT i : Nat))
theorem Esc.below {w w' : World} (h : Esc w) (hb : Below w.heap.size w w') : Esc w' :=
 ⟨Nat.lt_of_lt_of_le h.1 hb.size, fun i hi => by rw [hb.cell (p := ⟨2, i, none⟩) h.1]; exact h.2 i hi⟩
set_option maxRecDepth 1000000 in
set_option maxHeartbeats 800000 in
theorem broken_any (c : Nat) (s : ByteArray) (w : World) (hc : c = (dec s).1) :
  Calls Tryz.prog 160 #[.int .i32 c, .string s] w fun e w' => e = .returned (.bool (brk (dec s))) ∧ Below w.heap.size w w' := by
 subst hc
 by_cases h1 : (dec s).1 = 65533
 ·have h1' : (((dec s).1 : Nat) : Int) = 65533 := by omega
  by_cases h2 : (dec s).2 = 1
  ·have h2' : (((dec s).2 : Nat) : Int) = 1 := by omega
   have hb : brk (dec s) = true := by simp [brk, h1, h2]
   rw [hb]
   go_enter Tryz.func160, Tryz.ntmps160
   go_wp2_with (go_at_call 62; refine (decode_any s _).mono ?_; rintro e w1 ⟨rfl, hb1⟩)
   go_ret
   exact ⟨rfl, hb1⟩
  ·have h2' : ¬ (((dec s).2 : Nat) : Int) = 1 := by omega
   have hb : brk (dec s) = false := by simp [brk, h1, h2]
   rw [hb]
   go_enter Tryz.func160, Tryz.ntmps160
   go_wp2_with (go_at_call 62; refine (decode_any s _).mono ?_; rintro e w1 ⟨rfl, hb1⟩)
   go_ret
   exact ⟨by simp [h2'], hb1⟩
 ·have h1' : ¬ (((dec s).1 : Nat) : Int) = 65533 := by omega
  have hb : brk (dec s) = false := by simp [brk, h1]
  rw [hb]
  go_enter Tryz.func160, Tryz.ntmps160
  go_wp2_with (go_at_call 62; refine (decode_any s _).mono ?_; rintro e w1 ⟨rfl, hb1⟩)
  go_ret
  exact ⟨rfl, Below.refl _ _⟩
theorem inL_q (c q : Nat) (a : Bool) (h : c = q ∨ c = 92) : inL c q a = [92, UInt8.ofNat c] := by unfold inL; rw [if_pos h]
theorem inL_e (c q : Nat) (a : Bool) (h : ¬ (c = q ∨ c = 92)) (h1 : 7 ≤ c ∧ c ≤ 13) : inL c q a = [92, UInt8.ofNat (escT (c - 7))] := by unfold inL; rw [if_neg h, if_pos h1]
theorem inL_p (c q : Nat) (a : Bool) (h : ¬ (c = q ∨ c = 92)) (h1 : ¬ (7 ≤ c ∧ c ≤ 13)) (h2 : plainP c = true ∧ (c ≤ 126 ∨ a = false)) : inL c q a = (Utf8.encode (c : Int)).data.toList := by unfold inL; rw [if_neg h, if_neg h1, if_pos h2]
theorem inL_x (c q : Nat) (a : Bool) (h : ¬ (c = q ∨ c = 92)) (h1 : ¬ (7 ≤ c ∧ c ≤ 13)) (h2 : ¬ (plainP c = true ∧ (c ≤ 126 ∨ a = false))) (h3 : c < 128) : inL c q a = [92, 120] ++ hexL c 2 := by unfold inL; rw [if_neg h, if_neg h1, if_neg h2, if_pos h3]; rfl
theorem inL_u (c q : Nat) (a : Bool) (h : ¬ (c = q ∨ c = 92)) (h1 : ¬ (7 ≤ c ∧ c ≤ 13)) (h2 : ¬ (plainP c = true ∧ (c ≤ 126 ∨ a = false))) (h3 : ¬ c < 128) (h4 : c ≤ 65535) : inL c q a = [92, 117] ++ hexL c 4 := by unfold inL; rw [if_neg h, if_neg h1, if_neg h2, if_neg h3, if_pos h4]; rfl
theorem inL_U (c q : Nat) (a : Bool) (h : ¬ (c = q ∨ c = 92)) (h1 : ¬ (7 ≤ c ∧ c ≤ 13)) (h2 : ¬ (plainP c = true ∧ (c ≤ 126 ∨ a = false))) (h3 : ¬ c < 128) (h4 : ¬ c ≤ 65535) : inL c q a = [92, 85] ++ hexL c 8 := by unfold inL; rw [if_neg h, if_neg h1, if_neg h2, if_neg h3, if_neg h4]; rfl
theorem hex_size (c k : Nat) : (ByteArray.mk (hexL c k).toArray).size = k := by
 show (hexL c k).toArray.size = k
 simp [hexL_len]
theorem rune_is (c : Int) (t : ByteArray) (h : Utf8.encode c = t) (w : World) :
  Calls Tryz.prog 10 #[.int .i32 c] w fun e w' => e = .returned (.string t) ∧ w' = w := by rw [← h]; exact rune_any c w
set_option maxRecDepth 1000000 in
set_option maxHeartbeats 400000 in
theorem inq_q (c q : Nat) (a : Bool) (w : World) (hq : q < 128) (h : c = q ∨ c = 92) :
  Calls Tryz.prog 162 #[.int .i32 c, .int .i32 q, .bool a] w fun e w' => e = .returned (.string ⟨(inL c q a).toArray⟩) ∧ Below w.heap.size w w' := by
 rw [inL_q c q a h]
 have hc : c < 128 := by omega
 have he : (ByteArray.mk #[92]) ++ Utf8.encode (c : Int) = ⟨[92, UInt8.ofNat c].toArray⟩ := by rw [enc1 c hc]; rfl
 have hsz := enc_size_le (c : Int)
 obtain ⟨r, hr⟩ : ∃ r, (⟨[92, UInt8.ofNat c].toArray⟩ : ByteArray) = r := ⟨_, rfl⟩
 rw [hr] at he ⊢
 obtain ⟨t, ht⟩ : ∃ t, Utf8.encode (c : Int) = t := ⟨_, rfl⟩
 rw [ht] at he hsz
 have hsum : ¬ 9223372036854775807 < (ByteArray.mk #[92]).size + t.size := by
  show ¬ 9223372036854775807 < 1 + t.size
  omega
 by_cases h1 : c = q
 ·subst h1
  go_enter Tryz.func162, Tryz.ntmps162
  go_wp2_with (go_at_call 10; refine (rune_is _ t ht _).mono ?_; rintro e w' ⟨rfl, rfl⟩)
  go_ret
  exact ⟨rfl, Below.refl _ _⟩
 ·obtain rfl : c = 92 := by omega
  have h1' : ¬ (92 : Int) = (q : Int) := by omega
  go_enter Tryz.func162, Tryz.ntmps162
  go_wp2_with (go_at_call 10; refine (rune_is _ t ht _).mono ?_; rintro e w' ⟨rfl, rfl⟩)
  go_ret
  exact ⟨rfl, Below.refl _ _⟩
set_option maxRecDepth 1000000 in
set_option maxHeartbeats 400000 in
theorem inq_e0 (q : Nat) (a : Bool) (w : World) (hE : Esc w) (hq : 14 ≤ q) :
  Calls Tryz.prog 162 #[.int .i32 7, .int .i32 q, .bool a] w fun e w' => e = .returned (.string ⟨#[92, UInt8.ofNat (escT 0)]⟩) ∧ Below w.heap.size w w' := by
 have h1 : ¬ (7 : Int) = (q : Int) := by omega
 have hg : w.cell? ⟨2, 0, none⟩ = some (.int .i32 97) := hE.2 0 (by omega)
 have he : (ByteArray.mk #[92]) ++ Utf8.encode 97 = ⟨#[92, UInt8.ofNat (escT 0)]⟩ := by decide +kernel
 have hsz := enc_size_le 97
 obtain ⟨r, hr⟩ : ∃ r, (⟨#[92, UInt8.ofNat (escT 0)]⟩ : ByteArray) = r := ⟨_, rfl⟩
 rw [hr] at he ⊢
 obtain ⟨t, ht⟩ : ∃ t, Utf8.encode 97 = t := ⟨_, rfl⟩
 rw [ht] at he hsz
 have hsum : ¬ 9223372036854775807 < (ByteArray.mk #[92]).size + t.size := by
  show ¬ 9223372036854775807 < 1 + t.size
  omega
 go_enter Tryz.func162, Tryz.ntmps162
 go_wp2_with (go_at_call 10; refine (rune_is _ t ht _).mono ?_; rintro e w' ⟨rfl, rfl⟩)
 go_ret
 exact ⟨rfl, Below.refl _ _⟩
set_option maxRecDepth 1000000 in
set_option maxHeartbeats 400000 in
theorem inq_e1 (q : Nat) (a : Bool) (w : World) (hE : Esc w) (hq : 14 ≤ q) :
  Calls Tryz.prog 162 #[.int .i32 8, .int .i32 q, .bool a] w fun e w' => e = .returned (.string ⟨#[92, UInt8.ofNat (escT 1)]⟩) ∧ Below w.heap.size w w' := by
 have h1 : ¬ (8 : Int) = (q : Int) := by omega
 have hg : w.cell? ⟨2, 1, none⟩ = some (.int .i32 98) := hE.2 1 (by omega)
 have he : (ByteArray.mk #[92]) ++ Utf8.encode 98 = ⟨#[92, UInt8.ofNat (escT 1)]⟩ := by decide +kernel
 have hsz := enc_size_le 98
 obtain ⟨r, hr⟩ : ∃ r, (⟨#[92, UInt8.ofNat (escT 1)]⟩ : ByteArray) = r := ⟨_, rfl⟩
 rw [hr] at he ⊢
 obtain ⟨t, ht⟩ : ∃ t, Utf8.encode 98 = t := ⟨_, rfl⟩
 rw [ht] at he hsz
 have hsum : ¬ 9223372036854775807 < (ByteArray.mk #[92]).size + t.size := by
  show ¬ 9223372036854775807 < 1 + t.size
  omega
 go_enter Tryz.func162, Tryz.ntmps162
 go_wp2_with (go_at_call 10; refine (rune_is _ t ht _).mono ?_; rintro e w' ⟨rfl, rfl⟩)
 go_ret
 exact ⟨rfl, Below.refl _ _⟩
set_option maxRecDepth 1000000 in
set_option maxHeartbeats 400000 in
theorem inq_e2 (q : Nat) (a : Bool) (w : World) (hE : Esc w) (hq : 14 ≤ q) :
  Calls Tryz.prog 162 #[.int .i32 9, .int .i32 q, .bool a] w fun e w' => e = .returned (.string ⟨#[92, UInt8.ofNat (escT 2)]⟩) ∧ Below w.heap.size w w' := by
 have h1 : ¬ (9 : Int) = (q : Int) := by omega
 have hg : w.cell? ⟨2, 2, none⟩ = some (.int .i32 116) := hE.2 2 (by omega)
 have he : (ByteArray.mk #[92]) ++ Utf8.encode 116 = ⟨#[92, UInt8.ofNat (escT 2)]⟩ := by decide +kernel
 have hsz := enc_size_le 116
 obtain ⟨r, hr⟩ : ∃ r, (⟨#[92, UInt8.ofNat (escT 2)]⟩ : ByteArray) = r := ⟨_, rfl⟩
 rw [hr] at he ⊢
 obtain ⟨t, ht⟩ : ∃ t, Utf8.encode 116 = t := ⟨_, rfl⟩
 rw [ht] at he hsz
 have hsum : ¬ 9223372036854775807 < (ByteArray.mk #[92]).size + t.size := by
  show ¬ 9223372036854775807 < 1 + t.size
  omega
 go_enter Tryz.func162, Tryz.ntmps162
 go_wp2_with (go_at_call 10; refine (rune_is _ t ht _).mono ?_; rintro e w' ⟨rfl, rfl⟩)
 go_ret
 exact ⟨rfl, Below.refl _ _⟩
set_option maxRecDepth 1000000 in
set_option maxHeartbeats 400000 in
theorem inq_e3 (q : Nat) (a : Bool) (w : World) (hE : Esc w) (hq : 14 ≤ q) :
  Calls Tryz.prog 162 #[.int .i32 10, .int .i32 q, .bool a] w fun e w' => e = .returned (.string ⟨#[92, UInt8.ofNat (escT 3)]⟩) ∧ Below w.heap.size w w' := by
 have h1 : ¬ (10 : Int) = (q : Int) := by omega
 have hg : w.cell? ⟨2, 3, none⟩ = some (.int .i32 110) := hE.2 3 (by omega)
 have he : (ByteArray.mk #[92]) ++ Utf8.encode 110 = ⟨#[92, UInt8.ofNat (escT 3)]⟩ := by decide +kernel
 have hsz := enc_size_le 110
 obtain ⟨r, hr⟩ : ∃ r, (⟨#[92, UInt8.ofNat (escT 3)]⟩ : ByteArray) = r := ⟨_, rfl⟩
 rw [hr] at he ⊢
 obtain ⟨t, ht⟩ : ∃ t, Utf8.encode 110 = t := ⟨_, rfl⟩
 rw [ht] at he hsz
 have hsum : ¬ 9223372036854775807 < (ByteArray.mk #[92]).size + t.size := by
  show ¬ 9223372036854775807 < 1 + t.size
  omega
 go_enter Tryz.func162, Tryz.ntmps162
 go_wp2_with (go_at_call 10; refine (rune_is _ t ht _).mono ?_; rintro e w' ⟨rfl, rfl⟩)
 go_ret
 exact ⟨rfl, Below.refl _ _⟩
set_option maxRecDepth 1000000 in
set_option maxHeartbeats 400000 in
theorem inq_e4 (q : Nat) (a : Bool) (w : World) (hE : Esc w) (hq : 14 ≤ q) :
  Calls Tryz.prog 162 #[.int .i32 11, .int .i32 q, .bool a] w fun e w' => e = .returned (.string ⟨#[92, UInt8.ofNat (escT 4)]⟩) ∧ Below w.heap.size w w' := by
 have h1 : ¬ (11 : Int) = (q : Int) := by omega
 have hg : w.cell? ⟨2, 4, none⟩ = some (.int .i32 118) := hE.2 4 (by omega)
 have he : (ByteArray.mk #[92]) ++ Utf8.encode 118 = ⟨#[92, UInt8.ofNat (escT 4)]⟩ := by decide +kernel
 have hsz := enc_size_le 118
 obtain ⟨r, hr⟩ : ∃ r, (⟨#[92, UInt8.ofNat (escT 4)]⟩ : ByteArray) = r := ⟨_, rfl⟩
 rw [hr] at he ⊢
 obtain ⟨t, ht⟩ : ∃ t, Utf8.encode 118 = t := ⟨_, rfl⟩
 rw [ht] at he hsz
 have hsum : ¬ 9223372036854775807 < (ByteArray.mk #[92]).size + t.size := by
  show ¬ 9223372036854775807 < 1 + t.size
  omega
 go_enter Tryz.func162, Tryz.ntmps162
 go_wp2_with (go_at_call 10; refine (rune_is _ t ht _).mono ?_; rintro e w' ⟨rfl, rfl⟩)
 go_ret
 exact ⟨rfl, Below.refl _ _⟩
set_option maxRecDepth 1000000 in
set_option maxHeartbeats 400000 in
theorem inq_e5 (q : Nat) (a : Bool) (w : World) (hE : Esc w) (hq : 14 ≤ q) :
  Calls Tryz.prog 162 #[.int .i32 12, .int .i32 q, .bool a] w fun e w' => e = .returned (.string ⟨#[92, UInt8.ofNat (escT 5)]⟩) ∧ Below w.heap.size w w' := by
 have h1 : ¬ (12 : Int) = (q : Int) := by omega
 have hg : w.cell? ⟨2, 5, none⟩ = some (.int .i32 102) := hE.2 5 (by omega)
 have he : (ByteArray.mk #[92]) ++ Utf8.encode 102 = ⟨#[92, UInt8.ofNat (escT 5)]⟩ := by decide +kernel
 have hsz := enc_size_le 102
 obtain ⟨r, hr⟩ : ∃ r, (⟨#[92, UInt8.ofNat (escT 5)]⟩ : ByteArray) = r := ⟨_, rfl⟩
 rw [hr] at he ⊢
 obtain ⟨t, ht⟩ : ∃ t, Utf8.encode 102 = t := ⟨_, rfl⟩
 rw [ht] at he hsz
 have hsum : ¬ 9223372036854775807 < (ByteArray.mk #[92]).size + t.size := by
  show ¬ 9223372036854775807 < 1 + t.size
  omega
 go_enter Tryz.func162, Tryz.ntmps162
 go_wp2_with (go_at_call 10; refine (rune_is _ t ht _).mono ?_; rintro e w' ⟨rfl, rfl⟩)
 go_ret
 exact ⟨rfl, Below.refl _ _⟩
set_option maxRecDepth 1000000 in
set_option maxHeartbeats 400000 in
theorem inq_e6 (q : Nat) (a : Bool) (w : World) (hE : Esc w) (hq : 14 ≤ q) :
  Calls Tryz.prog 162 #[.int .i32 13, .int .i32 q, .bool a] w fun e w' => e = .returned (.string ⟨#[92, UInt8.ofNat (escT 6)]⟩) ∧ Below w.heap.size w w' := by
 have h1 : ¬ (13 : Int) = (q : Int) := by omega
 have hg : w.cell? ⟨2, 6, none⟩ = some (.int .i32 114) := hE.2 6 (by omega)
 have he : (ByteArray.mk #[92]) ++ Utf8.encode 114 = ⟨#[92, UInt8.ofNat (escT 6)]⟩ := by decide +kernel
 have hsz := enc_size_le 114
 obtain ⟨r, hr⟩ : ∃ r, (⟨#[92, UInt8.ofNat (escT 6)]⟩ : ByteArray) = r := ⟨_, rfl⟩
 rw [hr] at he ⊢
 obtain ⟨t, ht⟩ : ∃ t, Utf8.encode 114 = t := ⟨_, rfl⟩
 rw [ht] at he hsz
 have hsum : ¬ 9223372036854775807 < (ByteArray.mk #[92]).size + t.size := by
  show ¬ 9223372036854775807 < 1 + t.size
  omega
 go_enter Tryz.func162, Tryz.ntmps162
 go_wp2_with (go_at_call 10; refine (rune_is _ t ht _).mono ?_; rintro e w' ⟨rfl, rfl⟩)
 go_ret
 exact ⟨rfl, Below.refl _ _⟩
theorem inq_e (c q : Nat) (a : Bool) (w : World) (hE : Esc w) (hq : 14 ≤ q) (h : 7 ≤ c ∧ c ≤ 13) :
  Calls Tryz.prog 162 #[.int .i32 c, .int .i32 q, .bool a] w fun e w' => e = .returned (.string ⟨(inL c q a).toArray⟩) ∧ Below w.heap.size w w' := by
 rw [inL_e c q a (by omega) h]
 have hm : c = 7 ∨ c = 8 ∨ c = 9 ∨ c = 10 ∨ c = 11 ∨ c = 12 ∨ c = 13 := by omega
 rcases hm with rfl | rfl | rfl | rfl | rfl | rfl | rfl
 ·exact inq_e0 q a w hE hq
 ·exact inq_e1 q a w hE hq
 ·exact inq_e2 q a w hE hq
 ·exact inq_e3 q a w hE hq
 ·exact inq_e4 q a w hE hq
 ·exact inq_e5 q a w hE hq
 ·exact inq_e6 q a w hE hq
theorem plain_yes (c : Int) (w : World) (h : plainP c = true) :
  Calls Tryz.prog 205 #[.int .i32 c] w fun e w' => e = .returned (.bool true) ∧ w' = w := by rw [← h]; exact plain_any c w
theorem plain_no (c : Int) (w : World) (h : plainP c = false) :
  Calls Tryz.prog 205 #[.int .i32 c] w fun e w' => e = .returned (.bool false) ∧ w' = w := by rw [← h]; exact plain_any c w
theorem hexa_is (c k : Nat) (t : ByteArray) (h : (⟨(hexL c k).toArray⟩ : ByteArray) = t) (w : World) (hc : c ≤ 1114111) (hk : k ≤ 8) :
  Calls Tryz.prog 161 #[.int .i32 c, .int .i64 k] w fun e w' => e = .returned (.string t) ∧ Below w.heap.size w w' := by rw [← h]; exact hexa_any c k w hc hk
theorem hex_bytes (x : UInt8) (c k : Nat) : (ByteArray.mk #[92, x]) ++ (ByteArray.mk (hexL c k).toArray) = ⟨([92, x] ++ hexL c k).toArray⟩ := ba_app [92, x] (hexL c k)
set_option maxRecDepth 1000000 in
set_option maxHeartbeats 400000 in
theorem inq_x (c q : Nat) (a : Bool) (w : World) (hc : c ≤ 1114111) (h : ¬ (c = q ∨ c = 92)) (h1 : ¬ (7 ≤ c ∧ c ≤ 13)) (h2 : ¬ (plainP c = true ∧ (c ≤ 126 ∨ a = false))) (h3 : c < 128) :
  Calls Tryz.prog 162 #[.int .i32 c, .int .i32 q, .bool a] w fun e w' => e = .returned (.string ⟨(inL c q a).toArray⟩) ∧ Below w.heap.size w w' := by
 rw [inL_x c q a h h1 h2 h3]
 have he := hex_bytes 120 c 2
 have hs := hex_size c 2
 obtain ⟨r, hr⟩ : ∃ r, (⟨([92, 120] ++ hexL c 2).toArray⟩ : ByteArray) = r := ⟨_, rfl⟩
 rw [hr] at he ⊢
 obtain ⟨t, ht⟩ : ∃ t, (⟨(hexL c 2).toArray⟩ : ByteArray) = t := ⟨_, rfl⟩
 rw [ht] at he hs
 have hsum : ¬ 9223372036854775807 < (ByteArray.mk #[92, 120]).size + t.size := by
  show ¬ 9223372036854775807 < 2 + t.size
  omega
 have n1 : ¬ (c : Int) = (q : Int) := by omega
 have n2 : ¬ (c : Int) = 92 := by omega
 have n3 : ¬ (c : Int) = 7 := by omega
 have n4 : ¬ (c : Int) = 8 := by omega
 have n5 : ¬ (c : Int) = 9 := by omega
 have n6 : ¬ (c : Int) = 10 := by omega
 have n7 : ¬ (c : Int) = 11 := by omega
 have n8 : ¬ (c : Int) = 12 := by omega
 have n9 : ¬ (c : Int) = 13 := by omega
 have m3 : (c : Int) < 128 := by omega
 cases hp : plainP (c : Int) with
 | false =>
   clear h2
   go_enter Tryz.func162, Tryz.ntmps162
   go_wp2_with (first | (go_at_call 161; refine (hexa_is c 2 t ht _ hc (by omega)).mono ?_; rintro e w' ⟨rfl, hb⟩) | (go_at_call 205; refine (plain_no _ _ hp).mono ?_; rintro e w' ⟨rfl, rfl⟩))
   go_ret
   exact ⟨rfl, hb⟩
 | true =>
   have hle : ¬ (c : Int) ≤ 126 := fun hle => h2 ⟨hp, .inl (by omega)⟩
   obtain rfl : a = true := by
    cases a with
    | true => rfl
    | false => exact absurd ⟨hp, .inr rfl⟩ h2
   clear h2
   go_enter Tryz.func162, Tryz.ntmps162
   go_wp2_with (first | (go_at_call 161; refine (hexa_is c 2 t ht _ hc (by omega)).mono ?_; rintro e w' ⟨rfl, hb⟩) | (go_at_call 205; refine (plain_yes _ _ hp).mono ?_; rintro e w' ⟨rfl, rfl⟩))
   go_ret
   exact ⟨rfl, hb⟩
set_option maxRecDepth 1000000 in
set_option maxHeartbeats 400000 in
theorem inq_u (c q : Nat) (a : Bool) (w : World) (hc : c ≤ 1114111) (h : ¬ (c = q ∨ c = 92)) (h1 : ¬ (7 ≤ c ∧ c ≤ 13)) (h2 : ¬ (plainP c = true ∧ (c ≤ 126 ∨ a = false))) (h3 : ¬ c < 128) (h4 : c ≤ 65535) :
  Calls Tryz.prog 162 #[.int .i32 c, .int .i32 q, .bool a] w fun e w' => e = .returned (.string ⟨(inL c q a).toArray⟩) ∧ Below w.heap.size w w' := by
 rw [inL_u c q a h h1 h2 h3 h4]
 have he := hex_bytes 117 c 4
 have hs := hex_size c 4
 obtain ⟨r, hr⟩ : ∃ r, (⟨([92, 117] ++ hexL c 4).toArray⟩ : ByteArray) = r := ⟨_, rfl⟩
 rw [hr] at he ⊢
 obtain ⟨t, ht⟩ : ∃ t, (⟨(hexL c 4).toArray⟩ : ByteArray) = t := ⟨_, rfl⟩
 rw [ht] at he hs
 have hsum : ¬ 9223372036854775807 < (ByteArray.mk #[92, 117]).size + t.size := by
  show ¬ 9223372036854775807 < 2 + t.size
  omega
 have n1 : ¬ (c : Int) = (q : Int) := by omega
 have n2 : ¬ (c : Int) = 92 := by omega
 have n3 : ¬ (c : Int) = 7 := by omega
 have n4 : ¬ (c : Int) = 8 := by omega
 have n5 : ¬ (c : Int) = 9 := by omega
 have n6 : ¬ (c : Int) = 10 := by omega
 have n7 : ¬ (c : Int) = 11 := by omega
 have n8 : ¬ (c : Int) = 12 := by omega
 have n9 : ¬ (c : Int) = 13 := by omega
 have m3 : ¬ (c : Int) < 128 := by omega
 have m4 : (c : Int) ≤ 65535 := by omega
 cases hp : plainP (c : Int) with
 | false =>
   clear h2
   go_enter Tryz.func162, Tryz.ntmps162
   go_wp2_with (first | (go_at_call 161; refine (hexa_is c 4 t ht _ hc (by omega)).mono ?_; rintro e w' ⟨rfl, hb⟩) | (go_at_call 205; refine (plain_no _ _ hp).mono ?_; rintro e w' ⟨rfl, rfl⟩))
   go_ret
   exact ⟨rfl, hb⟩
 | true =>
   have hle : ¬ (c : Int) ≤ 126 := fun hle => h2 ⟨hp, .inl (by omega)⟩
   obtain rfl : a = true := by
    cases a with
    | true => rfl
    | false => exact absurd ⟨hp, .inr rfl⟩ h2
   clear h2
   go_enter Tryz.func162, Tryz.ntmps162
   go_wp2_with (first | (go_at_call 161; refine (hexa_is c 4 t ht _ hc (by omega)).mono ?_; rintro e w' ⟨rfl, hb⟩) | (go_at_call 205; refine (plain_yes _ _ hp).mono ?_; rintro e w' ⟨rfl, rfl⟩))
   go_ret
   exact ⟨rfl, hb⟩
set_option maxRecDepth 1000000 in
set_option maxHeartbeats 400000 in
theorem inq_U (c q : Nat) (a : Bool) (w : World) (hc : c ≤ 1114111) (h : ¬ (c = q ∨ c = 92)) (h1 : ¬ (7 ≤ c ∧ c ≤ 13)) (h2 : ¬ (plainP c = true ∧ (c ≤ 126 ∨ a = false))) (h3 : ¬ c < 128) (h4 : ¬ c ≤ 65535) :
  Calls Tryz.prog 162 #[.int .i32 c, .int .i32 q, .bool a] w fun e w' => e = .returned (.string ⟨(inL c q a).toArray⟩) ∧ Below w.heap.size w w' := by
 rw [inL_U c q a h h1 h2 h3 h4]
 have he := hex_bytes 85 c 8
 have hs := hex_size c 8
 obtain ⟨r, hr⟩ : ∃ r, (⟨([92, 85] ++ hexL c 8).toArray⟩ : ByteArray) = r := ⟨_, rfl⟩
 rw [hr] at he ⊢
 obtain ⟨t, ht⟩ : ∃ t, (⟨(hexL c 8).toArray⟩ : ByteArray) = t := ⟨_, rfl⟩
 rw [ht] at he hs
 have hsum : ¬ 9223372036854775807 < (ByteArray.mk #[92, 85]).size + t.size := by
  show ¬ 9223372036854775807 < 2 + t.size
  omega
 have n1 : ¬ (c : Int) = (q : Int) := by omega
 have n2 : ¬ (c : Int) = 92 := by omega
 have n3 : ¬ (c : Int) = 7 := by omega
 have n4 : ¬ (c : Int) = 8 := by omega
 have n5 : ¬ (c : Int) = 9 := by omega
 have n6 : ¬ (c : Int) = 10 := by omega
 have n7 : ¬ (c : Int) = 11 := by omega
 have n8 : ¬ (c : Int) = 12 := by omega
 have n9 : ¬ (c : Int) = 13 := by omega
 have m3 : ¬ (c : Int) < 128 := by omega
 have m4 : ¬ (c : Int) ≤ 65535 := by omega
 cases hp : plainP (c : Int) with
 | false =>
   clear h2
   go_enter Tryz.func162, Tryz.ntmps162
   go_wp2_with (first | (go_at_call 161; refine (hexa_is c 8 t ht _ hc (by omega)).mono ?_; rintro e w' ⟨rfl, hb⟩) | (go_at_call 205; refine (plain_no _ _ hp).mono ?_; rintro e w' ⟨rfl, rfl⟩))
   go_ret
   exact ⟨rfl, hb⟩
 | true =>
   have hle : ¬ (c : Int) ≤ 126 := fun hle => h2 ⟨hp, .inl (by omega)⟩
   obtain rfl : a = true := by
    cases a with
    | true => rfl
    | false => exact absurd ⟨hp, .inr rfl⟩ h2
   clear h2
   go_enter Tryz.func162, Tryz.ntmps162
   go_wp2_with (first | (go_at_call 161; refine (hexa_is c 8 t ht _ hc (by omega)).mono ?_; rintro e w' ⟨rfl, hb⟩) | (go_at_call 205; refine (plain_yes _ _ hp).mono ?_; rintro e w' ⟨rfl, rfl⟩))
   go_ret
   exact ⟨rfl, hb⟩
end Go.Proofs.YtdlnmnipnkeabaaGreatDoor
namespace Go.Proofs.YtdlnmnipnkeabaaGreatDoor
open Go.RowKit
set_option maxRecDepth 1000000 in
set_option maxHeartbeats 400000 in
theorem inq_p (c q : Nat) (a : Bool) (w : World) (h : ¬ (c = q ∨ c = 92)) (h1 : ¬ (7 ≤ c ∧ c ≤ 13)) (h2 : plainP c = true ∧ (c ≤ 126 ∨ a = false)) :
  Calls Tryz.prog 162 #[.int .i32 c, .int .i32 q, .bool a] w fun e w' => e = .returned (.string ⟨(inL c q a).toArray⟩) ∧ Below w.heap.size w w' := by
 rw [inL_p c q a h h1 h2, ba_list]
 obtain ⟨t, ht⟩ : ∃ t, Utf8.encode (c : Int) = t := ⟨_, rfl⟩
 rw [ht]
 obtain ⟨hp, h3⟩ := h2
 have n1 : ¬ (c : Int) = (q : Int) := by omega
 have n2 : ¬ (c : Int) = 92 := by omega
 have n3 : ¬ (c : Int) = 7 := by omega
 have n4 : ¬ (c : Int) = 8 := by omega
 have n5 : ¬ (c : Int) = 9 := by omega
 have n6 : ¬ (c : Int) = 10 := by omega
 have n7 : ¬ (c : Int) = 11 := by omega
 have n8 : ¬ (c : Int) = 12 := by omega
 have n9 : ¬ (c : Int) = 13 := by omega
 have hR := rune_is c t ht
 have hP : ∀ w, Calls Tryz.prog 205 #[.int .i32 c] w fun e w' => e = .returned (.bool true) ∧ w' = w := fun w => plain_yes c w hp
 clear ht hp
 by_cases hle : c ≤ 126
 ·have hle' : (c : Int) ≤ 126 := by omega
  clear h3 h h1
  go_enter Tryz.func162, Tryz.ntmps162
  go_wp2_with (first | (go_at_call 10; refine (hR _).mono ?_; rintro e w' ⟨rfl, rfl⟩) | (go_at_call 205; refine (hP _).mono ?_; rintro e w' ⟨rfl, rfl⟩))
  go_ret
  exact ⟨rfl, Below.refl _ _⟩
 ·obtain rfl : a = false := by
   rcases h3 with h3 | h3
   ·omega
   ·exact h3
  have hle' : ¬ (c : Int) ≤ 126 := by omega
  clear h3 h h1
  go_enter Tryz.func162, Tryz.ntmps162
  go_wp2_with (first | (go_at_call 10; refine (hR _).mono ?_; rintro e w' ⟨rfl, rfl⟩) | (go_at_call 205; refine (hP _).mono ?_; rintro e w' ⟨rfl, rfl⟩))
  go_ret
  exact ⟨rfl, Below.refl _ _⟩
theorem inq_any (c q : Nat) (a : Bool) (w : World) (hE : Esc w) (hc : c ≤ 1114111) (hq : q = 34 ∨ q = 39) :
  Calls Tryz.prog 162 #[.int .i32 c, .int .i32 q, .bool a] w fun e w' => e = .returned (.string ⟨(inL c q a).toArray⟩) ∧ Below w.heap.size w w' := by
 by_cases h : c = q ∨ c = 92
 ·exact inq_q c q a w (by omega) h
 by_cases h1 : 7 ≤ c ∧ c ≤ 13
 ·exact inq_e c q a w hE (by omega) h1
 by_cases h2 : plainP c = true ∧ (c ≤ 126 ∨ a = false)
 ·exact inq_p c q a w h h1 h2
 by_cases h3 : c < 128
 ·exact inq_x c q a w hc h h1 h2 h3
 by_cases h4 : c ≤ 65535
 ·exact inq_u c q a w hc h h1 h2 h3 h4
 ·exact inq_U c q a w hc h h1 h2 h3 h4
end Go.Proofs.YtdlnmnipnkeabaaGreatDoor
namespace Go.Proofs.YtdlnmnipnkeabaaGreatDoor
open Go.RowKit
theorem isB_below {T e : TypeId} {B b : Nat} {bs : List Value} {W W' : World} (h : Lib.IsBuilderF T e B b bs W) (hb : Below W.heap.size W W') : Lib.IsBuilderF T e B b bs W' := by
 have key : ∀ p, Lib.BuilderAtF T e B b p bs W → Lib.BuilderAtF T e B b p bs W' := by
  rintro p ⟨hB, v, hbk, hown, hne⟩
  have blk : ∀ k o, W.heap[k]? = some o → W'.heap[k]? = some o := fun k o hk => (hb.block k (Array.getElem?_eq_some_iff.1 hk).1).trans hk
  refine ⟨hB, v, blk _ _ hbk, ⟨hown.1, ?_⟩, hne⟩
  rcases hown.2 with hn | ⟨g, cap, cur, fz, hv, hbg, hg, rest⟩
  ·exact .inl hn
  ·exact .inr ⟨g, cap, cur, fz, hv, hbg, blk _ _ hg, rest⟩
 exact h.elim (fun x => .inl (key _ x)) (fun x => .inr (key _ x))
theorem iter_keep {W W' : World} (hb : Below W.heap.size W W') {k : Nat} {o : Obj} (hk : W.heap[k]? = some o) : W'.heap[k]? = some o :=
 (hb.block k (Array.getElem?_eq_some_iff.1 hk).1).trans hk
theorem broken_is (c : Nat) (s : ByteArray) (b : Bool) (w : World) (hc : c = (dec s).1) (hb : brk (dec s) = b) :
  Calls Tryz.prog 160 #[.int .i32 c, .string s] w fun e w' => e = .returned (.bool b) ∧ Below w.heap.size w w' := by
 rw [← hb]; exact broken_any c s w hc
theorem dec_pt_le (s : ByteArray) (p : Nat) : (Utf8.decode s p).1 ≤ 1114111 := by
 rw [← dec_tail_list]; exact Lib.decodeL_rune _
theorem drop_ne (s : ByteArray) (p : Nat) (h : p < s.size) : s.data.toList.drop p ≠ [] := by
 intro h0
 have := congrArg List.length h0
 rw [List.length_drop, list_len] at this
 simp at this
 omega
theorem item_at (a : Bool) (s : ByteArray) (p : Nat) (h : p < s.size) : quoI a (s.data.toList.drop p) = itemL a (s.data.toList.drop p) ++ quoI a (s.data.toList.drop (p + (Utf8.decode s p).2)) := by
 rw [quoI_step a _ (drop_ne s p h), dec_tail_list, List.drop_drop]
theorem item_brk (a : Bool) (s : ByteArray) (p : Nat) (h : p < s.size) (hb : brk (Utf8.decode s p) = true) : itemL a (s.data.toList.drop p) = [92, 120] ++ hexL (s[p]'h).toNat 2 := by
 have e : ((s.data.toList.drop p).getD 0 0) = s[p]'h := by
  rw [List.getD_eq_getElem?_getD, List.getElem?_drop]
  simp [List.getElem?_eq_getElem (show p < s.data.toList.length by rw [list_len]; exact h)]
  rfl
 unfold itemL
 rw [dec_tail_list, if_pos hb, e]; rfl
theorem item_in (a : Bool) (s : ByteArray) (p : Nat) (hb : brk (Utf8.decode s p) = false) : itemL a (s.data.toList.drop p) = inL (Utf8.decode s p).1 34 a := by
 unfold itemL
 rw [dec_tail_list, if_neg (by rw [hb]; simp)]
theorem str_cells' (r : ByteArray) : Lib.strCells r = Lib.byteCells r.data.toList := by
 simp [Lib.strCells, Lib.byteCells]
theorem hex_pack (x : UInt8) (n k : Nat) (L : List UInt8) (h : L = [92, x] ++ hexL n k) (hn : n ≤ 1114111) (hk : k ≤ 8) :
  ∃ r t : ByteArray, r.data.toList = L ∧ t.size = k ∧ (ByteArray.mk #[92, x]) ++ t = r ∧ ∀ w, Calls Tryz.prog 161 #[.int .i32 n, .int .i64 k] w fun e w' => e = .returned (.string t) ∧ Below w.heap.size w w' :=
 ⟨⟨([92, x] ++ hexL n k).toArray⟩, ⟨(hexL n k).toArray⟩, by rw [h], hex_size n k, hex_bytes x n k, fun w => hexa_any n k w hn hk⟩
theorem in_pack (c q : Nat) (a : Bool) (L : List UInt8) (h : L = inL c q a) (hc : c ≤ 1114111) (hq : q = 34 ∨ q = 39) :
  ∃ r : ByteArray, r.data.toList = L ∧ ∀ w, Esc w → Calls Tryz.prog 162 #[.int .i32 c, .int .i32 q, .bool a] w fun e w' => e = .returned (.string r) ∧ Below w.heap.size w w' :=
 ⟨⟨(inL c q a).toArray⟩, by rw [h], fun w hE => inq_any c q a w hE hc hq⟩
theorem two_sum (x y : UInt8) (t : ByteArray) (h : t.size ≤ 8) : ¬ 9223372036854775807 < (ByteArray.mk #[x, y]).size + t.size := by
 show ¬ 9223372036854775807 < 2 + t.size
 omega
theorem wrap32_byte (n : Nat) (h : n < 256) : wrap32 (n : Int) = (n : Int) := by unfold wrap32; omega
theorem brk_pack (a : Bool) (s : ByteArray) (pos : Nat) (hp : pos < s.size) (hi : itemL a (s.data.toList.drop pos) = [92, 120] ++ hexL (s[pos]'hp).toNat 2) :
  ∃ (r t : ByteArray) (n0 : Nat), (s[pos]'hp).toNat = n0 ∧ wrap32 (n0 : Int) = (n0 : Int) ∧ r.data.toList = itemL a (s.data.toList.drop pos) ∧ ¬ 9223372036854775807 < (ByteArray.mk #[92, 120]).size + t.size ∧ (ByteArray.mk #[92, 120]) ++ t = r ∧
    ∀ w, Calls Tryz.prog 161 #[.int .i32 n0, .int .i64 2] w fun e w' => e = .returned (.string t) ∧ Below w.heap.size w w' := by
 have hn : (s[pos]'hp).toNat < 256 := (s[pos]'hp).toNat_lt
 obtain ⟨r, t, h1, h2, h3, h4⟩ := hex_pack 120 _ 2 _ hi (Nat.le_trans (Nat.le_of_lt hn) (by decide)) (by decide)
 exact ⟨r, t, _, rfl, wrap32_byte _ hn, h1, two_sum _ _ t (by rw [h2]; decide), h3, h4⟩
set_option maxRecDepth 1000000 in
set_option maxHeartbeats 1000000 in
theorem quote_any (s : ByteArray) (a : Bool) (w : World) (hE : Esc w) (hs : s.size ≤ 1000000) :
  Calls Tryz.prog 130 #[.string s, .bool a] w fun e w' => e = .returned (.string (quoS s a)) ∧ Below w.heap.size w w' := by
 have hI0 := Lib.IsBuilderF.of (Lib.fresh_isBuilder 73 5 w)
 go_enter Tryz.func130, Tryz.ntmps130
 go_wp2_with (go_at_call 159; refine (Tryz.writeByte w.heap.size w.heap.size _ _ _ hI0 (by simp) (by simp)).mono ?_)
 rintro e w1 ⟨rfl, h1, hb1, -⟩
 have hb1' : Below w.heap.size w w1 := ((Below.refl _ w).alloc (Nat.le_refl _) _).trans hb1
 have hsz1 := hb1'.size
 have hI1 : Lib.IsBuilderF 73 5 w.heap.size w.heap.size (Lib.byteCells [34]) w1 := .inr h1
 have hlt1 : w.heap.size < w1.heap.size := h1.lt
 clear hb1 h1
 go_wp2
 go_loopw [] (fun wr => ∃ (pos : Nat) (acc : List UInt8), Lib.IsBuilderF 73 5 w.heap.size w.heap.size (Lib.byteCells acc) wr ∧ wr.heap[w1.heap.size]? = some (.stringIter s pos) ∧ Below w.heap.size w wr ∧ pos ≤ s.size ∧ Hid (acc ++ quoI a (s.data.toList.drop pos) = 34 :: quoI a s.data.toList) ∧ acc.length ≤ 10 * pos + 1) (fun wr => s.size - wr.iterPos w1.heap.size)
 case atStart =>
  refine ⟨0, [34], hI1.alloc _, ?_, hb1'.alloc hsz1 _, Nat.zero_le _, rfl, by simp⟩
  simpa using World.iter_heap w1 s 0
 case round =>
  obtain ⟨pos, acc, hI, hit, hb, hpos, hacc, hal⟩ := hrel
  have hK : w1.heap.size < wr.heap.size := (Array.getElem?_eq_some_iff.1 hit).1
  by_cases hp : pos < s.size
  ·have hnx : ∀ ty, (Instr.next (.pointer (some ⟨w1.heap.size, 0, none⟩)) true ty).run Tryz.prog wr = _ := fun ty => Lib.run_next_any_at wr w1.heap.size s pos ty hit hp
   have hwd := wid_pos s pos
   have hwl := wid_le s pos hp
   have hpt := dec_pt_le s pos
   have hI2 := hI.iterAt hit (pos + (Utf8.decode s pos).2)
   have hit2 := Lib.iterAt_heap wr w1.heap.size s pos (pos + (Utf8.decode s pos).2) hit
   have hb2 := Lib.below_iterAt hb (k := w1.heap.size) hsz1 s (pos + (Utf8.decode s pos).2)
   have hE2 : Esc (wr.iterAt w1.heap.size s (pos + (Utf8.decode s pos).2)) := hE.below hb2
   have hdt := dec_tail s pos hp
   have hib := item_brk a s pos hp
   have hii := item_in a s pos
   have hat := item_at a s pos hp
   generalize Utf8.decode s pos = D at *
   have hn1 : (s[pos]'hp).toNat < 256 := (s[pos]'hp).toNat_lt
   have hin : s.data.toList.length = s.size := list_len s
   cases hbk : brk D with
   | true =>
     have hitem := hib hbk
     have hBk : ∀ w, Calls Tryz.prog 160 #[.int .i32 (D.1 : Nat), .string (s.extract pos s.size)] w fun e w' => e = .returned (.bool true) ∧ Below w.heap.size w w' := fun w => broken_is _ _ true w (by rw [hdt]) (by rw [hdt]; exact hbk)
     clear hdt hbk hib hii
     obtain ⟨r, t, n0, hn0, hw0, HR0, hsum, he, hHx⟩ := brk_pack a s pos hp hitem
     have HR : Hid (r.data.toList = itemL a (s.data.toList.drop pos)) := HR0
     clear HR0 hitem hn1 hin
     go_wp2_with (first | (go_at_call 160; refine (hBk _).mono ?_; rintro e w3 ⟨rfl, hb3⟩) | (go_at_call 161; refine (hHx _).mono ?_; rintro e w4 ⟨rfl, hb4⟩))
     clear hn0 hw0 hsum he
     have hb34 := hb3.trans (hb4.mono hb3.size)
     have hI4 := isB_below hI2 hb34
     have hit4 := iter_keep hb34 hit2
     have hb5 := hb2.trans (hb34.mono hb2.size)
     have hls := itemL_len a (s.data.toList.drop pos)
     have hrs : r.size ≤ 10 := by
      rw [← list_len, HR.out]; exact hls
     refine (Tryz.writeString w.heap.size w.heap.size _ _ _ hI4 (by rw [Lib.byteCells_length]; omega) hb5.size).mono ?_
     rintro e w6 ⟨rfl, h6, hb6, hk6⟩
     go_wp2
     go_roundw
     case rel =>
      refine ⟨pos + D.2, acc ++ itemL a (s.data.toList.drop pos), ?_, hk6.iter hit4 (by omega), hb5.trans hb6, hwl, ?_, ?_⟩
      ·rw [str_cells', HR.out] at h6
       rw [Lib.byteCells_append]; exact Or.inr h6
      ·have := hacc.out
       rw [hat] at this
       show (acc ++ itemL a (s.data.toList.drop pos)) ++ _ = _
       rw [List.append_assoc]; exact this
      ·rw [List.length_append]; omega
     case measure =>
      simp only [World.iterPos, hk6.iter hit4 (by omega), hit]
      omega
   | false =>
     have hitem := hii hbk
     have hBk : ∀ w, Calls Tryz.prog 160 #[.int .i32 (D.1 : Nat), .string (s.extract pos s.size)] w fun e w' => e = .returned (.bool false) ∧ Below w.heap.size w w' := fun w => broken_is _ _ false w (by rw [hdt]) (by rw [hdt]; exact hbk)
     clear hdt hbk hib hii
     obtain ⟨r, HR0, hHx⟩ := in_pack _ 34 a _ hitem hpt (.inl rfl)
     have HR : Hid (r.data.toList = itemL a (s.data.toList.drop pos)) := HR0
     clear HR0 hitem
     go_wp2_with (first | (go_at_call 160; refine (hBk _).mono ?_; rintro e w3 ⟨rfl, hb3⟩) | (go_at_call 162; refine (hHx _ (hE2.below hb3)).mono ?_; rintro e w4 ⟨rfl, hb4⟩))
     have hb34 := hb3.trans (hb4.mono hb3.size)
     have hI4 := isB_below hI2 hb34
     have hit4 := iter_keep hb34 hit2
     have hb5 := hb2.trans (hb34.mono hb2.size)
     have hls := itemL_len a (s.data.toList.drop pos)
     have hrs : r.size ≤ 10 := by
      rw [← list_len, HR.out]; exact hls
     refine (Tryz.writeString w.heap.size w.heap.size _ _ _ hI4 (by rw [Lib.byteCells_length]; omega) hb5.size).mono ?_
     rintro e w6 ⟨rfl, h6, hb6, hk6⟩
     go_wp2
     go_roundw
     case rel =>
      refine ⟨pos + D.2, acc ++ itemL a (s.data.toList.drop pos), ?_, hk6.iter hit4 (by omega), hb5.trans hb6, hwl, ?_, ?_⟩
      ·rw [str_cells', HR.out] at h6
       rw [Lib.byteCells_append]; exact Or.inr h6
      ·have := hacc.out
       rw [hat] at this
       show (acc ++ itemL a (s.data.toList.drop pos)) ++ _ = _
       rw [List.append_assoc]; exact this
      ·rw [List.length_append]; omega
     case measure =>
      simp only [World.iterPos, hk6.iter hit4 (by omega), hit]
      omega
  ·have hnx : ∀ ty, (Instr.next (.pointer (some ⟨w1.heap.size, 0, none⟩)) true ty).run Tryz.prog wr = _ := fun ty => Lib.run_next_end_at wr w1.heap.size s pos ty hit hp
   have hfin : acc ++ [34] = (34 :: (quoI a s.data.toList ++ [34])) := by
    have := hacc.out
    rw [show s.data.toList.drop pos = [] from List.drop_eq_nil_of_le (by rw [list_len]; omega), quoI_nil, List.append_nil] at this
    rw [this]; rfl
   have HF : Hid (acc ++ [34] = (34 :: (quoI a s.data.toList ++ [34]))) := hfin
   clear hfin
   go_wp2_with (go_at_call 159; refine (Tryz.writeByte w.heap.size w.heap.size _ _ _ hI (by rw [Lib.byteCells_length]; omega) hb.size).mono ?_)
   rintro e w6 ⟨rfl, h6, hb6, hk6⟩
   have hI6 : Lib.IsBuilderF 73 5 w.heap.size w.heap.size (Lib.byteCells (acc ++ [34])) w6 := by
    rw [Lib.byteCells_append]; exact Or.inr h6
   have hb7 := hb.trans hb6
   go_wp2_with (go_at_call 32; refine (Tryz.builderString w.heap.size w.heap.size _ _ hI6 hb7.size).mono ?_)
   rintro e w8 ⟨rfl, -, hb8, -⟩
   go_wp2
   go_ret
   rw [HF.out]
   exact ⟨rfl, hb7.trans hb8⟩
end Go.Proofs.YtdlnmnipnkeabaaGreatDoor
