/- Inq, Inq2, Quot, Char, Fill, Count, Pad: these texts in one. -/
import Derived.Test.YtdlnmnipnkeabaaGreatDoorPt3
import Derived.Test.YtdlnmnipnkeabaaGreatDoorPt1
import Derived.Test.YtdlnmnipnkeabaaGreatDoorShelf
import Derived.Deep.QuietTactic
import Derived.BigQuiet
namespace Go.Proofs.YtdlnmnipnkeabaaGreatDoor
open Go.RowKit
def Esc (w : World) : Prop := 2 < w.heap.size ∧ ∀ i, i < 7 → w.cell? ⟨2, i, none⟩ = some (.int .i32 (escT i : Nat))
theorem Esc.below {w w' : World} (h : Esc w) (hb : Below w.heap.size w w') : Esc w' :=
 ⟨Nat.lt_of_lt_of_le h.1 hb.size, fun i hi => by rw [hb.cell (p := ⟨2, i, none⟩) h.1]; exact h.2 i hi⟩
theorem inL_q (c q : Nat) (a : Bool) (h : c = q ∨ c = 92) : inL c q a = [92, UInt8.ofNat c] := by unfold inL; rw [if_pos h]
theorem inL_e (c q : Nat) (a : Bool) (h : ¬ (c = q ∨ c = 92)) (h1 : 7 ≤ c ∧ c ≤ 13) : inL c q a = [92, UInt8.ofNat (escT (c - 7))] := by unfold inL; rw [if_neg h, if_pos h1]
theorem inL_p (c q : Nat) (a : Bool) (h : ¬ (c = q ∨ c = 92)) (h1 : ¬ (7 ≤ c ∧ c ≤ 13)) (h2 : plainP c = true ∧ (c ≤ 126 ∨ a = false)) : inL c q a = (Utf8.encode (c : Int)).data.toList := by unfold inL; rw [if_neg h, if_neg h1, if_pos h2]
theorem inL_x (c q : Nat) (a : Bool) (h : ¬ (c = q ∨ c = 92)) (h1 : ¬ (7 ≤ c ∧ c ≤ 13)) (h2 : ¬ (plainP c = true ∧ (c ≤ 126 ∨ a = false))) (h3 : c < 128) : inL c q a = [92, 120] ++ hexL c 2 := by unfold inL; rw [if_neg h, if_neg h1, if_neg h2, if_pos h3]; rfl
theorem inL_u (c q : Nat) (a : Bool) (h : ¬ (c = q ∨ c = 92)) (h1 : ¬ (7 ≤ c ∧ c ≤ 13)) (h2 : ¬ (plainP c = true ∧ (c ≤ 126 ∨ a = false))) (h3 : ¬ c < 128) (h4 : c ≤ 65535) : inL c q a = [92, 117] ++ hexL c 4 := by unfold inL; rw [if_neg h, if_neg h1, if_neg h2, if_neg h3, if_pos h4]; rfl
theorem inL_U (c q : Nat) (a : Bool) (h : ¬ (c = q ∨ c = 92)) (h1 : ¬ (7 ≤ c ∧ c ≤ 13)) (h2 : ¬ (plainP c = true ∧ (c ≤ 126 ∨ a = false))) (h3 : ¬ c < 128) (h4 : ¬ c ≤ 65535) : inL c q a = [92, 85] ++ hexL c 8 := by unfold inL; rw [if_neg h, if_neg h1, if_neg h2, if_neg h3, if_neg h4]; rfl
theorem hex_size (c k : Nat) : (ByteArray.mk (hexL c k).toArray).size = k := by
 show (hexL c k).toArray.size = k
 simp [hexL_len]
theorem rune_is (c : Int) (t : ByteArray) (h : Utf8.encode c = t) (w : World) :
  Calls Tryz.prog 10 #[.int .i32 c] w fun e w' => e = .returned (.string t) ∧ w' = w := by rw [← h]; exact rune_any c w
set_option maxRecDepth 1000000 in
set_option maxHeartbeats 400000 in
theorem inq_q (c q : Nat) (a : Bool) (w : World) (hq : q < 128) (h : c = q ∨ c = 92) :
  Calls Tryz.prog 162 #[.int .i32 c, .int .i32 q, .bool a] w fun e w' => e = .returned (.string ⟨(inL c q a).toArray⟩) ∧ Below w.heap.size w w' := by
 rw [inL_q c q a h]
 have hc : c < 128 := by omega
 have he : (ByteArray.mk #[92]) ++ Utf8.encode (c : Int) = ⟨[92, UInt8.ofNat c].toArray⟩ := by rw [enc1 c hc]; rfl
 have hsz := enc_size_le (c : Int)
 obtain ⟨r, hr⟩ : ∃ r, (⟨[92, UInt8.ofNat c].toArray⟩ : ByteArray) = r := ⟨_, rfl⟩
 rw [hr] at he ⊢
 obtain ⟨t, ht⟩ : ∃ t, Utf8.encode (c : Int) = t := ⟨_, rfl⟩
 rw [ht] at he hsz
 have hsum : ¬ 9223372036854775807 < (ByteArray.mk #[92]).size + t.size := by
  show ¬ 9223372036854775807 < 1 + t.size
  omega
 by_cases h1 : c = q
 ·subst h1
  go_enter Tryz.func162, Tryz.ntmps162
  go_wp2_with (go_at_call 10; refine (rune_is _ t ht _).mono ?_; rintro e w' ⟨rfl, rfl⟩)
  go_ret
  exact ⟨rfl, Below.refl _ _⟩
 ·obtain rfl : c = 92 := by omega
  have h1' : ¬ (92 : Int) = (q : Int) := by omega
  go_enter Tryz.func162, Tryz.ntmps162
  go_wp2_with (go_at_call 10; refine (rune_is _ t ht _).mono ?_; rintro e w' ⟨rfl, rfl⟩)
  go_ret
  exact ⟨rfl, Below.refl _ _⟩
set_option maxRecDepth 1000000 in
set_option maxHeartbeats 400000 in
theorem inq_e0 (q : Nat) (a : Bool) (w : World) (hE : Esc w) (hq : 14 ≤ q) :
  Calls Tryz.prog 162 #[.int .i32 7, .int .i32 q, .bool a] w fun e w' => e = .returned (.string ⟨#[92, UInt8.ofNat (escT 0)]⟩) ∧ Below w.heap.size w w' := by
 have h1 : ¬ (7 : Int) = (q : Int) := by omega
 have hg : w.cell? ⟨2, 0, none⟩ = some (.int .i32 97) := hE.2 0 (by omega)
 have he : (ByteArray.mk #[92]) ++ Utf8.encode 97 = ⟨#[92, UInt8.ofNat (escT 0)]⟩ := by decide +kernel
 have hsz := enc_size_le 97
 obtain ⟨r, hr⟩ : ∃ r, (⟨#[92, UInt8.ofNat (escT 0)]⟩ : ByteArray) = r := ⟨_, rfl⟩
 rw [hr] at he ⊢
 obtain ⟨t, ht⟩ : ∃ t, Utf8.encode 97 = t := ⟨_, rfl⟩
 rw [ht] at he hsz
 have hsum : ¬ 9223372036854775807 < (ByteArray.mk #[92]).size + t.size := by
  show ¬ 9223372036854775807 < 1 + t.size
  omega
 go_enter Tryz.func162, Tryz.ntmps162
 go_wp2_with (go_at_call 10; refine (rune_is _ t ht _).mono ?_; rintro e w' ⟨rfl, rfl⟩)
 go_ret
 exact ⟨rfl, Below.refl _ _⟩
set_option maxRecDepth 1000000 in
set_option maxHeartbeats 400000 in
theorem inq_e1 (q : Nat) (a : Bool) (w : World) (hE : Esc w) (hq : 14 ≤ q) :
  Calls Tryz.prog 162 #[.int .i32 8, .int .i32 q, .bool a] w fun e w' => e = .returned (.string ⟨#[92, UInt8.ofNat (escT 1)]⟩) ∧ Below w.heap.size w w' := by
 have h1 : ¬ (8 : Int) = (q : Int) := by omega
 have hg : w.cell? ⟨2, 1, none⟩ = some (.int .i32 98) := hE.2 1 (by omega)
 have he : (ByteArray.mk #[92]) ++ Utf8.encode 98 = ⟨#[92, UInt8.ofNat (escT 1)]⟩ := by decide +kernel
 have hsz := enc_size_le 98
 obtain ⟨r, hr⟩ : ∃ r, (⟨#[92, UInt8.ofNat (escT 1)]⟩ : ByteArray) = r := ⟨_, rfl⟩
 rw [hr] at he ⊢
 obtain ⟨t, ht⟩ : ∃ t, Utf8.encode 98 = t := ⟨_, rfl⟩
 rw [ht] at he hsz
 have hsum : ¬ 9223372036854775807 < (ByteArray.mk #[92]).size + t.size := by
  show ¬ 9223372036854775807 < 1 + t.size
  omega
 go_enter Tryz.func162, Tryz.ntmps162
 go_wp2_with (go_at_call 10; refine (rune_is _ t ht _).mono ?_; rintro e w' ⟨rfl, rfl⟩)
 go_ret
 exact ⟨rfl, Below.refl _ _⟩
set_option maxRecDepth 1000000 in
set_option maxHeartbeats 400000 in
theorem inq_e2 (q : Nat) (a : Bool) (w : World) (hE : Esc w) (hq : 14 ≤ q) :
  Calls Tryz.prog 162 #[.int .i32 9, .int .i32 q, .bool a] w fun e w' => e = .returned (.string ⟨#[92, UInt8.ofNat (escT 2)]⟩) ∧ Below w.heap.size w w' := by
 have h1 : ¬ (9 : Int) = (q : Int) := by omega
 have hg : w.cell? ⟨2, 2, none⟩ = some (.int .i32 116) := hE.2 2 (by omega)
 have he : (ByteArray.mk #[92]) ++ Utf8.encode 116 = ⟨#[92, UInt8.ofNat (escT 2)]⟩ := by decide +kernel
 have hsz := enc_size_le 116
 obtain ⟨r, hr⟩ : ∃ r, (⟨#[92, UInt8.ofNat (escT 2)]⟩ : ByteArray) = r := ⟨_, rfl⟩
 rw [hr] at he ⊢
 obtain ⟨t, ht⟩ : ∃ t, Utf8.encode 116 = t := ⟨_, rfl⟩
 rw [ht] at he hsz
 have hsum : ¬ 9223372036854775807 < (ByteArray.mk #[92]).size + t.size := by
  show ¬ 9223372036854775807 < 1 + t.size
  omega
 go_enter Tryz.func162, Tryz.ntmps162
 go_wp2_with (go_at_call 10; refine (rune_is _ t ht _).mono ?_; rintro e w' ⟨rfl, rfl⟩)
 go_ret
 exact ⟨rfl, Below.refl _ _⟩
set_option maxRecDepth 1000000 in
set_option maxHeartbeats 400000 in
theorem inq_e3 (q : Nat) (a : Bool) (w : World) (hE : Esc w) (hq : 14 ≤ q) :
  Calls Tryz.prog 162 #[.int .i32 10, .int .i32 q, .bool a] w fun e w' => e = .returned (.string ⟨#[92, UInt8.ofNat (escT 3)]⟩) ∧ Below w.heap.size w w' := by
 have h1 : ¬ (10 : Int) = (q : Int) := by omega
 have hg : w.cell? ⟨2, 3, none⟩ = some (.int .i32 110) := hE.2 3 (by omega)
 have he : (ByteArray.mk #[92]) ++ Utf8.encode 110 = ⟨#[92, UInt8.ofNat (escT 3)]⟩ := by decide +kernel
 have hsz := enc_size_le 110
 obtain ⟨r, hr⟩ : ∃ r, (⟨#[92, UInt8.ofNat (escT 3)]⟩ : ByteArray) = r := ⟨_, rfl⟩
 rw [hr] at he ⊢
 obtain ⟨t, ht⟩ : ∃ t, Utf8.encode 110 = t := ⟨_, rfl⟩
 rw [ht] at he hsz
 have hsum : ¬ 9223372036854775807 < (ByteArray.mk #[92]).size + t.size := by
  show ¬ 9223372036854775807 < 1 + t.size
  omega
 go_enter Tryz.func162, Tryz.ntmps162
 go_wp2_with (go_at_call 10; refine (rune_is _ t ht _).mono ?_; rintro e w' ⟨rfl, rfl⟩)
 go_ret
 exact ⟨rfl, Below.refl _ _⟩
set_option maxRecDepth 1000000 in
set_option maxHeartbeats 400000 in
theorem inq_e4 (q : Nat) (a : Bool) (w : World) (hE : Esc w) (hq : 14 ≤ q) :
  Calls Tryz.prog 162 #[.int .i32 11, .int .i32 q, .bool a] w fun e w' => e = .returned (.string ⟨#[92, UInt8.ofNat (escT 4)]⟩) ∧ Below w.heap.size w w' := by
 have h1 : ¬ (11 : Int) = (q : Int) := by omega
 have hg : w.cell? ⟨2, 4, none⟩ = some (.int .i32 118) := hE.2 4 (by omega)
 have he : (ByteArray.mk #[92]) ++ Utf8.encode 118 = ⟨#[92, UInt8.ofNat (escT 4)]⟩ := by decide +kernel
 have hsz := enc_size_le 118
 obtain ⟨r, hr⟩ : ∃ r, (⟨#[92, UInt8.ofNat (escT 4)]⟩ : ByteArray) = r := ⟨_, rfl⟩
 rw [hr] at he ⊢
 obtain ⟨t, ht⟩ : ∃ t, Utf8.encode 118 = t := ⟨_, rfl⟩
 rw [ht] at he hsz
 have hsum : ¬ 9223372036854775807 < (ByteArray.mk #[92]).size + t.size := by
  show ¬ 9223372036854775807 < 1 + t.size
  omega
 go_enter Tryz.func162, Tryz.ntmps162
 go_wp2_with (go_at_call 10; refine (rune_is _ t ht _).mono ?_; rintro e w' ⟨rfl, rfl⟩)
 go_ret
 exact ⟨rfl, Below.refl _ _⟩
set_option maxRecDepth 1000000 in
set_option maxHeartbeats 400000 in
theorem inq_e5 (q : Nat) (a : Bool) (w : World) (hE : Esc w) (hq : 14 ≤ q) :
  Calls Tryz.prog 162 #[.int .i32 12, .int .i32 q, .bool a] w fun e w' => e = .returned (.string ⟨#[92, UInt8.ofNat (escT 5)]⟩) ∧ Below w.heap.size w w' := by
 have h1 : ¬ (12 : Int) = (q : Int) := by omega
 have hg : w.cell? ⟨2, 5, none⟩ = some (.int .i32 102) := hE.2 5 (by omega)
 have he : (ByteArray.mk #[92]) ++ Utf8.encode 102 = ⟨#[92, UInt8.ofNat (escT 5)]⟩ := by decide +kernel
 have hsz := enc_size_le 102
 obtain ⟨r, hr⟩ : ∃ r, (⟨#[92, UInt8.ofNat (escT 5)]⟩ : ByteArray) = r := ⟨_, rfl⟩
 rw [hr] at he ⊢
 obtain ⟨t, ht⟩ : ∃ t, Utf8.encode 102 = t := ⟨_, rfl⟩
 rw [ht] at he hsz
 have hsum : ¬ 9223372036854775807 < (ByteArray.mk #[92]).size + t.size := by
  show ¬ 9223372036854775807 < 1 + t.size
  omega
 go_enter Tryz.func162, Tryz.ntmps162
 go_wp2_with (go_at_call 10; refine (rune_is _ t ht _).mono ?_; rintro e w' ⟨rfl, rfl⟩)
 go_ret
 exact ⟨rfl, Below.refl _ _⟩
set_option maxRecDepth 1000000 in
set_option maxHeartbeats 400000 in
theorem inq_e6 (q : Nat) (a : Bool) (w : World) (hE : Esc w) (hq : 14 ≤ q) :
  Calls Tryz.prog 162 #[.int .i32 13, .int .i32 q, .bool a] w fun e w' => e = .returned (.string ⟨#[92, UInt8.ofNat (escT 6)]⟩) ∧ Below w.heap.size w w' := by
 have h1 : ¬ (13 : Int) = (q : Int) := by omega
 have hg : w.cell? ⟨2, 6, none⟩ = some (.int .i32 114) := hE.2 6 (by omega)
 have he : (ByteArray.mk #[92]) ++ Utf8.encode 114 = ⟨#[92, UInt8.ofNat (escT 6)]⟩ := by decide +kernel
 have hsz := enc_size_le 114
 obtain ⟨r, hr⟩ : ∃ r, (⟨#[92, UInt8.ofNat (escT 6)]⟩ : ByteArray) = r := ⟨_, rfl⟩
 rw [hr] at he ⊢
 obtain ⟨t, ht⟩ : ∃ t, Utf8.encode 114 = t := ⟨_, rfl⟩
 rw [ht] at he hsz
 have hsum : ¬ 9223372036854775807 < (ByteArray.mk #[92]).size + t.size := by
  show ¬ 9223372036854775807 < 1 + t.size
  omega
 go_enter Tryz.func162, Tryz.ntmps162
 go_wp2_with (go_at_call 10; refine (rune_is _ t ht _).mono ?_; rintro e w' ⟨rfl, rfl⟩)
 go_ret
 exact ⟨rfl, Below.refl _ _⟩
theorem inq_e (c q : Nat) (a : Bool) (w : World) (hE : Esc w) (hq : 14 ≤ q) (h : 7 ≤ c ∧ c ≤ 13) :
  Calls Tryz.prog 162 #[.int .i32 c, .int .i32 q, .bool a] w fun e w' => e = .returned (.string ⟨(inL c q a).toArray⟩) ∧ Below w.heap.size w w' := by
 rw [inL_e c q a (by omega) h]
 have hm : c = 7 ∨ c = 8 ∨ c = 9 ∨ c = 10 ∨ c = 11 ∨ c = 12 ∨ c = 13 := by omega
 rcases hm with rfl | rfl | rfl | rfl | rfl | rfl | rfl
 ·exact inq_e0 q a w hE hq
 ·exact inq_e1 q a w hE hq
 ·exact inq_e2 q a w hE hq
 ·exact inq_e3 q a w hE hq
 ·exact inq_e4 q a w hE hq
 ·exact inq_e5 q a w hE hq
 ·exact inq_e6 q a w hE hq
theorem plain_yes (c : Int) (w : World) (h : plainP c = true) :
  Calls Tryz.prog 205 #[.int .i32 c] w fun e w' => e = .returned (.bool true) ∧ w' = w := by rw [← h]; exact plain_any c w
theorem plain_no (c : Int) (w : World) (h : plainP c = false) :
  Calls Tryz.prog 205 #[.int .i32 c] w fun e w' => e = .returned (.bool false) ∧ w' = w := by rw [← h]; exact plain_any c w
theorem hexa_is (c k : Nat) (t : ByteArray) (h : (⟨(hexL c k).toArray⟩ : ByteArray) = t) (w : World) (hc : c ≤ 1114111) (hk : k ≤ 8) :
  Calls Tryz.prog 161 #[.int .i32 c, .int .i64 k] w fun e w' => e = .returned (.string t) ∧ Below w.heap.size w w' := by rw [← h]; exact hexa_any c k w hc hk
theorem hex_bytes (x : UInt8) (c k : Nat) : (ByteArray.mk #[92, x]) ++ (ByteArray.mk (hexL c k).toArray) = ⟨([92, x] ++ hexL c k).toArray⟩ := ba_app [92, x] (hexL c k)
set_option maxRecDepth 1000000 in
set_option maxHeartbeats 400000 in
theorem inq_x (c q : Nat) (a : Bool) (w : World) (hc : c ≤ 1114111) (h : ¬ (c = q ∨ c = 92)) (h1 : ¬ (7 ≤ c ∧ c ≤ 13)) (h2 : ¬ (plainP c = true ∧ (c ≤ 126 ∨ a = false))) (h3 : c < 128) :
  Calls Tryz.prog 162 #[.int .i32 c, .int .i32 q, .bool a] w fun e w' => e = .returned (.string ⟨(inL c q a).toArray⟩) ∧ Below w.heap.size w w' := by
 rw [inL_x c q a h h1 h2 h3]
 have he := hex_bytes 120 c 2
 have hs := hex_size c 2
 obtain ⟨r, hr⟩ : ∃ r, (⟨([92, 120] ++ hexL c 2).toArray⟩ : ByteArray) = r := ⟨_, rfl⟩
 rw [hr] at he ⊢
 obtain ⟨t, ht⟩ : ∃ t, (⟨(hexL c 2).toArray⟩ : ByteArray) = t := ⟨_, rfl⟩
 rw [ht] at he hs
 have hsum : ¬ 9223372036854775807 < (ByteArray.mk #[92, 120]).size + t.size := by
  show ¬ 9223372036854775807 < 2 + t.size
  omega
 have n1 : ¬ (c : Int) = (q : Int) := by omega
 have n2 : ¬ (c : Int) = 92 := by omega
 have n3 : ¬ (c : Int) = 7 := by omega
 have n4 : ¬ (c : Int) = 8 := by omega
 have n5 : ¬ (c : Int) = 9 := by omega
 have n6 : ¬ (c : Int) = 10 := by omega
 have n7 : ¬ (c : Int) = 11 := by omega
 have n8 : ¬ (c : Int) = 12 := by omega
 have n9 : ¬ (c : Int) = 13 := by omega
 have m3 : (c : Int) < 128 := by omega
 cases hp : plainP (c : Int) with
 | false =>
   clear h2
   go_enter Tryz.func162, Tryz.ntmps162
   go_wp2_with (first | (go_at_call 161; refine (hexa_is c 2 t ht _ hc (by omega)).mono ?_; rintro e w' ⟨rfl, hb⟩) | (go_at_call 205; refine (plain_no _ _ hp).mono ?_; rintro e w' ⟨rfl, rfl⟩))
   go_ret
   exact ⟨rfl, hb⟩
 | true =>
   have hle : ¬ (c : Int) ≤ 126 := fun hle => h2 ⟨hp, .inl (by omega)⟩
   obtain rfl : a = true := by
    cases a with
    | true => rfl
    | false => exact absurd ⟨hp, .inr rfl⟩ h2
   clear h2
   go_enter Tryz.func162, Tryz.ntmps162
   go_wp2_with (first | (go_at_call 161; refine (hexa_is c 2 t ht _ hc (by omega)).mono ?_; rintro e w' ⟨rfl, hb⟩) | (go_at_call 205; refine (plain_yes _ _ hp).mono ?_; rintro e w' ⟨rfl, rfl⟩))
   go_ret
   exact ⟨rfl, hb⟩
set_option maxRecDepth 1000000 in
set_option maxHeartbeats 400000 in
theorem inq_u (c q : Nat) (a : Bool) (w : World) (hc : c ≤ 1114111) (h : ¬ (c = q ∨ c = 92)) (h1 : ¬ (7 ≤ c ∧ c ≤ 13)) (h2 : ¬ (plainP c = true ∧ (c ≤ 126 ∨ a = false))) (h3 : ¬ c < 128) (h4 : c ≤ 65535) :
  Calls Tryz.prog 162 #[.int .i32 c, .int .i32 q, .bool a] w fun e w' => e = .returned (.string ⟨(inL c q a).toArray⟩) ∧ Below w.heap.size w w' := by
 rw [inL_u c q a h h1 h2 h3 h4]
 have he := hex_bytes 117 c 4
 have hs := hex_size c 4
 obtain ⟨r, hr⟩ : ∃ r, (⟨([92, 117] ++ hexL c 4).toArray⟩ : ByteArray) = r := ⟨_, rfl⟩
 rw [hr] at he ⊢
 obtain ⟨t, ht⟩ : ∃ t, (⟨(hexL c 4).toArray⟩ : ByteArray) = t := ⟨_, rfl⟩
 rw [ht] at he hs
 have hsum : ¬ 9223372036854775807 < (ByteArray.mk #[92, 117]).size + t.size := by
  show ¬ 9223372036854775807 < 2 + t.size
  omega
 have n1 : ¬ (c : Int) = (q : Int) := by omega
 have n2 : ¬ (c : Int) = 92 := by omega
 have n3 : ¬ (c : Int) = 7 := by omega
 have n4 : ¬ (c : Int) = 8 := by omega
 have n5 : ¬ (c : Int) = 9 := by omega
 have n6 : ¬ (c : Int) = 10 := by omega
 have n7 : ¬ (c : Int) = 11 := by omega
 have n8 : ¬ (c : Int) = 12 := by omega
 have n9 : ¬ (c : Int) = 13 := by omega
 have m3 : ¬ (c : Int) < 128 := by omega
 have m4 : (c : Int) ≤ 65535 := by omega
 cases hp : plainP (c : Int) with
 | false =>
   clear h2
   go_enter Tryz.func162, Tryz.ntmps162
   go_wp2_with (first | (go_at_call 161; refine (hexa_is c 4 t ht _ hc (by omega)).mono ?_; rintro e w' ⟨rfl, hb⟩) | (go_at_call 205; refine (plain_no _ _ hp).mono ?_; rintro e w' ⟨rfl, rfl⟩))
   go_ret
   exact ⟨rfl, hb⟩
 | true =>
   have hle : ¬ (c : Int) ≤ 126 := fun hle => h2 ⟨hp, .inl (by omega)⟩
   obtain rfl : a = true := by
    cases a with
    | true => rfl
    | false => exact absurd ⟨hp, .inr rfl⟩ h2
   clear h2
   go_enter Tryz.func162, Tryz.ntmps162
   go_wp2_with (first | (go_at_call 161; refine (hexa_is c 4 t ht _ hc (by omega)).mono ?_; rintro e w' ⟨rfl, hb⟩) | (go_at_call 205; refine (plain_yes _ _ hp).mono ?_; rintro e w' ⟨rfl, rfl⟩))
   go_ret
   exact ⟨rfl, hb⟩
set_option maxRecDepth 1000000 in
set_option maxHeartbeats 400000 in
theorem inq_U (c q : Nat) (a : Bool) (w : World) (hc : c ≤ 1114111) (h : ¬ (c = q ∨ c = 92)) (h1 : ¬ (7 ≤ c ∧ c ≤ 13)) (h2 : ¬ (plainP c = true ∧ (c ≤ 126 ∨ a = false))) (h3 : ¬ c < 128) (h4 : ¬ c ≤ 65535) :
  Calls Tryz.prog 162 #[.int .i32 c, .int .i32 q, .bool a] w fun e w' => e = .returned (.string ⟨(inL c q a).toArray⟩) ∧ Below w.heap.size w w' := by
 rw [inL_U c q a h h1 h2 h3 h4]
 have he := hex_bytes 85 c 8
 have hs := hex_size c 8
 obtain ⟨r, hr⟩ : ∃ r, (⟨([92, 85] ++ hexL c 8).toArray⟩ : ByteArray) = r := ⟨_, rfl⟩
 rw [hr] at he ⊢
 obtain ⟨t, ht⟩ : ∃ t, (⟨(hexL c 8).toArray⟩ : ByteArray) = t := ⟨_, rfl⟩
 rw [ht] at he hs
 have hsum : ¬ 9223372036854775807 < (ByteArray.mk #[92, 85]).size + t.size := by
  show ¬ 9223372036854775807 < 2 + t.size
  omega
 have n1 : ¬ (c : Int) = (q : Int) := by omega
 have n2 : ¬ (c : Int) = 92 := by omega
 have n3 : ¬ (c : Int) = 7 := by omega
 have n4 : ¬ (c : Int) = 8 := by omega
 have n5 : ¬ (c : Int) = 9 := by omega
 have n6 : ¬ (c : Int) = 10 := by omega
 have n7 : ¬ (c : Int) = 11 := by omega
 have n8 : ¬ (c : Int) = 12 := by omega
 have n9 : ¬ (c : Int) = 13 := by omega
 have m3 : ¬ (c : Int) < 128 := by omega
 have m4 : ¬ (c : Int) ≤ 65535 := by omega
 cases hp : plainP (c : Int) with
 | false =>
   clear h2
   go_enter Tryz.func162, Tryz.ntmps162
   go_wp2_with (first | (go_at_call 161; refine (hexa_is c 8 t ht _ hc (by omega)).mono ?_; rintro e w' ⟨rfl, hb⟩) | (go_at_call 205; refine (plain_no _ _ hp).mono ?_; rintro e w' ⟨rfl, rfl⟩))
   go_ret
   exact ⟨rfl, hb⟩
 | true =>
   have hle : ¬ (c : Int) ≤ 126 := fun hle => h2 ⟨hp, .inl (by omega)⟩
   obtain rfl : a = true := by
    cases a with
    | true => rfl
    | false => exact absurd ⟨hp, .inr rfl⟩ h2
   clear h2
   go_enter Tryz.func162, Tryz.ntmps162
   go_wp2_with (first | (go_at_call 161; refine (hexa_is c 8 t ht _ hc (by omega)).mono ?_; rintro e w' ⟨rfl, hb⟩) | (go_at_call 205; refine (plain_yes _ _ hp).mono ?_; rintro e w' ⟨rfl, rfl⟩))
   go_ret
   exact ⟨rfl, hb⟩
end Go.Proofs.YtdlnmnipnkeabaaGreatDoor
namespace Go.Proofs.YtdlnmnipnkeabaaGreatDoor
open Go.RowKit
set_option maxRecDepth 1000000 in
set_option maxHeartbeats 400000 in
theorem inq_p (c q : Nat) (a : Bool) (w : World) (h : ¬ (c = q ∨ c = 92)) (h1 : ¬ (7 ≤ c ∧ c ≤ 13)) (h2 : plainP c = true ∧ (c ≤ 126 ∨ a = false)) :
  Calls Tryz.prog 162 #[.int .i32 c, .int .i32 q, .bool a] w fun e w' => e = .returned (.string ⟨(inL c q a).toArray⟩) ∧ Below w.heap.size w w' := by
 rw [inL_p c q a h h1 h2, ba_list]
 obtain ⟨t, ht⟩ : ∃ t, Utf8.encode (c : Int) = t := ⟨_, rfl⟩
 rw [ht]
 obtain ⟨hp, h3⟩ := h2
 have n1 : ¬ (c : Int) = (q : Int) := by omega
 have n2 : ¬ (c : Int) = 92 := by omega
 have n3 : ¬ (c : Int) = 7 := by omega
 have n4 : ¬ (c : Int) = 8 := by omega
 have n5 : ¬ (c : Int) = 9 := by omega
 have n6 : ¬ (c : Int) = 10 := by omega
 have n7 : ¬ (c : Int) = 11 := by omega
 have n8 : ¬ (c : Int) = 12 := by omega
 have n9 : ¬ (c : Int) = 13 := by omega
 have hR := rune_is c t ht
 have hP : ∀ w, Calls Tryz.prog 205 #[.int .i32 c] w fun e w' => e = .returned (.bool true) ∧ w' = w := fun w => plain_yes c w hp
 clear ht hp
 by_cases hle : c ≤ 126
 ·have hle' : (c : Int) ≤ 126 := by omega
  clear h3 h h1
  go_enter Tryz.func162, Tryz.ntmps162
  go_wp2_with (first | (go_at_call 10; refine (hR _).mono ?_; rintro e w' ⟨rfl, rfl⟩) | (go_at_call 205; refine (hP _).mono ?_; rintro e w' ⟨rfl, rfl⟩))
  go_ret
  exact ⟨rfl, Below.refl _ _⟩
 ·obtain rfl : a = false := by
   rcases h3 with h3 | h3
   ·omega
   ·exact h3
  have hle' : ¬ (c : Int) ≤ 126 := by omega
  clear h3 h h1
  go_enter Tryz.func162, Tryz.ntmps162
  go_wp2_with (first | (go_at_call 10; refine (hR _).mono ?_; rintro e w' ⟨rfl, rfl⟩) | (go_at_call 205; refine (hP _).mono ?_; rintro e w' ⟨rfl, rfl⟩))
  go_ret
  exact ⟨rfl, Below.refl _ _⟩
theorem inq_any (c q : Nat) (a : Bool) (w : World) (hE : Esc w) (hc : c ≤ 1114111) (hq : q = 34 ∨ q = 39) :
  Calls Tryz.prog 162 #[.int .i32 c, .int .i32 q, .bool a] w fun e w' => e = .returned (.string ⟨(inL c q a).toArray⟩) ∧ Below w.heap.size w w' := by
 by_cases h : c = q ∨ c = 92
 ·exact inq_q c q a w (by omega) h
 by_cases h1 : 7 ≤ c ∧ c ≤ 13
 ·exact inq_e c q a w hE (by omega) h1
 by_cases h2 : plainP c = true ∧ (c ≤ 126 ∨ a = false)
 ·exact inq_p c q a w h h1 h2
 by_cases h3 : c < 128
 ·exact inq_x c q a w hc h h1 h2 h3
 by_cases h4 : c ≤ 65535
 ·exact inq_u c q a w hc h h1 h2 h3 h4
 ·exact inq_U c q a w hc h h1 h2 h3 h4
end Go.Proofs.YtdlnmnipnkeabaaGreatDoor
namespace Go.Proofs.YtdlnmnipnkeabaaGreatDoor
open Go.RowKit
theorem str_cells' (r : ByteArray) : Lib.strCells r = Lib.byteCells r.data.toList := by
 simp [Lib.strCells, Lib.byteCells]
end Go.Proofs.YtdlnmnipnkeabaaGreatDoor
namespace Go.Proofs.YtdlnmnipnkeabaaGreatDoor
open Go.RowKit
set_option linter.unusedVariables false
def chrS (c : Int) (a : Bool) : ByteArray := ⟨(39 :: (inL (pt c) 39 a ++ [39])).toArray⟩
theorem pt_le (c : Int) : pt c ≤ 1114111 := by
 have := (valid_iff _).1 (pt_valid c)
 omega
theorem one_sum (x : UInt8) (t : ByteArray) (h : t.size ≤ 100000000) : ¬ 9223372036854775807 < (ByteArray.mk #[x]).size + t.size := by
 show ¬ 9223372036854775807 < 1 + t.size
 omega
theorem sum_one (x : UInt8) (t : ByteArray) (h : t.size ≤ 100000000) : ¬ 9223372036854775807 < t.size + (ByteArray.mk #[x]).size := by
 show ¬ 9223372036854775807 < t.size + 1
 omega
theorem chr_pack (c : Int) (a : Bool) : ∃ r t u : ByteArray, chrS c a = r ∧ (ByteArray.mk #[39]) ++ t = u ∧ u ++ (ByteArray.mk #[39]) = r ∧ ¬ 9223372036854775807 < (ByteArray.mk #[39]).size + t.size ∧ ¬ 9223372036854775807 < u.size + (ByteArray.mk #[39]).size ∧
  ∀ w, Esc w → Calls Tryz.prog 162 #[.int .i32 (pt c : Nat), .int .i32 39, .bool a] w fun e w' => e = .returned (.string t) ∧ Below w.heap.size w w' := by
 have hl := inL_len (pt c) 39 a
 have e1 : (ByteArray.mk #[39]) ++ (ByteArray.mk (inL (pt c) 39 a).toArray) = ⟨(39 :: inL (pt c) 39 a).toArray⟩ := ba_app [39] _
 have e2 : (ByteArray.mk (39 :: inL (pt c) 39 a).toArray) ++ (ByteArray.mk #[39]) = chrS c a := ba_app (39 :: inL (pt c) 39 a) [39]
 refine ⟨_, _, _, rfl, e1, e2, one_sum 39 _ ?_, sum_one 39 _ ?_, fun w hE => inq_any (pt c) 39 a w hE (pt_le c) (.inr rfl)⟩
 ·show (inL (pt c) 39 a).toArray.size ≤ 100000000
  simp; omega
 ·show (39 :: inL (pt c) 39 a).toArray.size ≤ 100000000
  simp; omega
theorem dec_enc (c : Int) : dec (Utf8.encode c) = (pt c, (Utf8.encode c).size) := by
 have := back_dec c ⟨#[]⟩
 have e : Utf8.encode c ++ (ByteArray.mk #[]) = Utf8.encode c := by
  have := ba_app (Utf8.encode c).data.toList []
  rw [List.append_nil, ba_list] at this
  exact this
 rw [e] at this
 exact this
set_option maxRecDepth 1000000 in
set_option maxHeartbeats 400000 in
theorem char_any (c : Int) (a : Bool) (w : World) (hE : Esc w) :
  Calls Tryz.prog 245 #[.int .i32 c, .bool a] w fun e w' => e = .returned (.string (chrS c a)) ∧ Below w.heap.size w w' := by
 obtain ⟨r, t, u, hr, h1, h2, h3, h4, hQ⟩ := chr_pack c a
 rw [hr]
 obtain ⟨k, hk⟩ : ∃ k, Utf8.encode c = k := ⟨_, rfl⟩
 have hR := rune_is c k hk
 have hD : ∀ w, Calls Tryz.prog 62 #[.string k] w fun e w' => e = .returned (.tuple #[.int .i32 (pt c : Nat), .int .i64 k.size]) ∧ Below w.heap.size w w' := by
  intro w
  have := decode_any k w
  rw [← hk, dec_enc c] at this
  rw [← hk]
  exact this
 clear hk hr
 generalize pt c = P at *
 go_enter Tryz.func245, Tryz.ntmps245
 go_wp2_with (first | (go_at_call 10; refine (hR _).mono ?_; rintro e w' ⟨rfl, rfl⟩) | (go_at_call 62; refine (hD _).mono ?_; rintro e w1 ⟨rfl, hb1⟩) | (go_at_call 162; refine (hQ _ (hE.below hb1)).mono ?_; rintro e w2 ⟨rfl, hb2⟩))
 go_ret
 exact ⟨rfl, hb1.trans (hb2.mono hb1.size)⟩
end Go.Proofs.YtdlnmnipnkeabaaGreatDoor
namespace Go.Proofs.YtdlnmnipnkeabaaGreatDoor
open Go.RowKit
set_option maxHeartbeats 400000 in
theorem width_any (n : Int) (w : World) :
  Calls Tryz.prog 156 #[.int .i64 n] w fun e w' => e = .returned (.int .i64 (wdt n : Nat)) ∧ w' = w := by
 go_enter Tryz.func156, Tryz.ntmps156
 go_wp2
 go_ret
 exact ⟨ret_int (wdt_eq n), rfl⟩
theorem conv1d (w : World) (x : Int) :
  (convert 47 9 (.slice (some ⟨w.heap.size, 0, none⟩) 1 1)).run Tryz.prog (w.alloc (.cells #[.int .u8 x] 5)).drew = .ok (.string (strOfNums [x])) (w.alloc (.cells #[.int .u8 x] 5)).drew := by
 refine run_convert_bytes_arg _ 47 5 Tryz.underlying47 Tryz.underlying5 w.heap.size 0 1 1 [x] rfl (fun i hi => ?_) 9 Tryz.underlying9
 have : i = 0 := by omega
 subst this
 simp
theorem repeat_byte (x : Int) (k : Nat) (w : World) (hk : k ≤ 1000) :
  Calls Tryz.prog 204 #[.string (strOfNums [x]), .int .i64 k] w fun e w' => e = .returned (.string ⟨(List.replicate k (UInt8.ofNat x.toNat)).toArray⟩) ∧ Below w.heap.size w w' := by
 have hz : (strOfNums [x]).size = 1 := rfl
 refine (Tryz.strings_Repeat (strOfNums [x]) k w (by omega) (by rw [hz]; omega)).mono ?_
 rintro e w' ⟨rfl, hb⟩
 refine ⟨ret_str ?_, hb⟩
 have e : (strOfNums [x]).data.toList = List.replicate 1 (UInt8.ofNat x.toNat) := rfl
 rw [e, Lib.repeatL_replicate, Nat.mul_one]
set_option maxRecDepth 1000000 in
set_option maxHeartbeats 400000 in
theorem fill_any (c : Nat) (n : Int) (w : World) :
  Calls Tryz.prog 158 #[.int .u8 c, .int .i64 n] w fun e w' => e = .returned (.string (run c (wdt n))) ∧ Below w.heap.size w w' := by
 have kc := conv1d
 go_enter Tryz.func158, Tryz.ntmps158
 go_wp2_with fail
 go_region_with (first | (go_at_call 156; refine (width_any _ _).mono ?_; rintro e w' ⟨rfl, rfl⟩) | (go_at_call 204; refine (repeat_byte _ _ _ (wdt_le n)).mono ?_; rintro e w1 ⟨rfl, hb⟩))
 all_goals go_wp2
 all_goals go_ret
 all_goals exact ⟨rfl, (((Below.refl _ _).alloc (Nat.le_refl _) _).drew).trans (hb.mono (by simp))⟩
end Go.Proofs.YtdlnmnipnkeabaaGreatDoor
namespace Go.Proofs.YtdlnmnipnkeabaaGreatDoor
open Go.RowKit
set_option maxRecDepth 1000000 in
set_option maxHeartbeats 800000 in
theorem count_any (s : ByteArray) (w : World) (hs : s.size ≤ maxLen) :
  Calls Tryz.prog 157 #[.string s] w fun e w' => e = .returned (.int .i64 (cntR s : Nat)) ∧ Below w.heap.size w w' := by
 unfold maxLen at hs
 go_enter Tryz.func157, Tryz.ntmps157
 go_wp2
 go_loopw [3] (fun n w' => ∃ pos k : Nat, w' = w.iter s pos ∧ n = .int .i64 k ∧ pos ≤ s.size ∧ k ≤ pos ∧ Hid (k + cntFrom s pos = cntR s)) (fun _ w' => s.size - w'.iterPos w.heap.size)
 case atStart => exact ⟨0, 0, rfl, rfl, Nat.zero_le _, Nat.le_refl _, by unfold cntR; exact Nat.zero_add _⟩
 case round =>
  obtain ⟨pos, k, rfl, rfl, hpos, hk, hc⟩ := hrel
  by_cases hp : pos < s.size
  ·have hnx : ∀ ty, (Instr.next (.pointer (some ⟨w.heap.size, 0, none⟩)) true ty).run Tryz.prog (w.iter s pos) = _ := fun ty => run_next_any w s pos ty hp
   go_wp2
   have hw := wid_pos s pos
   have hl := wid_le s pos hp
   go_roundw
   case rel =>
    refine ⟨pos + (Utf8.decode s pos).2, k + 1, rfl, by go_num, hl, by omega, ?_⟩
    have := hc.out
    rw [cntFrom_step s pos hp] at this
    show k + 1 + cntFrom s _ = _
    omega
   case measure =>
    simp
    omega
  ·have hnx : ∀ ty, (Instr.next (.pointer (some ⟨w.heap.size, 0, none⟩)) true ty).run Tryz.prog (w.iter s pos) = _ := fun ty => run_next_end w s pos ty hp
   go_wp2
   go_ret
   have := hc.out
   rw [cntFrom_end s pos hp] at this
   refine ⟨ret_int ?_, iter_below _ _ _⟩
   omega
end Go.Proofs.YtdlnmnipnkeabaaGreatDoor
namespace Go.Proofs.YtdlnmnipnkeabaaGreatDoor
open Go.RowKit
set_option maxRecDepth 1000000 in
set_option maxHeartbeats 400000 in
theorem pad_any (s : ByteArray) (p mi sh sp z : Bool) (wid prec verb : Int) (w : World) (hs : s.size ≤ 1000000) :
  Calls Tryz.prog 129 #[.string s, .agg #[.bool p, .bool mi, .bool sh, .bool sp, .bool z, .int .i64 wid, .int .i64 prec, .int .i32 verb]] w fun e w' => e = .returned (.string (padS s mi z wid)) ∧ Below w.heap.size w w' := by
 have hcn := cntR_le s
 have hwl := wdt_le wid
 have hk := wdt_le ((wdt wid : Nat) - (cntR s : Nat) : Int)
 cases mi with
 | true =>
   have hsum : ¬ 9223372036854775807 < s.size + (run 32 (wdt ((wdt wid : Nat) - (cntR s : Nat) : Int))).size := by rw [run_size]; omega
   go_enter Tryz.func129, Tryz.ntmps129
   go_wp2_with (first | (go_at_call 156; refine (width_any _ _).mono ?_; rintro e w' ⟨rfl, rfl⟩) | (go_at_call 157; refine (count_any _ _ (by unfold maxLen; omega)).mono ?_; rintro e w1 ⟨rfl, hb1⟩; have c1 : w1.cell? ⟨w.heap.size, 1, none⟩ = some (.bool true) := (by rw [hb1.cell (by simp)]; simp); have c4 : w1.cell? ⟨w.heap.size, 4, none⟩ = some (.bool z) := (by rw [hb1.cell (by simp)]; simp)) | (go_at_call 158; refine (fill_any 32 _ _).mono ?_; rintro e w2 ⟨rfl, hb2⟩))
   go_ret
   exact ⟨rfl, ((Below.refl _ _).alloc (Nat.le_refl _) _).trans ((hb1.trans (hb2.mono hb1.size)).mono (by simp))⟩
 | false =>
   cases z with
   | true =>
     have hsum : ¬ 9223372036854775807 < (run 48 (wdt ((wdt wid : Nat) - (cntR s : Nat) : Int))).size + s.size := by rw [run_size]; omega
     go_enter Tryz.func129, Tryz.ntmps129
     go_wp2_with (first | (go_at_call 156; refine (width_any _ _).mono ?_; rintro e w' ⟨rfl, rfl⟩) | (go_at_call 157; refine (count_any _ _ (by unfold maxLen; omega)).mono ?_; rintro e w1 ⟨rfl, hb1⟩; have c1 : w1.cell? ⟨w.heap.size, 1, none⟩ = some (.bool false) := (by rw [hb1.cell (by simp)]; simp); have c4 : w1.cell? ⟨w.heap.size, 4, none⟩ = some (.bool true) := (by rw [hb1.cell (by simp)]; simp)) | (go_at_call 158; refine (fill_any 48 _ _).mono ?_; rintro e w2 ⟨rfl, hb2⟩))
     go_ret
     exact ⟨rfl, ((Below.refl _ _).alloc (Nat.le_refl _) _).trans ((hb1.trans (hb2.mono hb1.size)).mono (by simp))⟩
   | false =>
     have hsum : ¬ 9223372036854775807 < (run 32 (wdt ((wdt wid : Nat) - (cntR s : Nat) : Int))).size + s.size := by rw [run_size]; omega
     go_enter Tryz.func129, Tryz.ntmps129
     go_wp2_with (first | (go_at_call 156; refine (width_any _ _).mono ?_; rintro e w' ⟨rfl, rfl⟩) | (go_at_call 157; refine (count_any _ _ (by unfold maxLen; omega)).mono ?_; rintro e w1 ⟨rfl, hb1⟩; have c1 : w1.cell? ⟨w.heap.size, 1, none⟩ = some (.bool false) := (by rw [hb1.cell (by simp)]; simp); have c4 : w1.cell? ⟨w.heap.size, 4, none⟩ = some (.bool false) := (by rw [hb1.cell (by simp)]; simp)) | (go_at_call 158; refine (fill_any 32 _ _).mono ?_; rintro e w2 ⟨rfl, hb2⟩))
     go_ret
     exact ⟨rfl, ((Below.refl _ _).alloc (Nat.le_refl _) _).trans ((hb1.trans (hb2.mono hb1.size)).mono (by simp))⟩
end Go.Proofs.YtdlnmnipnkeabaaGreatDoor
