/- The walks of isBroken, inQuotes and Quote. -/
import Derived.Test.YtbfaapbbhgegiaaDoorHexa
import Derived.Test.YtbfaapbbhgegiaaDoorDecode
import Derived.Test.YtbfaapbbhgegiaaDoorPlain5
namespace Go.Proofs.YtbfaapbbhgegiaaDoor
open Go.RowKit

/-- The table of letters, as it lies in memory. -/
def Esc (w : World) : Prop := 0 < w.heap.size ∧ ∀ i, i < 7 → w.cell? ⟨0, i, none⟩ = some (.int .i32 (escT i : Nat))
theorem Esc.below {w w' : World} (h : Esc w) (hb : Below w.heap.size w w') : Esc w' :=
  ⟨Nat.lt_of_lt_of_le h.1 hb.size, fun i hi => by rw [hb.cell (p := ⟨0, i, none⟩) h.1]; exact h.2 i hi⟩

set_option maxRecDepth 1000000 in
set_option maxHeartbeats 800000 in
theorem broken_any (c : Nat) (s : ByteArray) (w : World) (hc : c = (dec s).1) :
    Calls Tryd.prog 72 #[.int .i32 c, .string s] w fun e w' => e = .returned (.bool (brk (dec s))) ∧ Below w.heap.size w w' := by
  subst hc
  by_cases h1 : (dec s).1 = 65533
  · have h1' : (((dec s).1 : Nat) : Int) = 65533 := by omega
    by_cases h2 : (dec s).2 = 1
    · have h2' : (((dec s).2 : Nat) : Int) = 1 := by omega
      have hb : brk (dec s) = true := by simp [brk, h1, h2]
      rw [hb]
      go_enter Tryd.func72, Tryd.ntmps72
      go_wp2_with (go_at_call 88; refine (decode_any s _).mono ?_; rintro e w1 ⟨rfl, hb1⟩)
      go_ret
      exact ⟨rfl, hb1⟩
    · have h2' : ¬ (((dec s).2 : Nat) : Int) = 1 := by omega
      have hb : brk (dec s) = false := by simp [brk, h1, h2]
      rw [hb]
      go_enter Tryd.func72, Tryd.ntmps72
      go_wp2_with (go_at_call 88; refine (decode_any s _).mono ?_; rintro e w1 ⟨rfl, hb1⟩)
      go_ret
      exact ⟨by simp [h2'], hb1⟩
  · have h1' : ¬ (((dec s).1 : Nat) : Int) = 65533 := by omega
    have hb : brk (dec s) = false := by simp [brk, h1]
    rw [hb]
    go_enter Tryd.func72, Tryd.ntmps72
    go_wp2_with (go_at_call 88; refine (decode_any s _).mono ?_; rintro e w1 ⟨rfl, hb1⟩)
    go_ret
    exact ⟨rfl, Below.refl _ _⟩

theorem inL_q (c q : Nat) (a : Bool) (h : c = q ∨ c = 92) : inL c q a = [92, UInt8.ofNat c] := by unfold inL; rw [if_pos h]
theorem inL_e (c q : Nat) (a : Bool) (h : ¬ (c = q ∨ c = 92)) (h1 : 7 ≤ c ∧ c ≤ 13) : inL c q a = [92, UInt8.ofNat (escT (c - 7))] := by unfold inL; rw [if_neg h, if_pos h1]
theorem inL_p (c q : Nat) (a : Bool) (h : ¬ (c = q ∨ c = 92)) (h1 : ¬ (7 ≤ c ∧ c ≤ 13)) (h2 : plainP c = true ∧ (c ≤ 126 ∨ a = false)) : inL c q a = (Utf8.encode (c : Int)).data.toList := by unfold inL; rw [if_neg h, if_neg h1, if_pos h2]
theorem inL_x (c q : Nat) (a : Bool) (h : ¬ (c = q ∨ c = 92)) (h1 : ¬ (7 ≤ c ∧ c ≤ 13)) (h2 : ¬ (plainP c = true ∧ (c ≤ 126 ∨ a = false))) (h3 : c < 128) : inL c q a = [92, 120] ++ hexL c 2 := by unfold inL; rw [if_neg h, if_neg h1, if_neg h2, if_pos h3]; rfl
theorem inL_u (c q : Nat) (a : Bool) (h : ¬ (c = q ∨ c = 92)) (h1 : ¬ (7 ≤ c ∧ c ≤ 13)) (h2 : ¬ (plainP c = true ∧ (c ≤ 126 ∨ a = false))) (h3 : ¬ c < 128) (h4 : c ≤ 65535) : inL c q a = [92, 117] ++ hexL c 4 := by unfold inL; rw [if_neg h, if_neg h1, if_neg h2, if_neg h3, if_pos h4]; rfl
theorem inL_U (c q : Nat) (a : Bool) (h : ¬ (c = q ∨ c = 92)) (h1 : ¬ (7 ≤ c ∧ c ≤ 13)) (h2 : ¬ (plainP c = true ∧ (c ≤ 126 ∨ a = false))) (h3 : ¬ c < 128) (h4 : ¬ c ≤ 65535) : inL c q a = [92, 85] ++ hexL c 8 := by unfold inL; rw [if_neg h, if_neg h1, if_neg h2, if_neg h3, if_neg h4]; rfl
theorem hex_size (c k : Nat) : (ByteArray.mk (hexL c k).toArray).size = k := by
  show (hexL c k).toArray.size = k
  simp [hexL_len]

theorem rune_is (c : Int) (t : ByteArray) (h : Utf8.encode c = t) (w : World) :
    Calls Tryd.prog 48 #[.int .i32 c] w fun e w' => e = .returned (.string t) ∧ w' = w := by rw [← h]; exact rune_any c w

set_option maxRecDepth 1000000 in
set_option maxHeartbeats 400000 in
theorem inq_q (c q : Nat) (a : Bool) (w : World) (hq : q < 128) (h : c = q ∨ c = 92) :
    Calls Tryd.prog 75 #[.int .i32 c, .int .i32 q, .bool a] w fun e w' => e = .returned (.string ⟨(inL c q a).toArray⟩) ∧ Below w.heap.size w w' := by
  rw [inL_q c q a h]
  have hc : c < 128 := by omega
  have he : (ByteArray.mk #[92]) ++ Utf8.encode (c : Int) = ⟨[92, UInt8.ofNat c].toArray⟩ := by rw [enc1 c hc]; rfl
  have hsz := enc_size_le (c : Int)
  obtain ⟨r, hr⟩ : ∃ r, (⟨[92, UInt8.ofNat c].toArray⟩ : ByteArray) = r := ⟨_, rfl⟩
  rw [hr] at he ⊢
  obtain ⟨t, ht⟩ : ∃ t, Utf8.encode (c : Int) = t := ⟨_, rfl⟩
  rw [ht] at he hsz
  have hsum : ¬ 9223372036854775807 < (ByteArray.mk #[92]).size + t.size := by
    show ¬ 9223372036854775807 < 1 + t.size
    omega
  by_cases h1 : c = q
  · subst h1
    go_enter Tryd.func75, Tryd.ntmps75
    go_wp2_with (go_at_call 48; refine (rune_is _ t ht _).mono ?_; rintro e w' ⟨rfl, rfl⟩)
    go_ret
    exact ⟨rfl, Below.refl _ _⟩
  · obtain rfl : c = 92 := by omega
    have h1' : ¬ (92 : Int) = (q : Int) := by omega
    go_enter Tryd.func75, Tryd.ntmps75
    go_wp2_with (go_at_call 48; refine (rune_is _ t ht _).mono ?_; rintro e w' ⟨rfl, rfl⟩)
    go_ret
    exact ⟨rfl, Below.refl _ _⟩

set_option maxRecDepth 1000000 in
set_option maxHeartbeats 400000 in
theorem inq_e0 (q : Nat) (a : Bool) (w : World) (hE : Esc w) (hq : 14 ≤ q) :
    Calls Tryd.prog 75 #[.int .i32 7, .int .i32 q, .bool a] w fun e w' => e = .returned (.string ⟨#[92, UInt8.ofNat (escT 0)]⟩) ∧ Below w.heap.size w w' := by
  have h1 : ¬ (7 : Int) = (q : Int) := by omega
  have hg : w.cell? ⟨0, 0, none⟩ = some (.int .i32 97) := hE.2 0 (by omega)
  have he : (ByteArray.mk #[92]) ++ Utf8.encode 97 = ⟨#[92, UInt8.ofNat (escT 0)]⟩ := by decide +kernel
  have hsz := enc_size_le 97
  obtain ⟨r, hr⟩ : ∃ r, (⟨#[92, UInt8.ofNat (escT 0)]⟩ : ByteArray) = r := ⟨_, rfl⟩
  rw [hr] at he ⊢
  obtain ⟨t, ht⟩ : ∃ t, Utf8.encode 97 = t := ⟨_, rfl⟩
  rw [ht] at he hsz
  have hsum : ¬ 9223372036854775807 < (ByteArray.mk #[92]).size + t.size := by
    show ¬ 9223372036854775807 < 1 + t.size
    omega
  go_enter Tryd.func75, Tryd.ntmps75
  go_wp2_with (go_at_call 48; refine (rune_is _ t ht _).mono ?_; rintro e w' ⟨rfl, rfl⟩)
  go_ret
  exact ⟨rfl, Below.refl _ _⟩
set_option maxRecDepth 1000000 in
set_option maxHeartbeats 400000 in
theorem inq_e1 (q : Nat) (a : Bool) (w : World) (hE : Esc w) (hq : 14 ≤ q) :
    Calls Tryd.prog 75 #[.int .i32 8, .int .i32 q, .bool a] w fun e w' => e = .returned (.string ⟨#[92, UInt8.ofNat (escT 1)]⟩) ∧ Below w.heap.size w w' := by
  have h1 : ¬ (8 : Int) = (q : Int) := by omega
  have hg : w.cell? ⟨0, 1, none⟩ = some (.int .i32 98) := hE.2 1 (by omega)
  have he : (ByteArray.mk #[92]) ++ Utf8.encode 98 = ⟨#[92, UInt8.ofNat (escT 1)]⟩ := by decide +kernel
  have hsz := enc_size_le 98
  obtain ⟨r, hr⟩ : ∃ r, (⟨#[92, UInt8.ofNat (escT 1)]⟩ : ByteArray) = r := ⟨_, rfl⟩
  rw [hr] at he ⊢
  obtain ⟨t, ht⟩ : ∃ t, Utf8.encode 98 = t := ⟨_, rfl⟩
  rw [ht] at he hsz
  have hsum : ¬ 9223372036854775807 < (ByteArray.mk #[92]).size + t.size := by
    show ¬ 9223372036854775807 < 1 + t.size
    omega
  go_enter Tryd.func75, Tryd.ntmps75
  go_wp2_with (go_at_call 48; refine (rune_is _ t ht _).mono ?_; rintro e w' ⟨rfl, rfl⟩)
  go_ret
  exact ⟨rfl, Below.refl _ _⟩
set_option maxRecDepth 1000000 in
set_option maxHeartbeats 400000 in
theorem inq_e2 (q : Nat) (a : Bool) (w : World) (hE : Esc w) (hq : 14 ≤ q) :
    Calls Tryd.prog 75 #[.int .i32 9, .int .i32 q, .bool a] w fun e w' => e = .returned (.string ⟨#[92, UInt8.ofNat (escT 2)]⟩) ∧ Below w.heap.size w w' := by
  have h1 : ¬ (9 : Int) = (q : Int) := by omega
  have hg : w.cell? ⟨0, 2, none⟩ = some (.int .i32 116) := hE.2 2 (by omega)
  have he : (ByteArray.mk #[92]) ++ Utf8.encode 116 = ⟨#[92, UInt8.ofNat (escT 2)]⟩ := by decide +kernel
  have hsz := enc_size_le 116
  obtain ⟨r, hr⟩ : ∃ r, (⟨#[92, UInt8.ofNat (escT 2)]⟩ : ByteArray) = r := ⟨_, rfl⟩
  rw [hr] at he ⊢
  obtain ⟨t, ht⟩ : ∃ t, Utf8.encode 116 = t := ⟨_, rfl⟩
  rw [ht] at he hsz
  have hsum : ¬ 9223372036854775807 < (ByteArray.mk #[92]).size + t.size := by
    show ¬ 9223372036854775807 < 1 + t.size
    omega
  go_enter Tryd.func75, Tryd.ntmps75
  go_wp2_with (go_at_call 48; refine (rune_is _ t ht _).mono ?_; rintro e w' ⟨rfl, rfl⟩)
  go_ret
  exact ⟨rfl, Below.refl _ _⟩
set_option maxRecDepth 1000000 in
set_option maxHeartbeats 400000 in
theorem inq_e3 (q : Nat) (a : Bool) (w : World) (hE : Esc w) (hq : 14 ≤ q) :
    Calls Tryd.prog 75 #[.int .i32 10, .int .i32 q, .bool a] w fun e w' => e = .returned (.string ⟨#[92, UInt8.ofNat (escT 3)]⟩) ∧ Below w.heap.size w w' := by
  have h1 : ¬ (10 : Int) = (q : Int) := by omega
  have hg : w.cell? ⟨0, 3, none⟩ = some (.int .i32 110) := hE.2 3 (by omega)
  have he : (ByteArray.mk #[92]) ++ Utf8.encode 110 = ⟨#[92, UInt8.ofNat (escT 3)]⟩ := by decide +kernel
  have hsz := enc_size_le 110
  obtain ⟨r, hr⟩ : ∃ r, (⟨#[92, UInt8.ofNat (escT 3)]⟩ : ByteArray) = r := ⟨_, rfl⟩
  rw [hr] at he ⊢
  obtain ⟨t, ht⟩ : ∃ t, Utf8.encode 110 = t := ⟨_, rfl⟩
  rw [ht] at he hsz
  have hsum : ¬ 9223372036854775807 < (ByteArray.mk #[92]).size + t.size := by
    show ¬ 9223372036854775807 < 1 + t.size
    omega
  go_enter Tryd.func75, Tryd.ntmps75
  go_wp2_with (go_at_call 48; refine (rune_is _ t ht _).mono ?_; rintro e w' ⟨rfl, rfl⟩)
  go_ret
  exact ⟨rfl, Below.refl _ _⟩
set_option maxRecDepth 1000000 in
set_option maxHeartbeats 400000 in
theorem inq_e4 (q : Nat) (a : Bool) (w : World) (hE : Esc w) (hq : 14 ≤ q) :
    Calls Tryd.prog 75 #[.int .i32 11, .int .i32 q, .bool a] w fun e w' => e = .returned (.string ⟨#[92, UInt8.ofNat (escT 4)]⟩) ∧ Below w.heap.size w w' := by
  have h1 : ¬ (11 : Int) = (q : Int) := by omega
  have hg : w.cell? ⟨0, 4, none⟩ = some (.int .i32 118) := hE.2 4 (by omega)
  have he : (ByteArray.mk #[92]) ++ Utf8.encode 118 = ⟨#[92, UInt8.ofNat (escT 4)]⟩ := by decide +kernel
  have hsz := enc_size_le 118
  obtain ⟨r, hr⟩ : ∃ r, (⟨#[92, UInt8.ofNat (escT 4)]⟩ : ByteArray) = r := ⟨_, rfl⟩
  rw [hr] at he ⊢
  obtain ⟨t, ht⟩ : ∃ t, Utf8.encode 118 = t := ⟨_, rfl⟩
  rw [ht] at he hsz
  have hsum : ¬ 9223372036854775807 < (ByteArray.mk #[92]).size + t.size := by
    show ¬ 9223372036854775807 < 1 + t.size
    omega
  go_enter Tryd.func75, Tryd.ntmps75
  go_wp2_with (go_at_call 48; refine (rune_is _ t ht _).mono ?_; rintro e w' ⟨rfl, rfl⟩)
  go_ret
  exact ⟨rfl, Below.refl _ _⟩
set_option maxRecDepth 1000000 in
set_option maxHeartbeats 400000 in
theorem inq_e5 (q : Nat) (a : Bool) (w : World) (hE : Esc w) (hq : 14 ≤ q) :
    Calls Tryd.prog 75 #[.int .i32 12, .int .i32 q, .bool a] w fun e w' => e = .returned (.string ⟨#[92, UInt8.ofNat (escT 5)]⟩) ∧ Below w.heap.size w w' := by
  have h1 : ¬ (12 : Int) = (q : Int) := by omega
  have hg : w.cell? ⟨0, 5, none⟩ = some (.int .i32 102) := hE.2 5 (by omega)
  have he : (ByteArray.mk #[92]) ++ Utf8.encode 102 = ⟨#[92, UInt8.ofNat (escT 5)]⟩ := by decide +kernel
  have hsz := enc_size_le 102
  obtain ⟨r, hr⟩ : ∃ r, (⟨#[92, UInt8.ofNat (escT 5)]⟩ : ByteArray) = r := ⟨_, rfl⟩
  rw [hr] at he ⊢
  obtain ⟨t, ht⟩ : ∃ t, Utf8.encode 102 = t := ⟨_, rfl⟩
  rw [ht] at he hsz
  have hsum : ¬ 9223372036854775807 < (ByteArray.mk #[92]).size + t.size := by
    show ¬ 9223372036854775807 < 1 + t.size
    omega
  go_enter Tryd.func75, Tryd.ntmps75
  go_wp2_with (go_at_call 48; refine (rune_is _ t ht _).mono ?_; rintro e w' ⟨rfl, rfl⟩)
  go_ret
  exact ⟨rfl, Below.refl _ _⟩
set_option maxRecDepth 1000000 in
set_option maxHeartbeats 400000 in
theorem inq_e6 (q : Nat) (a : Bool) (w : World) (hE : Esc w) (hq : 14 ≤ q) :
    Calls Tryd.prog 75 #[.int .i32 13, .int .i32 q, .bool a] w fun e w' => e = .returned (.string ⟨#[92, UInt8.ofNat (escT 6)]⟩) ∧ Below w.heap.size w w' := by
  have h1 : ¬ (13 : Int) = (q : Int) := by omega
  have hg : w.cell? ⟨0, 6, none⟩ = some (.int .i32 114) := hE.2 6 (by omega)
  have he : (ByteArray.mk #[92]) ++ Utf8.encode 114 = ⟨#[92, UInt8.ofNat (escT 6)]⟩ := by decide +kernel
  have hsz := enc_size_le 114
  obtain ⟨r, hr⟩ : ∃ r, (⟨#[92, UInt8.ofNat (escT 6)]⟩ : ByteArray) = r := ⟨_, rfl⟩
  rw [hr] at he ⊢
  obtain ⟨t, ht⟩ : ∃ t, Utf8.encode 114 = t := ⟨_, rfl⟩
  rw [ht] at he hsz
  have hsum : ¬ 9223372036854775807 < (ByteArray.mk #[92]).size + t.size := by
    show ¬ 9223372036854775807 < 1 + t.size
    omega
  go_enter Tryd.func75, Tryd.ntmps75
  go_wp2_with (go_at_call 48; refine (rune_is _ t ht _).mono ?_; rintro e w' ⟨rfl, rfl⟩)
  go_ret
  exact ⟨rfl, Below.refl _ _⟩

theorem inq_e (c q : Nat) (a : Bool) (w : World) (hE : Esc w) (hq : 14 ≤ q) (h : 7 ≤ c ∧ c ≤ 13) :
    Calls Tryd.prog 75 #[.int .i32 c, .int .i32 q, .bool a] w fun e w' => e = .returned (.string ⟨(inL c q a).toArray⟩) ∧ Below w.heap.size w w' := by
  rw [inL_e c q a (by omega) h]
  have hm : c = 7 ∨ c = 8 ∨ c = 9 ∨ c = 10 ∨ c = 11 ∨ c = 12 ∨ c = 13 := by omega
  rcases hm with rfl | rfl | rfl | rfl | rfl | rfl | rfl
  · exact inq_e0 q a w hE hq
  · exact inq_e1 q a w hE hq
  · exact inq_e2 q a w hE hq
  · exact inq_e3 q a w hE hq
  · exact inq_e4 q a w hE hq
  · exact inq_e5 q a w hE hq
  · exact inq_e6 q a w hE hq

theorem plain_yes (c : Int) (w : World) (h : plainP c = true) :
    Calls Tryd.prog 89 #[.int .i32 c] w fun e w' => e = .returned (.bool true) ∧ w' = w := by rw [← h]; exact plain_any c w
theorem plain_no (c : Int) (w : World) (h : plainP c = false) :
    Calls Tryd.prog 89 #[.int .i32 c] w fun e w' => e = .returned (.bool false) ∧ w' = w := by rw [← h]; exact plain_any c w
theorem hexa_is (c k : Nat) (t : ByteArray) (h : (⟨(hexL c k).toArray⟩ : ByteArray) = t) (w : World) (hc : c ≤ 1114111) (hk : k ≤ 8) :
    Calls Tryd.prog 74 #[.int .i32 c, .int .i64 k] w fun e w' => e = .returned (.string t) ∧ Below w.heap.size w w' := by rw [← h]; exact hexa_any c k w hc hk

theorem hex_bytes (x : UInt8) (c k : Nat) : (ByteArray.mk #[92, x]) ++ (ByteArray.mk (hexL c k).toArray) = ⟨([92, x] ++ hexL c k).toArray⟩ := ba_app [92, x] (hexL c k)

set_option maxRecDepth 1000000 in
set_option maxHeartbeats 400000 in
theorem inq_x (c q : Nat) (a : Bool) (w : World) (hc : c ≤ 1114111) (h : ¬ (c = q ∨ c = 92)) (h1 : ¬ (7 ≤ c ∧ c ≤ 13)) (h2 : ¬ (plainP c = true ∧ (c ≤ 126 ∨ a = false))) (h3 : c < 128) :
    Calls Tryd.prog 75 #[.int .i32 c, .int .i32 q, .bool a] w fun e w' => e = .returned (.string ⟨(inL c q a).toArray⟩) ∧ Below w.heap.size w w' := by
  rw [inL_x c q a h h1 h2 h3]
  have he := hex_bytes 120 c 2
  have hs := hex_size c 2
  obtain ⟨r, hr⟩ : ∃ r, (⟨([92, 120] ++ hexL c 2).toArray⟩ : ByteArray) = r := ⟨_, rfl⟩
  rw [hr] at he ⊢
  obtain ⟨t, ht⟩ : ∃ t, (⟨(hexL c 2).toArray⟩ : ByteArray) = t := ⟨_, rfl⟩
  rw [ht] at he hs
  have hsum : ¬ 9223372036854775807 < (ByteArray.mk #[92, 120]).size + t.size := by
    show ¬ 9223372036854775807 < 2 + t.size
    omega
  have n1 : ¬ (c : Int) = (q : Int) := by omega
  have n2 : ¬ (c : Int) = 92 := by omega
  have n3 : ¬ (c : Int) = 7 := by omega
  have n4 : ¬ (c : Int) = 8 := by omega
  have n5 : ¬ (c : Int) = 9 := by omega
  have n6 : ¬ (c : Int) = 10 := by omega
  have n7 : ¬ (c : Int) = 11 := by omega
  have n8 : ¬ (c : Int) = 12 := by omega
  have n9 : ¬ (c : Int) = 13 := by omega
  have m3 : (c : Int) < 128 := by omega
  cases hp : plainP (c : Int) with
  | false =>
    clear h2
    go_enter Tryd.func75, Tryd.ntmps75
    go_wp2_with (first | (go_at_call 74; refine (hexa_is c 2 t ht _ hc (by omega)).mono ?_; rintro e w' ⟨rfl, hb⟩) | (go_at_call 89; refine (plain_no _ _ hp).mono ?_; rintro e w' ⟨rfl, rfl⟩))
    go_ret
    exact ⟨rfl, hb⟩
  | true =>
    have hle : ¬ (c : Int) ≤ 126 := fun hle => h2 ⟨hp, .inl (by omega)⟩
    obtain rfl : a = true := by
      cases a with
      | true => rfl
      | false => exact absurd ⟨hp, .inr rfl⟩ h2
    clear h2
    go_enter Tryd.func75, Tryd.ntmps75
    go_wp2_with (first | (go_at_call 74; refine (hexa_is c 2 t ht _ hc (by omega)).mono ?_; rintro e w' ⟨rfl, hb⟩) | (go_at_call 89; refine (plain_yes _ _ hp).mono ?_; rintro e w' ⟨rfl, rfl⟩))
    go_ret
    exact ⟨rfl, hb⟩
set_option maxRecDepth 1000000 in
set_option maxHeartbeats 400000 in
theorem inq_u (c q : Nat) (a : Bool) (w : World) (hc : c ≤ 1114111) (h : ¬ (c = q ∨ c = 92)) (h1 : ¬ (7 ≤ c ∧ c ≤ 13)) (h2 : ¬ (plainP c = true ∧ (c ≤ 126 ∨ a = false))) (h3 : ¬ c < 128) (h4 : c ≤ 65535) :
    Calls Tryd.prog 75 #[.int .i32 c, .int .i32 q, .bool a] w fun e w' => e = .returned (.string ⟨(inL c q a).toArray⟩) ∧ Below w.heap.size w w' := by
  rw [inL_u c q a h h1 h2 h3 h4]
  have he := hex_bytes 117 c 4
  have hs := hex_size c 4
  obtain ⟨r, hr⟩ : ∃ r, (⟨([92, 117] ++ hexL c 4).toArray⟩ : ByteArray) = r := ⟨_, rfl⟩
  rw [hr] at he ⊢
  obtain ⟨t, ht⟩ : ∃ t, (⟨(hexL c 4).toArray⟩ : ByteArray) = t := ⟨_, rfl⟩
  rw [ht] at he hs
  have hsum : ¬ 9223372036854775807 < (ByteArray.mk #[92, 117]).size + t.size := by
    show ¬ 9223372036854775807 < 2 + t.size
    omega
  have n1 : ¬ (c : Int) = (q : Int) := by omega
  have n2 : ¬ (c : Int) = 92 := by omega
  have n3 : ¬ (c : Int) = 7 := by omega
  have n4 : ¬ (c : Int) = 8 := by omega
  have n5 : ¬ (c : Int) = 9 := by omega
  have n6 : ¬ (c : Int) = 10 := by omega
  have n7 : ¬ (c : Int) = 11 := by omega
  have n8 : ¬ (c : Int) = 12 := by omega
  have n9 : ¬ (c : Int) = 13 := by omega
  have m3 : ¬ (c : Int) < 128 := by omega
  have m4 : (c : Int) ≤ 65535 := by omega
  cases hp : plainP (c : Int) with
  | false =>
    clear h2
    go_enter Tryd.func75, Tryd.ntmps75
    go_wp2_with (first | (go_at_call 74; refine (hexa_is c 4 t ht _ hc (by omega)).mono ?_; rintro e w' ⟨rfl, hb⟩) | (go_at_call 89; refine (plain_no _ _ hp).mono ?_; rintro e w' ⟨rfl, rfl⟩))
    go_ret
    exact ⟨rfl, hb⟩
  | true =>
    have hle : ¬ (c : Int) ≤ 126 := fun hle => h2 ⟨hp, .inl (by omega)⟩
    obtain rfl : a = true := by
      cases a with
      | true => rfl
      | false => exact absurd ⟨hp, .inr rfl⟩ h2
    clear h2
    go_enter Tryd.func75, Tryd.ntmps75
    go_wp2_with (first | (go_at_call 74; refine (hexa_is c 4 t ht _ hc (by omega)).mono ?_; rintro e w' ⟨rfl, hb⟩) | (go_at_call 89; refine (plain_yes _ _ hp).mono ?_; rintro e w' ⟨rfl, rfl⟩))
    go_ret
    exact ⟨rfl, hb⟩
set_option maxRecDepth 1000000 in
set_option maxHeartbeats 400000 in
theorem inq_U (c q : Nat) (a : Bool) (w : World) (hc : c ≤ 1114111) (h : ¬ (c = q ∨ c = 92)) (h1 : ¬ (7 ≤ c ∧ c ≤ 13)) (h2 : ¬ (plainP c = true ∧ (c ≤ 126 ∨ a = false))) (h3 : ¬ c < 128) (h4 : ¬ c ≤ 65535) :
    Calls Tryd.prog 75 #[.int .i32 c, .int .i32 q, .bool a] w fun e w' => e = .returned (.string ⟨(inL c q a).toArray⟩) ∧ Below w.heap.size w w' := by
  rw [inL_U c q a h h1 h2 h3 h4]
  have he := hex_bytes 85 c 8
  have hs := hex_size c 8
  obtain ⟨r, hr⟩ : ∃ r, (⟨([92, 85] ++ hexL c 8).toArray⟩ : ByteArray) = r := ⟨_, rfl⟩
  rw [hr] at he ⊢
  obtain ⟨t, ht⟩ : ∃ t, (⟨(hexL c 8).toArray⟩ : ByteArray) = t := ⟨_, rfl⟩
  rw [ht] at he hs
  have hsum : ¬ 9223372036854775807 < (ByteArray.mk #[92, 85]).size + t.size := by
    show ¬ 9223372036854775807 < 2 + t.size
    omega
  have n1 : ¬ (c : Int) = (q : Int) := by omega
  have n2 : ¬ (c : Int) = 92 := by omega
  have n3 : ¬ (c : Int) = 7 := by omega
  have n4 : ¬ (c : Int) = 8 := by omega
  have n5 : ¬ (c : Int) = 9 := by omega
  have n6 : ¬ (c : Int) = 10 := by omega
  have n7 : ¬ (c : Int) = 11 := by omega
  have n8 : ¬ (c : Int) = 12 := by omega
  have n9 : ¬ (c : Int) = 13 := by omega
  have m3 : ¬ (c : Int) < 128 := by omega
  have m4 : ¬ (c : Int) ≤ 65535 := by omega
  cases hp : plainP (c : Int) with
  | false =>
    clear h2
    go_enter Tryd.func75, Tryd.ntmps75
    go_wp2_with (first | (go_at_call 74; refine (hexa_is c 8 t ht _ hc (by omega)).mono ?_; rintro e w' ⟨rfl, hb⟩) | (go_at_call 89; refine (plain_no _ _ hp).mono ?_; rintro e w' ⟨rfl, rfl⟩))
    go_ret
    exact ⟨rfl, hb⟩
  | true =>
    have hle : ¬ (c : Int) ≤ 126 := fun hle => h2 ⟨hp, .inl (by omega)⟩
    obtain rfl : a = true := by
      cases a with
      | true => rfl
      | false => exact absurd ⟨hp, .inr rfl⟩ h2
    clear h2
    go_enter Tryd.func75, Tryd.ntmps75
    go_wp2_with (first | (go_at_call 74; refine (hexa_is c 8 t ht _ hc (by omega)).mono ?_; rintro e w' ⟨rfl, hb⟩) | (go_at_call 89; refine (plain_yes _ _ hp).mono ?_; rintro e w' ⟨rfl, rfl⟩))
    go_ret
    exact ⟨rfl, hb⟩
end Go.Proofs.YtbfaapbbhgegiaaDoor
