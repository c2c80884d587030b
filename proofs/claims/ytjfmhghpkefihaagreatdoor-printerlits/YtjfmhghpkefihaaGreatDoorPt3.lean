/- Decode, Inq, Inq2: these texts in one. -/
import Derived.Test.YtjfmhghpkefihaaGreatDoorPt2
/- The walk of Decode. -/
namespace Go.Proofs.YtjfmhghpkefihaaGreatDoor
open Go.RowKit

set_option maxRecDepth 1000000 in
set_option maxHeartbeats 800000 in
theorem decode_any (s : ByteArray) (w : World) :
    Calls Tryz.prog 42 #[.string s] w fun e w' => e = .returned (.tuple #[.int .i32 (dec s).1, .int .i64 (dec s).2]) ∧ Below w.heap.size w w' := by
  go_enter Tryz.func42, Tryz.ntmps42
  go_wp2
  go_loopw [4] (fun f w' => ∃ pos : Nat, w' = w.iter s pos ∧ ((pos = 0 ∧ f = .int .i32 0) ∨ (0 < s.size ∧ pos = (Utf8.decode s 0).2 ∧ f = .int .i32 (Utf8.decode s 0).1))) (fun _ w' => s.size - w'.iterPos w.heap.size)
  case atStart => exact ⟨0, rfl, .inl ⟨rfl, rfl⟩⟩
  case round =>
    obtain ⟨pos, rfl, hc⟩ := hrel
    rcases hc with ⟨rfl, rfl⟩ | ⟨h0, rfl, rfl⟩
    · by_cases hp : 0 < s.size
      · have hnx : ∀ ty, (Instr.next (.pointer (some ⟨w.heap.size, 0, none⟩)) true ty).run Tryz.prog (w.iter s 0) = _ := fun ty => run_next_any w s 0 ty hp
        go_wp2
        go_roundw
        case rel => exact ⟨_, rfl, .inr ⟨hp, by omega, rfl⟩⟩
        case measure =>
          have := wid_pos s 0
          simp
          omega
      · have hnx : ∀ ty, (Instr.next (.pointer (some ⟨w.heap.size, 0, none⟩)) true ty).run Tryz.prog (w.iter s 0) = _ := fun ty => run_next_end w s 0 ty hp
        go_wp2
        go_ret2
        rw [dec_nil s (by omega)]
        exact ⟨ret_dec rfl (by omega), iter_below _ _ _⟩
    · have hw := wid_pos s 0
      by_cases hp : (Utf8.decode s 0).2 < s.size
      · have hnx : ∀ ty, (Instr.next (.pointer (some ⟨w.heap.size, 0, none⟩)) true ty).run Tryz.prog (w.iter s (Utf8.decode s 0).2) = _ := fun ty => run_next_any w s _ ty hp
        go_wp2
        go_ret2
        rw [dec_ne s h0]
        exact ⟨rfl, iter_below _ _ _⟩
      · have hnx : ∀ ty, (Instr.next (.pointer (some ⟨w.heap.size, 0, none⟩)) true ty).run Tryz.prog (w.iter s (Utf8.decode s 0).2) = _ := fun ty => run_next_end w s _ ty hp
        have hl := wid_le s 0 h0
        go_wp2
        go_ret2
        rw [dec_ne s h0]
        exact ⟨ret_dec rfl (by omega), iter_below _ _ _⟩
end Go.Proofs.YtjfmhghpkefihaaGreatDoor

/- The walks of isBroken, inQuotes and Quote. -/
namespace Go.Proofs.YtjfmhghpkefihaaGreatDoor
open Go.RowKit

/-- The table of letters, as it lies in memory. -/
def Esc (w : World) : Prop := 2 < w.heap.size ∧ ∀ i, i < 7 → w.cell? ⟨2, i, none⟩ = some (.int .i32 (escT i : Nat))
theorem Esc.below {w w' : World} (h : Esc w) (hb : Below w.heap.size w w') : Esc w' :=
  ⟨Nat.lt_of_lt_of_le h.1 hb.size, fun i hi => by rw [hb.cell (p := ⟨2, i, none⟩) h.1]; exact h.2 i hi⟩

set_option maxRecDepth 1000000 in
set_option maxHeartbeats 800000 in
theorem broken_any (c : Nat) (s : ByteArray) (w : World) (hc : c = (dec s).1) :
    Calls Tryz.prog 124 #[.int .i32 c, .string s] w fun e w' => e = .returned (.bool (brk (dec s))) ∧ Below w.heap.size w w' := by
  subst hc
  by_cases h1 : (dec s).1 = 65533
  · have h1' : (((dec s).1 : Nat) : Int) = 65533 := by omega
    by_cases h2 : (dec s).2 = 1
    · have h2' : (((dec s).2 : Nat) : Int) = 1 := by omega
      have hb : brk (dec s) = true := by simp [brk, h1, h2]
      rw [hb]
      go_enter Tryz.func124, Tryz.ntmps124
      go_wp2_with (go_at_call 42; refine (decode_any s _).mono ?_; rintro e w1 ⟨rfl, hb1⟩)
      go_ret
      exact ⟨rfl, hb1⟩
    · have h2' : ¬ (((dec s).2 : Nat) : Int) = 1 := by omega
      have hb : brk (dec s) = false := by simp [brk, h1, h2]
      rw [hb]
      go_enter Tryz.func124, Tryz.ntmps124
      go_wp2_with (go_at_call 42; refine (decode_any s _).mono ?_; rintro e w1 ⟨rfl, hb1⟩)
      go_ret
      exact ⟨by simp [h2'], hb1⟩
  · have h1' : ¬ (((dec s).1 : Nat) : Int) = 65533 := by omega
    have hb : brk (dec s) = false := by simp [brk, h1]
    rw [hb]
    go_enter Tryz.func124, Tryz.ntmps124
    go_wp2_with (go_at_call 42; refine (decode_any s _).mono ?_; rintro e w1 ⟨rfl, hb1⟩)
    go_ret
    exact ⟨rfl, Below.refl _ _⟩

theorem inL_q (c q : Nat) (a : Bool) (h : c = q ∨ c = 92) : inL c q a = [92, UInt8.ofNat c] := by unfold inL; rw [if_pos h]
theorem inL_e (c q : Nat) (a : Bool) (h : ¬ (c = q ∨ c = 92)) (h1 : 7 ≤ c ∧ c ≤ 13) : inL c q a = [92, UInt8.ofNat (escT (c - 7))] := by unfold inL; rw [if_neg h, if_pos h1]
theorem inL_p (c q : Nat) (a : Bool) (h : ¬ (c = q ∨ c = 92)) (h1 : ¬ (7 ≤ c ∧ c ≤ 13)) (h2 : plainP c = true ∧ (c ≤ 126 ∨ a = false)) : inL c q a = (Utf8.encode (c : Int)).data.toList := by unfold inL; rw [if_neg h, if_neg h1, if_pos h2]
theorem inL_x (c q : Nat) (a : Bool) (h : ¬ (c = q ∨ c = 92)) (h1 : ¬ (7 ≤ c ∧ c ≤ 13)) (h2 : ¬ (plainP c = true ∧ (c ≤ 126 ∨ a = false))) (h3 : c < 128) : inL c q a = [92, 120] ++ hexL c 2 := by unfold inL; rw [if_neg h, if_neg h1, if_neg h2, if_pos h3]; rfl
theorem inL_u (c q : Nat) (a : Bool) (h : ¬ (c = q ∨ c = 92)) (h1 : ¬ (7 ≤ c ∧ c ≤ 13)) (h2 : ¬ (plainP c = true ∧ (c ≤ 126 ∨ a = false))) (h3 : ¬ c < 128) (h4 : c ≤ 65535) : inL c q a = [92, 117] ++ hexL c 4 := by unfold inL; rw [if_neg h, if_neg h1, if_neg h2, if_neg h3, if_pos h4]; rfl
theorem inL_U (c q : Nat) (a : Bool) (h : ¬ (c = q ∨ c = 92)) (h1 : ¬ (7 ≤ c ∧ c ≤ 13)) (h2 : ¬ (plainP c = true ∧ (c ≤ 126 ∨ a = false))) (h3 : ¬ c < 128) (h4 : ¬ c ≤ 65535) : inL c q a = [92, 85] ++ hexL c 8 := by unfold inL; rw [if_neg h, if_neg h1, if_neg h2, if_neg h3, if_neg h4]; rfl
theorem hex_size (c k : Nat) : (ByteArray.mk (hexL c k).toArray).size = k := by
  show (hexL c k).toArray.size = k
  simp [hexL_len]

theorem rune_is (c : Int) (t : ByteArray) (h : Utf8.encode c = t) (w : World) :
    Calls Tryz.prog 36 #[.int .i32 c] w fun e w' => e = .returned (.string t) ∧ w' = w := by rw [← h]; exact rune_any c w

set_option maxRecDepth 1000000 in
set_option maxHeartbeats 400000 in
theorem inq_q (c q : Nat) (a : Bool) (w : World) (hq : q < 128) (h : c = q ∨ c = 92) :
    Calls Tryz.prog 126 #[.int .i32 c, .int .i32 q, .bool a] w fun e w' => e = .returned (.string ⟨(inL c q a).toArray⟩) ∧ Below w.heap.size w w' := by
  rw [inL_q c q a h]
  have hc : c < 128 := by omega
  have he : (ByteArray.mk #[92]) ++ Utf8.encode (c : Int) = ⟨[92, UInt8.ofNat c].toArray⟩ := by rw [enc1 c hc]; rfl
  have hsz := enc_size_le (c : Int)
  obtain ⟨r, hr⟩ : ∃ r, (⟨[92, UInt8.ofNat c].toArray⟩ : ByteArray) = r := ⟨_, rfl⟩
  rw [hr] at he ⊢
  obtain ⟨t, ht⟩ : ∃ t, Utf8.encode (c : Int) = t := ⟨_, rfl⟩
  rw [ht] at he hsz
  have hsum : ¬ 9223372036854775807 < (ByteArray.mk #[92]).size + t.size := by
    show ¬ 9223372036854775807 < 1 + t.size
    omega
  by_cases h1 : c = q
  · subst h1
    go_enter Tryz.func126, Tryz.ntmps126
    go_wp2_with (go_at_call 36; refine (rune_is _ t ht _).mono ?_; rintro e w' ⟨rfl, rfl⟩)
    go_ret
    exact ⟨rfl, Below.refl _ _⟩
  · obtain rfl : c = 92 := by omega
    have h1' : ¬ (92 : Int) = (q : Int) := by omega
    go_enter Tryz.func126, Tryz.ntmps126
    go_wp2_with (go_at_call 36; refine (rune_is _ t ht _).mono ?_; rintro e w' ⟨rfl, rfl⟩)
    go_ret
    exact ⟨rfl, Below.refl _ _⟩

set_option maxRecDepth 1000000 in
set_option maxHeartbeats 400000 in
theorem inq_e0 (q : Nat) (a : Bool) (w : World) (hE : Esc w) (hq : 14 ≤ q) :
    Calls Tryz.prog 126 #[.int .i32 7, .int .i32 q, .bool a] w fun e w' => e = .returned (.string ⟨#[92, UInt8.ofNat (escT 0)]⟩) ∧ Below w.heap.size w w' := by
  have h1 : ¬ (7 : Int) = (q : Int) := by omega
  have hg : w.cell? ⟨2, 0, none⟩ = some (.int .i32 97) := hE.2 0 (by omega)
  have he : (ByteArray.mk #[92]) ++ Utf8.encode 97 = ⟨#[92, UInt8.ofNat (escT 0)]⟩ := by decide +kernel
  have hsz := enc_size_le 97
  obtain ⟨r, hr⟩ : ∃ r, (⟨#[92, UInt8.ofNat (escT 0)]⟩ : ByteArray) = r := ⟨_, rfl⟩
  rw [hr] at he ⊢
  obtain ⟨t, ht⟩ : ∃ t, Utf8.encode 97 = t := ⟨_, rfl⟩
  rw [ht] at he hsz
  have hsum : ¬ 9223372036854775807 < (ByteArray.mk #[92]).size + t.size := by
    show ¬ 9223372036854775807 < 1 + t.size
    omega
  go_enter Tryz.func126, Tryz.ntmps126
  go_wp2_with (go_at_call 36; refine (rune_is _ t ht _).mono ?_; rintro e w' ⟨rfl, rfl⟩)
  go_ret
  exact ⟨rfl, Below.refl _ _⟩
set_option maxRecDepth 1000000 in
set_option maxHeartbeats 400000 in
theorem inq_e1 (q : Nat) (a : Bool) (w : World) (hE : Esc w) (hq : 14 ≤ q) :
    Calls Tryz.prog 126 #[.int .i32 8, .int .i32 q, .bool a] w fun e w' => e = .returned (.string ⟨#[92, UInt8.ofNat (escT 1)]⟩) ∧ Below w.heap.size w w' := by
  have h1 : ¬ (8 : Int) = (q : Int) := by omega
  have hg : w.cell? ⟨2, 1, none⟩ = some (.int .i32 98) := hE.2 1 (by omega)
  have he : (ByteArray.mk #[92]) ++ Utf8.encode 98 = ⟨#[92, UInt8.ofNat (escT 1)]⟩ := by decide +kernel
  have hsz := enc_size_le 98
  obtain ⟨r, hr⟩ : ∃ r, (⟨#[92, UInt8.ofNat (escT 1)]⟩ : ByteArray) = r := ⟨_, rfl⟩
  rw [hr] at he ⊢
  obtain ⟨t, ht⟩ : ∃ t, Utf8.encode 98 = t := ⟨_, rfl⟩
  rw [ht] at he hsz
  have hsum : ¬ 9223372036854775807 < (ByteArray.mk #[92]).size + t.size := by
    show ¬ 9223372036854775807 < 1 + t.size
    omega
  go_enter Tryz.func126, Tryz.ntmps126
  go_wp2_with (go_at_call 36; refine (rune_is _ t ht _).mono ?_; rintro e w' ⟨rfl, rfl⟩)
  go_ret
  exact ⟨rfl, Below.refl _ _⟩
set_option maxRecDepth 1000000 in
set_option maxHeartbeats 400000 in
theorem inq_e2 (q : Nat) (a : Bool) (w : World) (hE : Esc w) (hq : 14 ≤ q) :
    Calls Tryz.prog 126 #[.int .i32 9, .int .i32 q, .bool a] w fun e w' => e = .returned (.string ⟨#[92, UInt8.ofNat (escT 2)]⟩) ∧ Below w.heap.size w w' := by
  have h1 : ¬ (9 : Int) = (q : Int) := by omega
  have hg : w.cell? ⟨2, 2, none⟩ = some (.int .i32 116) := hE.2 2 (by omega)
  have he : (ByteArray.mk #[92]) ++ Utf8.encode 116 = ⟨#[92, UInt8.ofNat (escT 2)]⟩ := by decide +kernel
  have hsz := enc_size_le 116
  obtain ⟨r, hr⟩ : ∃ r, (⟨#[92, UInt8.ofNat (escT 2)]⟩ : ByteArray) = r := ⟨_, rfl⟩
  rw [hr] at he ⊢
  obtain ⟨t, ht⟩ : ∃ t, Utf8.encode 116 = t := ⟨_, rfl⟩
  rw [ht] at he hsz
  have hsum : ¬ 9223372036854775807 < (ByteArray.mk #[92]).size + t.size := by
    show ¬ 9223372036854775807 < 1 + t.size
    omega
  go_enter Tryz.func126, Tryz.ntmps126
  go_wp2_with (go_at_call 36; refine (rune_is _ t ht _).mono ?_; rintro e w' ⟨rfl, rfl⟩)
  go_ret
  exact ⟨rfl, Below.refl _ _⟩
set_option maxRecDepth 1000000 in
set_option maxHeartbeats 400000 in
theorem inq_e3 (q : Nat) (a : Bool) (w : World) (hE : Esc w) (hq : 14 ≤ q) :
    Calls Tryz.prog 126 #[.int .i32 10, .int .i32 q, .bool a] w fun e w' => e = .returned (.string ⟨#[92, UInt8.ofNat (escT 3)]⟩) ∧ Below w.heap.size w w' := by
  have h1 : ¬ (10 : Int) = (q : Int) := by omega
  have hg : w.cell? ⟨2, 3, none⟩ = some (.int .i32 110) := hE.2 3 (by omega)
  have he : (ByteArray.mk #[92]) ++ Utf8.encode 110 = ⟨#[92, UInt8.ofNat (escT 3)]⟩ := by decide +kernel
  have hsz := enc_size_le 110
  obtain ⟨r, hr⟩ : ∃ r, (⟨#[92, UInt8.ofNat (escT 3)]⟩ : ByteArray) = r := ⟨_, rfl⟩
  rw [hr] at he ⊢
  obtain ⟨t, ht⟩ : ∃ t, Utf8.encode 110 = t := ⟨_, rfl⟩
  rw [ht] at he hsz
  have hsum : ¬ 9223372036854775807 < (ByteArray.mk #[92]).size + t.size := by
    show ¬ 9223372036854775807 < 1 + t.size
    omega
  go_enter Tryz.func126, Tryz.ntmps126
  go_wp2_with (go_at_call 36; refine (rune_is _ t ht _).mono ?_; rintro e w' ⟨rfl, rfl⟩)
  go_ret
  exact ⟨rfl, Below.refl _ _⟩
set_option maxRecDepth 1000000 in
set_option maxHeartbeats 400000 in
theorem inq_e4 (q : Nat) (a : Bool) (w : World) (hE : Esc w) (hq : 14 ≤ q) :
    Calls Tryz.prog 126 #[.int .i32 11, .int .i32 q, .bool a] w fun e w' => e = .returned (.string ⟨#[92, UInt8.ofNat (escT 4)]⟩) ∧ Below w.heap.size w w' := by
  have h1 : ¬ (11 : Int) = (q : Int) := by omega
  have hg : w.cell? ⟨2, 4, none⟩ = some (.int .i32 118) := hE.2 4 (by omega)
  have he : (ByteArray.mk #[92]) ++ Utf8.encode 118 = ⟨#[92, UInt8.ofNat (escT 4)]⟩ := by decide +kernel
  have hsz := enc_size_le 118
  obtain ⟨r, hr⟩ : ∃ r, (⟨#[92, UInt8.ofNat (escT 4)]⟩ : ByteArray) = r := ⟨_, rfl⟩
  rw [hr] at he ⊢
  obtain ⟨t, ht⟩ : ∃ t, Utf8.encode 118 = t := ⟨_, rfl⟩
  rw [ht] at he hsz
  have hsum : ¬ 9223372036854775807 < (ByteArray.mk #[92]).size + t.size := by
    show ¬ 9223372036854775807 < 1 + t.size
    omega
  go_enter Tryz.func126, Tryz.ntmps126
  go_wp2_with (go_at_call 36; refine (rune_is _ t ht _).mono ?_; rintro e w' ⟨rfl, rfl⟩)
  go_ret
  exact ⟨rfl, Below.refl _ _⟩
set_option maxRecDepth 1000000 in
set_option maxHeartbeats 400000 in
theorem inq_e5 (q : Nat) (a : Bool) (w : World) (hE : Esc w) (hq : 14 ≤ q) :
    Calls Tryz.prog 126 #[.int .i32 12, .int .i32 q, .bool a] w fun e w' => e = .returned (.string ⟨#[92, UInt8.ofNat (escT 5)]⟩) ∧ Below w.heap.size w w' := by
  have h1 : ¬ (12 : Int) = (q : Int) := by omega
  have hg : w.cell? ⟨2, 5, none⟩ = some (.int .i32 102) := hE.2 5 (by omega)
  have he : (ByteArray.mk #[92]) ++ Utf8.encode 102 = ⟨#[92, UInt8.ofNat (escT 5)]⟩ := by decide +kernel
  have hsz := enc_size_le 102
  obtain ⟨r, hr⟩ : ∃ r, (⟨#[92, UInt8.ofNat (escT 5)]⟩ : ByteArray) = r := ⟨_, rfl⟩
  rw [hr] at he ⊢
  obtain ⟨t, ht⟩ : ∃ t, Utf8.encode 102 = t := ⟨_, rfl⟩
  rw [ht] at he hsz
  have hsum : ¬ 9223372036854775807 < (ByteArray.mk #[92]).size + t.size := by
    show ¬ 9223372036854775807 < 1 + t.size
    omega
  go_enter Tryz.func126, Tryz.ntmps126
  go_wp2_with (go_at_call 36; refine (rune_is _ t ht _).mono ?_; rintro e w' ⟨rfl, rfl⟩)
  go_ret
  exact ⟨rfl, Below.refl _ _⟩
set_option maxRecDepth 1000000 in
set_option maxHeartbeats 400000 in
theorem inq_e6 (q : Nat) (a : Bool) (w : World) (hE : Esc w) (hq : 14 ≤ q) :
    Calls Tryz.prog 126 #[.int .i32 13, .int .i32 q, .bool a] w fun e w' => e = .returned (.string ⟨#[92, UInt8.ofNat (escT 6)]⟩) ∧ Below w.heap.size w w' := by
  have h1 : ¬ (13 : Int) = (q : Int) := by omega
  have hg : w.cell? ⟨2, 6, none⟩ = some (.int .i32 114) := hE.2 6 (by omega)
  have he : (ByteArray.mk #[92]) ++ Utf8.encode 114 = ⟨#[92, UInt8.ofNat (escT 6)]⟩ := by decide +kernel
  have hsz := enc_size_le 114
  obtain ⟨r, hr⟩ : ∃ r, (⟨#[92, UInt8.ofNat (escT 6)]⟩ : ByteArray) = r := ⟨_, rfl⟩
  rw [hr] at he ⊢
  obtain ⟨t, ht⟩ : ∃ t, Utf8.encode 114 = t := ⟨_, rfl⟩
  rw [ht] at he hsz
  have hsum : ¬ 9223372036854775807 < (ByteArray.mk #[92]).size + t.size := by
    show ¬ 9223372036854775807 < 1 + t.size
    omega
  go_enter Tryz.func126, Tryz.ntmps126
  go_wp2_with (go_at_call 36; refine (rune_is _ t ht _).mono ?_; rintro e w' ⟨rfl, rfl⟩)
  go_ret
  exact ⟨rfl, Below.refl _ _⟩

theorem inq_e (c q : Nat) (a : Bool) (w : World) (hE : Esc w) (hq : 14 ≤ q) (h : 7 ≤ c ∧ c ≤ 13) :
    Calls Tryz.prog 126 #[.int .i32 c, .int .i32 q, .bool a] w fun e w' => e = .returned (.string ⟨(inL c q a).toArray⟩) ∧ Below w.heap.size w w' := by
  rw [inL_e c q a (by omega) h]
  have hm : c = 7 ∨ c = 8 ∨ c = 9 ∨ c = 10 ∨ c = 11 ∨ c = 12 ∨ c = 13 := by omega
  rcases hm with rfl | rfl | rfl | rfl | rfl | rfl | rfl
  · exact inq_e0 q a w hE hq
  · exact inq_e1 q a w hE hq
  · exact inq_e2 q a w hE hq
  · exact inq_e3 q a w hE hq
  · exact inq_e4 q a w hE hq
  · exact inq_e5 q a w hE hq
  · exact inq_e6 q a w hE hq

theorem plain_yes (c : Int) (w : World) (h : plainP c = true) :
    Calls Tryz.prog 167 #[.int .i32 c] w fun e w' => e = .returned (.bool true) ∧ w' = w := by rw [← h]; exact plain_any c w
theorem plain_no (c : Int) (w : World) (h : plainP c = false) :
    Calls Tryz.prog 167 #[.int .i32 c] w fun e w' => e = .returned (.bool false) ∧ w' = w := by rw [← h]; exact plain_any c w
theorem hexa_is (c k : Nat) (t : ByteArray) (h : (⟨(hexL c k).toArray⟩ : ByteArray) = t) (w : World) (hc : c ≤ 1114111) (hk : k ≤ 8) :
    Calls Tryz.prog 125 #[.int .i32 c, .int .i64 k] w fun e w' => e = .returned (.string t) ∧ Below w.heap.size w w' := by rw [← h]; exact hexa_any c k w hc hk

theorem hex_bytes (x : UInt8) (c k : Nat) : (ByteArray.mk #[92, x]) ++ (ByteArray.mk (hexL c k).toArray) = ⟨([92, x] ++ hexL c k).toArray⟩ := ba_app [92, x] (hexL c k)

set_option maxRecDepth 1000000 in
set_option maxHeartbeats 400000 in
theorem inq_x (c q : Nat) (a : Bool) (w : World) (hc : c ≤ 1114111) (h : ¬ (c = q ∨ c = 92)) (h1 : ¬ (7 ≤ c ∧ c ≤ 13)) (h2 : ¬ (plainP c = true ∧ (c ≤ 126 ∨ a = false))) (h3 : c < 128) :
    Calls Tryz.prog 126 #[.int .i32 c, .int .i32 q, .bool a] w fun e w' => e = .returned (.string ⟨(inL c q a).toArray⟩) ∧ Below w.heap.size w w' := by
  rw [inL_x c q a h h1 h2 h3]
  have he := hex_bytes 120 c 2
  have hs := hex_size c 2
  obtain ⟨r, hr⟩ : ∃ r, (⟨([92, 120] ++ hexL c 2).toArray⟩ : ByteArray) = r := ⟨_, rfl⟩
  rw [hr] at he ⊢
  obtain ⟨t, ht⟩ : ∃ t, (⟨(hexL c 2).toArray⟩ : ByteArray) = t := ⟨_, rfl⟩
  rw [ht] at he hs
  have hsum : ¬ 9223372036854775807 < (ByteArray.mk #[92, 120]).size + t.size := by
    show ¬ 9223372036854775807 < 2 + t.size
    omega
  have n1 : ¬ (c : Int) = (q : Int) := by omega
  have n2 : ¬ (c : Int) = 92 := by omega
  have n3 : ¬ (c : Int) = 7 := by omega
  have n4 : ¬ (c : Int) = 8 := by omega
  have n5 : ¬ (c : Int) = 9 := by omega
  have n6 : ¬ (c : Int) = 10 := by omega
  have n7 : ¬ (c : Int) = 11 := by omega
  have n8 : ¬ (c : Int) = 12 := by omega
  have n9 : ¬ (c : Int) = 13 := by omega
  have m3 : (c : Int) < 128 := by omega
  cases hp : plainP (c : Int) with
  | false =>
    clear h2
    go_enter Tryz.func126, Tryz.ntmps126
    go_wp2_with (first | (go_at_call 125; refine (hexa_is c 2 t ht _ hc (by omega)).mono ?_; rintro e w' ⟨rfl, hb⟩) | (go_at_call 167; refine (plain_no _ _ hp).mono ?_; rintro e w' ⟨rfl, rfl⟩))
    go_ret
    exact ⟨rfl, hb⟩
  | true =>
    have hle : ¬ (c : Int) ≤ 126 := fun hle => h2 ⟨hp, .inl (by omega)⟩
    obtain rfl : a = true := by
      cases a with
      | true => rfl
      | false => exact absurd ⟨hp, .inr rfl⟩ h2
    clear h2
    go_enter Tryz.func126, Tryz.ntmps126
    go_wp2_with (first | (go_at_call 125; refine (hexa_is c 2 t ht _ hc (by omega)).mono ?_; rintro e w' ⟨rfl, hb⟩) | (go_at_call 167; refine (plain_yes _ _ hp).mono ?_; rintro e w' ⟨rfl, rfl⟩))
    go_ret
    exact ⟨rfl, hb⟩
set_option maxRecDepth 1000000 in
set_option maxHeartbeats 400000 in
theorem inq_u (c q : Nat) (a : Bool) (w : World) (hc : c ≤ 1114111) (h : ¬ (c = q ∨ c = 92)) (h1 : ¬ (7 ≤ c ∧ c ≤ 13)) (h2 : ¬ (plainP c = true ∧ (c ≤ 126 ∨ a = false))) (h3 : ¬ c < 128) (h4 : c ≤ 65535) :
    Calls Tryz.prog 126 #[.int .i32 c, .int .i32 q, .bool a] w fun e w' => e = .returned (.string ⟨(inL c q a).toArray⟩) ∧ Below w.heap.size w w' := by
  rw [inL_u c q a h h1 h2 h3 h4]
  have he := hex_bytes 117 c 4
  have hs := hex_size c 4
  obtain ⟨r, hr⟩ : ∃ r, (⟨([92, 117] ++ hexL c 4).toArray⟩ : ByteArray) = r := ⟨_, rfl⟩
  rw [hr] at he ⊢
  obtain ⟨t, ht⟩ : ∃ t, (⟨(hexL c 4).toArray⟩ : ByteArray) = t := ⟨_, rfl⟩
  rw [ht] at he hs
  have hsum : ¬ 9223372036854775807 < (ByteArray.mk #[92, 117]).size + t.size := by
    show ¬ 9223372036854775807 < 2 + t.size
    omega
  have n1 : ¬ (c : Int) = (q : Int) := by omega
  have n2 : ¬ (c : Int) = 92 := by omega
  have n3 : ¬ (c : Int) = 7 := by omega
  have n4 : ¬ (c : Int) = 8 := by omega
  have n5 : ¬ (c : Int) = 9 := by omega
  have n6 : ¬ (c : Int) = 10 := by omega
  have n7 : ¬ (c : Int) = 11 := by omega
  have n8 : ¬ (c : Int) = 12 := by omega
  have n9 : ¬ (c : Int) = 13 := by omega
  have m3 : ¬ (c : Int) < 128 := by omega
  have m4 : (c : Int) ≤ 65535 := by omega
  cases hp : plainP (c : Int) with
  | false =>
    clear h2
    go_enter Tryz.func126, Tryz.ntmps126
    go_wp2_with (first | (go_at_call 125; refine (hexa_is c 4 t ht _ hc (by omega)).mono ?_; rintro e w' ⟨rfl, hb⟩) | (go_at_call 167; refine (plain_no _ _ hp).mono ?_; rintro e w' ⟨rfl, rfl⟩))
    go_ret
    exact ⟨rfl, hb⟩
  | true =>
    have hle : ¬ (c : Int) ≤ 126 := fun hle => h2 ⟨hp, .inl (by omega)⟩
    obtain rfl : a = true := by
      cases a with
      | true => rfl
      | false => exact absurd ⟨hp, .inr rfl⟩ h2
    clear h2
    go_enter Tryz.func126, Tryz.ntmps126
    go_wp2_with (first | (go_at_call 125; refine (hexa_is c 4 t ht _ hc (by omega)).mono ?_; rintro e w' ⟨rfl, hb⟩) | (go_at_call 167; refine (plain_yes _ _ hp).mono ?_; rintro e w' ⟨rfl, rfl⟩))
    go_ret
    exact ⟨rfl, hb⟩
set_option maxRecDepth 1000000 in
set_option maxHeartbeats 400000 in
theorem inq_U (c q : Nat) (a : Bool) (w : World) (hc : c ≤ 1114111) (h : ¬ (c = q ∨ c = 92)) (h1 : ¬ (7 ≤ c ∧ c ≤ 13)) (h2 : ¬ (plainP c = true ∧ (c ≤ 126 ∨ a = false))) (h3 : ¬ c < 128) (h4 : ¬ c ≤ 65535) :
    Calls Tryz.prog 126 #[.int .i32 c, .int .i32 q, .bool a] w fun e w' => e = .returned (.string ⟨(inL c q a).toArray⟩) ∧ Below w.heap.size w w' := by
  rw [inL_U c q a h h1 h2 h3 h4]
  have he := hex_bytes 85 c 8
  have hs := hex_size c 8
  obtain ⟨r, hr⟩ : ∃ r, (⟨([92, 85] ++ hexL c 8).toArray⟩ : ByteArray) = r := ⟨_, rfl⟩
  rw [hr] at he ⊢
  obtain ⟨t, ht⟩ : ∃ t, (⟨(hexL c 8).toArray⟩ : ByteArray) = t := ⟨_, rfl⟩
  rw [ht] at he hs
  have hsum : ¬ 9223372036854775807 < (ByteArray.mk #[92, 85]).size + t.size := by
    show ¬ 9223372036854775807 < 2 + t.size
    omega
  have n1 : ¬ (c : Int) = (q : Int) := by omega
  have n2 : ¬ (c : Int) = 92 := by omega
  have n3 : ¬ (c : Int) = 7 := by omega
  have n4 : ¬ (c : Int) = 8 := by omega
  have n5 : ¬ (c : Int) = 9 := by omega
  have n6 : ¬ (c : Int) = 10 := by omega
  have n7 : ¬ (c : Int) = 11 := by omega
  have n8 : ¬ (c : Int) = 12 := by omega
  have n9 : ¬ (c : Int) = 13 := by omega
  have m3 : ¬ (c : Int) < 128 := by omega
  have m4 : ¬ (c : Int) ≤ 65535 := by omega
  cases hp : plainP (c : Int) with
  | false =>
    clear h2
    go_enter Tryz.func126, Tryz.ntmps126
    go_wp2_with (first | (go_at_call 125; refine (hexa_is c 8 t ht _ hc (by omega)).mono ?_; rintro e w' ⟨rfl, hb⟩) | (go_at_call 167; refine (plain_no _ _ hp).mono ?_; rintro e w' ⟨rfl, rfl⟩))
    go_ret
    exact ⟨rfl, hb⟩
  | true =>
    have hle : ¬ (c : Int) ≤ 126 := fun hle => h2 ⟨hp, .inl (by omega)⟩
    obtain rfl : a = true := by
      cases a with
      | true => rfl
      | false => exact absurd ⟨hp, .inr rfl⟩ h2
    clear h2
    go_enter Tryz.func126, Tryz.ntmps126
    go_wp2_with (first | (go_at_call 125; refine (hexa_is c 8 t ht _ hc (by omega)).mono ?_; rintro e w' ⟨rfl, hb⟩) | (go_at_call 167; refine (plain_yes _ _ hp).mono ?_; rintro e w' ⟨rfl, rfl⟩))
    go_ret
    exact ⟨rfl, hb⟩
end Go.Proofs.YtjfmhghpkefihaaGreatDoor

/- The walk of inQuotes, whatever the code point. -/
namespace Go.Proofs.YtjfmhghpkefihaaGreatDoor
open Go.RowKit

set_option maxRecDepth 1000000 in
set_option maxHeartbeats 400000 in
theorem inq_p (c q : Nat) (a : Bool) (w : World) (h : ¬ (c = q ∨ c = 92)) (h1 : ¬ (7 ≤ c ∧ c ≤ 13)) (h2 : plainP c = true ∧ (c ≤ 126 ∨ a = false)) :
    Calls Tryz.prog 126 #[.int .i32 c, .int .i32 q, .bool a] w fun e w' => e = .returned (.string ⟨(inL c q a).toArray⟩) ∧ Below w.heap.size w w' := by
  rw [inL_p c q a h h1 h2, ba_list]
  obtain ⟨t, ht⟩ : ∃ t, Utf8.encode (c : Int) = t := ⟨_, rfl⟩
  rw [ht]
  obtain ⟨hp, h3⟩ := h2
  have n1 : ¬ (c : Int) = (q : Int) := by omega
  have n2 : ¬ (c : Int) = 92 := by omega
  have n3 : ¬ (c : Int) = 7 := by omega
  have n4 : ¬ (c : Int) = 8 := by omega
  have n5 : ¬ (c : Int) = 9 := by omega
  have n6 : ¬ (c : Int) = 10 := by omega
  have n7 : ¬ (c : Int) = 11 := by omega
  have n8 : ¬ (c : Int) = 12 := by omega
  have n9 : ¬ (c : Int) = 13 := by omega
  have hR := rune_is c t ht
  have hP : ∀ w, Calls Tryz.prog 167 #[.int .i32 c] w fun e w' => e = .returned (.bool true) ∧ w' = w := fun w => plain_yes c w hp
  clear ht hp
  by_cases hle : c ≤ 126
  · have hle' : (c : Int) ≤ 126 := by omega
    clear h3 h h1
    go_enter Tryz.func126, Tryz.ntmps126
    go_wp2_with (first | (go_at_call 36; refine (hR _).mono ?_; rintro e w' ⟨rfl, rfl⟩) | (go_at_call 167; refine (hP _).mono ?_; rintro e w' ⟨rfl, rfl⟩))
    go_ret
    exact ⟨rfl, Below.refl _ _⟩
  · obtain rfl : a = false := by
      rcases h3 with h3 | h3
      · omega
      · exact h3
    have hle' : ¬ (c : Int) ≤ 126 := by omega
    clear h3 h h1
    go_enter Tryz.func126, Tryz.ntmps126
    go_wp2_with (first | (go_at_call 36; refine (hR _).mono ?_; rintro e w' ⟨rfl, rfl⟩) | (go_at_call 167; refine (hP _).mono ?_; rintro e w' ⟨rfl, rfl⟩))
    go_ret
    exact ⟨rfl, Below.refl _ _⟩

theorem inq_any (c q : Nat) (a : Bool) (w : World) (hE : Esc w) (hc : c ≤ 1114111) (hq : q = 34 ∨ q = 39) :
    Calls Tryz.prog 126 #[.int .i32 c, .int .i32 q, .bool a] w fun e w' => e = .returned (.string ⟨(inL c q a).toArray⟩) ∧ Below w.heap.size w w' := by
  by_cases h : c = q ∨ c = 92
  · exact inq_q c q a w (by omega) h
  by_cases h1 : 7 ≤ c ∧ c ≤ 13
  · exact inq_e c q a w hE (by omega) h1
  by_cases h2 : plainP c = true ∧ (c ≤ 126 ∨ a = false)
  · exact inq_p c q a w h h1 h2
  by_cases h3 : c < 128
  · exact inq_x c q a w hc h h1 h2 h3
  by_cases h4 : c ≤ 65535
  · exact inq_u c q a w hc h h1 h2 h3 h4
  · exact inq_U c q a w hc h h1 h2 h3 h4
end Go.Proofs.YtjfmhghpkefihaaGreatDoor
