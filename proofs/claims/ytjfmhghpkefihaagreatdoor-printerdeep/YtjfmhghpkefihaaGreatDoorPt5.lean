/- IWritten, Decode, Inq, Inq2: these texts in one. -/
import Derived.Test.YtjfmhghpkefihaaGreatDoorPt4
import Derived.Deep.LoopGhost
namespace Go.Proofs.YtjfmhghpkefihaaGreatDoor
open Go.RowKit
set_option linter.unusedVariables false
structure Row64 (w : World) (B m : Nat) (ds : List UInt8) : Prop where
 len : m + ds.length = 64
 some_ : ∀ i, i < 64 → ∃ v, w.cell? ⟨B, i, none⟩ = some v
 at_ : ∀ i, i < ds.length → w.cell? ⟨B, m + i, none⟩ = some (.int .u8 (ds.getD i 0).toNat)
 froz : ∀ i, w.frozen? ⟨B, i, none⟩ = false
theorem Row64.put {w : World} {B j : Nat} {ds : List UInt8} (h : Row64 w B (j + 1) ds) (x : UInt8) : Row64 (w.setCell ⟨B, j, none⟩ (.int .u8 x.toNat)) B j (x :: ds) where
 len := by have := h.len; simp; omega
 some_ := fun i hi => cell?_setCell_some (h.some_ i hi).choose_spec
 at_ := fun i hi => by
  have hl := h.len
  cases i with
  | zero =>
    obtain ⟨v, hv⟩ := h.some_ j (by omega)
    exact World.cell?_setCell_same _ _ _ hv
  | succ i =>
    have hi' : i < ds.length := by simp at hi; exact hi
    rw [World.cell?_setCell_other _ _ _ _ (by intro e; have := congrArg Addr.off e; simp at this)]
    have := h.at_ i hi'
    rw [show j + (i + 1) = j + 1 + i by omega]
    exact this
 froz := fun i => by rw [World.frozen?_setCell]; exact h.froz i
theorem row64_new (w : World) (vs : Array Value) (T : TypeId) (hv : vs.size = 64) : Row64 (w.alloc (.cells vs T)) w.heap.size 64 [] where
 len := rfl
 some_ := fun i hi => ⟨vs[i]'(by omega), by simp [hv, hi]⟩
 at_ := fun i hi => by simp at hi
 froz := fun i => by simp
theorem two_pow (a q n : Nat) (h : q * 2 ^ (64 - a) ≤ n) (hn : n < 18446744073709551616) (hq : 0 < q) : 0 < a := by
 rcases Nat.eq_zero_or_pos a with h0 | h0
 ·exfalso
  subst h0
  have : (2 : Nat) ^ 64 = 18446744073709551616 := by decide
  have h1 : 1 * 2 ^ 64 ≤ q * 2 ^ 64 := Nat.mul_le_mul_right _ hq
  omega
 ·exact h0
theorem two_step (j q b n : Nat) (h : q * 2 ^ (64 - (j + 1)) ≤ n) (hj : j + 1 ≤ 64) (hb : 2 ≤ b) : q / b * 2 ^ (64 - j) ≤ n := by
 have e : 64 - j = 64 - (j + 1) + 1 := by omega
 have hd : q / b ≤ q / 2 := Nat.div_le_div_left hb (by omega)
 rw [e, Nat.pow_succ]
 have h1 : q / b * 2 ≤ q := by omega
 calc q / b * (2 ^ (64 - (j + 1)) * 2) = q / b * 2 * 2 ^ (64 - (j + 1)) := by rw [Nat.mul_comm (2 ^ (64 - (j + 1))) 2, Nat.mul_assoc]
  _ ≤ q * 2 ^ (64 - (j + 1)) := Nat.mul_le_mul_right _ h1
  _ ≤ n := h
def wRel (b n a q : Nat) (ds : List UInt8) : Prop := (a = 64 ∧ q = n ∧ ds = []) ∨ (a < 64 ∧ digP false b q ++ ds = digS false b n)
theorem wRel_step (b n j q : Nat) (ds : List UInt8) (hb : 2 ≤ b) (hq : q < 2 ^ 64) (h : wRel b n (j + 1) q ds) (hj : j + 1 ≤ 64) (hgo : j + 1 = 64 ∨ q ≠ 0) : wRel b n j (q / b) (hexB false (q % b) :: ds) := by
 refine .inr ⟨by omega, ?_⟩
 rcases h with ⟨h1, rfl, rfl⟩ | ⟨h1, h2⟩
 ·rfl
 ·rw [← h2, digP_step false b q hb (by omega) hq]
  simp
theorem arr64Len : Tryz.prog.arrayLen 363 = 64 := by kernel_rfl
theorem arr64Elem : Tryz.prog.elem 363 = 5 := by kernel_rfl
theorem arr64Under : Tryz.prog.underlying 363 = some (.array (Tryz.prog.arrayLen 363) (Tryz.prog.elem 363)) := by kernel_rfl
theorem at64_l (W : World) (g n : Nat) (hn : n < 64) :
  (Instr.sliceAt 363 (.pointer (some ⟨g, 0, none⟩)) (some (.int .i64 n)) none none).run Tryz.prog W = .ok (.slice (some ⟨g, n, none⟩) (64 - n) (64 - n)) W := by
 rw [run_sliceAt_array_l W 363 ⟨g, 0, none⟩ arr64Under .i64 n (by omega) (by rw [arr64Len]; omega), arr64Elem, Tryz.sizeOf5, arr64Len]
 have hne : ¬ 64 = n := by omega
 simp [slicedAt, hne, Addr.add]
 omega
theorem conv64 (W : World) (g m : Nat) (ds : List UInt8) (h : Row64 W g m ds) :
  (convert 70 9 (.slice (some ⟨g, m, none⟩) (64 - m) (64 - m))).run Tryz.prog W = .ok (.string ⟨ds.toArray⟩) W := by
 have hl := h.len
 have := run_convert_bytes_arg W 70 5 Tryz.underlying70 Tryz.underlying5 g m (64 - m) (64 - m) (ds.map fun x => (x.toNat : Int)) (by simp; omega) (fun i hi => by
  rw [h.at_ i (by omega)]
  have : i < ds.length := by omega
  simp [this, List.getD]) 9 Tryz.underlying9
 rw [this]
 have e : strOfNums (ds.map fun x => (x.toNat : Int)) = ⟨ds.toArray⟩ := by
  apply ByteArray.ext
  have : (ds.map fun x => (x.toNat : Int)).map (fun n : Int => UInt8.ofNat n.toNat) = ds := by
   rw [List.map_map]
   conv => rhs; rw [← List.map_id ds]
   exact List.map_congr_left fun x _ => by simp
  show ((ds.map fun x => (x.toNat : Int)).map (fun n : Int => UInt8.ofNat n.toNat)).toArray = _
  rw [this]
 rw [e]
set_option maxRecDepth 1000000 in
set_option maxHeartbeats 800000 in
theorem written_any (n b : Nat) (w : World) (hn : n < 18446744073709551616) (hb : 2 ≤ b) (hb16 : b ≤ 16) :
  Calls Tryz.prog 275 #[.int .u64 n, .int .u64 b] w fun e w' => e = .returned (.string ⟨(digS false b n).toArray⟩) ∧ Below w.heap.size w w' := by
 go_enter Tryz.func275, Tryz.ntmps275
 go_wp2
 go_loopg [0, 6] 65 (fun g nn at_ wr => ∃ (q a : Nat) (ds : List UInt8), nn = .int .u64 q ∧ at_ = .int .i64 a ∧ a + 1 = g ∧ q ≤ n ∧ a ≤ 64 ∧ Row64 wr w.heap.size a ds ∧ Below w.heap.size w wr ∧ Hid (q * 2 ^ (64 - a) ≤ n ∧ wRel b n a q ds))
 case atStart =>
  exact ⟨n, 64, [], rfl, rfl, rfl, Nat.le_refl _, Nat.le_refl _, row64_new w _ _ rfl, (Below.refl _ _).alloc (Nat.le_refl _) _, by simp, .inl ⟨rfl, rfl, rfl⟩⟩
 case round =>
  obtain ⟨q, a, ds, rfl, rfl, hag, hqn, ha, hR, hbl, HH⟩ := hrel
  have hq0 : 0 < q → 0 < a := two_pow a q n HH.out.1 hn
  by_cases hgo : a = 64 ∨ 0 < q
  ·obtain ⟨j, rfl⟩ : ∃ j, a = j + 1 := ⟨a - 1, by omega⟩
   have hW : Hid (q / b * 2 ^ (64 - j) ≤ n ∧ wRel b n j (q / b) (hexB false (q % b) :: ds)) := ⟨two_step j q b n HH.out.1 ha hb, wRel_step b n j q ds hb (by omega) HH.out.2 ha (by omega)⟩
   have hd : q % b < b := Nat.mod_lt _ (by omega)
   have hqd : q / b ≤ q := Nat.div_le_self _ _
   have hm1 : (q : Int).tmod b = ((q % b : Nat) : Int) := by rw [Int.tmod_eq_emod_of_nonneg (by omega)]; simp
   have hm2 : (q : Int).tdiv b = ((q / b : Nat) : Int) := by rw [Int.tdiv_eq_ediv_of_nonneg (by omega)]; simp
   have hm3 : (q : Int) % b = ((q % b : Nat) : Int) := by simp
   have hm4 : (q : Int) / b = ((q / b : Nat) : Int) := by simp
   have hbz : ¬ (b : Int) = 0 := by omega
   generalize q % b = d at *
   generalize q / b = q' at *
   have ej : ((j + 1 : Nat) : Int) = (j : Int) + 1 := by omega
   rw [ej]
   have hd' : d < (ByteArray.mk #[48, 49, 50, 51, 52, 53, 54, 55, 56, 57, 97, 98, 99, 100, 101, 102]).size := by show d < 16; omega
   have hsm := small_at d hd'
   have HS : Hid (∀ W, Row64 W w.heap.size (j + 1) ds → Row64 (W.setCell ⟨w.heap.size, j, none⟩ (.int .u8 (((ByteArray.mk #[48, 49, 50, 51, 52, 53, 54, 55, 56, 57, 97, 98, 99, 100, 101, 102])[d]'hd').toNat : Nat))) w.heap.size j (hexB false d :: ds)) := fun W h => by
    rw [hsm, ← hexB_nat false d (by omega)]
    exact h.put _
   clear hsm
   by_cases h64 : j = 63
   ·subst h64
    obtain ⟨v0, hv0⟩ := hR.some_ 63 (by omega)
    have hf0 := hR.froz 63
    go_wp2
    go_roundg (gk - 1)
    case measure => omega
    case rel => exact ⟨q', 63, _, rfl, rfl, by omega, by omega, by omega, HS.out _ hR, hbl.setCell (Nat.le_refl _) _, hW⟩
   ·have hq1 : 0 < (q : Int) := by omega
    have h641 : ¬ (j : Int) + 1 = 64 := by omega
    have hj0 : (j : Int) < 64 := by omega
    obtain ⟨v0, hv0⟩ := hR.some_ j (by omega)
    have hf0 := hR.froz j
    go_wp2
    go_roundg (gk - 1)
    case measure => omega
    case rel => exact ⟨q', j, _, rfl, rfl, by omega, by omega, by omega, HS.out _ hR, hbl.setCell (Nat.le_refl _) _, hW⟩
  ·have ha1 : ¬ (a : Int) = 64 := by omega
   have hq1 : ¬ 0 < (q : Int) := by omega
   have ha2 : a < 64 := by omega
   have hq2 : q = 0 := by omega
   have HF : Hid (ds = digS false b n) := by
    rcases HH.out.2 with ⟨h1, -⟩ | ⟨h1, h2⟩
    ·omega
    ·rw [hq2, digP_zero] at h2
     exact h2
   clear hq2
   have hsl := at64_l wr w.heap.size a ha2
   have hcv := conv64 wr w.heap.size a ds hR
   have hb1 : ((a : Int) == 64) = false := by simp; omega
   have hb2 : decide (0 < q) = false := by simp; omega
   go_wp2
   go_ret
   rw [← HF.out]
   exact ⟨rfl, hbl⟩
set_option maxRecDepth 1000000 in
set_option maxHeartbeats 400000 in
theorem idigits_any (n b : Nat) (w : World) (hn : n < 18446744073709551616) (hb : b = 2 ∨ b = 8 ∨ b = 10 ∨ b = 16) :
  Calls Tryz.prog 249 #[.int .u64 n, .int .i64 b] w fun e w' => e = .returned (.string ⟨(digS false b n).toArray⟩) ∧ Below w.heap.size w w' := by
 have hW : ∀ w, Calls Tryz.prog 275 #[.int .u64 n, .int .u64 b] w fun e w' => e = .returned (.string ⟨(digS false b n).toArray⟩) ∧ Below w.heap.size w w' := fun w => written_any n b w hn (by omega) (by omega)
 generalize (⟨(digS false b n).toArray⟩ : ByteArray) = r at *
 rcases hb with rfl | rfl | rfl | rfl
 all_goals
  go_enter Tryz.func249, Tryz.ntmps249
  go_wp2_with (go_at_call 275; refine (hW _).mono ?_; rintro e w1 ⟨rfl, hb1⟩)
  go_ret
  exact ⟨rfl, hb1⟩
end Go.Proofs.YtjfmhghpkefihaaGreatDoor
namespace Go.Proofs.YtjfmhghpkefihaaGreatDoor
open Go.RowKit
set_option maxRecDepth 1000000 in
set_option maxHeartbeats 800000 in
theorem decode_any (s : ByteArray) (w : World) :
  Calls Tryz.prog 42 #[.string s] w fun e w' => e = .returned (.tuple #[.int .i32 (dec s).1, .int .i64 (dec s).2]) ∧ Below w.heap.size w w' := by
 go_enter Tryz.func42, Tryz.ntmps42
 go_wp2
 go_loopw [4] (fun f w' => ∃ pos : Nat, w' = w.iter s pos ∧ ((pos = 0 ∧ f = .int .i32 0) ∨ (0 < s.size ∧ pos = (Utf8.decode s 0).2 ∧ f = .int .i32 (Utf8.decode s 0).1))) (fun _ w' => s.size - w'.iterPos w.heap.size)
 case atStart => exact ⟨0, rfl, .inl ⟨rfl, rfl⟩⟩
 case round =>
  obtain ⟨pos, rfl, hc⟩ := hrel
  rcases hc with ⟨rfl, rfl⟩ | ⟨h0, rfl, rfl⟩
  ·by_cases hp : 0 < s.size
   ·have hnx : ∀ ty, (Instr.next (.pointer (some ⟨w.heap.size, 0, none⟩)) true ty).run Tryz.prog (w.iter s 0) = _ := fun ty => run_next_any w s 0 ty hp
    go_wp2
    go_roundw
    case rel => exact ⟨_, rfl, .inr ⟨hp, by omega, rfl⟩⟩
    case measure =>
     have := wid_pos s 0
     simp
     omega
   ·have hnx : ∀ ty, (Instr.next (.pointer (some ⟨w.heap.size, 0, none⟩)) true ty).run Tryz.prog (w.iter s 0) = _ := fun ty => run_next_end w s 0 ty hp
    go_wp2
    go_ret2
    rw [dec_nil s (by omega)]
    exact ⟨ret_dec rfl (by omega), iter_below _ _ _⟩
  ·have hw := wid_pos s 0
   by_cases hp : (Utf8.decode s 0).2 < s.size
   ·have hnx : ∀ ty, (Instr.next (.pointer (some ⟨w.heap.size, 0, none⟩)) true ty).run Tryz.prog (w.iter s (Utf8.decode s 0).2) = _ := fun ty => run_next_any w s _ ty hp
    go_wp2
    go_ret2
    rw [dec_ne s h0]
    exact ⟨rfl, iter_below _ _ _⟩
   ·have hnx : ∀ ty, (Instr.next (.pointer (some ⟨w.heap.size, 0, none⟩)) true ty).run Tryz.prog (w.iter s (Utf8.decode s 0).2) = _ := fun ty => run_next_end w s _ ty hp
    have hl := wid_le s 0 h0
    go_wp2
    go_ret2
    rw [dec_ne s h0]
    exact ⟨ret_dec rfl (by omega), iter_below _ _ _⟩
end Go.Proofs.YtjfmhghpkefihaaGreatDoor
namespace Go.Proofs.YtjfmhghpkefihaaGreatDoor
open Go.RowKit
def Esc (w : World) : Prop := 2 < w.heap.size ∧ ∀ i, i < 7 → w.cell? ⟨2, i, none⟩ = some (.int .i32 (escT i : Nat))
theorem Esc.below {w w' : World} (h : Esc w) (hb : Below w.heap.size w w') : Esc w' :=
 ⟨Nat.lt_of_lt_of_le h.1 hb.size, fun i hi => by rw [hb.cell (p := ⟨2, i, none⟩) h.1]; exact h.2 i hi⟩
theorem inL_q (c q : Nat) (a : Bool) (h : c = q ∨ c = 92) : inL c q a = [92, UInt8.ofNat c] := by unfold inL; rw [if_pos h]
theorem inL_e (c q : Nat) (a : Bool) (h : ¬ (c = q ∨ c = 92)) (h1 : 7 ≤ c ∧ c ≤ 13) : inL c q a = [92, UInt8.ofNat (escT (c - 7))] := by unfold inL; rw [if_neg h, if_pos h1]
theorem inL_p (c q : Nat) (a : Bool) (h : ¬ (c = q ∨ c = 92)) (h1 : ¬ (7 ≤ c ∧ c ≤ 13)) (h2 : plainP c = true ∧ (c ≤ 126 ∨ a = false)) : inL c q a = (Utf8.encode (c : Int)).data.toList := by unfold inL; rw [if_neg h, if_neg h1, if_pos h2]
theorem inL_x (c q : Nat) (a : Bool) (h : ¬ (c = q ∨ c = 92)) (h1 : ¬ (7 ≤ c ∧ c ≤ 13)) (h2 : ¬ (plainP c = true ∧ (c ≤ 126 ∨ a = false))) (h3 : c < 128) : inL c q a = [92, 120] ++ hexL c 2 := by unfold inL; rw [if_neg h, if_neg h1, if_neg h2, if_pos h3]; rfl
theorem inL_u (c q : Nat) (a : Bool) (h : ¬ (c = q ∨ c = 92)) (h1 : ¬ (7 ≤ c ∧ c ≤ 13)) (h2 : ¬ (plainP c = true ∧ (c ≤ 126 ∨ a = false))) (h3 : ¬ c < 128) (h4 : c ≤ 65535) : inL c q a = [92, 117] ++ hexL c 4 := by unfold inL; rw [if_neg h, if_neg h1, if_neg h2, if_neg h3, if_pos h4]; rfl
theorem inL_U (c q : Nat) (a : Bool) (h : ¬ (c = q ∨ c = 92)) (h1 : ¬ (7 ≤ c ∧ c ≤ 13)) (h2 : ¬ (plainP c = true ∧ (c ≤ 126 ∨ a = false))) (h3 : ¬ c < 128) (h4 : ¬ c ≤ 65535) : inL c q a = [92, 85] ++ hexL c 8 := by unfold inL; rw [if_neg h, if_neg h1, if_neg h2, if_neg h3, if_neg h4]; rfl
theorem hex_size (c k : Nat) : (ByteArray.mk (hexL c k).toArray).size = k := by
 show (hexL c k).toArray.size = k
 simp [hexL_len]
theorem rune_is (c : Int) (t : ByteArray) (h : Utf8.encode c = t) (w : World) :
  Calls Tryz.prog 36 #[.int .i32 c] w fun e w' => e = .returned (.string t) ∧ w' = w := by rw [← h]; exact rune_any c w
set_option maxRecDepth 1000000 in
set_option maxHeartbeats 400000 in
theorem inq_q (c q : Nat) (a : Bool) (w : World) (hq : q < 128) (h : c = q ∨ c = 92) :
  Calls Tryz.prog 126 #[.int .i32 c, .int .i32 q, .bool a] w fun e w' => e = .returned (.string ⟨(inL c q a).toArray⟩) ∧ Below w.heap.size w w' := by
 rw [inL_q c q a h]
 have hc : c < 128 := by omega
 have he : (ByteArray.mk #[92]) ++ Utf8.encode (c : Int) = ⟨[92, UInt8.ofNat c].toArray⟩ := by rw [enc1 c hc]; rfl
 have hsz := enc_size_le (c : Int)
 obtain ⟨r, hr⟩ : ∃ r, (⟨[92, UInt8.ofNat c].toArray⟩ : ByteArray) = r := ⟨_, rfl⟩
 rw [hr] at he ⊢
 obtain ⟨t, ht⟩ : ∃ t, Utf8.encode (c : Int) = t := ⟨_, rfl⟩
 rw [ht] at he hsz
 have hsum : ¬ 9223372036854775807 < (ByteArray.mk #[92]).size + t.size := by
  show ¬ 9223372036854775807 < 1 + t.size
  omega
 by_cases h1 : c = q
 ·subst h1
  go_enter Tryz.func126, Tryz.ntmps126
  go_wp2_with (go_at_call 36; refine (rune_is _ t ht _).mono ?_; rintro e w' ⟨rfl, rfl⟩)
  go_ret
  exact ⟨rfl, Below.refl _ _⟩
 ·obtain rfl : c = 92 := by omega
  have h1' : ¬ (92 : Int) = (q : Int) := by omega
  go_enter Tryz.func126, Tryz.ntmps126
  go_wp2_with (go_at_call 36; refine (rune_is _ t ht _).mono ?_; rintro e w' ⟨rfl, rfl⟩)
  go_ret
  exact ⟨rfl, Below.refl _ _⟩
set_option maxRecDepth 1000000 in
set_option maxHeartbeats 400000 in
theorem inq_e0 (q : Nat) (a : Bool) (w : World) (hE : Esc w) (hq : 14 ≤ q) :
  Calls Tryz.prog 126 #[.int .i32 7, .int .i32 q, .bool a] w fun e w' => e = .returned (.string ⟨#[92, UInt8.ofNat (escT 0)]⟩) ∧ Below w.heap.size w w' := by
 have h1 : ¬ (7 : Int) = (q : Int) := by omega
 have hg : w.cell? ⟨2, 0, none⟩ = some (.int .i32 97) := hE.2 0 (by omega)
 have he : (ByteArray.mk #[92]) ++ Utf8.encode 97 = ⟨#[92, UInt8.ofNat (escT 0)]⟩ := by decide +kernel
 have hsz := enc_size_le 97
 obtain ⟨r, hr⟩ : ∃ r, (⟨#[92, UInt8.ofNat (escT 0)]⟩ : ByteArray) = r := ⟨_, rfl⟩
 rw [hr] at he ⊢
 obtain ⟨t, ht⟩ : ∃ t, Utf8.encode 97 = t := ⟨_, rfl⟩
 rw [ht] at he hsz
 have hsum : ¬ 9223372036854775807 < (ByteArray.mk #[92]).size + t.size := by
  show ¬ 9223372036854775807 < 1 + t.size
  omega
 go_enter Tryz.func126, Tryz.ntmps126
 go_wp2_with (go_at_call 36; refine (rune_is _ t ht _).mono ?_; rintro e w' ⟨rfl, rfl⟩)
 go_ret
 exact ⟨rfl, Below.refl _ _⟩
set_option maxRecDepth 1000000 in
set_option maxHeartbeats 400000 in
theorem inq_e1 (q : Nat) (a : Bool) (w : World) (hE : Esc w) (hq : 14 ≤ q) :
  Calls Tryz.prog 126 #[.int .i32 8, .int .i32 q, .bool a] w fun e w' => e = .returned (.string ⟨#[92, UInt8.ofNat (escT 1)]⟩) ∧ Below w.heap.size w w' := by
 have h1 : ¬ (8 : Int) = (q : Int) := by omega
 have hg : w.cell? ⟨2, 1, none⟩ = some (.int .i32 98) := hE.2 1 (by omega)
 have he : (ByteArray.mk #[92]) ++ Utf8.encode 98 = ⟨#[92, UInt8.ofNat (escT 1)]⟩ := by decide +kernel
 have hsz := enc_size_le 98
 obtain ⟨r, hr⟩ : ∃ r, (⟨#[92, UInt8.ofNat (escT 1)]⟩ : ByteArray) = r := ⟨_, rfl⟩
 rw [hr] at he ⊢
 obtain ⟨t, ht⟩ : ∃ t, Utf8.encode 98 = t := ⟨_, rfl⟩
 rw [ht] at he hsz
 have hsum : ¬ 9223372036854775807 < (ByteArray.mk #[92]).size + t.size := by
  show ¬ 9223372036854775807 < 1 + t.size
  omega
 go_enter Tryz.func126, Tryz.ntmps126
 go_wp2_with (go_at_call 36; refine (rune_is _ t ht _).mono ?_; rintro e w' ⟨rfl, rfl⟩)
 go_ret
 exact ⟨rfl, Below.refl _ _⟩
set_option maxRecDepth 1000000 in
set_option maxHeartbeats 400000 in
theorem inq_e2 (q : Nat) (a : Bool) (w : World) (hE : Esc w) (hq : 14 ≤ q) :
  Calls Tryz.prog 126 #[.int .i32 9, .int .i32 q, .bool a] w fun e w' => e = .returned (.string ⟨#[92, UInt8.ofNat (escT 2)]⟩) ∧ Below w.heap.size w w' := by
 have h1 : ¬ (9 : Int) = (q : Int) := by omega
 have hg : w.cell? ⟨2, 2, none⟩ = some (.int .i32 116) := hE.2 2 (by omega)
 have he : (ByteArray.mk #[92]) ++ Utf8.encode 116 = ⟨#[92, UInt8.ofNat (escT 2)]⟩ := by decide +kernel
 have hsz := enc_size_le 116
 obtain ⟨r, hr⟩ : ∃ r, (⟨#[92, UInt8.ofNat (escT 2)]⟩ : ByteArray) = r := ⟨_, rfl⟩
 rw [hr] at he ⊢
 obtain ⟨t, ht⟩ : ∃ t, Utf8.encode 116 = t := ⟨_, rfl⟩
 rw [ht] at he hsz
 have hsum : ¬ 9223372036854775807 < (ByteArray.mk #[92]).size + t.size := by
  show ¬ 9223372036854775807 < 1 + t.size
  omega
 go_enter Tryz.func126, Tryz.ntmps126
 go_wp2_with (go_at_call 36; refine (rune_is _ t ht _).mono ?_; rintro e w' ⟨rfl, rfl⟩)
 go_ret
 exact ⟨rfl, Below.refl _ _⟩
set_option maxRecDepth 1000000 in
set_option maxHeartbeats 400000 in
theorem inq_e3 (q : Nat) (a : Bool) (w : World) (hE : Esc w) (hq : 14 ≤ q) :
  Calls Tryz.prog 126 #[.int .i32 10, .int .i32 q, .bool a] w fun e w' => e = .returned (.string ⟨#[92, UInt8.ofNat (escT 3)]⟩) ∧ Below w.heap.size w w' := by
 have h1 : ¬ (10 : Int) = (q : Int) := by omega
 have hg : w.cell? ⟨2, 3, none⟩ = some (.int .i32 110) := hE.2 3 (by omega)
 have he : (ByteArray.mk #[92]) ++ Utf8.encode 110 = ⟨#[92, UInt8.ofNat (escT 3)]⟩ := by decide +kernel
 have hsz := enc_size_le 110
 obtain ⟨r, hr⟩ : ∃ r, (⟨#[92, UInt8.ofNat (escT 3)]⟩ : ByteArray) = r := ⟨_, rfl⟩
 rw [hr] at he ⊢
 obtain ⟨t, ht⟩ : ∃ t, Utf8.encode 110 = t := ⟨_, rfl⟩
 rw [ht] at he hsz
 have hsum : ¬ 9223372036854775807 < (ByteArray.mk #[92]).size + t.size := by
  show ¬ 9223372036854775807 < 1 + t.size
  omega
 go_enter Tryz.func126, Tryz.ntmps126
 go_wp2_with (go_at_call 36; refine (rune_is _ t ht _).mono ?_; rintro e w' ⟨rfl, rfl⟩)
 go_ret
 exact ⟨rfl, Below.refl _ _⟩
set_option maxRecDepth 1000000 in
set_option maxHeartbeats 400000 in
theorem inq_e4 (q : Nat) (a : Bool) (w : World) (hE : Esc w) (hq : 14 ≤ q) :
  Calls Tryz.prog 126 #[.int .i32 11, .int .i32 q, .bool a] w fun e w' => e = .returned (.string ⟨#[92, UInt8.ofNat (escT 4)]⟩) ∧ Below w.heap.size w w' := by
 have h1 : ¬ (11 : Int) = (q : Int) := by omega
 have hg : w.cell? ⟨2, 4, none⟩ = some (.int .i32 118) := hE.2 4 (by omega)
 have he : (ByteArray.mk #[92]) ++ Utf8.encode 118 = ⟨#[92, UInt8.ofNat (escT 4)]⟩ := by decide +kernel
 have hsz := enc_size_le 118
 obtain ⟨r, hr⟩ : ∃ r, (⟨#[92, UInt8.ofNat (escT 4)]⟩ : ByteArray) = r := ⟨_, rfl⟩
 rw [hr] at he ⊢
 obtain ⟨t, ht⟩ : ∃ t, Utf8.encode 118 = t := ⟨_, rfl⟩
 rw [ht] at he hsz
 have hsum : ¬ 9223372036854775807 < (ByteArray.mk #[92]).size + t.size := by
  show ¬ 9223372036854775807 < 1 + t.size
  omega
 go_enter Tryz.func126, Tryz.ntmps126
 go_wp2_with (go_at_call 36; refine (rune_is _ t ht _).mono ?_; rintro e w' ⟨rfl, rfl⟩)
 go_ret
 exact ⟨rfl, Below.refl _ _⟩
set_option maxRecDepth 1000000 in
set_option maxHeartbeats 400000 in
theorem inq_e5 (q : Nat) (a : Bool) (w : World) (hE : Esc w) (hq : 14 ≤ q) :
  Calls Tryz.prog 126 #[.int .i32 12, .int .i32 q, .bool a] w fun e w' => e = .returned (.string ⟨#[92, UInt8.ofNat (escT 5)]⟩) ∧ Below w.heap.size w w' := by
 have h1 : ¬ (12 : Int) = (q : Int) := by omega
 have hg : w.cell? ⟨2, 5, none⟩ = some (.int .i32 102) := hE.2 5 (by omega)
 have he : (ByteArray.mk #[92]) ++ Utf8.encode 102 = ⟨#[92, UInt8.ofNat (escT 5)]⟩ := by decide +kernel
 have hsz := enc_size_le 102
 obtain ⟨r, hr⟩ : ∃ r, (⟨#[92, UInt8.ofNat (escT 5)]⟩ : ByteArray) = r := ⟨_, rfl⟩
 rw [hr] at he ⊢
 obtain ⟨t, ht⟩ : ∃ t, Utf8.encode 102 = t := ⟨_, rfl⟩
 rw [ht] at he hsz
 have hsum : ¬ 9223372036854775807 < (ByteArray.mk #[92]).size + t.size := by
  show ¬ 9223372036854775807 < 1 + t.size
  omega
 go_enter Tryz.func126, Tryz.ntmps126
 go_wp2_with (go_at_call 36; refine (rune_is _ t ht _).mono ?_; rintro e w' ⟨rfl, rfl⟩)
 go_ret
 exact ⟨rfl, Below.refl _ _⟩
set_option maxRecDepth 1000000 in
set_option maxHeartbeats 400000 in
theorem inq_e6 (q : Nat) (a : Bool) (w : World) (hE : Esc w) (hq : 14 ≤ q) :
  Calls Tryz.prog 126 #[.int .i32 13, .int .i32 q, .bool a] w fun e w' => e = .returned (.string ⟨#[92, UInt8.ofNat (escT 6)]⟩) ∧ Below w.heap.size w w' := by
 have h1 : ¬ (13 : Int) = (q : Int) := by omega
 have hg : w.cell? ⟨2, 6, none⟩ = some (.int .i32 114) := hE.2 6 (by omega)
 have he : (ByteArray.mk #[92]) ++ Utf8.encode 114 = ⟨#[92, UInt8.ofNat (escT 6)]⟩ := by decide +kernel
 have hsz := enc_size_le 114
 obtain ⟨r, hr⟩ : ∃ r, (⟨#[92, UInt8.ofNat (escT 6)]⟩ : ByteArray) = r := ⟨_, rfl⟩
 rw [hr] at he ⊢
 obtain ⟨t, ht⟩ : ∃ t, Utf8.encode 114 = t := ⟨_, rfl⟩
 rw [ht] at he hsz
 have hsum : ¬ 9223372036854775807 < (ByteArray.mk #[92]).size + t.size := by
  show ¬ 9223372036854775807 < 1 + t.size
  omega
 go_enter Tryz.func126, Tryz.ntmps126
 go_wp2_with (go_at_call 36; refine (rune_is _ t ht _).mono ?_; rintro e w' ⟨rfl, rfl⟩)
 go_ret
 exact ⟨rfl, Below.refl _ _⟩
theorem inq_e (c q : Nat) (a : Bool) (w : World) (hE : Esc w) (hq : 14 ≤ q) (h : 7 ≤ c ∧ c ≤ 13) :
  Calls Tryz.prog 126 #[.int .i32 c, .int .i32 q, .bool a] w fun e w' => e = .returned (.string ⟨(inL c q a).toArray⟩) ∧ Below w.heap.size w w' := by
 rw [inL_e c q a (by omega) h]
 have hm : c = 7 ∨ c = 8 ∨ c = 9 ∨ c = 10 ∨ c = 11 ∨ c = 12 ∨ c = 13 := by omega
 rcases hm with rfl | rfl | rfl | rfl | rfl | rfl | rfl
 ·exact inq_e0 q a w hE hq
 ·exact inq_e1 q a w hE hq
 ·exact inq_e2 q a w hE hq
 ·exact inq_e3 q a w hE hq
 ·exact inq_e4 q a w hE hq
 ·exact inq_e5 q a w hE hq
 ·exact inq_e6 q a w hE hq
theorem plain_yes (c : Int) (w : World) (h : plainP c = true) :
  Calls Tryz.prog 167 #[.int .i32 c] w fun e w' => e = .returned (.bool true) ∧ w' = w := by rw [← h]; exact plain_any c w
theorem plain_no (c : Int) (w : World) (h : plainP c = false) :
  Calls Tryz.prog 167 #[.int .i32 c] w fun e w' => e = .returned (.bool false) ∧ w' = w := by rw [← h]; exact plain_any c w
theorem hexa_is (c k : Nat) (t : ByteArray) (h : (⟨(hexL c k).toArray⟩ : ByteArray) = t) (w : World) (hc : c ≤ 1114111) (hk : k ≤ 8) :
  Calls Tryz.prog 125 #[.int .i32 c, .int .i64 k] w fun e w' => e = .returned (.string t) ∧ Below w.heap.size w w' := by rw [← h]; exact hexa_any c k w hc hk
theorem hex_bytes (x : UInt8) (c k : Nat) : (ByteArray.mk #[92, x]) ++ (ByteArray.mk (hexL c k).toArray) = ⟨([92, x] ++ hexL c k).toArray⟩ := ba_app [92, x] (hexL c k)
set_option maxRecDepth 1000000 in
set_option maxHeartbeats 400000 in
theorem inq_x (c q : Nat) (a : Bool) (w : World) (hc : c ≤ 1114111) (h : ¬ (c = q ∨ c = 92)) (h1 : ¬ (7 ≤ c ∧ c ≤ 13)) (h2 : ¬ (plainP c = true ∧ (c ≤ 126 ∨ a = false))) (h3 : c < 128) :
  Calls Tryz.prog 126 #[.int .i32 c, .int .i32 q, .bool a] w fun e w' => e = .returned (.string ⟨(inL c q a).toArray⟩) ∧ Below w.heap.size w w' := by
 rw [inL_x c q a h h1 h2 h3]
 have he := hex_bytes 120 c 2
 have hs := hex_size c 2
 obtain ⟨r, hr⟩ : ∃ r, (⟨([92, 120] ++ hexL c 2).toArray⟩ : ByteArray) = r := ⟨_, rfl⟩
 rw [hr] at he ⊢
 obtain ⟨t, ht⟩ : ∃ t, (⟨(hexL c 2).toArray⟩ : ByteArray) = t := ⟨_, rfl⟩
 rw [ht] at he hs
 have hsum : ¬ 9223372036854775807 < (ByteArray.mk #[92, 120]).size + t.size := by
  show ¬ 9223372036854775807 < 2 + t.size
  omega
 have n1 : ¬ (c : Int) = (q : Int) := by omega
 have n2 : ¬ (c : Int) = 92 := by omega
 have n3 : ¬ (c : Int) = 7 := by omega
 have n4 : ¬ (c : Int) = 8 := by omega
 have n5 : ¬ (c : Int) = 9 := by omega
 have n6 : ¬ (c : Int) = 10 := by omega
 have n7 : ¬ (c : Int) = 11 := by omega
 have n8 : ¬ (c : Int) = 12 := by omega
 have n9 : ¬ (c : Int) = 13 := by omega
 have m3 : (c : Int) < 128 := by omega
 cases hp : plainP (c : Int) with
 | false =>
   clear h2
   go_enter Tryz.func126, Tryz.ntmps126
   go_wp2_with (first | (go_at_call 125; refine (hexa_is c 2 t ht _ hc (by omega)).mono ?_; rintro e w' ⟨rfl, hb⟩) | (go_at_call 167; refine (plain_no _ _ hp).mono ?_; rintro e w' ⟨rfl, rfl⟩))
   go_ret
   exact ⟨rfl, hb⟩
 | true =>
   have hle : ¬ (c : Int) ≤ 126 := fun hle => h2 ⟨hp, .inl (by omega)⟩
   obtain rfl : a = true := by
    cases a with
    | true => rfl
    | false => exact absurd ⟨hp, .inr rfl⟩ h2
   clear h2
   go_enter Tryz.func126, Tryz.ntmps126
   go_wp2_with (first | (go_at_call 125; refine (hexa_is c 2 t ht _ hc (by omega)).mono ?_; rintro e w' ⟨rfl, hb⟩) | (go_at_call 167; refine (plain_yes _ _ hp).mono ?_; rintro e w' ⟨rfl, rfl⟩))
   go_ret
   exact ⟨rfl, hb⟩
set_option maxRecDepth 1000000 in
set_option maxHeartbeats 400000 in
theorem inq_u (c q : Nat) (a : Bool) (w : World) (hc : c ≤ 1114111) (h : ¬ (c = q ∨ c = 92)) (h1 : ¬ (7 ≤ c ∧ c ≤ 13)) (h2 : ¬ (plainP c = true ∧ (c ≤ 126 ∨ a = false))) (h3 : ¬ c < 128) (h4 : c ≤ 65535) :
  Calls Tryz.prog 126 #[.int .i32 c, .int .i32 q, .bool a] w fun e w' => e = .returned (.string ⟨(inL c q a).toArray⟩) ∧ Below w.heap.size w w' := by
 rw [inL_u c q a h h1 h2 h3 h4]
 have he := hex_bytes 117 c 4
 have hs := hex_size c 4
 obtain ⟨r, hr⟩ : ∃ r, (⟨([92, 117] ++ hexL c 4).toArray⟩ : ByteArray) = r := ⟨_, rfl⟩
 rw [hr] at he ⊢
 obtain ⟨t, ht⟩ : ∃ t, (⟨(hexL c 4).toArray⟩ : ByteArray) = t := ⟨_, rfl⟩
 rw [ht] at he hs
 have hsum : ¬ 9223372036854775807 < (ByteArray.mk #[92, 117]).size + t.size := by
  show ¬ 9223372036854775807 < 2 + t.size
  omega
 have n1 : ¬ (c : Int) = (q : Int) := by omega
 have n2 : ¬ (c : Int) = 92 := by omega
 have n3 : ¬ (c : Int) = 7 := by omega
 have n4 : ¬ (c : Int) = 8 := by omega
 have n5 : ¬ (c : Int) = 9 := by omega
 have n6 : ¬ (c : Int) = 10 := by omega
 have n7 : ¬ (c : Int) = 11 := by omega
 have n8 : ¬ (c : Int) = 12 := by omega
 have n9 : ¬ (c : Int) = 13 := by omega
 have m3 : ¬ (c : Int) < 128 := by omega
 have m4 : (c : Int) ≤ 65535 := by omega
 cases hp : plainP (c : Int) with
 | false =>
   clear h2
   go_enter Tryz.func126, Tryz.ntmps126
   go_wp2_with (first | (go_at_call 125; refine (hexa_is c 4 t ht _ hc (by omega)).mono ?_; rintro e w' ⟨rfl, hb⟩) | (go_at_call 167; refine (plain_no _ _ hp).mono ?_; rintro e w' ⟨rfl, rfl⟩))
   go_ret
   exact ⟨rfl, hb⟩
 | true =>
   have hle : ¬ (c : Int) ≤ 126 := fun hle => h2 ⟨hp, .inl (by omega)⟩
   obtain rfl : a = true := by
    cases a with
    | true => rfl
    | false => exact absurd ⟨hp, .inr rfl⟩ h2
   clear h2
   go_enter Tryz.func126, Tryz.ntmps126
   go_wp2_with (first | (go_at_call 125; refine (hexa_is c 4 t ht _ hc (by omega)).mono ?_; rintro e w' ⟨rfl, hb⟩) | (go_at_call 167; refine (plain_yes _ _ hp).mono ?_; rintro e w' ⟨rfl, rfl⟩))
   go_ret
   exact ⟨rfl, hb⟩
set_option maxRecDepth 1000000 in
set_option maxHeartbeats 400000 in
theorem inq_U (c q : Nat) (a : Bool) (w : World) (hc : c ≤ 1114111) (h : ¬ (c = q ∨ c = 92)) (h1 : ¬ (7 ≤ c ∧ c ≤ 13)) (h2 : ¬ (plainP c = true ∧ (c ≤ 126 ∨ a = false))) (h3 : ¬ c < 128) (h4 : ¬ c ≤ 65535) :
  Calls Tryz.prog 126 #[.int .i32 c, .int .i32 q, .bool a] w fun e w' => e = .returned (.string ⟨(inL c q a).toArray⟩) ∧ Below w.heap.size w w' := by
 rw [inL_U c q a h h1 h2 h3 h4]
 have he := hex_bytes 85 c 8
 have hs := hex_size c 8
 obtain ⟨r, hr⟩ : ∃ r, (⟨([92, 85] ++ hexL c 8).toArray⟩ : ByteArray) = r := ⟨_, rfl⟩
 rw [hr] at he ⊢
 obtain ⟨t, ht⟩ : ∃ t, (⟨(hexL c 8).toArray⟩ : ByteArray) = t := ⟨_, rfl⟩
 rw [ht] at he hs
 have hsum : ¬ 9223372036854775807 < (ByteArray.mk #[92, 85]).size + t.size := by
  show ¬ 9223372036854775807 < 2 + t.size
  omega
 have n1 : ¬ (c : Int) = (q : Int) := by omega
 have n2 : ¬ (c : Int) = 92 := by omega
 have n3 : ¬ (c : Int) = 7 := by omega
 have n4 : ¬ (c : Int) = 8 := by omega
 have n5 : ¬ (c : Int) = 9 := by omega
 have n6 : ¬ (c : Int) = 10 := by omega
 have n7 : ¬ (c : Int) = 11 := by omega
 have n8 : ¬ (c : Int) = 12 := by omega
 have n9 : ¬ (c : Int) = 13 := by omega
 have m3 : ¬ (c : Int) < 128 := by omega
 have m4 : ¬ (c : Int) ≤ 65535 := by omega
 cases hp : plainP (c : Int) with
 | false =>
   clear h2
   go_enter Tryz.func126, Tryz.ntmps126
   go_wp2_with (first | (go_at_call 125; refine (hexa_is c 8 t ht _ hc (by omega)).mono ?_; rintro e w' ⟨rfl, hb⟩) | (go_at_call 167; refine (plain_no _ _ hp).mono ?_; rintro e w' ⟨rfl, rfl⟩))
   go_ret
   exact ⟨rfl, hb⟩
 | true =>
   have hle : ¬ (c : Int) ≤ 126 := fun hle => h2 ⟨hp, .inl (by omega)⟩
   obtain rfl : a = true := by
    cases a with
    | true => rfl
    | false => exact absurd ⟨hp, .inr rfl⟩ h2
   clear h2
   go_enter Tryz.func126, Tryz.ntmps126
   go_wp2_with (first | (go_at_call 125; refine (hexa_is c 8 t ht _ hc (by omega)).mono ?_; rintro e w' ⟨rfl, hb⟩) | (go_at_call 167; refine (plain_yes _ _ hp).mono ?_; rintro e w' ⟨rfl, rfl⟩))
   go_ret
   exact ⟨rfl, hb⟩
end Go.Proofs.YtjfmhghpkefihaaGreatDoor
namespace Go.Proofs.YtjfmhghpkefihaaGreatDoor
open Go.RowKit
set_option maxRecDepth 1000000 in
set_option maxHeartbeats 400000 in
theorem inq_p (c q : Nat) (a : Bool) (w : World) (h : ¬ (c = q ∨ c = 92)) (h1 : ¬ (7 ≤ c ∧ c ≤ 13)) (h2 : plainP c = true ∧ (c ≤ 126 ∨ a = false)) :
  Calls Tryz.prog 126 #[.int .i32 c, .int .i32 q, .bool a] w fun e w' => e = .returned (.string ⟨(inL c q a).toArray⟩) ∧ Below w.heap.size w w' := by
 rw [inL_p c q a h h1 h2, ba_list]
 obtain ⟨t, ht⟩ : ∃ t, Utf8.encode (c : Int) = t := ⟨_, rfl⟩
 rw [ht]
 obtain ⟨hp, h3⟩ := h2
 have n1 : ¬ (c : Int) = (q : Int) := by omega
 have n2 : ¬ (c : Int) = 92 := by omega
 have n3 : ¬ (c : Int) = 7 := by omega
 have n4 : ¬ (c : Int) = 8 := by omega
 have n5 : ¬ (c : Int) = 9 := by omega
 have n6 : ¬ (c : Int) = 10 := by omega
 have n7 : ¬ (c : Int) = 11 := by omega
 have n8 : ¬ (c : Int) = 12 := by omega
 have n9 : ¬ (c : Int) = 13 := by omega
 have hR := rune_is c t ht
 have hP : ∀ w, Calls Tryz.prog 167 #[.int .i32 c] w fun e w' => e = .returned (.bool true) ∧ w' = w := fun w => plain_yes c w hp
 clear ht hp
 by_cases hle : c ≤ 126
 ·have hle' : (c : Int) ≤ 126 := by omega
  clear h3 h h1
  go_enter Tryz.func126, Tryz.ntmps126
  go_wp2_with (first | (go_at_call 36; refine (hR _).mono ?_; rintro e w' ⟨rfl, rfl⟩) | (go_at_call 167; refine (hP _).mono ?_; rintro e w' ⟨rfl, rfl⟩))
  go_ret
  exact ⟨rfl, Below.refl _ _⟩
 ·obtain rfl : a = false := by
   rcases h3 with h3 | h3
   ·omega
   ·exact h3
  have hle' : ¬ (c : Int) ≤ 126 := by omega
  clear h3 h h1
  go_enter Tryz.func126, Tryz.ntmps126
  go_wp2_with (first | (go_at_call 36; refine (hR _).mono ?_; rintro e w' ⟨rfl, rfl⟩) | (go_at_call 167; refine (hP _).mono ?_; rintro e w' ⟨rfl, rfl⟩))
  go_ret
  exact ⟨rfl, Below.refl _ _⟩
theorem inq_any (c q : Nat) (a : Bool) (w : World) (hE : Esc w) (hc : c ≤ 1114111) (hq : q = 34 ∨ q = 39) :
  Calls Tryz.prog 126 #[.int .i32 c, .int .i32 q, .bool a] w fun e w' => e = .returned (.string ⟨(inL c q a).toArray⟩) ∧ Below w.heap.size w w' := by
 by_cases h : c = q ∨ c = 92
 ·exact inq_q c q a w (by omega) h
 by_cases h1 : 7 ≤ c ∧ c ≤ 13
 ·exact inq_e c q a w hE (by omega) h1
 by_cases h2 : plainP c = true ∧ (c ≤ 126 ∨ a = false)
 ·exact inq_p c q a w h h1 h2
 by_cases h3 : c < 128
 ·exact inq_x c q a w hc h h1 h2 h3
 by_cases h4 : c ≤ 65535
 ·exact inq_u c q a w hc h h1 h2 h3 h4
 ·exact inq_U c q a w hc h h1 h2 h3 h4
end Go.Proofs.YtjfmhghpkefihaaGreatDoor
