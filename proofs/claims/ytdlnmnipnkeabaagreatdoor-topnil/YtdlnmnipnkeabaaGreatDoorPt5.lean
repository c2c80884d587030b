/- Char, Fill, Count, Pad, INumA: these texts in one. -/
import Derived.Test.YtdlnmnipnkeabaaGreatDoorPt4
import Derived.Test.YtdlnmnipnkeabaaGreatDoorPt1
import Derived.Test.YtdlnmnipnkeabaaGreatDoorPt3
import Derived.Test.YtdlnmnipnkeabaaGreatDoorShelf
import Derived.Deep.QuietTactic
import Derived.BigQuiet
namespace Go.Proofs.YtdlnmnipnkeabaaGreatDoor
open Go.RowKit
set_option linter.unusedVariables false
theorem one_sum (x : UInt8) (t : ByteArray) (h : t.size ≤ 100000000) : ¬ 9223372036854775807 < (ByteArray.mk #[x]).size + t.size := by
 show ¬ 9223372036854775807 < 1 + t.size
 omega
theorem sum_one (x : UInt8) (t : ByteArray) (h : t.size ≤ 100000000) : ¬ 9223372036854775807 < t.size + (ByteArray.mk #[x]).size := by
 show ¬ 9223372036854775807 < t.size + 1
 omega
def hind (c : Int) : Bool := decide (c = 96 ∨ (c < 32 ∧ c ≠ 9) ∨ c = 127 ∨ c = 65279)
set_option maxRecDepth 1000000 in
set_option maxHeartbeats 400000 in
theorem hinders_any (c : Int) (w : World) :
  Calls Tryz.prog 206 #[.int .i32 c] w fun e w' => e = .returned (.bool (hind c)) ∧ w' = w := by
 by_cases h1 : c = 9 <;> by_cases h2 : c = 96 <;> by_cases h3 : c = 127 <;> by_cases h4 : c = 65279 <;> by_cases h5 : c < 32
 all_goals first | (exfalso; omega) | skip
 all_goals first | (have hp : hind c = true := (by unfold hind; rw [decide_eq_true_iff]; omega)) | (have hp : hind c = false := (by unfold hind; rw [decide_eq_false_iff_not]; omega))
 all_goals
  rw [hp]
  go_enter Tryz.func206, Tryz.ntmps206
  go_wp2
  go_ret
  exact ⟨rfl, rfl⟩
def rawGo (s : ByteArray) : Nat → Nat → Bool
 | 0, _ => true
 | f + 1, p => if p < s.size then (if hind (Utf8.decode s p).1 = true ∨ brk (Utf8.decode s p) = true then false else rawGo s f (p + (Utf8.decode s p).2)) else true
theorem rawGo_fuel (s : ByteArray) : ∀ (f g p : Nat), s.size - p ≤ f → s.size - p ≤ g → rawGo s f p = rawGo s g p
 | 0, 0, _, _, _ => rfl
 | 0, g + 1, p, h, _ => by simp [rawGo, show ¬ p < s.size by omega]
 | f + 1, 0, p, _, h => by simp [rawGo, show ¬ p < s.size by omega]
 | f + 1, g + 1, p, h1, h2 => by
   have hw := wid_pos s p
   by_cases hp : p < s.size
   ·simp only [rawGo, if_pos hp]
    rw [rawGo_fuel s f g _ (by omega) (by omega)]
   ·simp [rawGo, hp]
def rawF (s : ByteArray) (p : Nat) : Bool := rawGo s (s.size - p) p
theorem rawF_end (s : ByteArray) (p : Nat) (h : ¬ p < s.size) : rawF s p = true := by
 unfold rawF
 rw [show s.size - p = 0 by omega]; rfl
theorem rawF_no (s : ByteArray) (p : Nat) (h : p < s.size) (hh : hind (Utf8.decode s p).1 = true ∨ brk (Utf8.decode s p) = true) : rawF s p = false := by
 unfold rawF
 obtain ⟨f, hf⟩ : ∃ f, s.size - p = f + 1 := ⟨s.size - p - 1, by omega⟩
 rw [hf]
 simp only [rawGo, if_pos h, if_pos hh]
theorem rawF_on (s : ByteArray) (p : Nat) (h : p < s.size) (hh : ¬ (hind (Utf8.decode s p).1 = true ∨ brk (Utf8.decode s p) = true)) : rawF s p = rawF s (p + (Utf8.decode s p).2) := by
 have hw := wid_pos s p
 unfold rawF
 obtain ⟨f, hf⟩ : ∃ f, s.size - p = f + 1 := ⟨s.size - p - 1, by omega⟩
 rw [hf]
 simp only [rawGo, if_pos h, if_neg hh]
 rw [rawGo_fuel s f _ _ (by omega) (Nat.le_refl _)]
end Go.Proofs.YtdlnmnipnkeabaaGreatDoor
namespace Go.Proofs.YtdlnmnipnkeabaaGreatDoor
open Go.RowKit
set_option maxHeartbeats 400000 in
theorem width_any (n : Int) (w : World) :
  Calls Tryz.prog 156 #[.int .i64 n] w fun e w' => e = .returned (.int .i64 (wdt n : Nat)) ∧ w' = w := by
 go_enter Tryz.func156, Tryz.ntmps156
 go_wp2
 go_ret
 exact ⟨ret_int (wdt_eq n), rfl⟩
theorem conv1d (w : World) (x : Int) :
  (convert 47 9 (.slice (some ⟨w.heap.size, 0, none⟩) 1 1)).run Tryz.prog (w.alloc (.cells #[.int .u8 x] 5)).drew = .ok (.string (strOfNums [x])) (w.alloc (.cells #[.int .u8 x] 5)).drew := by
 refine run_convert_bytes_arg _ 47 5 Tryz.underlying47 Tryz.underlying5 w.heap.size 0 1 1 [x] rfl (fun i hi => ?_) 9 Tryz.underlying9
 have : i = 0 := by omega
 subst this
 simp
theorem repeat_byte (x : Int) (k : Nat) (w : World) (hk : k ≤ 1000) :
  Calls Tryz.prog 204 #[.string (strOfNums [x]), .int .i64 k] w fun e w' => e = .returned (.string ⟨(List.replicate k (UInt8.ofNat x.toNat)).toArray⟩) ∧ Below w.heap.size w w' := by
 have hz : (strOfNums [x]).size = 1 := rfl
 refine (Tryz.strings_Repeat (strOfNums [x]) k w (by omega) (by rw [hz]; omega)).mono ?_
 rintro e w' ⟨rfl, hb⟩
 refine ⟨ret_str ?_, hb⟩
 have e : (strOfNums [x]).data.toList = List.replicate 1 (UInt8.ofNat x.toNat) := rfl
 rw [e, Lib.repeatL_replicate, Nat.mul_one]
set_option maxRecDepth 1000000 in
set_option maxHeartbeats 400000 in
theorem fill_any (c : Nat) (n : Int) (w : World) :
  Calls Tryz.prog 158 #[.int .u8 c, .int .i64 n] w fun e w' => e = .returned (.string (run c (wdt n))) ∧ Below w.heap.size w w' := by
 have kc := conv1d
 go_enter Tryz.func158, Tryz.ntmps158
 go_wp2_with fail
 go_region_with (first | (go_at_call 156; refine (width_any _ _).mono ?_; rintro e w' ⟨rfl, rfl⟩) | (go_at_call 204; refine (repeat_byte _ _ _ (wdt_le n)).mono ?_; rintro e w1 ⟨rfl, hb⟩))
 all_goals go_wp2
 all_goals go_ret
 all_goals exact ⟨rfl, (((Below.refl _ _).alloc (Nat.le_refl _) _).drew).trans (hb.mono (by simp))⟩
end Go.Proofs.YtdlnmnipnkeabaaGreatDoor
namespace Go.Proofs.YtdlnmnipnkeabaaGreatDoor
open Go.RowKit
set_option maxRecDepth 1000000 in
set_option maxHeartbeats 800000 in
theorem count_any (s : ByteArray) (w : World) (hs : s.size ≤ maxLen) :
  Calls Tryz.prog 157 #[.string s] w fun e w' => e = .returned (.int .i64 (cntR s : Nat)) ∧ Below w.heap.size w w' := by
 unfold maxLen at hs
 go_enter Tryz.func157, Tryz.ntmps157
 go_wp2
 go_loopw [3] (fun n w' => ∃ pos k : Nat, w' = w.iter s pos ∧ n = .int .i64 k ∧ pos ≤ s.size ∧ k ≤ pos ∧ Hid (k + cntFrom s pos = cntR s)) (fun _ w' => s.size - w'.iterPos w.heap.size)
 case atStart => exact ⟨0, 0, rfl, rfl, Nat.zero_le _, Nat.le_refl _, by unfold cntR; exact Nat.zero_add _⟩
 case round =>
  obtain ⟨pos, k, rfl, rfl, hpos, hk, hc⟩ := hrel
  by_cases hp : pos < s.size
  ·have hnx : ∀ ty, (Instr.next (.pointer (some ⟨w.heap.size, 0, none⟩)) true ty).run Tryz.prog (w.iter s pos) = _ := fun ty => run_next_any w s pos ty hp
   go_wp2
   have hw := wid_pos s pos
   have hl := wid_le s pos hp
   go_roundw
   case rel =>
    refine ⟨pos + (Utf8.decode s pos).2, k + 1, rfl, by go_num, hl, by omega, ?_⟩
    have := hc.out
    rw [cntFrom_step s pos hp] at this
    show k + 1 + cntFrom s _ = _
    omega
   case measure =>
    simp
    omega
  ·have hnx : ∀ ty, (Instr.next (.pointer (some ⟨w.heap.size, 0, none⟩)) true ty).run Tryz.prog (w.iter s pos) = _ := fun ty => run_next_end w s pos ty hp
   go_wp2
   go_ret
   have := hc.out
   rw [cntFrom_end s pos hp] at this
   refine ⟨ret_int ?_, iter_below _ _ _⟩
   omega
end Go.Proofs.YtdlnmnipnkeabaaGreatDoor
namespace Go.Proofs.YtdlnmnipnkeabaaGreatDoor
open Go.RowKit
set_option maxRecDepth 1000000 in
set_option maxHeartbeats 400000 in
theorem pad_any (s : ByteArray) (p mi sh sp z : Bool) (wid prec verb : Int) (w : World) (hs : s.size ≤ 1000000) :
  Calls Tryz.prog 129 #[.string s, .agg #[.bool p, .bool mi, .bool sh, .bool sp, .bool z, .int .i64 wid, .int .i64 prec, .int .i32 verb]] w fun e w' => e = .returned (.string (padS s mi z wid)) ∧ Below w.heap.size w w' := by
 have hcn := cntR_le s
 have hwl := wdt_le wid
 have hk := wdt_le ((wdt wid : Nat) - (cntR s : Nat) : Int)
 cases mi with
 | true =>
   have hsum : ¬ 9223372036854775807 < s.size + (run 32 (wdt ((wdt wid : Nat) - (cntR s : Nat) : Int))).size := by rw [run_size]; omega
   go_enter Tryz.func129, Tryz.ntmps129
   go_wp2_with (first | (go_at_call 156; refine (width_any _ _).mono ?_; rintro e w' ⟨rfl, rfl⟩) | (go_at_call 157; refine (count_any _ _ (by unfold maxLen; omega)).mono ?_; rintro e w1 ⟨rfl, hb1⟩; have c1 : w1.cell? ⟨w.heap.size, 1, none⟩ = some (.bool true) := (by rw [hb1.cell (by simp)]; simp); have c4 : w1.cell? ⟨w.heap.size, 4, none⟩ = some (.bool z) := (by rw [hb1.cell (by simp)]; simp)) | (go_at_call 158; refine (fill_any 32 _ _).mono ?_; rintro e w2 ⟨rfl, hb2⟩))
   go_ret
   exact ⟨rfl, ((Below.refl _ _).alloc (Nat.le_refl _) _).trans ((hb1.trans (hb2.mono hb1.size)).mono (by simp))⟩
 | false =>
   cases z with
   | true =>
     have hsum : ¬ 9223372036854775807 < (run 48 (wdt ((wdt wid : Nat) - (cntR s : Nat) : Int))).size + s.size := by rw [run_size]; omega
     go_enter Tryz.func129, Tryz.ntmps129
     go_wp2_with (first | (go_at_call 156; refine (width_any _ _).mono ?_; rintro e w' ⟨rfl, rfl⟩) | (go_at_call 157; refine (count_any _ _ (by unfold maxLen; omega)).mono ?_; rintro e w1 ⟨rfl, hb1⟩; have c1 : w1.cell? ⟨w.heap.size, 1, none⟩ = some (.bool false) := (by rw [hb1.cell (by simp)]; simp); have c4 : w1.cell? ⟨w.heap.size, 4, none⟩ = some (.bool true) := (by rw [hb1.cell (by simp)]; simp)) | (go_at_call 158; refine (fill_any 48 _ _).mono ?_; rintro e w2 ⟨rfl, hb2⟩))
     go_ret
     exact ⟨rfl, ((Below.refl _ _).alloc (Nat.le_refl _) _).trans ((hb1.trans (hb2.mono hb1.size)).mono (by simp))⟩
   | false =>
     have hsum : ¬ 9223372036854775807 < (run 32 (wdt ((wdt wid : Nat) - (cntR s : Nat) : Int))).size + s.size := by rw [run_size]; omega
     go_enter Tryz.func129, Tryz.ntmps129
     go_wp2_with (first | (go_at_call 156; refine (width_any _ _).mono ?_; rintro e w' ⟨rfl, rfl⟩) | (go_at_call 157; refine (count_any _ _ (by unfold maxLen; omega)).mono ?_; rintro e w1 ⟨rfl, hb1⟩; have c1 : w1.cell? ⟨w.heap.size, 1, none⟩ = some (.bool false) := (by rw [hb1.cell (by simp)]; simp); have c4 : w1.cell? ⟨w.heap.size, 4, none⟩ = some (.bool false) := (by rw [hb1.cell (by simp)]; simp)) | (go_at_call 158; refine (fill_any 32 _ _).mono ?_; rintro e w2 ⟨rfl, hb2⟩))
     go_ret
     exact ⟨rfl, ((Below.refl _ _).alloc (Nat.le_refl _) _).trans ((hb1.trans (hb2.mono hb1.size)).mono (by simp))⟩
end Go.Proofs.YtdlnmnipnkeabaaGreatDoor
namespace Go.Proofs.YtdlnmnipnkeabaaGreatDoor
open Go.RowKit
set_option linter.unusedVariables false
end Go.Proofs.YtdlnmnipnkeabaaGreatDoor
