/- Quot, Char, Fill, Count, Pad, INumA: these texts in one. -/
import Derived.Test.YtjfmhghpkefihaaGreatDoorPt5
import Derived.Test.YtjfmhghpkefihaaGreatDoorPt2
import Derived.Test.YtjfmhghpkefihaaGreatDoorPt4
import Derived.Test.YtjfmhghpkefihaaGreatDoorPt1
import Derived.Test.YtjfmhghpkefihaaGreatDoorShelf
import Derived.Deep.QuietTactic
import Derived.BigQuiet
namespace Go.Proofs.YtjfmhghpkefihaaGreatDoor
open Go.RowKit
end Go.Proofs.YtjfmhghpkefihaaGreatDoor
namespace Go.Proofs.YtjfmhghpkefihaaGreatDoor
open Go.RowKit
set_option linter.unusedVariables false
def chrS (c : Int) (a : Bool) : ByteArray := ⟨(39 :: (inL (pt c) 39 a ++ [39])).toArray⟩
theorem pt_le (c : Int) : pt c ≤ 1114111 := by
 have := (valid_iff _).1 (pt_valid c)
 omega
theorem one_sum (x : UInt8) (t : ByteArray) (h : t.size ≤ 100000000) : ¬ 9223372036854775807 < (ByteArray.mk #[x]).size + t.size := by
 show ¬ 9223372036854775807 < 1 + t.size
 omega
theorem sum_one (x : UInt8) (t : ByteArray) (h : t.size ≤ 100000000) : ¬ 9223372036854775807 < t.size + (ByteArray.mk #[x]).size := by
 show ¬ 9223372036854775807 < t.size + 1
 omega
theorem chr_pack (c : Int) (a : Bool) : ∃ r t u : ByteArray, chrS c a = r ∧ (ByteArray.mk #[39]) ++ t = u ∧ u ++ (ByteArray.mk #[39]) = r ∧ ¬ 9223372036854775807 < (ByteArray.mk #[39]).size + t.size ∧ ¬ 9223372036854775807 < u.size + (ByteArray.mk #[39]).size ∧
  ∀ w, Esc w → Calls Tryz.prog 126 #[.int .i32 (pt c : Nat), .int .i32 39, .bool a] w fun e w' => e = .returned (.string t) ∧ Below w.heap.size w w' := by
 have hl := inL_len (pt c) 39 a
 have e1 : (ByteArray.mk #[39]) ++ (ByteArray.mk (inL (pt c) 39 a).toArray) = ⟨(39 :: inL (pt c) 39 a).toArray⟩ := ba_app [39] _
 have e2 : (ByteArray.mk (39 :: inL (pt c) 39 a).toArray) ++ (ByteArray.mk #[39]) = chrS c a := ba_app (39 :: inL (pt c) 39 a) [39]
 refine ⟨_, _, _, rfl, e1, e2, one_sum 39 _ ?_, sum_one 39 _ ?_, fun w hE => inq_any (pt c) 39 a w hE (pt_le c) (.inr rfl)⟩
 ·show (inL (pt c) 39 a).toArray.size ≤ 100000000
  simp; omega
 ·show (39 :: inL (pt c) 39 a).toArray.size ≤ 100000000
  simp; omega
theorem dec_enc (c : Int) : dec (Utf8.encode c) = (pt c, (Utf8.encode c).size) := by
 have := back_dec c ⟨#[]⟩
 have e : Utf8.encode c ++ (ByteArray.mk #[]) = Utf8.encode c := by
  have := ba_app (Utf8.encode c).data.toList []
  rw [List.append_nil, ba_list] at this
  exact this
 rw [e] at this
 exact this
set_option maxRecDepth 1000000 in
set_option maxHeartbeats 400000 in
theorem char_any (c : Int) (a : Bool) (w : World) (hE : Esc w) :
  Calls Tryz.prog 218 #[.int .i32 c, .bool a] w fun e w' => e = .returned (.string (chrS c a)) ∧ Below w.heap.size w w' := by
 obtain ⟨r, t, u, hr, h1, h2, h3, h4, hQ⟩ := chr_pack c a
 rw [hr]
 obtain ⟨k, hk⟩ : ∃ k, Utf8.encode c = k := ⟨_, rfl⟩
 have hR := rune_is c k hk
 have hD : ∀ w, Calls Tryz.prog 42 #[.string k] w fun e w' => e = .returned (.tuple #[.int .i32 (pt c : Nat), .int .i64 k.size]) ∧ Below w.heap.size w w' := by
  intro w
  have := decode_any k w
  rw [← hk, dec_enc c] at this
  rw [← hk]
  exact this
 clear hk hr
 generalize pt c = P at *
 go_enter Tryz.func218, Tryz.ntmps218
 go_wp2_with (first | (go_at_call 36; refine (hR _).mono ?_; rintro e w' ⟨rfl, rfl⟩) | (go_at_call 42; refine (hD _).mono ?_; rintro e w1 ⟨rfl, hb1⟩) | (go_at_call 126; refine (hQ _ (hE.below hb1)).mono ?_; rintro e w2 ⟨rfl, hb2⟩))
 go_ret
 exact ⟨rfl, hb1.trans (hb2.mono hb1.size)⟩
end Go.Proofs.YtjfmhghpkefihaaGreatDoor
namespace Go.Proofs.YtjfmhghpkefihaaGreatDoor
open Go.RowKit
set_option maxHeartbeats 400000 in
theorem width_any (n : Int) (w : World) :
  Calls Tryz.prog 120 #[.int .i64 n] w fun e w' => e = .returned (.int .i64 (wdt n : Nat)) ∧ w' = w := by
 go_enter Tryz.func120, Tryz.ntmps120
 go_wp2
 go_ret
 exact ⟨ret_int (wdt_eq n), rfl⟩
theorem conv1d (w : World) (x : Int) :
  (convert 70 9 (.slice (some ⟨w.heap.size, 0, none⟩) 1 1)).run Tryz.prog (w.alloc (.cells #[.int .u8 x] 5)).drew = .ok (.string (strOfNums [x])) (w.alloc (.cells #[.int .u8 x] 5)).drew := by
 refine run_convert_bytes_arg _ 70 5 Tryz.underlying70 Tryz.underlying5 w.heap.size 0 1 1 [x] rfl (fun i hi => ?_) 9 Tryz.underlying9
 have : i = 0 := by omega
 subst this
 simp
theorem repeat_byte (x : Int) (k : Nat) (w : World) (hk : k ≤ 1000) :
  Calls Tryz.prog 166 #[.string (strOfNums [x]), .int .i64 k] w fun e w' => e = .returned (.string ⟨(List.replicate k (UInt8.ofNat x.toNat)).toArray⟩) ∧ Below w.heap.size w w' := by
 have hz : (strOfNums [x]).size = 1 := rfl
 refine (Tryz.strings_Repeat (strOfNums [x]) k w (by omega) (by rw [hz]; omega)).mono ?_
 rintro e w' ⟨rfl, hb⟩
 refine ⟨ret_str ?_, hb⟩
 have e : (strOfNums [x]).data.toList = List.replicate 1 (UInt8.ofNat x.toNat) := rfl
 rw [e, Lib.repeatL_replicate, Nat.mul_one]
set_option maxRecDepth 1000000 in
set_option maxHeartbeats 400000 in
theorem fill_any (c : Nat) (n : Int) (w : World) :
  Calls Tryz.prog 122 #[.int .u8 c, .int .i64 n] w fun e w' => e = .returned (.string (run c (wdt n))) ∧ Below w.heap.size w w' := by
 have kc := conv1d
 go_enter Tryz.func122, Tryz.ntmps122
 go_wp2_with fail
 go_region_with (first | (go_at_call 120; refine (width_any _ _).mono ?_; rintro e w' ⟨rfl, rfl⟩) | (go_at_call 166; refine (repeat_byte _ _ _ (wdt_le n)).mono ?_; rintro e w1 ⟨rfl, hb⟩))
 all_goals go_wp2
 all_goals go_ret
 all_goals exact ⟨rfl, (((Below.refl _ _).alloc (Nat.le_refl _) _).drew).trans (hb.mono (by simp))⟩
end Go.Proofs.YtjfmhghpkefihaaGreatDoor
namespace Go.Proofs.YtjfmhghpkefihaaGreatDoor
open Go.RowKit
set_option maxRecDepth 1000000 in
set_option maxHeartbeats 800000 in
theorem count_any (s : ByteArray) (w : World) (hs : s.size ≤ maxLen) :
  Calls Tryz.prog 121 #[.string s] w fun e w' => e = .returned (.int .i64 (cntR s : Nat)) ∧ Below w.heap.size w w' := by
 unfold maxLen at hs
 go_enter Tryz.func121, Tryz.ntmps121
 go_wp2
 go_loopw [3] (fun n w' => ∃ pos k : Nat, w' = w.iter s pos ∧ n = .int .i64 k ∧ pos ≤ s.size ∧ k ≤ pos ∧ Hid (k + cntFrom s pos = cntR s)) (fun _ w' => s.size - w'.iterPos w.heap.size)
 case atStart => exact ⟨0, 0, rfl, rfl, Nat.zero_le _, Nat.le_refl _, by unfold cntR; exact Nat.zero_add _⟩
 case round =>
  obtain ⟨pos, k, rfl, rfl, hpos, hk, hc⟩ := hrel
  by_cases hp : pos < s.size
  ·have hnx : ∀ ty, (Instr.next (.pointer (some ⟨w.heap.size, 0, none⟩)) true ty).run Tryz.prog (w.iter s pos) = _ := fun ty => run_next_any w s pos ty hp
   go_wp2
   have hw := wid_pos s pos
   have hl := wid_le s pos hp
   go_roundw
   case rel =>
    refine ⟨pos + (Utf8.decode s pos).2, k + 1, rfl, by go_num, hl, by omega, ?_⟩
    have := hc.out
    rw [cntFrom_step s pos hp] at this
    show k + 1 + cntFrom s _ = _
    omega
   case measure =>
    simp
    omega
  ·have hnx : ∀ ty, (Instr.next (.pointer (some ⟨w.heap.size, 0, none⟩)) true ty).run Tryz.prog (w.iter s pos) = _ := fun ty => run_next_end w s pos ty hp
   go_wp2
   go_ret
   have := hc.out
   rw [cntFrom_end s pos hp] at this
   refine ⟨ret_int ?_, iter_below _ _ _⟩
   omega
end Go.Proofs.YtjfmhghpkefihaaGreatDoor
namespace Go.Proofs.YtjfmhghpkefihaaGreatDoor
open Go.RowKit
set_option maxRecDepth 1000000 in
set_option maxHeartbeats 400000 in
theorem pad_any (s : ByteArray) (p mi sh sp z : Bool) (wid prec verb : Int) (w : World) (hs : s.size ≤ 1000000) :
  Calls Tryz.prog 86 #[.string s, .agg #[.bool p, .bool mi, .bool sh, .bool sp, .bool z, .int .i64 wid, .int .i64 prec, .int .i32 verb]] w fun e w' => e = .returned (.string (padS s mi z wid)) ∧ Below w.heap.size w w' := by
 have hcn := cntR_le s
 have hwl := wdt_le wid
 have hk := wdt_le ((wdt wid : Nat) - (cntR s : Nat) : Int)
 cases mi with
 | true =>
   have hsum : ¬ 9223372036854775807 < s.size + (run 32 (wdt ((wdt wid : Nat) - (cntR s : Nat) : Int))).size := by rw [run_size]; omega
   go_enter Tryz.func86, Tryz.ntmps86
   go_wp2_with (first | (go_at_call 120; refine (width_any _ _).mono ?_; rintro e w' ⟨rfl, rfl⟩) | (go_at_call 121; refine (count_any _ _ (by unfold maxLen; omega)).mono ?_; rintro e w1 ⟨rfl, hb1⟩; have c1 : w1.cell? ⟨w.heap.size, 1, none⟩ = some (.bool true) := (by rw [hb1.cell (by simp)]; simp); have c4 : w1.cell? ⟨w.heap.size, 4, none⟩ = some (.bool z) := (by rw [hb1.cell (by simp)]; simp)) | (go_at_call 122; refine (fill_any 32 _ _).mono ?_; rintro e w2 ⟨rfl, hb2⟩))
   go_ret
   exact ⟨rfl, ((Below.refl _ _).alloc (Nat.le_refl _) _).trans ((hb1.trans (hb2.mono hb1.size)).mono (by simp))⟩
 | false =>
   cases z with
   | true =>
     have hsum : ¬ 9223372036854775807 < (run 48 (wdt ((wdt wid : Nat) - (cntR s : Nat) : Int))).size + s.size := by rw [run_size]; omega
     go_enter Tryz.func86, Tryz.ntmps86
     go_wp2_with (first | (go_at_call 120; refine (width_any _ _).mono ?_; rintro e w' ⟨rfl, rfl⟩) | (go_at_call 121; refine (count_any _ _ (by unfold maxLen; omega)).mono ?_; rintro e w1 ⟨rfl, hb1⟩; have c1 : w1.cell? ⟨w.heap.size, 1, none⟩ = some (.bool false) := (by rw [hb1.cell (by simp)]; simp); have c4 : w1.cell? ⟨w.heap.size, 4, none⟩ = some (.bool true) := (by rw [hb1.cell (by simp)]; simp)) | (go_at_call 122; refine (fill_any 48 _ _).mono ?_; rintro e w2 ⟨rfl, hb2⟩))
     go_ret
     exact ⟨rfl, ((Below.refl _ _).alloc (Nat.le_refl _) _).trans ((hb1.trans (hb2.mono hb1.size)).mono (by simp))⟩
   | false =>
     have hsum : ¬ 9223372036854775807 < (run 32 (wdt ((wdt wid : Nat) - (cntR s : Nat) : Int))).size + s.size := by rw [run_size]; omega
     go_enter Tryz.func86, Tryz.ntmps86
     go_wp2_with (first | (go_at_call 120; refine (width_any _ _).mono ?_; rintro e w' ⟨rfl, rfl⟩) | (go_at_call 121; refine (count_any _ _ (by unfold maxLen; omega)).mono ?_; rintro e w1 ⟨rfl, hb1⟩; have c1 : w1.cell? ⟨w.heap.size, 1, none⟩ = some (.bool false) := (by rw [hb1.cell (by simp)]; simp); have c4 : w1.cell? ⟨w.heap.size, 4, none⟩ = some (.bool false) := (by rw [hb1.cell (by simp)]; simp)) | (go_at_call 122; refine (fill_any 32 _ _).mono ?_; rintro e w2 ⟨rfl, hb2⟩))
     go_ret
     exact ⟨rfl, ((Below.refl _ _).alloc (Nat.le_refl _) _).trans ((hb1.trans (hb2.mono hb1.size)).mono (by simp))⟩
end Go.Proofs.YtjfmhghpkefihaaGreatDoor
namespace Go.Proofs.YtjfmhghpkefihaaGreatDoor
open Go.RowKit
set_option linter.unusedVariables false
set_option maxHeartbeats 400000 in
theorem ilimit_any (n : Int) (w : World) :
  Calls Tryz.prog 251 #[.int .i64 n] w fun e w' => e = .returned (.int .i64 (wdt n : Nat)) ∧ w' = w := by
 go_enter Tryz.func251, Tryz.ntmps251
 go_wp2
 go_ret
 exact ⟨ret_int (wdt_eq n), rfl⟩
set_option maxHeartbeats 400000 in
theorem ipoint_any (bits : Nat) (w : World) (hb : bits < 18446744073709551616) :
  Calls Tryz.prog 217 #[.int .u64 bits] w fun e w' => e = .returned (.int .i32 (ptN bits : Nat)) ∧ w' = w := by
 by_cases h : 1114111 < bits
 ·have h' : (1114111 : Int) < bits := by omega
  go_enter Tryz.func217, Tryz.ntmps217
  go_wp2
  go_ret
  exact ⟨ret_int (by unfold ptN; rw [if_pos h]; rfl), rfl⟩
 ·have h' : ¬ (1114111 : Int) < bits := by omega
  have hw : IntKind.i32.wrap (bits : Int) = bits := by rw [IntKind.wrap_i32]; omega
  go_enter Tryz.func217, Tryz.ntmps217
  go_wp2
  go_ret
  exact ⟨ret_int (by unfold ptN; rw [if_neg h]), rfl⟩
set_option maxRecDepth 1000000 in
set_option maxHeartbeats 1000000 in
theorem ilengthen_any (s : ByteArray) (n : Int) (w : World) (hs : s.size ≤ 100000) (h1 : -100000 ≤ n) (h2 : n ≤ 100000) :
  Calls Tryz.prog 250 #[.string s, .int .i64 n] w fun e w' => e = .returned (.string (lenS s n)) ∧ Below w.heap.size w w' := by
 have hF : ∀ w, Calls Tryz.prog 122 #[.int .u8 48, .int .i64 (n - (s.size : Nat))] w fun e w' => e = .returned (.string (run 48 (wdt (n - (s.size : Nat))))) ∧ Below w.heap.size w w' := fun w => fill_any 48 _ w
 have hk := wdt_le (n - (s.size : Nat))
 have hsum : ¬ 9223372036854775807 < (run 48 (wdt (n - (s.size : Nat)))).size + s.size := by rw [run_size]; omega
 have HL : Hid (run 48 (wdt (n - (s.size : Nat))) ++ s = lenS s n) := rfl
 generalize run 48 (wdt (n - (s.size : Nat))) = t at *
 go_enter Tryz.func250, Tryz.ntmps250
 go_wp2_with (go_at_call 122; refine (hF _).mono ?_; rintro e w1 ⟨rfl, hb1⟩)
 go_ret
 exact ⟨ret_str HL.out, hb1⟩
set_option maxRecDepth 1000000 in
set_option maxHeartbeats 1000000 in
theorem ipad_any (s : ByteArray) (p mi sh sp z : Bool) (wid prec verb : Int) (w : World) (hs : s.size ≤ 1000000) :
  Calls Tryz.prog 219 #[.string s, .agg #[.bool p, .bool mi, .bool sh, .bool sp, .bool z, .int .i64 wid, .int .i64 prec, .int .i32 verb]] w fun e w' => e = .returned (.string (padS s mi false wid)) ∧ Below w.heap.size w w' := by
 have hP : ∀ w, Calls Tryz.prog 86 #[.string s, .agg #[.bool p, .bool mi, .bool sh, .bool sp, .bool false, .int .i64 wid, .int .i64 prec, .int .i32 verb]] w fun e w' => e = .returned (.string (padS s mi false wid)) ∧ Below w.heap.size w w' := fun w => pad_any s p mi sh sp false wid prec verb w hs
 generalize padS s mi false wid = r at *
 have hbA : Below w.heap.size w (w.alloc (.cells #[.bool p, .bool mi, .bool sh, .bool sp, .bool false, .int .i64 wid, .int .i64 prec, .int .i32 verb] 67)) := (Below.refl _ _).alloc (Nat.le_refl _) _
 go_enter Tryz.func219, Tryz.ntmps219
 go_wp2_with (go_at_call 86; refine (hP _).mono ?_; rintro e w1 ⟨rfl, hb1⟩)
 go_ret
 exact ⟨rfl, hbA.trans (hb1.mono hbA.size)⟩
set_option maxRecDepth 1000000 in
set_option maxHeartbeats 1000000 in
theorem isign_any (p mi sh sp z : Bool) (wid prec verb : Int) (w : World) :
  Calls Tryz.prog 170 #[.agg #[.bool p, .bool mi, .bool sh, .bool sp, .bool z, .int .i64 wid, .int .i64 prec, .int .i32 verb]] w fun e w' => e = .returned (.string (signA p sp)) ∧ Below w.heap.size w w' := by
 cases p <;> cases sp
 all_goals
  go_enter Tryz.func170, Tryz.ntmps170
  go_wp2
  go_ret
  exact ⟨rfl, (Below.refl _ _).alloc (Nat.le_refl _) _⟩
set_option maxRecDepth 1000000 in
set_option maxHeartbeats 1000000 in
theorem ibase_any (verb : Int) (w : World) :
  Calls Tryz.prog 221 #[.int .i32 verb] w fun e w' => e = .returned (.int .i64 (baseV verb : Nat)) ∧ w' = w := by
 by_cases h1 : verb = 100
 ·subst h1
  go_enter Tryz.func221, Tryz.ntmps221
  go_wp2
  go_ret
  exact ⟨rfl, rfl⟩
 by_cases h2 : verb = 118
 ·subst h2
  go_enter Tryz.func221, Tryz.ntmps221
  go_wp2
  go_ret
  exact ⟨rfl, rfl⟩
 by_cases h3 : verb = 98
 ·subst h3
  go_enter Tryz.func221, Tryz.ntmps221
  go_wp2
  go_ret
  exact ⟨rfl, rfl⟩
 by_cases h4 : verb = 111
 ·subst h4
  go_enter Tryz.func221, Tryz.ntmps221
  go_wp2
  go_ret
  exact ⟨rfl, rfl⟩
 by_cases h5 : verb = 79
 ·subst h5
  go_enter Tryz.func221, Tryz.ntmps221
  go_wp2
  go_ret
  exact ⟨rfl, rfl⟩
 by_cases h6 : verb = 120
 ·subst h6
  go_enter Tryz.func221, Tryz.ntmps221
  go_wp2
  go_ret
  exact ⟨rfl, rfl⟩
 by_cases h7 : verb = 88
 ·subst h7
  go_enter Tryz.func221, Tryz.ntmps221
  go_wp2
  go_ret
  exact ⟨rfl, rfl⟩
 go_enter Tryz.func221, Tryz.ntmps221
 go_wp2
 go_ret
 exact ⟨ret_int (by simp [baseV, h1, h2, h3, h4, h5, h6, h7]), rfl⟩
set_option maxRecDepth 1000000 in
set_option maxHeartbeats 1000000 in
theorem imark_any (d : ByteArray) (p mi sh sp z : Bool) (wid prec verb : Int) (w : World) (hd : 0 < d.size) :
  Calls Tryz.prog 253 #[.string d, .agg #[.bool p, .bool mi, .bool sh, .bool sp, .bool z, .int .i64 wid, .int .i64 prec, .int .i32 verb]] w fun e w' => e = .returned (.string (markB d sh verb)) ∧ Below w.heap.size w w' := by
 by_cases h1 : verb = 79
 ·subst h1
  go_enter Tryz.func253, Tryz.ntmps253
  go_wp2
  go_ret
  exact ⟨ret_str (by simp [markB]), (Below.refl _ _).alloc (Nat.le_refl _) _⟩
 cases sh with
 | false =>
   go_enter Tryz.func253, Tryz.ntmps253
   go_wp2
   go_ret
   exact ⟨ret_str (by simp [markB, h1]), (Below.refl _ _).alloc (Nat.le_refl _) _⟩
 | true =>
 by_cases h2 : verb = 98
 ·subst h2
  go_enter Tryz.func253, Tryz.ntmps253
  go_wp2
  go_ret
  exact ⟨ret_str (by simp [markB]), (Below.refl _ _).alloc (Nat.le_refl _) _⟩
 by_cases h3 : verb = 111
 ·subst h3
  have hbt := bt_at d 0 hd
  by_cases h0 : bt d 0 = 48
  ·have h0' : ((d[0]'hd).toNat : Int) = 48 := by rw [hbt]; omega
   have hm : markB d true 111 = ⟨#[]⟩ := by simp [markB, h0]
   rw [hm]
   clear hm hbt h0
   go_enter Tryz.func253, Tryz.ntmps253
   go_wp2
   go_ret
   exact ⟨ret_str (by rfl), (Below.refl _ _).alloc (Nat.le_refl _) _⟩
  ·have h0' : ¬ ((d[0]'hd).toNat : Int) = 48 := by rw [hbt]; omega
   have hm : markB d true 111 = ⟨#[48]⟩ := by simp [markB, h0]
   rw [hm]
   clear hm hbt h0
   go_enter Tryz.func253, Tryz.ntmps253
   go_wp2
   go_ret
   exact ⟨ret_str (by rfl), (Below.refl _ _).alloc (Nat.le_refl _) _⟩
 by_cases h4 : verb = 120
 ·subst h4
  go_enter Tryz.func253, Tryz.ntmps253
  go_wp2
  go_ret
  exact ⟨ret_str (by simp [markB]), (Below.refl _ _).alloc (Nat.le_refl _) _⟩
 by_cases h5 : verb = 88
 ·subst h5
  go_enter Tryz.func253, Tryz.ntmps253
  go_wp2
  go_ret
  exact ⟨ret_str (by simp [markB]), (Below.refl _ _).alloc (Nat.le_refl _) _⟩
 go_enter Tryz.func253, Tryz.ntmps253
 go_wp2
 go_ret
 exact ⟨ret_str (by simp [markB, h1, h2, h3, h4, h5]), (Below.refl _ _).alloc (Nat.le_refl _) _⟩
end Go.Proofs.YtjfmhghpkefihaaGreatDoor
