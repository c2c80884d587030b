/- XPut, Plain5, IWritten, Decode, Inq, Inq2, Quot, Char, Fill, Count, Pad, INumA: these texts in one. -/
import Derived.Test.YtiagjheifblkiaaGreatDoorPt1
import Derived.WalkKit
import Derived.Deep.LoopGhost
import Derived.Test.YtiagjheifblkiaaGreatDoorShelf
import Derived.Deep.QuietTactic
import Derived.BigQuiet
namespace Go.Proofs.YtiagjheifblkiaaGreatDoor
open Go.RowKit
set_option linter.unusedVariables false
theorem Blk.thereMid {w : World} {B : Nat} {p cs q : List Value} (h : Blk w B (p ++ (cs ++ q))) : w.there B p.length cs.length := fun j hj => by
 refine ⟨?_, h.z _⟩
 have hlt : p.length + j < (p ++ (cs ++ q)).length := by simp; omega
 rw [h.c (p.length + j) _ (List.getElem?_eq_getElem hlt)]
 rfl
theorem Blk.put {w : World} {B : Nat} {p cs q : List Value} (h : Blk w B (p ++ (cs ++ q))) (us : List Value) (hl : us.length = cs.length) : Blk (w.setCells B p.length us) B (p ++ (us ++ q)) := by
 refine ⟨fun i v hv => ?_, fun i => (World.frozen?_setCells _ _ _ _ _).trans (h.z i), by rw [xsc_size]; exact h.b⟩
 have r1 : (w.setCells B p.length us).rangeAt B 0 p := by
  refine World.rangeAt_setCells_apart (fun j u hu => ?_) B p.length us (.inr (.inl (by omega)))
  rw [Nat.zero_add]
  exact h.c j u (by rw [List.getElem?_append_left (List.getElem?_eq_some_iff.1 hu).1]; exact hu)
 have r2 : (w.setCells B p.length us).rangeAt B p.length us := World.rangeAt_setCells_same w B p.length us (by rw [hl]; exact h.thereMid)
 have r3 : (w.setCells B p.length us).rangeAt B (p.length + cs.length) q := by
  refine World.rangeAt_setCells_apart (fun j u hu => ?_) B p.length us (.inr (.inr (by omega)))
  refine h.c _ u ?_
  rw [← List.append_assoc, List.getElem?_append_right (by simp), List.length_append, Nat.add_sub_cancel_left]
  exact hu
 rcases Nat.lt_or_ge i p.length with h1 | h1
 ·rw [List.getElem?_append_left h1] at hv
  have := r1 i v hv
  rwa [Nat.zero_add] at this
 ·rw [List.getElem?_append_right h1] at hv
  rcases Nat.lt_or_ge (i - p.length) us.length with h2 | h2
  ·rw [List.getElem?_append_left h2] at hv
   have := r2 _ v hv
   rwa [show p.length + (i - p.length) = i by omega] at this
  ·rw [List.getElem?_append_right h2] at hv
   have := r3 _ v hv
   rwa [show p.length + cs.length + (i - p.length - us.length) = i by omega] at this
end Go.Proofs.YtiagjheifblkiaaGreatDoor
namespace Go.Proofs.YtiagjheifblkiaaGreatDoor
open Go.RowKit
end Go.Proofs.YtiagjheifblkiaaGreatDoor
namespace Go.Proofs.YtiagjheifblkiaaGreatDoor
open Go.RowKit
set_option linter.unusedVariables false
structure Row64 (w : World) (B m : Nat) (ds : List UInt8) : Prop where
 len : m + ds.length = 64
 some_ : ∀ i, i < 64 → ∃ v, w.cell? ⟨B, i, none⟩ = some v
 at_ : ∀ i, i < ds.length → w.cell? ⟨B, m + i, none⟩ = some (.int .u8 (ds.getD i 0).toNat)
 froz : ∀ i, w.frozen? ⟨B, i, none⟩ = false
theorem Row64.put {w : World} {B j : Nat} {ds : List UInt8} (h : Row64 w B (j + 1) ds) (x : UInt8) : Row64 (w.setCell ⟨B, j, none⟩ (.int .u8 x.toNat)) B j (x :: ds) where
 len := by have := h.len; simp; omega
 some_ := fun i hi => cell?_setCell_some (h.some_ i hi).choose_spec
 at_ := fun i hi => by
  have hl := h.len
  cases i with
  | zero =>
    obtain ⟨v, hv⟩ := h.some_ j (by omega)
    exact World.cell?_setCell_same _ _ _ hv
  | succ i =>
    have hi' : i < ds.length := by simp at hi; exact hi
    rw [World.cell?_setCell_other _ _ _ _ (by intro e; have := congrArg Addr.off e; simp at this)]
    have := h.at_ i hi'
    rw [show j + (i + 1) = j + 1 + i by omega]
    exact this
 froz := fun i => by rw [World.frozen?_setCell]; exact h.froz i
theorem row64_new (w : World) (vs : Array Value) (T : TypeId) (hv : vs.size = 64) : Row64 (w.alloc (.cells vs T)) w.heap.size 64 [] where
 len := rfl
 some_ := fun i hi => ⟨vs[i]'(by omega), by simp [hv, hi]⟩
 at_ := fun i hi => by simp at hi
 froz := fun i => by simp
theorem two_pow (a q n : Nat) (h : q * 2 ^ (64 - a) ≤ n) (hn : n < 18446744073709551616) (hq : 0 < q) : 0 < a := by
 rcases Nat.eq_zero_or_pos a with h0 | h0
 ·exfalso
  subst h0
  have : (2 : Nat) ^ 64 = 18446744073709551616 := by decide
  have h1 : 1 * 2 ^ 64 ≤ q * 2 ^ 64 := Nat.mul_le_mul_right _ hq
  omega
 ·exact h0
theorem two_step (j q b n : Nat) (h : q * 2 ^ (64 - (j + 1)) ≤ n) (hj : j + 1 ≤ 64) (hb : 2 ≤ b) : q / b * 2 ^ (64 - j) ≤ n := by
 have e : 64 - j = 64 - (j + 1) + 1 := by omega
 have hd : q / b ≤ q / 2 := Nat.div_le_div_left hb (by omega)
 rw [e, Nat.pow_succ]
 have h1 : q / b * 2 ≤ q := by omega
 calc q / b * (2 ^ (64 - (j + 1)) * 2) = q / b * 2 * 2 ^ (64 - (j + 1)) := by rw [Nat.mul_comm (2 ^ (64 - (j + 1))) 2, Nat.mul_assoc]
  _ ≤ q * 2 ^ (64 - (j + 1)) := Nat.mul_le_mul_right _ h1
  _ ≤ n := h
def wRel (b n a q : Nat) (ds : List UInt8) : Prop := (a = 64 ∧ q = n ∧ ds = []) ∨ (a < 64 ∧ digP false b q ++ ds = digS false b n)
theorem wRel_step (b n j q : Nat) (ds : List UInt8) (hb : 2 ≤ b) (hq : q < 2 ^ 64) (h : wRel b n (j + 1) q ds) (hj : j + 1 ≤ 64) (hgo : j + 1 = 64 ∨ q ≠ 0) : wRel b n j (q / b) (hexB false (q % b) :: ds) := by
 refine .inr ⟨by omega, ?_⟩
 rcases h with ⟨h1, rfl, rfl⟩ | ⟨h1, h2⟩
 ·rfl
 ·rw [← h2, digP_step false b q hb (by omega) hq]
  simp
theorem arr64Len : Tryz.prog.arrayLen 434 = 64 := by kernel_rfl
theorem arr64Elem : Tryz.prog.elem 434 = 5 := by kernel_rfl
theorem arr64Under : Tryz.prog.underlying 434 = some (.array (Tryz.prog.arrayLen 434) (Tryz.prog.elem 434)) := by kernel_rfl
theorem at64_l (W : World) (g n : Nat) (hn : n < 64) :
  (Instr.sliceAt 434 (.pointer (some ⟨g, 0, none⟩)) (some (.int .i64 n)) none none).run Tryz.prog W = .ok (.slice (some ⟨g, n, none⟩) (64 - n) (64 - n)) W := by
 rw [run_sliceAt_array_l W 434 ⟨g, 0, none⟩ arr64Under .i64 n (by omega) (by rw [arr64Len]; omega), arr64Elem, Tryz.sizeOf5, arr64Len]
 have hne : ¬ 64 = n := by omega
 simp [slicedAt, hne, Addr.add]
 omega
theorem conv64 (W : World) (g m : Nat) (ds : List UInt8) (h : Row64 W g m ds) :
  (convert 57 9 (.slice (some ⟨g, m, none⟩) (64 - m) (64 - m))).run Tryz.prog W = .ok (.string ⟨ds.toArray⟩) W := by
 have hl := h.len
 have := run_convert_bytes_arg W 57 5 Tryz.underlying57 Tryz.underlying5 g m (64 - m) (64 - m) (ds.map fun x => (x.toNat : Int)) (by simp; omega) (fun i hi => by
  rw [h.at_ i (by omega)]
  have : i < ds.length := by omega
  simp [this, List.getD]) 9 Tryz.underlying9
 rw [this]
 have e : strOfNums (ds.map fun x => (x.toNat : Int)) = ⟨ds.toArray⟩ := by
  apply ByteArray.ext
  have : (ds.map fun x => (x.toNat : Int)).map (fun n : Int => UInt8.ofNat n.toNat) = ds := by
   rw [List.map_map]
   conv => rhs; rw [← List.map_id ds]
   exact List.map_congr_left fun x _ => by simp
  show ((ds.map fun x => (x.toNat : Int)).map (fun n : Int => UInt8.ofNat n.toNat)).toArray = _
  rw [this]
 rw [e]
set_option maxRecDepth 1000000 in
set_option maxHeartbeats 800000 in
theorem written_any (n b : Nat) (w : World) (hn : n < 18446744073709551616) (hb : 2 ≤ b) (hb16 : b ≤ 16) :
  Calls Tryz.prog 357 #[.int .u64 n, .int .u64 b] w fun e w' => e = .returned (.string ⟨(digS false b n).toArray⟩) ∧ Below w.heap.size w w' := by
 go_enter Tryz.func357, Tryz.ntmps357
 go_wp2
 go_loopg [0, 6] 65 (fun g nn at_ wr => ∃ (q a : Nat) (ds : List UInt8), nn = .int .u64 q ∧ at_ = .int .i64 a ∧ a + 1 = g ∧ q ≤ n ∧ a ≤ 64 ∧ Row64 wr w.heap.size a ds ∧ Below w.heap.size w wr ∧ Hid (q * 2 ^ (64 - a) ≤ n ∧ wRel b n a q ds))
 case atStart =>
  exact ⟨n, 64, [], rfl, rfl, rfl, Nat.le_refl _, Nat.le_refl _, row64_new w _ _ rfl, (Below.refl _ _).alloc (Nat.le_refl _) _, by simp, .inl ⟨rfl, rfl, rfl⟩⟩
 case round =>
  obtain ⟨q, a, ds, rfl, rfl, hag, hqn, ha, hR, hbl, HH⟩ := hrel
  have hq0 : 0 < q → 0 < a := two_pow a q n HH.out.1 hn
  by_cases hgo : a = 64 ∨ 0 < q
  ·obtain ⟨j, rfl⟩ : ∃ j, a = j + 1 := ⟨a - 1, by omega⟩
   have hW : Hid (q / b * 2 ^ (64 - j) ≤ n ∧ wRel b n j (q / b) (hexB false (q % b) :: ds)) := ⟨two_step j q b n HH.out.1 ha hb, wRel_step b n j q ds hb (by omega) HH.out.2 ha (by omega)⟩
   have hd : q % b < b := Nat.mod_lt _ (by omega)
   have hqd : q / b ≤ q := Nat.div_le_self _ _
   have hm1 : (q : Int).tmod b = ((q % b : Nat) : Int) := by rw [Int.tmod_eq_emod_of_nonneg (by omega)]; simp
   have hm2 : (q : Int).tdiv b = ((q / b : Nat) : Int) := by rw [Int.tdiv_eq_ediv_of_nonneg (by omega)]; simp
   have hm3 : (q : Int) % b = ((q % b : Nat) : Int) := by simp
   have hm4 : (q : Int) / b = ((q / b : Nat) : Int) := by simp
   have hbz : ¬ (b : Int) = 0 := by omega
   generalize q % b = d at *
   generalize q / b = q' at *
   have ej : ((j + 1 : Nat) : Int) = (j : Int) + 1 := by omega
   rw [ej]
   have hd' : d < (ByteArray.mk #[48, 49, 50, 51, 52, 53, 54, 55, 56, 57, 97, 98, 99, 100, 101, 102]).size := by show d < 16; omega
   have hsm := small_at d hd'
   have HS : Hid (∀ W, Row64 W w.heap.size (j + 1) ds → Row64 (W.setCell ⟨w.heap.size, j, none⟩ (.int .u8 (((ByteArray.mk #[48, 49, 50, 51, 52, 53, 54, 55, 56, 57, 97, 98, 99, 100, 101, 102])[d]'hd').toNat : Nat))) w.heap.size j (hexB false d :: ds)) := fun W h => by
    rw [hsm, ← hexB_nat false d (by omega)]
    exact h.put _
   clear hsm
   by_cases h64 : j = 63
   ·subst h64
    obtain ⟨v0, hv0⟩ := hR.some_ 63 (by omega)
    have hf0 := hR.froz 63
    go_wp2
    go_roundg (gk - 1)
    case measure => omega
    case rel => exact ⟨q', 63, _, rfl, rfl, by omega, by omega, by omega, HS.out _ hR, hbl.setCell (Nat.le_refl _) _, hW⟩
   ·have hq1 : 0 < (q : Int) := by omega
    have h641 : ¬ (j : Int) + 1 = 64 := by omega
    have hj0 : (j : Int) < 64 := by omega
    obtain ⟨v0, hv0⟩ := hR.some_ j (by omega)
    have hf0 := hR.froz j
    go_wp2
    go_roundg (gk - 1)
    case measure => omega
    case rel => exact ⟨q', j, _, rfl, rfl, by omega, by omega, by omega, HS.out _ hR, hbl.setCell (Nat.le_refl _) _, hW⟩
  ·have ha1 : ¬ (a : Int) = 64 := by omega
   have hq1 : ¬ 0 < (q : Int) := by omega
   have ha2 : a < 64 := by omega
   have hq2 : q = 0 := by omega
   have HF : Hid (ds = digS false b n) := by
    rcases HH.out.2 with ⟨h1, -⟩ | ⟨h1, h2⟩
    ·omega
    ·rw [hq2, digP_zero] at h2
     exact h2
   clear hq2
   have hsl := at64_l wr w.heap.size a ha2
   have hcv := conv64 wr w.heap.size a ds hR
   have hb1 : ((a : Int) == 64) = false := by simp; omega
   have hb2 : decide (0 < q) = false := by simp; omega
   go_wp2
   go_ret
   rw [← HF.out]
   exact ⟨rfl, hbl⟩
set_option maxRecDepth 1000000 in
set_option maxHeartbeats 400000 in
theorem idigits_any (n b : Nat) (w : World) (hn : n < 18446744073709551616) (hb : b = 2 ∨ b = 8 ∨ b = 10 ∨ b = 16) :
  Calls Tryz.prog 336 #[.int .u64 n, .int .i64 b] w fun e w' => e = .returned (.string ⟨(digS false b n).toArray⟩) ∧ Below w.heap.size w w' := by
 have hW : ∀ w, Calls Tryz.prog 357 #[.int .u64 n, .int .u64 b] w fun e w' => e = .returned (.string ⟨(digS false b n).toArray⟩) ∧ Below w.heap.size w w' := fun w => written_any n b w hn (by omega) (by omega)
 generalize (⟨(digS false b n).toArray⟩ : ByteArray) = r at *
 rcases hb with rfl | rfl | rfl | rfl
 all_goals
  go_enter Tryz.func336, Tryz.ntmps336
  go_wp2_with (go_at_call 357; refine (hW _).mono ?_; rintro e w1 ⟨rfl, hb1⟩)
  go_ret
  exact ⟨rfl, hb1⟩
end Go.Proofs.YtiagjheifblkiaaGreatDoor
namespace Go.Proofs.YtiagjheifblkiaaGreatDoor
open Go.RowKit
set_option maxRecDepth 1000000 in
set_option maxHeartbeats 800000 in
theorem decode_any (s : ByteArray) (w : World) :
  Calls Tryz.prog 135 #[.string s] w fun e w' => e = .returned (.tuple #[.int .i32 (dec s).1, .int .i64 (dec s).2]) ∧ Below w.heap.size w w' := by
 go_enter Tryz.func135, Tryz.ntmps135
 go_wp2
 go_loopw [4] (fun f w' => ∃ pos : Nat, w' = w.iter s pos ∧ ((pos = 0 ∧ f = .int .i32 0) ∨ (0 < s.size ∧ pos = (Utf8.decode s 0).2 ∧ f = .int .i32 (Utf8.decode s 0).1))) (fun _ w' => s.size - w'.iterPos w.heap.size)
 case atStart => exact ⟨0, rfl, .inl ⟨rfl, rfl⟩⟩
 case round =>
  obtain ⟨pos, rfl, hc⟩ := hrel
  rcases hc with ⟨rfl, rfl⟩ | ⟨h0, rfl, rfl⟩
  ·by_cases hp : 0 < s.size
   ·have hnx : ∀ ty, (Instr.next (.pointer (some ⟨w.heap.size, 0, none⟩)) true ty).run Tryz.prog (w.iter s 0) = _ := fun ty => run_next_any w s 0 ty hp
    go_wp2
    go_roundw
    case rel => exact ⟨_, rfl, .inr ⟨hp, by omega, rfl⟩⟩
    case measure =>
     have := wid_pos s 0
     simp
     omega
   ·have hnx : ∀ ty, (Instr.next (.pointer (some ⟨w.heap.size, 0, none⟩)) true ty).run Tryz.prog (w.iter s 0) = _ := fun ty => run_next_end w s 0 ty hp
    go_wp2
    go_ret2
    rw [dec_nil s (by omega)]
    exact ⟨ret_dec rfl (by omega), iter_below _ _ _⟩
  ·have hw := wid_pos s 0
   by_cases hp : (Utf8.decode s 0).2 < s.size
   ·have hnx : ∀ ty, (Instr.next (.pointer (some ⟨w.heap.size, 0, none⟩)) true ty).run Tryz.prog (w.iter s (Utf8.decode s 0).2) = _ := fun ty => run_next_any w s _ ty hp
    go_wp2
    go_ret2
    rw [dec_ne s h0]
    exact ⟨rfl, iter_below _ _ _⟩
   ·have hnx : ∀ ty, (Instr.next (.pointer (some ⟨w.heap.size, 0, none⟩)) true ty).run Tryz.prog (w.iter s (Utf8.decode s 0).2) = _ := fun ty => run_next_end w s _ ty hp
    have hl := wid_le s 0 h0
    go_wp2
    go_ret2
    rw [dec_ne s h0]
    exact ⟨ret_dec rfl (by omega), iter_below _ _ _⟩
end Go.Proofs.YtiagjheifblkiaaGreatDoor
namespace Go.Proofs.YtiagjheifblkiaaGreatDoor
open Go.RowKit
def Esc (w : World) : Prop := 4 < w.heap.size ∧ ∀ i, i < 7 → w.cell? ⟨4, i, none⟩ = some (.int .i32 (escT i : Nat))
theorem Esc.below {w w' : World} (h : Esc w) (hb : Below w.heap.size w w') : Esc w' :=
 ⟨Nat.lt_of_lt_of_le h.1 hb.size, fun i hi => by rw [hb.cell (p := ⟨4, i, none⟩) h.1]; exact h.2 i hi⟩
end Go.Proofs.YtiagjheifblkiaaGreatDoor
namespace Go.Proofs.YtiagjheifblkiaaGreatDoor
open Go.RowKit
end Go.Proofs.YtiagjheifblkiaaGreatDoor
namespace Go.Proofs.YtiagjheifblkiaaGreatDoor
open Go.RowKit
theorem str_cells' (r : ByteArray) : Lib.strCells r = Lib.byteCells r.data.toList := by
 simp [Lib.strCells, Lib.byteCells]
end Go.Proofs.YtiagjheifblkiaaGreatDoor
namespace Go.Proofs.YtiagjheifblkiaaGreatDoor
open Go.RowKit
set_option linter.unusedVariables false
end Go.Proofs.YtiagjheifblkiaaGreatDoor
namespace Go.Proofs.YtiagjheifblkiaaGreatDoor
open Go.RowKit
set_option maxHeartbeats 400000 in
theorem width_any (n : Int) (w : World) :
  Calls Tryz.prog 231 #[.int .i64 n] w fun e w' => e = .returned (.int .i64 (wdt n : Nat)) ∧ w' = w := by
 go_enter Tryz.func231, Tryz.ntmps231
 go_wp2
 go_ret
 exact ⟨ret_int (wdt_eq n), rfl⟩
theorem conv1d (w : World) (x : Int) :
  (convert 57 9 (.slice (some ⟨w.heap.size, 0, none⟩) 1 1)).run Tryz.prog (w.alloc (.cells #[.int .u8 x] 5)).drew = .ok (.string (strOfNums [x])) (w.alloc (.cells #[.int .u8 x] 5)).drew := by
 refine run_convert_bytes_arg _ 57 5 Tryz.underlying57 Tryz.underlying5 w.heap.size 0 1 1 [x] rfl (fun i hi => ?_) 9 Tryz.underlying9
 have : i = 0 := by omega
 subst this
 simp
theorem repeat_byte (x : Int) (k : Nat) (w : World) (hk : k ≤ 1000) :
  Calls Tryz.prog 70 #[.string (strOfNums [x]), .int .i64 k] w fun e w' => e = .returned (.string ⟨(List.replicate k (UInt8.ofNat x.toNat)).toArray⟩) ∧ Below w.heap.size w w' := by
 have hz : (strOfNums [x]).size = 1 := rfl
 refine (Tryz.strings_Repeat (strOfNums [x]) k w (by omega) (by rw [hz]; omega)).mono ?_
 rintro e w' ⟨rfl, hb⟩
 refine ⟨ret_str ?_, hb⟩
 have e : (strOfNums [x]).data.toList = List.replicate 1 (UInt8.ofNat x.toNat) := rfl
 rw [e, Lib.repeatL_replicate, Nat.mul_one]
set_option maxRecDepth 1000000 in
set_option maxHeartbeats 400000 in
theorem fill_any (c : Nat) (n : Int) (w : World) :
  Calls Tryz.prog 233 #[.int .u8 c, .int .i64 n] w fun e w' => e = .returned (.string (run c (wdt n))) ∧ Below w.heap.size w w' := by
 have kc := conv1d
 go_enter Tryz.func233, Tryz.ntmps233
 go_wp2_with fail
 go_region_with (first | (go_at_call 231; refine (width_any _ _).mono ?_; rintro e w' ⟨rfl, rfl⟩) | (go_at_call 70; refine (repeat_byte _ _ _ (wdt_le n)).mono ?_; rintro e w1 ⟨rfl, hb⟩))
 all_goals go_wp2
 all_goals go_ret
 all_goals exact ⟨rfl, (((Below.refl _ _).alloc (Nat.le_refl _) _).drew).trans (hb.mono (by simp))⟩
end Go.Proofs.YtiagjheifblkiaaGreatDoor
namespace Go.Proofs.YtiagjheifblkiaaGreatDoor
open Go.RowKit
set_option maxRecDepth 1000000 in
set_option maxHeartbeats 800000 in
theorem count_any (s : ByteArray) (w : World) (hs : s.size ≤ maxLen) :
  Calls Tryz.prog 232 #[.string s] w fun e w' => e = .returned (.int .i64 (cntR s : Nat)) ∧ Below w.heap.size w w' := by
 unfold maxLen at hs
 go_enter Tryz.func232, Tryz.ntmps232
 go_wp2
 go_loopw [3] (fun n w' => ∃ pos k : Nat, w' = w.iter s pos ∧ n = .int .i64 k ∧ pos ≤ s.size ∧ k ≤ pos ∧ Hid (k + cntFrom s pos = cntR s)) (fun _ w' => s.size - w'.iterPos w.heap.size)
 case atStart => exact ⟨0, 0, rfl, rfl, Nat.zero_le _, Nat.le_refl _, by unfold cntR; exact Nat.zero_add _⟩
 case round =>
  obtain ⟨pos, k, rfl, rfl, hpos, hk, hc⟩ := hrel
  by_cases hp : pos < s.size
  ·have hnx : ∀ ty, (Instr.next (.pointer (some ⟨w.heap.size, 0, none⟩)) true ty).run Tryz.prog (w.iter s pos) = _ := fun ty => run_next_any w s pos ty hp
   go_wp2
   have hw := wid_pos s pos
   have hl := wid_le s pos hp
   go_roundw
   case rel =>
    refine ⟨pos + (Utf8.decode s pos).2, k + 1, rfl, by go_num, hl, by omega, ?_⟩
    have := hc.out
    rw [cntFrom_step s pos hp] at this
    show k + 1 + cntFrom s _ = _
    omega
   case measure =>
    simp
    omega
  ·have hnx : ∀ ty, (Instr.next (.pointer (some ⟨w.heap.size, 0, none⟩)) true ty).run Tryz.prog (w.iter s pos) = _ := fun ty => run_next_end w s pos ty hp
   go_wp2
   go_ret
   have := hc.out
   rw [cntFrom_end s pos hp] at this
   refine ⟨ret_int ?_, iter_below _ _ _⟩
   omega
end Go.Proofs.YtiagjheifblkiaaGreatDoor
namespace Go.Proofs.YtiagjheifblkiaaGreatDoor
open Go.RowKit
set_option maxRecDepth 1000000 in
set_option maxHeartbeats 400000 in
theorem pad_any (s : ByteArray) (p mi sh sp z : Bool) (wid prec verb : Int) (w : World) (hs : s.size ≤ 1000000) :
  Calls Tryz.prog 204 #[.string s, .agg #[.bool p, .bool mi, .bool sh, .bool sp, .bool z, .int .i64 wid, .int .i64 prec, .int .i32 verb]] w fun e w' => e = .returned (.string (padS s mi z wid)) ∧ Below w.heap.size w w' := by
 have hcn := cntR_le s
 have hwl := wdt_le wid
 have hk := wdt_le ((wdt wid : Nat) - (cntR s : Nat) : Int)
 cases mi with
 | true =>
   have hsum : ¬ 9223372036854775807 < s.size + (run 32 (wdt ((wdt wid : Nat) - (cntR s : Nat) : Int))).size := by rw [run_size]; omega
   go_enter Tryz.func204, Tryz.ntmps204
   go_wp2_with (first | (go_at_call 231; refine (width_any _ _).mono ?_; rintro e w' ⟨rfl, rfl⟩) | (go_at_call 232; refine (count_any _ _ (by unfold maxLen; omega)).mono ?_; rintro e w1 ⟨rfl, hb1⟩; have c1 : w1.cell? ⟨w.heap.size, 1, none⟩ = some (.bool true) := (by rw [hb1.cell (by simp)]; simp); have c4 : w1.cell? ⟨w.heap.size, 4, none⟩ = some (.bool z) := (by rw [hb1.cell (by simp)]; simp)) | (go_at_call 233; refine (fill_any 32 _ _).mono ?_; rintro e w2 ⟨rfl, hb2⟩))
   go_ret
   exact ⟨rfl, ((Below.refl _ _).alloc (Nat.le_refl _) _).trans ((hb1.trans (hb2.mono hb1.size)).mono (by simp))⟩
 | false =>
   cases z with
   | true =>
     have hsum : ¬ 9223372036854775807 < (run 48 (wdt ((wdt wid : Nat) - (cntR s : Nat) : Int))).size + s.size := by rw [run_size]; omega
     go_enter Tryz.func204, Tryz.ntmps204
     go_wp2_with (first | (go_at_call 231; refine (width_any _ _).mono ?_; rintro e w' ⟨rfl, rfl⟩) | (go_at_call 232; refine (count_any _ _ (by unfold maxLen; omega)).mono ?_; rintro e w1 ⟨rfl, hb1⟩; have c1 : w1.cell? ⟨w.heap.size, 1, none⟩ = some (.bool false) := (by rw [hb1.cell (by simp)]; simp); have c4 : w1.cell? ⟨w.heap.size, 4, none⟩ = some (.bool true) := (by rw [hb1.cell (by simp)]; simp)) | (go_at_call 233; refine (fill_any 48 _ _).mono ?_; rintro e w2 ⟨rfl, hb2⟩))
     go_ret
     exact ⟨rfl, ((Below.refl _ _).alloc (Nat.le_refl _) _).trans ((hb1.trans (hb2.mono hb1.size)).mono (by simp))⟩
   | false =>
     have hsum : ¬ 9223372036854775807 < (run 32 (wdt ((wdt wid : Nat) - (cntR s : Nat) : Int))).size + s.size := by rw [run_size]; omega
     go_enter Tryz.func204, Tryz.ntmps204
     go_wp2_with (first | (go_at_call 231; refine (width_any _ _).mono ?_; rintro e w' ⟨rfl, rfl⟩) | (go_at_call 232; refine (count_any _ _ (by unfold maxLen; omega)).mono ?_; rintro e w1 ⟨rfl, hb1⟩; have c1 : w1.cell? ⟨w.heap.size, 1, none⟩ = some (.bool false) := (by rw [hb1.cell (by simp)]; simp); have c4 : w1.cell? ⟨w.heap.size, 4, none⟩ = some (.bool false) := (by rw [hb1.cell (by simp)]; simp)) | (go_at_call 233; refine (fill_any 32 _ _).mono ?_; rintro e w2 ⟨rfl, hb2⟩))
     go_ret
     exact ⟨rfl, ((Below.refl _ _).alloc (Nat.le_refl _) _).trans ((hb1.trans (hb2.mono hb1.size)).mono (by simp))⟩
end Go.Proofs.YtiagjheifblkiaaGreatDoor
namespace Go.Proofs.YtiagjheifblkiaaGreatDoor
open Go.RowKit
set_option linter.unusedVariables false
end Go.Proofs.YtiagjheifblkiaaGreatDoor
