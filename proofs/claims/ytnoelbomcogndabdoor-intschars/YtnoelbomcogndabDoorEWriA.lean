/- The walks of the document's Signed and Unsigned of layer 3. -/
import Derived.Test.YtnoelbomcogndabDoorINumC
import Derived.Test.YtnoelbomcogndabDoorEDig
import Derived.Test.YtnoelbomcogndabDoorDChr
import Derived.Test.YtnoelbomcogndabDoorRPadB
import Derived.Deep.DeepCutAuto
import Derived.Deep.CutBlock
namespace Go.Proofs.YtnoelbomcogndabDoor
open Go.RowKit
set_option linter.unusedVariables false

set_option maxRecDepth 1000000 in
set_option maxHeartbeats 1000000 in
theorem rplain_any (s : ByteArray) (p mi sh sp z : Bool) (wid prec verb : Int) (w : World) (hs : s.size ≤ 1000000) :
    Calls Tryd.prog 42 #[.string s, .agg #[.bool p, .bool mi, .bool sh, .bool sp, .bool z, .int .i64 wid, .int .i64 prec, .int .i32 verb]] w fun e w' => e = .returned (.string (padS s mi false wid)) ∧ Below w.heap.size w w' := by
  have hP : ∀ w, Calls Tryd.prog 34 #[.string s, .agg #[.bool p, .bool mi, .bool sh, .bool sp, .bool false, .int .i64 wid, .int .i64 prec, .int .i32 verb]] w fun e w' => e = .returned (.string (padS s mi false wid)) ∧ Below w.heap.size w w' := fun w => rpad_any s p mi sh sp false wid prec verb w hs
  generalize padS s mi false wid = r at *
  have hbA : Below w.heap.size w (w.alloc (.cells #[.bool p, .bool mi, .bool sh, .bool sp, .bool false, .int .i64 wid, .int .i64 prec, .int .i32 verb] 27)) := (Below.refl _ _).alloc (Nat.le_refl _) _
  go_enter Tryd.func42, Tryd.ntmps42
  go_wp2_with (go_at_call 34; refine (hP _).mono ?_; rintro e w1 ⟨rfl, hb1⟩)
  go_ret
  exact ⟨rfl, hbA.trans (hb1.mono hbA.size)⟩
set_option maxHeartbeats 400000 in
theorem epoint_any (bits : Nat) (w : World) (hb : bits < 18446744073709551616) :
    Calls Tryd.prog 36 #[.int .u64 bits] w fun e w' => e = .returned (.int .i32 (ptN bits : Nat)) ∧ w' = w := by
  by_cases h : 1114111 < bits
  · have h' : (1114111 : Int) < bits := by omega
    go_enter Tryd.func36, Tryd.ntmps36
    go_wp2
    go_ret
    exact ⟨ret_int (by unfold ptN; rw [if_pos h]; rfl), rfl⟩
  · have h' : ¬ (1114111 : Int) < bits := by omega
    have hw : IntKind.i32.wrap (bits : Int) = bits := by rw [IntKind.wrap_i32]; omega
    go_enter Tryd.func36, Tryd.ntmps36
    go_wp2
    go_ret
    exact ⟨ret_int (by unfold ptN; rw [if_neg h]), rfl⟩
set_option maxHeartbeats 400000 in
theorem emag_any (v : Int) (w : World) (h1 : -9223372036854775808 ≤ v) (h2 : v ≤ 9223372036854775807) :
    Calls Tryd.prog 25 #[.int .i64 v] w fun e w' => e = .returned (.int .u64 (v.natAbs : Nat)) ∧ w' = w := by
  by_cases h : v < 0
  · have e1 : wrap64 (v + 1) = v + 1 := by unfold wrap64; omega
    have e2 : wrap64 (-(v + 1)) = -(v + 1) := by unfold wrap64; omega
    have e3 : IntKind.u64.wrap (-(v + 1)) = -(v + 1) := by rw [wrap_u64]; omega
    have e4 : IntKind.u64.wrap (-(v + 1) + 1) = -(v + 1) + 1 := by rw [wrap_u64]; omega
    go_enter Tryd.func25, Tryd.ntmps25
    go_wp2
    go_ret
    exact ⟨ret_int (by omega), rfl⟩
  · have e3 : IntKind.u64.wrap v = v := by rw [wrap_u64]; omega
    go_enter Tryd.func25, Tryd.ntmps25
    go_wp2
    go_ret
    exact ⟨ret_int (by omega), rfl⟩
/-- A precision as the document has it. -/
def wdE (n : Int) : Int := if n < 0 then -1 else (wdt n : Nat)
theorem rwidth_any (n : Int) (w : World) :
    Calls Tryd.prog 38 #[.int .i64 n] w fun e w' => e = .returned (.int .i64 (wdE n)) ∧ w' = w := by
  by_cases h : n < 0
  · have e : wdE n = -1 := by unfold wdE; rw [if_pos h]
    rw [e]; exact rwidth_neg n w h
  · have e : wdE n = (wdt n : Nat) := by unfold wdE; rw [if_neg h]
    rw [e]; exact rwidth_pos n w (by omega)
theorem wdE_facts (n : Int) : wdE n ≤ 1000 ∧ -1 ≤ wdE n ∧ (wdE n < 0 ↔ n < 0) ∧ (wdE n = 0 ↔ n = 0) := by
  unfold wdE wdt
  split <;> omega
theorem lenS_wdE (s : ByteArray) (n : Int) : lenS s (wdE n) = lenS s (wdt n : Nat) := by
  have e : wdt (wdE n - (s.size : Nat)) = wdt ((wdt n : Nat) - (s.size : Nat) : Int) := by unfold wdE wdt; split <;> omega
  unfold lenS
  rw [e]
/-- The mark of a verb. -/
def mark0 (verb : Int) : ByteArray := if verb = 98 then ⟨#[48, 98]⟩ else if verb = 111 then ⟨#[48]⟩ else if verb = 79 then ⟨#[48, 111]⟩ else if verb = 120 then ⟨#[48, 120]⟩ else if verb = 88 then ⟨#[48, 88]⟩ else ⟨#[]⟩

set_option maxRecDepth 1000000 in
set_option maxHeartbeats 1000000 in
theorem ebases_any (verb : Int) (w : World) :
    Calls Tryd.prog 43 #[.int .i32 verb] w fun e w' => e = .returned (.tuple #[.int .i64 (baseV verb : Nat), .string (mark0 verb), .bool (decide (verb = 79))]) ∧ w' = w := by
  by_cases h0 : verb = 100
  · subst h0
    go_enter Tryd.func43, Tryd.ntmps43
    go_wp2
    go_ret3
    exact ⟨rfl, rfl⟩
  by_cases h1 : verb = 118
  · subst h1
    go_enter Tryd.func43, Tryd.ntmps43
    go_wp2
    go_ret3
    exact ⟨rfl, rfl⟩
  by_cases h2 : verb = 98
  · subst h2
    go_enter Tryd.func43, Tryd.ntmps43
    go_wp2
    go_ret3
    exact ⟨rfl, rfl⟩
  by_cases h3 : verb = 111
  · subst h3
    go_enter Tryd.func43, Tryd.ntmps43
    go_wp2
    go_ret3
    exact ⟨rfl, rfl⟩
  by_cases h4 : verb = 79
  · subst h4
    go_enter Tryd.func43, Tryd.ntmps43
    go_wp2
    go_ret3
    exact ⟨rfl, rfl⟩
  by_cases h5 : verb = 120
  · subst h5
    go_enter Tryd.func43, Tryd.ntmps43
    go_wp2
    go_ret3
    exact ⟨rfl, rfl⟩
  by_cases h6 : verb = 88
  · subst h6
    go_enter Tryd.func43, Tryd.ntmps43
    go_wp2
    go_ret3
    exact ⟨rfl, rfl⟩
  have e1 : baseV verb = 0 := by simp [baseV, h0, h1, h2, h3, h4, h5, h6]
  have e2 : mark0 verb = ⟨#[]⟩ := by simp [mark0, h2, h3, h4, h5, h6]
  have e3 : decide (verb = 79) = false := by simp [h4]
  rw [e1, e2, e3]
  clear e1 e2 e3
  go_enter Tryd.func43, Tryd.ntmps43
  go_wp2
  go_ret3
  exact ⟨rfl, rfl⟩

set_option maxRecDepth 1000000 in
set_option maxHeartbeats 1000000 in
theorem ewr_c (neg : Bool) (size bits : Nat) (p mi sh sp z : Bool) (wid prec : Int) (w : World) (hn : bits < 18446744073709551616) :
    Calls Tryd.prog 24 #[.bool neg, .int .u64 size, .int .u64 bits, .agg #[.bool p, .bool mi, .bool sh, .bool sp, .bool z, .int .i64 wid, .int .i64 prec, .int .i32 99]] w fun e w' => e = .returned (.tuple #[.string (padS (Utf8.encode ((ptN bits : Nat) : Int)) mi z wid), .bool true]) ∧ Below w.heap.size w w' := by
  have hbA : Below w.heap.size w (w.alloc (.cells #[.bool p, .bool mi, .bool sh, .bool sp, .bool z, .int .i64 wid, .int .i64 prec, .int .i32 99] 27)) := (Below.refl _ _).alloc (Nat.le_refl _) _
  have f0 : ∀ x : Cl (w.alloc (.cells #[.bool p, .bool mi, .bool sh, .bool sp, .bool z, .int .i64 wid, .int .i64 prec, .int .i32 99] 27)), x.w.cell? ⟨w.heap.size, 0, none⟩ = some (.bool p) := fun x => x.cell (by simp)
  have f1 : ∀ x : Cl (w.alloc (.cells #[.bool p, .bool mi, .bool sh, .bool sp, .bool z, .int .i64 wid, .int .i64 prec, .int .i32 99] 27)), x.w.cell? ⟨w.heap.size, 1, none⟩ = some (.bool mi) := fun x => x.cell (by simp)
  have f2 : ∀ x : Cl (w.alloc (.cells #[.bool p, .bool mi, .bool sh, .bool sp, .bool z, .int .i64 wid, .int .i64 prec, .int .i32 99] 27)), x.w.cell? ⟨w.heap.size, 2, none⟩ = some (.bool sh) := fun x => x.cell (by simp)
  have f3 : ∀ x : Cl (w.alloc (.cells #[.bool p, .bool mi, .bool sh, .bool sp, .bool z, .int .i64 wid, .int .i64 prec, .int .i32 99] 27)), x.w.cell? ⟨w.heap.size, 3, none⟩ = some (.bool sp) := fun x => x.cell (by simp)
  have f4 : ∀ x : Cl (w.alloc (.cells #[.bool p, .bool mi, .bool sh, .bool sp, .bool z, .int .i64 wid, .int .i64 prec, .int .i32 99] 27)), x.w.cell? ⟨w.heap.size, 4, none⟩ = some (.bool z) := fun x => x.cell (by simp)
  have f5 : ∀ x : Cl (w.alloc (.cells #[.bool p, .bool mi, .bool sh, .bool sp, .bool z, .int .i64 wid, .int .i64 prec, .int .i32 99] 27)), x.w.cell? ⟨w.heap.size, 5, none⟩ = some (.int .i64 wid) := fun x => x.cell (by simp)
  have f6 : ∀ x : Cl (w.alloc (.cells #[.bool p, .bool mi, .bool sh, .bool sp, .bool z, .int .i64 wid, .int .i64 prec, .int .i32 99] 27)), x.w.cell? ⟨w.heap.size, 6, none⟩ = some (.int .i64 prec) := fun x => x.cell (by simp)
  have f7 : ∀ x : Cl (w.alloc (.cells #[.bool p, .bool mi, .bool sh, .bool sp, .bool z, .int .i64 wid, .int .i64 prec, .int .i32 99] 27)), x.w.cell? ⟨w.heap.size, 7, none⟩ = some (.int .i32 99) := fun x => x.cell (by simp)
  have hP : ∀ w, Calls Tryd.prog 36 #[.int .u64 bits] w fun e w' => e = .returned (.int .i32 (ptN bits : Nat)) ∧ w' = w := fun w => epoint_any bits w hn
  have hez := enc_size4 (ptN bits)
  have hR : ∀ w, Calls Tryd.prog 35 #[.int .i32 ((ptN bits : Nat) : Int)] w fun e w' => e = .returned (.string (Utf8.encode ((ptN bits : Nat) : Int))) ∧ Below w.heap.size w w' := fun w => rrune_any _ w
  have hPd : ∀ w, Calls Tryd.prog 34 #[.string (Utf8.encode ((ptN bits : Nat) : Int)), .agg #[.bool p, .bool mi, .bool sh, .bool sp, .bool z, .int .i64 wid, .int .i64 prec, .int .i32 99]] w fun e w' => e = .returned (.string (padS (Utf8.encode ((ptN bits : Nat) : Int)) mi z wid)) ∧ Below w.heap.size w w' := fun w => rpad_any _ p mi sh sp z wid prec 99 w (by omega)
  generalize padS (Utf8.encode ((ptN bits : Nat) : Int)) mi z wid = rr at *
  generalize Utf8.encode ((ptN bits : Nat) : Int) = r at *
  generalize ptN bits = c at *
  go_enter Tryd.func24, Tryd.ntmps24
  go_wp2
  refine wp_region_above (w.alloc (.cells #[.bool p, .bool mi, .bool sh, .bool sp, .bool z, .int .i64 wid, .int .i64 prec, .int .i32 99] 27)) (Below.refl _ _) (by kernel_rfl) (by kernel_rfl) ?_
  intro hCl
  repeat (go_big_quiet_step ((first | (go_at_call 36; exact Cl.call_same (hP _)) | (go_at_call 35; exact Cl.call (hR _)) | (go_at_call 34; exact Cl.call (hPd _)))))
  refine wpQuiet_nil ?_
  intro _ hw'
  obtain ⟨y, hx⟩ := hw'
  subst hx
  go_wp2
  go_ret2
  exact ⟨rfl, hbA.trans (y.below.mono hbA.size)⟩

set_option maxRecDepth 1000000 in
set_option maxHeartbeats 1000000 in
theorem ewr_q (neg : Bool) (size bits : Nat) (p mi sh sp z : Bool) (wid prec : Int) (w : World) (hn : bits < 18446744073709551616) :
    Calls Tryd.prog 24 #[.bool neg, .int .u64 size, .int .u64 bits, .agg #[.bool p, .bool mi, .bool sh, .bool sp, .bool z, .int .i64 wid, .int .i64 prec, .int .i32 113]] w fun e w' => e = .returned (.tuple #[.string (padS (chrS ((ptN bits : Nat) : Int) p) mi z wid), .bool true]) ∧ Below w.heap.size w w' := by
  have hbA : Below w.heap.size w (w.alloc (.cells #[.bool p, .bool mi, .bool sh, .bool sp, .bool z, .int .i64 wid, .int .i64 prec, .int .i32 113] 27)) := (Below.refl _ _).alloc (Nat.le_refl _) _
  have f0 : ∀ x : Cl (w.alloc (.cells #[.bool p, .bool mi, .bool sh, .bool sp, .bool z, .int .i64 wid, .int .i64 prec, .int .i32 113] 27)), x.w.cell? ⟨w.heap.size, 0, none⟩ = some (.bool p) := fun x => x.cell (by simp)
  have f1 : ∀ x : Cl (w.alloc (.cells #[.bool p, .bool mi, .bool sh, .bool sp, .bool z, .int .i64 wid, .int .i64 prec, .int .i32 113] 27)), x.w.cell? ⟨w.heap.size, 1, none⟩ = some (.bool mi) := fun x => x.cell (by simp)
  have f2 : ∀ x : Cl (w.alloc (.cells #[.bool p, .bool mi, .bool sh, .bool sp, .bool z, .int .i64 wid, .int .i64 prec, .int .i32 113] 27)), x.w.cell? ⟨w.heap.size, 2, none⟩ = some (.bool sh) := fun x => x.cell (by simp)
  have f3 : ∀ x : Cl (w.alloc (.cells #[.bool p, .bool mi, .bool sh, .bool sp, .bool z, .int .i64 wid, .int .i64 prec, .int .i32 113] 27)), x.w.cell? ⟨w.heap.size, 3, none⟩ = some (.bool sp) := fun x => x.cell (by simp)
  have f4 : ∀ x : Cl (w.alloc (.cells #[.bool p, .bool mi, .bool sh, .bool sp, .bool z, .int .i64 wid, .int .i64 prec, .int .i32 113] 27)), x.w.cell? ⟨w.heap.size, 4, none⟩ = some (.bool z) := fun x => x.cell (by simp)
  have f5 : ∀ x : Cl (w.alloc (.cells #[.bool p, .bool mi, .bool sh, .bool sp, .bool z, .int .i64 wid, .int .i64 prec, .int .i32 113] 27)), x.w.cell? ⟨w.heap.size, 5, none⟩ = some (.int .i64 wid) := fun x => x.cell (by simp)
  have f6 : ∀ x : Cl (w.alloc (.cells #[.bool p, .bool mi, .bool sh, .bool sp, .bool z, .int .i64 wid, .int .i64 prec, .int .i32 113] 27)), x.w.cell? ⟨w.heap.size, 6, none⟩ = some (.int .i64 prec) := fun x => x.cell (by simp)
  have f7 : ∀ x : Cl (w.alloc (.cells #[.bool p, .bool mi, .bool sh, .bool sp, .bool z, .int .i64 wid, .int .i64 prec, .int .i32 113] 27)), x.w.cell? ⟨w.heap.size, 7, none⟩ = some (.int .i32 113) := fun x => x.cell (by simp)
  have hP : ∀ w, Calls Tryd.prog 36 #[.int .u64 bits] w fun e w' => e = .returned (.int .i32 (ptN bits : Nat)) ∧ w' = w := fun w => epoint_any bits w hn
  have hez := chrS_size ((ptN bits : Nat) : Int) p
  have hC : ∀ w, Calls Tryd.prog 37 #[.int .i32 ((ptN bits : Nat) : Int), .bool p] w fun e w' => e = .returned (.string (chrS ((ptN bits : Nat) : Int) p)) ∧ Below w.heap.size w w' := fun w => dchar_any _ p w
  have hPd : ∀ w, Calls Tryd.prog 34 #[.string (chrS ((ptN bits : Nat) : Int) p), .agg #[.bool p, .bool mi, .bool sh, .bool sp, .bool z, .int .i64 wid, .int .i64 prec, .int .i32 113]] w fun e w' => e = .returned (.string (padS (chrS ((ptN bits : Nat) : Int) p) mi z wid)) ∧ Below w.heap.size w w' := fun w => rpad_any _ p mi sh sp z wid prec 113 w (by omega)
  generalize padS (chrS ((ptN bits : Nat) : Int) p) mi z wid = rr at *
  generalize chrS ((ptN bits : Nat) : Int) p = r at *
  generalize ptN bits = c at *
  go_enter Tryd.func24, Tryd.ntmps24
  go_wp2
  refine wp_region_above (w.alloc (.cells #[.bool p, .bool mi, .bool sh, .bool sp, .bool z, .int .i64 wid, .int .i64 prec, .int .i32 113] 27)) (Below.refl _ _) (by kernel_rfl) (by kernel_rfl) ?_
  intro hCl
  repeat (go_big_quiet_step ((first | (go_at_call 36; exact Cl.call_same (hP _)) | (go_at_call 37; exact Cl.call (hC _)) | (go_at_call 34; exact Cl.call (hPd _)))))
  refine wpQuiet_nil ?_
  intro _ hw'
  obtain ⟨y, hx⟩ := hw'
  subst hx
  go_wp2
  go_ret2
  exact ⟨rfl, hbA.trans (y.below.mono hbA.size)⟩
end Go.Proofs.YtnoelbomcogndabDoor
