/- The type assertions on the program's own values; markOf at each of their types; partsOf at those without parts. -/
import Derived.Test.YtdlnmnipnkeabaaGreatDoorVCheck
import Derived.Stop.Asserts
namespace Go.Proofs.YtdlnmnipnkeabaaGreatDoor
open Go.RowKit
set_option linter.unusedVariables false
theorem tm_signed (v : Value) (w : World) : (Instr.typeAssert (.iface 160 v) 108 194 true).run Tryz.prog w = .ok (.tuple #[.iface 160 v, .bool true]) w := run_typeAssert_hasB Tryz.underlying194 (by kernel_rfl) v 108 w
theorem ta_signed_truth (v : Value) (w : World) : (Instr.typeAssert (.iface 160 v) 108 157 true).run Tryz.prog w = .ok (.tuple #[.agg #[.int .i64 0, .string ⟨#[]⟩, .int .i64 0, .bool false], .bool false]) w := by kernel_rfl
theorem ta_signed_signed (v : Value) (w : World) : (Instr.typeAssert (.iface 160 v) 108 160 true).run Tryz.prog w = .ok (.tuple #[v, .bool true]) w := by kernel_rfl
theorem ta_signed_unsigned (v : Value) (w : World) : (Instr.typeAssert (.iface 160 v) 108 163 true).run Tryz.prog w = .ok (.tuple #[.agg #[.int .i64 0, .string ⟨#[]⟩, .int .i64 0, .int .u64 0], .bool false]) w := by kernel_rfl
theorem ta_signed_float (v : Value) (w : World) : (Instr.typeAssert (.iface 160 v) 108 166 true).run Tryz.prog w = .ok (.tuple #[.agg #[.int .i64 0, .string ⟨#[]⟩, .int .i64 0, .int .u64 0], .bool false]) w := by kernel_rfl
theorem ta_signed_pair (v : Value) (w : World) : (Instr.typeAssert (.iface 160 v) 108 168 true).run Tryz.prog w = .ok (.tuple #[.agg #[.int .i64 0, .string ⟨#[]⟩, .int .i64 0, .int .u64 0, .int .u64 0], .bool false]) w := by kernel_rfl
theorem ta_signed_text (v : Value) (w : World) : (Instr.typeAssert (.iface 160 v) 108 170 true).run Tryz.prog w = .ok (.tuple #[.agg #[.int .i64 0, .string ⟨#[]⟩, .int .i64 0, .string ⟨#[]⟩], .bool false]) w := by kernel_rfl
theorem ta_signed_octets (v : Value) (w : World) : (Instr.typeAssert (.iface 160 v) 108 171 true).run Tryz.prog w = .ok (.tuple #[.agg #[.int .i64 0, .string ⟨#[]⟩, .int .i64 0, .string ⟨#[]⟩], .bool false]) w := by kernel_rfl
theorem ta_signed_structure (v : Value) (w : World) : (Instr.typeAssert (.iface 160 v) 108 175 true).run Tryz.prog w = .ok (.tuple #[.agg #[.int .i64 0, .string ⟨#[]⟩, .int .i64 0, .slice none 0 0, .slice none 0 0], .bool false]) w := by kernel_rfl
theorem ta_signed_list (v : Value) (w : World) : (Instr.typeAssert (.iface 160 v) 108 177 true).run Tryz.prog w = .ok (.tuple #[.agg #[.int .i64 0, .string ⟨#[]⟩, .int .i64 0, .slice none 0 0], .bool false]) w := by kernel_rfl
theorem ta_signed_dictionary (v : Value) (w : World) : (Instr.typeAssert (.iface 160 v) 108 181 true).run Tryz.prog w = .ok (.tuple #[.agg #[.int .i64 0, .string ⟨#[]⟩, .int .i64 0, .slice none 0 0], .bool false]) w := by kernel_rfl
theorem ta_signed_pointer (v : Value) (w : World) : (Instr.typeAssert (.iface 160 v) 108 183 true).run Tryz.prog w = .ok (.tuple #[.agg #[.int .i64 0, .string ⟨#[]⟩, .int .i64 0, .int .u64 0, .slice none 0 0], .bool false]) w := by kernel_rfl
theorem tm_float (v : Value) (w : World) : (Instr.typeAssert (.iface 166 v) 108 194 true).run Tryz.prog w = .ok (.tuple #[.iface 166 v, .bool true]) w := run_typeAssert_hasB Tryz.underlying194 (by kernel_rfl) v 108 w
theorem ta_float_truth (v : Value) (w : World) : (Instr.typeAssert (.iface 166 v) 108 157 true).run Tryz.prog w = .ok (.tuple #[.agg #[.int .i64 0, .string ⟨#[]⟩, .int .i64 0, .bool false], .bool false]) w := by kernel_rfl
theorem ta_float_signed (v : Value) (w : World) : (Instr.typeAssert (.iface 166 v) 108 160 true).run Tryz.prog w = .ok (.tuple #[.agg #[.int .i64 0, .string ⟨#[]⟩, .int .i64 0, .int .i64 0], .bool false]) w := by kernel_rfl
theorem ta_float_unsigned (v : Value) (w : World) : (Instr.typeAssert (.iface 166 v) 108 163 true).run Tryz.prog w = .ok (.tuple #[.agg #[.int .i64 0, .string ⟨#[]⟩, .int .i64 0, .int .u64 0], .bool false]) w := by kernel_rfl
theorem ta_float_float (v : Value) (w : World) : (Instr.typeAssert (.iface 166 v) 108 166 true).run Tryz.prog w = .ok (.tuple #[v, .bool true]) w := by kernel_rfl
theorem ta_float_pair (v : Value) (w : World) : (Instr.typeAssert (.iface 166 v) 108 168 true).run Tryz.prog w = .ok (.tuple #[.agg #[.int .i64 0, .string ⟨#[]⟩, .int .i64 0, .int .u64 0, .int .u64 0], .bool false]) w := by kernel_rfl
theorem ta_float_text (v : Value) (w : World) : (Instr.typeAssert (.iface 166 v) 108 170 true).run Tryz.prog w = .ok (.tuple #[.agg #[.int .i64 0, .string ⟨#[]⟩, .int .i64 0, .string ⟨#[]⟩], .bool false]) w := by kernel_rfl
theorem ta_float_octets (v : Value) (w : World) : (Instr.typeAssert (.iface 166 v) 108 171 true).run Tryz.prog w = .ok (.tuple #[.agg #[.int .i64 0, .string ⟨#[]⟩, .int .i64 0, .string ⟨#[]⟩], .bool false]) w := by kernel_rfl
theorem ta_float_structure (v : Value) (w : World) : (Instr.typeAssert (.iface 166 v) 108 175 true).run Tryz.prog w = .ok (.tuple #[.agg #[.int .i64 0, .string ⟨#[]⟩, .int .i64 0, .slice none 0 0, .slice none 0 0], .bool false]) w := by kernel_rfl
theorem ta_float_list (v : Value) (w : World) : (Instr.typeAssert (.iface 166 v) 108 177 true).run Tryz.prog w = .ok (.tuple #[.agg #[.int .i64 0, .string ⟨#[]⟩, .int .i64 0, .slice none 0 0], .bool false]) w := by kernel_rfl
theorem ta_float_dictionary (v : Value) (w : World) : (Instr.typeAssert (.iface 166 v) 108 181 true).run Tryz.prog w = .ok (.tuple #[.agg #[.int .i64 0, .string ⟨#[]⟩, .int .i64 0, .slice none 0 0], .bool false]) w := by kernel_rfl
theorem ta_float_pointer (v : Value) (w : World) : (Instr.typeAssert (.iface 166 v) 108 183 true).run Tryz.prog w = .ok (.tuple #[.agg #[.int .i64 0, .string ⟨#[]⟩, .int .i64 0, .int .u64 0, .slice none 0 0], .bool false]) w := by kernel_rfl
theorem tm_text (v : Value) (w : World) : (Instr.typeAssert (.iface 170 v) 108 194 true).run Tryz.prog w = .ok (.tuple #[.iface 170 v, .bool true]) w := run_typeAssert_hasB Tryz.underlying194 (by kernel_rfl) v 108 w
theorem ta_text_truth (v : Value) (w : World) : (Instr.typeAssert (.iface 170 v) 108 157 true).run Tryz.prog w = .ok (.tuple #[.agg #[.int .i64 0, .string ⟨#[]⟩, .int .i64 0, .bool false], .bool false]) w := by kernel_rfl
theorem ta_text_signed (v : Value) (w : World) : (Instr.typeAssert (.iface 170 v) 108 160 true).run Tryz.prog w = .ok (.tuple #[.agg #[.int .i64 0, .string ⟨#[]⟩, .int .i64 0, .int .i64 0], .bool false]) w := by kernel_rfl
theorem ta_text_unsigned (v : Value) (w : World) : (Instr.typeAssert (.iface 170 v) 108 163 true).run Tryz.prog w = .ok (.tuple #[.agg #[.int .i64 0, .string ⟨#[]⟩, .int .i64 0, .int .u64 0], .bool false]) w := by kernel_rfl
theorem ta_text_float (v : Value) (w : World) : (Instr.typeAssert (.iface 170 v) 108 166 true).run Tryz.prog w = .ok (.tuple #[.agg #[.int .i64 0, .string ⟨#[]⟩, .int .i64 0, .int .u64 0], .bool false]) w := by kernel_rfl
theorem ta_text_pair (v : Value) (w : World) : (Instr.typeAssert (.iface 170 v) 108 168 true).run Tryz.prog w = .ok (.tuple #[.agg #[.int .i64 0, .string ⟨#[]⟩, .int .i64 0, .int .u64 0, .int .u64 0], .bool false]) w := by kernel_rfl
theorem ta_text_text (v : Value) (w : World) : (Instr.typeAssert (.iface 170 v) 108 170 true).run Tryz.prog w = .ok (.tuple #[v, .bool true]) w := by kernel_rfl
theorem ta_text_octets (v : Value) (w : World) : (Instr.typeAssert (.iface 170 v) 108 171 true).run Tryz.prog w = .ok (.tuple #[.agg #[.int .i64 0, .string ⟨#[]⟩, .int .i64 0, .string ⟨#[]⟩], .bool false]) w := by kernel_rfl
theorem ta_text_structure (v : Value) (w : World) : (Instr.typeAssert (.iface 170 v) 108 175 true).run Tryz.prog w = .ok (.tuple #[.agg #[.int .i64 0, .string ⟨#[]⟩, .int .i64 0, .slice none 0 0, .slice none 0 0], .bool false]) w := by kernel_rfl
theorem ta_text_list (v : Value) (w : World) : (Instr.typeAssert (.iface 170 v) 108 177 true).run Tryz.prog w = .ok (.tuple #[.agg #[.int .i64 0, .string ⟨#[]⟩, .int .i64 0, .slice none 0 0], .bool false]) w := by kernel_rfl
theorem ta_text_dictionary (v : Value) (w : World) : (Instr.typeAssert (.iface 170 v) 108 181 true).run Tryz.prog w = .ok (.tuple #[.agg #[.int .i64 0, .string ⟨#[]⟩, .int .i64 0, .slice none 0 0], .bool false]) w := by kernel_rfl
theorem ta_text_pointer (v : Value) (w : World) : (Instr.typeAssert (.iface 170 v) 108 183 true).run Tryz.prog w = .ok (.tuple #[.agg #[.int .i64 0, .string ⟨#[]⟩, .int .i64 0, .int .u64 0, .slice none 0 0], .bool false]) w := by kernel_rfl
theorem set3 {V : World} {b : Nat} {x0 x1 x2 : Value} (h0 : V.cell? ⟨b, 0, none⟩ = some x0) (h1 : V.cell? ⟨b, 1, none⟩ = some x1) (h2 : V.cell? ⟨b, 2, none⟩ = some x2) (y0 y1 y2 : Value) :
  (((V.setCell ⟨b, 0, none⟩ y0).setCell ⟨b, 1, none⟩ y1).setCell ⟨b, 2, none⟩ y2).cell? ⟨b, 0, none⟩ = some y0 ∧ (((V.setCell ⟨b, 0, none⟩ y0).setCell ⟨b, 1, none⟩ y1).setCell ⟨b, 2, none⟩ y2).cell? ⟨b, 1, none⟩ = some y1 ∧ (((V.setCell ⟨b, 0, none⟩ y0).setCell ⟨b, 1, none⟩ y1).setCell ⟨b, 2, none⟩ y2).cell? ⟨b, 2, none⟩ = some y2 := by
 simp [go_sem, h0, h1, h2]
theorem set3_below {B : Nat} {w V : World} {b : Nat} {y0 y1 y2 : Value} (h : Below B w V) (hb : B ≤ b) : Below B w (((V.setCell ⟨b, 0, none⟩ y0).setCell ⟨b, 1, none⟩ y1).setCell ⟨b, 2, none⟩ y2) :=
 ((h.setCell hb _).setCell hb _).setCell hb _
set_option maxRecDepth 1000000 in
theorem itself_any (k h : Int) (ty : ByteArray) (w : World) : Calls Tryz.prog 377 #[.agg #[.int .i64 k, .string ty, .int .i64 h]] w fun e w' => e = .returned (.agg #[.int .i64 k, .string ty, .int .i64 h]) ∧ Below w.heap.size w w' := by
 go_enter Tryz.func377, Tryz.ntmps377
 go_wp2
 go_returns
 exact ⟨rfl, ((Below.refl _ _).alloc (Nat.le_refl _) _).alloc (by simp) _⟩
theorem mark_sz : ∀ h, (Tryz.prog.types[147]'h).size = 3 := fun h => by kernel_rfl
set_option maxRecDepth 1000000 in
set_option maxHeartbeats 1000000 in
theorem markof_signed (k h : Int) (ty : ByteArray) (n : Int) (w : World) : Calls Tryz.prog 84 #[.iface 160 (.agg #[.int .i64 k, .string ty, .int .i64 h, .int .i64 n])] w fun e w' => e = .returned (.agg #[.int .i64 k, .string ty, .int .i64 h]) ∧ Below w.heap.size w w' := by
 have ha := tm_signed
 have hit := fun W => itself_any k h ty W
 have hsz := mark_sz
 obtain ⟨W1, hW1⟩ : ∃ W1, W1 = w.alloc (.cells #[.int .i64 0, .string ⟨#[]⟩, .int .i64 0] 147) := ⟨_, rfl⟩
 have hb1 : Below w.heap.size w W1 := by rw [hW1]; exact (Below.refl _ _).alloc (Nat.le_refl _) _
 have c0 : W1.cell? ⟨w.heap.size, 0, none⟩ = some (.int .i64 0) ∧ W1.cell? ⟨w.heap.size, 1, none⟩ = some (.string ⟨#[]⟩) ∧ W1.cell? ⟨w.heap.size, 2, none⟩ = some (.int .i64 0) := by rw [hW1]; simp
 have fz : ∀ i, W1.frozen? ⟨w.heap.size, i, none⟩ = false := fun i => by rw [hW1, frozen?_alloc_cells]; exact frozen_none _ _ (Nat.le_refl _)
 have hz1 : w.heap.size < W1.heap.size := by rw [hW1]; simp
 go_enter Tryz.func84, Tryz.ntmps84
 go_wp2_with fail
 rw [← hW1]
 first | rw [hsz] | skip
 refine (hit _).mono ?_
 rintro e V ⟨rfl, hV⟩
 have d0 := up_cell hV c0.1
 have d1 := up_cell hV c0.2.1
 have d2 := up_cell hV c0.2.2
 have e0 := (hV.frozen (p := ⟨w.heap.size, 0, none⟩) hz1).trans (fz 0)
 have e1 := (hV.frozen (p := ⟨w.heap.size, 1, none⟩) hz1).trans (fz 1)
 have e2 := (hV.frozen (p := ⟨w.heap.size, 2, none⟩) hz1).trans (fz 2)
 clear ha hit hsz c0 fz
 go_wp2
 obtain ⟨r0, r1, r2⟩ := set3 d0 d1 d2 (.int .i64 k) (.string ty) (.int .i64 h)
 refine bodyPost_ret (v := .agg #[.int .i64 k, .string ty, .int .i64 h]) (by simp [results, Tryz.results84, go_sem, r0, r1, r2]) rfl ?_
 exact ⟨rfl, set3_below (hb1.trans (hV.mono hb1.size)) (Nat.le_refl _)⟩
set_option maxRecDepth 1000000 in
set_option maxHeartbeats 1000000 in
theorem markof_float (k h : Int) (ty : ByteArray) (n : Int) (w : World) : Calls Tryz.prog 84 #[.iface 166 (.agg #[.int .i64 k, .string ty, .int .i64 h, .int .u64 n])] w fun e w' => e = .returned (.agg #[.int .i64 k, .string ty, .int .i64 h]) ∧ Below w.heap.size w w' := by
 have ha := tm_float
 have hit := fun W => itself_any k h ty W
 have hsz := mark_sz
 obtain ⟨W1, hW1⟩ : ∃ W1, W1 = w.alloc (.cells #[.int .i64 0, .string ⟨#[]⟩, .int .i64 0] 147) := ⟨_, rfl⟩
 have hb1 : Below w.heap.size w W1 := by rw [hW1]; exact (Below.refl _ _).alloc (Nat.le_refl _) _
 have c0 : W1.cell? ⟨w.heap.size, 0, none⟩ = some (.int .i64 0) ∧ W1.cell? ⟨w.heap.size, 1, none⟩ = some (.string ⟨#[]⟩) ∧ W1.cell? ⟨w.heap.size, 2, none⟩ = some (.int .i64 0) := by rw [hW1]; simp
 have fz : ∀ i, W1.frozen? ⟨w.heap.size, i, none⟩ = false := fun i => by rw [hW1, frozen?_alloc_cells]; exact frozen_none _ _ (Nat.le_refl _)
 have hz1 : w.heap.size < W1.heap.size := by rw [hW1]; simp
 go_enter Tryz.func84, Tryz.ntmps84
 go_wp2_with fail
 rw [← hW1]
 first | rw [hsz] | skip
 refine (hit _).mono ?_
 rintro e V ⟨rfl, hV⟩
 have d0 := up_cell hV c0.1
 have d1 := up_cell hV c0.2.1
 have d2 := up_cell hV c0.2.2
 have e0 := (hV.frozen (p := ⟨w.heap.size, 0, none⟩) hz1).trans (fz 0)
 have e1 := (hV.frozen (p := ⟨w.heap.size, 1, none⟩) hz1).trans (fz 1)
 have e2 := (hV.frozen (p := ⟨w.heap.size, 2, none⟩) hz1).trans (fz 2)
 clear ha hit hsz c0 fz
 go_wp2
 obtain ⟨r0, r1, r2⟩ := set3 d0 d1 d2 (.int .i64 k) (.string ty) (.int .i64 h)
 refine bodyPost_ret (v := .agg #[.int .i64 k, .string ty, .int .i64 h]) (by simp [results, Tryz.results84, go_sem, r0, r1, r2]) rfl ?_
 exact ⟨rfl, set3_below (hb1.trans (hV.mono hb1.size)) (Nat.le_refl _)⟩
set_option maxRecDepth 1000000 in
set_option maxHeartbeats 1000000 in
theorem markof_text (k h : Int) (ty : ByteArray) (s : ByteArray) (w : World) : Calls Tryz.prog 84 #[.iface 170 (.agg #[.int .i64 k, .string ty, .int .i64 h, .string s])] w fun e w' => e = .returned (.agg #[.int .i64 k, .string ty, .int .i64 h]) ∧ Below w.heap.size w w' := by
 have ha := tm_text
 have hit := fun W => itself_any k h ty W
 have hsz := mark_sz
 obtain ⟨W1, hW1⟩ : ∃ W1, W1 = w.alloc (.cells #[.int .i64 0, .string ⟨#[]⟩, .int .i64 0] 147) := ⟨_, rfl⟩
 have hb1 : Below w.heap.size w W1 := by rw [hW1]; exact (Below.refl _ _).alloc (Nat.le_refl _) _
 have c0 : W1.cell? ⟨w.heap.size, 0, none⟩ = some (.int .i64 0) ∧ W1.cell? ⟨w.heap.size, 1, none⟩ = some (.string ⟨#[]⟩) ∧ W1.cell? ⟨w.heap.size, 2, none⟩ = some (.int .i64 0) := by rw [hW1]; simp
 have fz : ∀ i, W1.frozen? ⟨w.heap.size, i, none⟩ = false := fun i => by rw [hW1, frozen?_alloc_cells]; exact frozen_none _ _ (Nat.le_refl _)
 have hz1 : w.heap.size < W1.heap.size := by rw [hW1]; simp
 go_enter Tryz.func84, Tryz.ntmps84
 go_wp2_with fail
 rw [← hW1]
 first | rw [hsz] | skip
 refine (hit _).mono ?_
 rintro e V ⟨rfl, hV⟩
 have d0 := up_cell hV c0.1
 have d1 := up_cell hV c0.2.1
 have d2 := up_cell hV c0.2.2
 have e0 := (hV.frozen (p := ⟨w.heap.size, 0, none⟩) hz1).trans (fz 0)
 have e1 := (hV.frozen (p := ⟨w.heap.size, 1, none⟩) hz1).trans (fz 1)
 have e2 := (hV.frozen (p := ⟨w.heap.size, 2, none⟩) hz1).trans (fz 2)
 clear ha hit hsz c0 fz
 go_wp2
 obtain ⟨r0, r1, r2⟩ := set3 d0 d1 d2 (.int .i64 k) (.string ty) (.int .i64 h)
 refine bodyPost_ret (v := .agg #[.int .i64 k, .string ty, .int .i64 h]) (by simp [results, Tryz.results84, go_sem, r0, r1, r2]) rfl ?_
 exact ⟨rfl, set3_below (hb1.trans (hV.mono hb1.size)) (Nat.le_refl _)⟩
end Go.Proofs.YtdlnmnipnkeabaaGreatDoor
