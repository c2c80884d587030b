/- Package cplx: Complex. -/
import Derived.Test.YthbabhbfpcfenaaGreatDoorCWalkA
namespace Go.Proofs.YthbabhbfpcfenaaGreatDoor
open Go.RowKit
set_option linter.unusedVariables false
set_option linter.unusedSimpArgs false

abbrev CxC (re im : Nat) (size : Int) (p mi sh sp z : Bool) (wid prec verb : Int) (s : ByteArray) (ok : Bool) : Prop := ∀ w, Calls Tryz.prog 9 #[.int .u64 re, .int .u64 im, .int .i64 size, .agg #[.bool p, .bool mi, .bool sh, .bool sp, .bool z, .int .i64 wid, .int .i64 prec, .int .i32 verb]] w fun e w' => e = .returned (.tuple #[.string s, .bool ok]) ∧ Below w.heap.size w w'
set_option maxRecDepth 1000000 in
theorem cx_size {re im : Nat} {size : Int} (p mi sh sp z : Bool) (wid prec verb : Int) (hz : SzP size 0 false) : CxC re im size p mi sh sp z wid prec verb ⟨#[]⟩ false := fun w => by
  go_enter Tryz.func9, Tryz.ntmps9
  go_wp2_with (go_at_call 16; (with_reducible refine (hz _).mono ?_); rintro x w2 ⟨rfl, rfl⟩)
  go_returns
  exact ⟨rfl, by go_grown⟩
/-- The two rows that Complex lays: the bits, and the specs. -/
structure CxAt (w W : World) (A S re im : Nat) (p mi sh sp z : Bool) (wid prec verb : Int) : Prop where
  a0 : W.cell? ⟨A, 0, none⟩ = some (.int .u64 re)
  a1 : W.cell? ⟨A, 1, none⟩ = some (.int .u64 im)
  s0 : W.cell? ⟨S, 0, none⟩ = some (.bool p)
  s1 : W.cell? ⟨S, 1, none⟩ = some (.bool mi)
  s2 : W.cell? ⟨S, 2, none⟩ = some (.bool sh)
  s3 : W.cell? ⟨S, 3, none⟩ = some (.bool sp)
  s4 : W.cell? ⟨S, 4, none⟩ = some (.bool z)
  s5 : W.cell? ⟨S, 5, none⟩ = some (.int .i64 wid)
  s6 : W.cell? ⟨S, 6, none⟩ = some (.int .i64 prec)
  s7 : W.cell? ⟨S, 7, none⟩ = some (.int .i32 verb)
  t0 : W.cell? ⟨S, 8, none⟩ = some (.bool true)
  t1 : W.cell? ⟨S, 9, none⟩ = some (.bool mi)
  t2 : W.cell? ⟨S, 10, none⟩ = some (.bool sh)
  t3 : W.cell? ⟨S, 11, none⟩ = some (.bool sp)
  t4 : W.cell? ⟨S, 12, none⟩ = some (.bool z)
  t5 : W.cell? ⟨S, 13, none⟩ = some (.int .i64 wid)
  t6 : W.cell? ⟨S, 14, none⟩ = some (.int .i64 prec)
  t7 : W.cell? ⟨S, 15, none⟩ = some (.int .i32 verb)
  bl : Below w.heap.size w W
  lt : S < W.heap.size
theorem cxat_1 {w W0 : World} (re im : Nat) (p mi sh sp z : Bool) (wid prec verb : Int) (hbl : Below w.heap.size w W0) : CxAt w ((W0.alloc (.cells #[.int .u64 re, .int .u64 im] 40)).alloc (.cells #[.bool p, .bool mi, .bool sh, .bool sp, .bool z, .int .i64 wid, .int .i64 prec, .int .i32 verb, .bool true, .bool mi, .bool sh, .bool sp, .bool z, .int .i64 wid, .int .i64 prec, .int .i32 verb] 41)).drew W0.heap.size (W0.heap.size + 1) re im p mi sh sp z wid prec verb where
  a0 := by simp
  a1 := by simp
  s0 := by simp
  s1 := by simp
  s2 := by simp
  s3 := by simp
  s4 := by simp
  s5 := by simp
  s6 := by simp
  s7 := by simp
  t0 := by simp
  t1 := by simp
  t2 := by simp
  t3 := by simp
  t4 := by simp
  t5 := by simp
  t6 := by simp
  t7 := by simp
  bl := ((hbl.alloc hbl.size _).alloc (Nat.le_trans hbl.size (by simp)) _).drew
  lt := by simp
theorem cxat_2 {w W0 : World} (re im : Nat) (p mi sh sp z : Bool) (wid prec verb : Int) (hbl : Below w.heap.size w W0) : CxAt w ((W0.alloc (.cells #[.bool p, .bool mi, .bool sh, .bool sp, .bool z, .int .i64 wid, .int .i64 prec, .int .i32 verb, .bool true, .bool mi, .bool sh, .bool sp, .bool z, .int .i64 wid, .int .i64 prec, .int .i32 verb] 41)).alloc (.cells #[.int .u64 re, .int .u64 im] 40)).drew (W0.heap.size + 1) W0.heap.size re im p mi sh sp z wid prec verb where
  a0 := by simp
  a1 := by simp
  s0 := by simp
  s1 := by simp
  s2 := by simp
  s3 := by simp
  s4 := by simp
  s5 := by simp
  s6 := by simp
  s7 := by simp
  t0 := by simp
  t1 := by simp
  t2 := by simp
  t3 := by simp
  t4 := by simp
  t5 := by simp
  t6 := by simp
  t7 := by simp
  bl := ((hbl.alloc hbl.size _).alloc (Nat.le_trans hbl.size (by simp)) _).drew
  lt := by simp; omega
theorem ix_u0 (a b : Value) (w : World) : (Instr.index 40 (.agg #[a, b]) (.int .i64 0)).run Tryz.prog w = .ok a w := by kernel_rfl
theorem ix_u1 (a b : Value) (w : World) : (Instr.index 40 (.agg #[a, b]) (.int .i64 1)).run Tryz.prog w = .ok b w := by kernel_rfl
set_option maxRecDepth 1000000 in
set_option maxHeartbeats 8000000 in
theorem cx_both {re im : Nat} {size half : Int} {A B R : ByteArray} {ok : Bool} (p mi sh sp z : Bool) (wid prec verb : Int) (hz : SzP size half true) (hA : FlC re half p mi sh sp z wid prec verb A ok) (hB : ok = true → FlC im half true mi sh sp z wid prec verb B true) (zA : A.size ≤ 1000000) (zB : B.size ≤ 1000000) (hR : ok = true ∧ R = ((⟨#[40]⟩ : ByteArray) ++ A ++ B) ++ ⟨#[105, 41]⟩ ∨ ok = false ∧ R = ⟨#[]⟩) : CxC re im size p mi sh sp z wid prec verb R ok := fun w => by
  have ix0 := ix_u0
  have ix1 := ix_u1
  go_enter Tryz.func9, Tryz.ntmps9
  go_upto_region 6 with (go_at_call 16; (with_reducible refine (hz _).mono ?_); rintro x w2 ⟨rfl, rfl⟩)
  obtain ⟨W0, hW0⟩ : ∃ W0, (w.alloc (.cells #[.bool p, .bool mi, .bool sh, .bool sp, .bool z, .int .i64 wid, .int .i64 prec, .int .i32 verb] 26)).alloc (.cells #[.bool true, .bool mi, .bool sh, .bool sp, .bool z, .int .i64 wid, .int .i64 prec, .int .i32 verb] 26) = W0 := ⟨_, rfl⟩
  have m0 : W0.cell? ⟨w.heap.size, 0, none⟩ = some (.bool p) := by rw [← hW0]; simp
  have m1 : W0.cell? ⟨w.heap.size, 1, none⟩ = some (.bool mi) := by rw [← hW0]; simp
  have m2 : W0.cell? ⟨w.heap.size, 2, none⟩ = some (.bool sh) := by rw [← hW0]; simp
  have m3 : W0.cell? ⟨w.heap.size, 3, none⟩ = some (.bool sp) := by rw [← hW0]; simp
  have m4 : W0.cell? ⟨w.heap.size, 4, none⟩ = some (.bool z) := by rw [← hW0]; simp
  have m5 : W0.cell? ⟨w.heap.size, 5, none⟩ = some (.int .i64 wid) := by rw [← hW0]; simp
  have m6 : W0.cell? ⟨w.heap.size, 6, none⟩ = some (.int .i64 prec) := by rw [← hW0]; simp
  have m7 : W0.cell? ⟨w.heap.size, 7, none⟩ = some (.int .i32 verb) := by rw [← hW0]; simp
  have n0 : W0.cell? ⟨w.heap.size + 1, 0, none⟩ = some (.bool true) := by rw [← hW0]; simp
  have n1 : W0.cell? ⟨w.heap.size + 1, 1, none⟩ = some (.bool mi) := by rw [← hW0]; simp
  have n2 : W0.cell? ⟨w.heap.size + 1, 2, none⟩ = some (.bool sh) := by rw [← hW0]; simp
  have n3 : W0.cell? ⟨w.heap.size + 1, 3, none⟩ = some (.bool sp) := by rw [← hW0]; simp
  have n4 : W0.cell? ⟨w.heap.size + 1, 4, none⟩ = some (.bool z) := by rw [← hW0]; simp
  have n5 : W0.cell? ⟨w.heap.size + 1, 5, none⟩ = some (.int .i64 wid) := by rw [← hW0]; simp
  have n6 : W0.cell? ⟨w.heap.size + 1, 6, none⟩ = some (.int .i64 prec) := by rw [← hW0]; simp
  have n7 : W0.cell? ⟨w.heap.size + 1, 7, none⟩ = some (.int .i32 verb) := by rw [← hW0]; simp
  have l0 : w.heap.size < W0.heap.size := by rw [← hW0]; simp; omega
  have l1 : w.heap.size + 1 < W0.heap.size := by rw [← hW0]; simp
  have hbl : Below w.heap.size w W0 := by rw [← hW0]; go_grown
  rw [hW0]
  clear hW0
  go_cut [13, 14] (fun x y wx => ∃ P Q, x = .pointer (some ⟨P, 0, none⟩) ∧ y = .pointer (some ⟨Q, 0, none⟩) ∧ CxAt w wx P Q re im p mi sh sp z wid prec verb)
  case first =>
    clear hA hB hz zA zB ix0 ix1 hR
    go_big_region
    all_goals go_wp2_with fail
    all_goals go_meet
    · exact ⟨_, _, rfl, rfl, cxat_1 re im p mi sh sp z wid prec verb hbl⟩
    · exact ⟨_, _, rfl, rfl, cxat_2 re im p mi sh sp z wid prec verb hbl⟩
  case rest =>
  obtain ⟨P, Q, rfl, rfl, h⟩ := hcut
  clear hbl l0 l1 m0 m1 m2 m3 m4 m5 m6 m7 n0 n1 n2 n3 n4 n5 n6 n7
  have lt := h.lt
  have a0 := h.a0
  have a1 := h.a1
  have s0 := h.s0
  have s1 := h.s1
  have s2 := h.s2
  have s3 := h.s3
  have s4 := h.s4
  have s5 := h.s5
  have s6 := h.s6
  have s7 := h.s7
  have lp : P < wc.heap.size := World.block_lt_of_cell? wc _ a0
  have f0 : ∀ x : Cl (wc.alloc (.cells #[.string ⟨#[]⟩, .string ⟨#[]⟩] 42)), x.w.cell? ⟨Q, 0, none⟩ = some (.bool p) := fun x => x.cell (by simp [go_sem, h.s0, lt])
  have f1 : ∀ x : Cl (wc.alloc (.cells #[.string ⟨#[]⟩, .string ⟨#[]⟩] 42)), x.w.cell? ⟨Q, 1, none⟩ = some (.bool mi) := fun x => x.cell (by simp [go_sem, h.s1, lt])
  have f2 : ∀ x : Cl (wc.alloc (.cells #[.string ⟨#[]⟩, .string ⟨#[]⟩] 42)), x.w.cell? ⟨Q, 2, none⟩ = some (.bool sh) := fun x => x.cell (by simp [go_sem, h.s2, lt])
  have f3 : ∀ x : Cl (wc.alloc (.cells #[.string ⟨#[]⟩, .string ⟨#[]⟩] 42)), x.w.cell? ⟨Q, 3, none⟩ = some (.bool sp) := fun x => x.cell (by simp [go_sem, h.s3, lt])
  have f4 : ∀ x : Cl (wc.alloc (.cells #[.string ⟨#[]⟩, .string ⟨#[]⟩] 42)), x.w.cell? ⟨Q, 4, none⟩ = some (.bool z) := fun x => x.cell (by simp [go_sem, h.s4, lt])
  have f5 : ∀ x : Cl (wc.alloc (.cells #[.string ⟨#[]⟩, .string ⟨#[]⟩] 42)), x.w.cell? ⟨Q, 5, none⟩ = some (.int .i64 wid) := fun x => x.cell (by simp [go_sem, h.s5, lt])
  have f6 : ∀ x : Cl (wc.alloc (.cells #[.string ⟨#[]⟩, .string ⟨#[]⟩] 42)), x.w.cell? ⟨Q, 6, none⟩ = some (.int .i64 prec) := fun x => x.cell (by simp [go_sem, h.s6, lt])
  have f7 : ∀ x : Cl (wc.alloc (.cells #[.string ⟨#[]⟩, .string ⟨#[]⟩] 42)), x.w.cell? ⟨Q, 7, none⟩ = some (.int .i32 verb) := fun x => x.cell (by simp [go_sem, h.s7, lt])
  have f8 : ∀ x : Cl (wc.alloc (.cells #[.string ⟨#[]⟩, .string ⟨#[]⟩] 42)), x.w.cell? ⟨Q, 8, none⟩ = some (.bool true) := fun x => x.cell (by simp [go_sem, h.t0, lt])
  have f9 : ∀ x : Cl (wc.alloc (.cells #[.string ⟨#[]⟩, .string ⟨#[]⟩] 42)), x.w.cell? ⟨Q, 9, none⟩ = some (.bool mi) := fun x => x.cell (by simp [go_sem, h.t1, lt])
  have f10 : ∀ x : Cl (wc.alloc (.cells #[.string ⟨#[]⟩, .string ⟨#[]⟩] 42)), x.w.cell? ⟨Q, 10, none⟩ = some (.bool sh) := fun x => x.cell (by simp [go_sem, h.t2, lt])
  have f11 : ∀ x : Cl (wc.alloc (.cells #[.string ⟨#[]⟩, .string ⟨#[]⟩] 42)), x.w.cell? ⟨Q, 11, none⟩ = some (.bool sp) := fun x => x.cell (by simp [go_sem, h.t3, lt])
  have f12 : ∀ x : Cl (wc.alloc (.cells #[.string ⟨#[]⟩, .string ⟨#[]⟩] 42)), x.w.cell? ⟨Q, 12, none⟩ = some (.bool z) := fun x => x.cell (by simp [go_sem, h.t4, lt])
  have f13 : ∀ x : Cl (wc.alloc (.cells #[.string ⟨#[]⟩, .string ⟨#[]⟩] 42)), x.w.cell? ⟨Q, 13, none⟩ = some (.int .i64 wid) := fun x => x.cell (by simp [go_sem, h.t5, lt])
  have f14 : ∀ x : Cl (wc.alloc (.cells #[.string ⟨#[]⟩, .string ⟨#[]⟩] 42)), x.w.cell? ⟨Q, 14, none⟩ = some (.int .i64 prec) := fun x => x.cell (by simp [go_sem, h.t6, lt])
  have f15 : ∀ x : Cl (wc.alloc (.cells #[.string ⟨#[]⟩, .string ⟨#[]⟩] 42)), x.w.cell? ⟨Q, 15, none⟩ = some (.int .i32 verb) := fun x => x.cell (by simp [go_sem, h.t7, lt])
  have hbl : Below w.heap.size w (wc.alloc (.cells #[.string ⟨#[]⟩, .string ⟨#[]⟩] 42)) := h.bl.alloc h.bl.size _
  have hne : wc.heap.size ≠ Q := by omega
  have bT : BoxD (wc.alloc (.cells #[.string ⟨#[]⟩, .string ⟨#[]⟩] 42)) wc.heap.size (.string ⟨#[]⟩) (.string ⟨#[]⟩) := by simp [BoxD, go_sem]
  have hwc : w.heap.size ≤ wc.heap.size := h.bl.size
  have z1 : ¬ 9223372036854775807 < (⟨#[40]⟩ : ByteArray).size + A.size := by rw [show (⟨#[40]⟩ : ByteArray).size = 1 from rfl]; omega
  have z2 : ¬ 9223372036854775807 < ((⟨#[40]⟩ : ByteArray) ++ A).size + B.size := by rw [app_size, show (⟨#[40]⟩ : ByteArray).size = 1 from rfl]; omega
  have z3 : ¬ 9223372036854775807 < ((⟨#[40]⟩ : ByteArray) ++ A ++ B).size + (⟨#[105, 41]⟩ : ByteArray).size := by rw [app_size, app_size, show (⟨#[40]⟩ : ByteArray).size = 1 from rfl, show (⟨#[105, 41]⟩ : ByteArray).size = 2 from rfl]; omega
  clear h
  rcases hR with ⟨rfl, rfl⟩ | ⟨rfl, rfl⟩
  · replace hB : FlC im half true mi sh sp z wid prec verb B true := hB rfl
    go_wp2
    refine wp_loop_rounds 3 ?_
    rw [rounds_succ]
    go_wp2_with (go_at_call 14; (with_reducible refine (hA _).mono ?_); rintro x w2 ⟨rfl, hb2⟩; obtain ⟨y2, rfl⟩ := Cl.start hb2; have bT2 := keepb y2.below bT; obtain ⟨t0, t1, t2, t3⟩ := id bT2; have g0 : ∀ x : Cl (y2.w.setCell ⟨wc.heap.size, 0, none⟩ (.string A)), x.w.cell? ⟨Q, 8, none⟩ = some (.bool true) := (fun x => x.cell (set_past hne (f8 y2))); have g1 : ∀ x : Cl (y2.w.setCell ⟨wc.heap.size, 0, none⟩ (.string A)), x.w.cell? ⟨Q, 9, none⟩ = some (.bool mi) := (fun x => x.cell (set_past hne (f9 y2))); have g2 : ∀ x : Cl (y2.w.setCell ⟨wc.heap.size, 0, none⟩ (.string A)), x.w.cell? ⟨Q, 10, none⟩ = some (.bool sh) := (fun x => x.cell (set_past hne (f10 y2))); have g3 : ∀ x : Cl (y2.w.setCell ⟨wc.heap.size, 0, none⟩ (.string A)), x.w.cell? ⟨Q, 11, none⟩ = some (.bool sp) := (fun x => x.cell (set_past hne (f11 y2))); have g4 : ∀ x : Cl (y2.w.setCell ⟨wc.heap.size, 0, none⟩ (.string A)), x.w.cell? ⟨Q, 12, none⟩ = some (.bool z) := (fun x => x.cell (set_past hne (f12 y2))); have g5 : ∀ x : Cl (y2.w.setCell ⟨wc.heap.size, 0, none⟩ (.string A)), x.w.cell? ⟨Q, 13, none⟩ = some (.int .i64 wid) := (fun x => x.cell (set_past hne (f13 y2))); have g6 : ∀ x : Cl (y2.w.setCell ⟨wc.heap.size, 0, none⟩ (.string A)), x.w.cell? ⟨Q, 14, none⟩ = some (.int .i64 prec) := (fun x => x.cell (set_past hne (f14 y2))); have g7 : ∀ x : Cl (y2.w.setCell ⟨wc.heap.size, 0, none⟩ (.string A)), x.w.cell? ⟨Q, 15, none⟩ = some (.int .i32 verb) := (fun x => x.cell (set_past hne (f15 y2))))
    rw [rounds_succ]
    have bT2b : BoxD (y2.w.setCell ⟨wc.heap.size, 0, none⟩ (.string A)) wc.heap.size (.string A) (.string ⟨#[]⟩) := ⟨World.cell?_setCell_same _ _ _ bT2.1, set_other (by decide) bT2.2.1, by rw [World.frozen?_setCell]; exact bT2.2.2.1, by rw [World.frozen?_setCell]; exact bT2.2.2.2⟩
    have hblA : Below w.heap.size w (y2.w.setCell ⟨wc.heap.size, 0, none⟩ (.string A)) := (bel_call hbl y2.below (Nat.le_refl _)).setCell hwc _
    go_wp2_with (go_at_call 14; (with_reducible refine (hB _).mono ?_); rintro x w3 ⟨rfl, hb3⟩; have bT3 := keepb hb3 bT2b; have hblB := bel_call hblA hb3 (Nat.le_refl _); obtain ⟨u0, u1, u2, u3⟩ := id bT3; have r1 : ∀ v, (w3.setCell ⟨wc.heap.size, 1, none⟩ v).cell? ⟨wc.heap.size, 1, none⟩ = some v := (fun v => World.cell?_setCell_same _ _ _ u1); have r0 : ∀ v, (w3.setCell ⟨wc.heap.size, 1, none⟩ v).cell? ⟨wc.heap.size, 0, none⟩ = some (.string A) := (fun v => set_other (by decide) u0))
    rw [rounds_succ]
    go_wp2
    go_returns
    exact ⟨rfl, hblB.setCell hwc _⟩
  · clear hB
    go_wp2
    refine wp_loop_rounds 3 ?_
    rw [rounds_succ]
    have hblB := hbl
    go_wp2_with (go_at_call 14; (with_reducible refine (hA _).mono ?_); rintro x w2 ⟨rfl, hb2⟩; obtain ⟨y2, rfl⟩ := Cl.start hb2; have hblA := (bel_call hbl y2.below (Nat.le_refl _)); have bT2 := keepb y2.below bT; obtain ⟨t0, t1, t2, t3⟩ := id bT2; have g0 : ∀ x : Cl (y2.w.setCell ⟨wc.heap.size, 0, none⟩ (.string A)), x.w.cell? ⟨Q, 8, none⟩ = some (.bool true) := (fun x => x.cell (set_past hne (f8 y2))); have g1 : ∀ x : Cl (y2.w.setCell ⟨wc.heap.size, 0, none⟩ (.string A)), x.w.cell? ⟨Q, 9, none⟩ = some (.bool mi) := (fun x => x.cell (set_past hne (f9 y2))); have g2 : ∀ x : Cl (y2.w.setCell ⟨wc.heap.size, 0, none⟩ (.string A)), x.w.cell? ⟨Q, 10, none⟩ = some (.bool sh) := (fun x => x.cell (set_past hne (f10 y2))); have g3 : ∀ x : Cl (y2.w.setCell ⟨wc.heap.size, 0, none⟩ (.string A)), x.w.cell? ⟨Q, 11, none⟩ = some (.bool sp) := (fun x => x.cell (set_past hne (f11 y2))); have g4 : ∀ x : Cl (y2.w.setCell ⟨wc.heap.size, 0, none⟩ (.string A)), x.w.cell? ⟨Q, 12, none⟩ = some (.bool z) := (fun x => x.cell (set_past hne (f12 y2))); have g5 : ∀ x : Cl (y2.w.setCell ⟨wc.heap.size, 0, none⟩ (.string A)), x.w.cell? ⟨Q, 13, none⟩ = some (.int .i64 wid) := (fun x => x.cell (set_past hne (f13 y2))); have g6 : ∀ x : Cl (y2.w.setCell ⟨wc.heap.size, 0, none⟩ (.string A)), x.w.cell? ⟨Q, 14, none⟩ = some (.int .i64 prec) := (fun x => x.cell (set_past hne (f14 y2))); have g7 : ∀ x : Cl (y2.w.setCell ⟨wc.heap.size, 0, none⟩ (.string A)), x.w.cell? ⟨Q, 15, none⟩ = some (.int .i32 verb) := (fun x => x.cell (set_past hne (f15 y2))))
    go_returns
    exact ⟨rfl, hblA.setCell hwc _⟩
theorem cx_yes {re im : Nat} {size half : Int} {A B : ByteArray} (p mi sh sp z : Bool) (wid prec verb : Int) (hz : SzP size half true) (hA : FlC re half p mi sh sp z wid prec verb A true) (hB : FlC im half true mi sh sp z wid prec verb B true) (zA : A.size ≤ 1000000) (zB : B.size ≤ 1000000) : CxC re im size p mi sh sp z wid prec verb (((⟨#[40]⟩ : ByteArray) ++ A ++ B) ++ ⟨#[105, 41]⟩) true :=
  cx_both p mi sh sp z wid prec verb hz hA (fun _ => hB) zA zB (.inl ⟨rfl, rfl⟩)
theorem cx_no {re im : Nat} {size half : Int} (p mi sh sp z : Bool) (wid prec verb : Int) (hz : SzP size half true) (hA : FlC re half p mi sh sp z wid prec verb ⟨#[]⟩ false) : CxC re im size p mi sh sp z wid prec verb ⟨#[]⟩ false :=
  cx_both (B := ⟨#[]⟩) p mi sh sp z wid prec verb hz hA (fun h => by cases h) (by decide) (by decide) (.inr ⟨rfl, rfl⟩)
end Go.Proofs.YthbabhbfpcfenaaGreatDoor
