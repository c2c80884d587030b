/- SWalkC: these texts in one. -/
import Derived.Test.YthbabhbfpcfenaaGreatDoorPkF15
/- The walks of package short: the middle above a pattern, the bounds, what lies between them. -/
namespace Go.Proofs.YthbabhbfpcfenaaGreatDoor
open Go.RowKit
set_option linter.unusedVariables false
set_option linter.unusedSimpArgs false

theorem Cl.froz {w0 : World} (x : Cl w0) {p : Addr} (hp : p.block < w0.heap.size) (h : w0.frozen? p = false) : x.w.frozen? p = false := (x.below.frozen hp).trans h
/-- The middle above a pattern, in units. -/
def mid (f : Nat) (least : Int) (p : Nat) : Nat := pa f p * un least
theorem mid_good {size : Int} {f ww : Nat} {least : Int} {I : Nat} (h : Ly size f ww least I) {p : Nat} (hp : p < I) : Good (mid f least p) := by
  obtain ⟨h0, h1, -, -, -, -, -, -, h2⟩ := h.pk
  have h3 := h2 p hp
  have h4 := h.pm p
  have := (exU_good (m := 2 * pm f p + 1) (e := least + pk f p - 1) (by omega) (by omega) (by omega)).1
  rw [exU_mid (by omega) (by omega)] at this
  exact this
set_option maxRecDepth 1000000 in
theorem above_any {size : Int} {f ww : Nat} {least : Int} {I : Nat} (h : Ly size f ww least I) (p : Nat) (w : World) (hp : p < I) :
    Calls Tryz.prog 166 #[.agg #[.int .i64 ww, .int .i64 f, .int .i64 least], .int .u64 p] w fun x w' => x = .returned (.agg #[.string (oS (mid f least p)), .int .i64 (oP (mid f least p))]) ∧ Below w.heap.size w w' := by
  have hF := fun w => finite_any h p w hp
  obtain ⟨h0, h1, -, -, -, -, -, -, h2⟩ := h.pk
  have h3 := h2 p hp
  have h4 := h.pm p
  have hX := fun w => sexact_any (2 * pm f p + 1) (least + pk f p - 1) w (by omega) (by omega) (by omega)
  rw [exU_mid (by omega) (by omega)] at hX
  have em : pa f p * exU 1 (least - 1) = mid f least p := rfl
  rw [em] at hX
  generalize oS (mid f least p) = S at *
  generalize oP (mid f least p) = P at *
  have e0 : -1199 ≤ least + (pk f p : Int) := by omega
  generalize pm f p = m at *
  generalize hE : least + (pk f p : Int) = e at *
  have hX' : ∀ w, Calls Tryz.prog 142 #[.int .u64 (2 * (m : Int) + 1), .int .i64 (e - 1)] w fun x w' => x = .returned (.agg #[.string S, .int .i64 P]) ∧ Below w.heap.size w w' := fun w => by
    have := hX w
    rw [show ((2 * m + 1 : Nat) : Int) = 2 * (m : Int) + 1 by omega] at this
    exact this
  clear hX hE h2 em
  go_enter Tryz.func166, Tryz.ntmps166
  go_wp2_with (first
    | (go_at_call 46; refine (hF _).mono ?_; rintro x w2 ⟨rfl, hb2⟩; have bR := keepb hb2 (B := w.heap.size + 1) (x := .string ⟨#[]⟩) (y := .int .i64 0) (by simp [BoxD, go_sem]))
    | (go_at_call 142; refine (hX' _).mono ?_; rintro x w3 ⟨rfl, hb3⟩; have bS := keepb hb3 bR; obtain ⟨r0, r1, r2, r3⟩ := id bS))
  refine bodyPost_ret (by simp [results, Tryz.results166, go_sem, cs_same, r0, r1]; rfl) rfl ?_
  refine ⟨rfl, ?_⟩
  have h := bel_call (bel_call (B := w.heap.size) (w := w) (by go_grown) hb2 (Nat.le_refl _)) hb3 (Nat.le_refl _)
  exact (h.setCell (p := ⟨w.heap.size + 1, 0, none⟩) (Nat.le_succ _) (.string S)).setCell (p := ⟨w.heap.size + 1, 1, none⟩) (Nat.le_succ _) (.int .i64 P)
abbrev AbC (f ww : Nat) (least : Int) (q : Int) (S : ByteArray) (P : Int) : Prop := ∀ w, Calls Tryz.prog 166 #[.agg #[.int .i64 ww, .int .i64 f, .int .i64 least], .int .u64 q] w fun x w' => x = .returned (.agg #[.string S, .int .i64 P]) ∧ Below w.heap.size w w'
abbrev CpC (s1 : ByteArray) (p1 : Int) (s2 : ByteArray) (p2 r : Int) : Prop := ∀ w, Calls Tryz.prog 168 #[.agg #[.string s1, .int .i64 p1], .agg #[.string s2, .int .i64 p2]] w fun x w' => x = .returned (.int .i64 r) ∧ Below w.heap.size w w'
set_option maxRecDepth 1000000 in
set_option maxHeartbeats 1600000 in
theorem bounds_walk {f ww : Nat} {least : Int} {p : Nat} {S1 S2 : ByteArray} {P1 P2 : Int} (h1 : AbC f ww least ((p : Int) - 1) S1 P1) (h2 : AbC f ww least p S2 P2) (hp0 : 1 ≤ p) (hp : p < 9300000000000000000) (w : World) :
    Calls Tryz.prog 143 #[.agg #[.int .i64 ww, .int .i64 f, .int .i64 least], .int .u64 p] w fun x w' => x = .returned (.agg #[.string S1, .int .i64 P1, .string S2, .int .i64 P2, .bool (decide (p % 2 = 0))]) ∧ Below w.heap.size w w' := by
  have h3 := fun w => iseven_any p w (by omega)
  generalize decide (p % 2 = 0) = ev at *
  have hpI : 1 ≤ (p : Int) := by omega
  have hwr : IntKind.u64.wrap ((p : Int) - 1) = (p : Int) - 1 := by rw [IntKind.wrap_u64]; omega
  have h1' : AbC f ww least (IntKind.u64.wrap ((p : Int) - 1)) S1 P1 := by rw [hwr]; exact h1
  clear hwr
  obtain ⟨W2, hW2⟩ : ∃ W2, (w.alloc (.cells #[.int .i64 ww, .int .i64 f, .int .i64 least] 63)).alloc (.cells #[.string ⟨#[]⟩, .int .i64 0, .string ⟨#[]⟩, .int .i64 0, .bool false] 160) = W2 := ⟨_, rfl⟩
  have hbW : Below w.heap.size w W2 := by rw [← hW2]; go_grown
  have d0 : W2.cell? ⟨w.heap.size, 0, none⟩ = some (.int .i64 ww) := by rw [← hW2]; simp [go_sem]
  have c0 : ∀ x : Cl W2, x.w.cell? ⟨w.heap.size, 0, none⟩ = some (.int .i64 ww) := fun x => x.cell d0
  have d1 : W2.cell? ⟨w.heap.size, 1, none⟩ = some (.int .i64 f) := by rw [← hW2]; simp [go_sem]
  have c1 : ∀ x : Cl W2, x.w.cell? ⟨w.heap.size, 1, none⟩ = some (.int .i64 f) := fun x => x.cell d1
  have d2 : W2.cell? ⟨w.heap.size, 2, none⟩ = some (.int .i64 least) := by rw [← hW2]; simp [go_sem]
  have c2 : ∀ x : Cl W2, x.w.cell? ⟨w.heap.size, 2, none⟩ = some (.int .i64 least) := fun x => x.cell d2
  have d3 : W2.cell? ⟨w.heap.size + 1, 0, none⟩ = some (.string ⟨#[]⟩) := by rw [← hW2]; simp [go_sem]
  have c3 : ∀ x : Cl W2, x.w.cell? ⟨w.heap.size + 1, 0, none⟩ = some (.string ⟨#[]⟩) := fun x => x.cell d3
  have d4 : W2.cell? ⟨w.heap.size + 1, 1, none⟩ = some (.int .i64 0) := by rw [← hW2]; simp [go_sem]
  have c4 : ∀ x : Cl W2, x.w.cell? ⟨w.heap.size + 1, 1, none⟩ = some (.int .i64 0) := fun x => x.cell d4
  have d5 : W2.cell? ⟨w.heap.size + 1, 2, none⟩ = some (.string ⟨#[]⟩) := by rw [← hW2]; simp [go_sem]
  have c5 : ∀ x : Cl W2, x.w.cell? ⟨w.heap.size + 1, 2, none⟩ = some (.string ⟨#[]⟩) := fun x => x.cell d5
  have d6 : W2.cell? ⟨w.heap.size + 1, 3, none⟩ = some (.int .i64 0) := by rw [← hW2]; simp [go_sem]
  have c6 : ∀ x : Cl W2, x.w.cell? ⟨w.heap.size + 1, 3, none⟩ = some (.int .i64 0) := fun x => x.cell d6
  have d7 : W2.cell? ⟨w.heap.size + 1, 4, none⟩ = some (.bool false) := by rw [← hW2]; simp [go_sem]
  have c7 : ∀ x : Cl W2, x.w.cell? ⟨w.heap.size + 1, 4, none⟩ = some (.bool false) := fun x => x.cell d7
  have hz : w.heap.size + 1 < W2.heap.size := World.block_lt_of_cell? W2 _ d3
  have f0 : ∀ x : Cl W2, x.w.frozen? ⟨w.heap.size + 1, 0, none⟩ = false := fun x => x.froz hz (by rw [← hW2]; simp [go_sem])
  have f1 : ∀ x : Cl W2, x.w.frozen? ⟨w.heap.size + 1, 1, none⟩ = false := fun x => x.froz hz (by rw [← hW2]; simp [go_sem])
  have f2 : ∀ x : Cl W2, x.w.frozen? ⟨w.heap.size + 1, 2, none⟩ = false := fun x => x.froz hz (by rw [← hW2]; simp [go_sem])
  have f3 : ∀ x : Cl W2, x.w.frozen? ⟨w.heap.size + 1, 3, none⟩ = false := fun x => x.froz hz (by rw [← hW2]; simp [go_sem])
  have f4 : ∀ x : Cl W2, x.w.frozen? ⟨w.heap.size + 1, 4, none⟩ = false := fun x => x.froz hz (by rw [← hW2]; simp [go_sem])
  have hnx : ∀ w5, Below W2.drew.heap.size W2.drew w5 → ∃ y : Cl W2, w5 = y.w := fun w5 hb => ⟨⟨w5, bel_call (Below.refl _ _).drew hb (Nat.le_refl _)⟩, rfl⟩
  go_enter Tryz.func143, Tryz.ntmps143
  go_wp2
  go_region_with (first
    | (go_at_call 166; (with_reducible refine (h1' _).mono ?_); rintro x w3 ⟨rfl, hb3⟩; obtain ⟨y3, rfl⟩ := hnx _ hb3)
    | (go_at_call 166; (with_reducible refine (h2 _).mono ?_); rintro x w4 ⟨rfl, hb4⟩; obtain ⟨y4, rfl⟩ := Cl.next hb4)
    | (go_at_call 167; refine (h3 _).mono ?_; rintro x w5 ⟨rfl, rfl⟩))
  all_goals go_wp2
  all_goals refine bodyPost_ret (by simp [results, Tryz.results143, go_sem, cs_same, c3 y4, c4 y4, c5 y4, c6 y4, c7 y4]; rfl) rfl ?_
  all_goals
    refine ⟨rfl, ?_⟩
    have hh := bel_call hbW y4.below (Nat.le_refl _)
    iterate 5 (refine Below.setCell ?_ (Nat.le_succ _) _)
    exact hh
end Go.Proofs.YthbabhbfpcfenaaGreatDoor
