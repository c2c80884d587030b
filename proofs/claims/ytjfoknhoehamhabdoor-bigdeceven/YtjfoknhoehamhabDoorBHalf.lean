/- The walk of the law's function half. -/
import Derived.Test.YtjfoknhoehamhabDoorBLaw
namespace Go.Proofs.YtjfoknhoehamhabDoor
open Go.RowKit
set_option linter.unusedVariables false
set_option linter.unusedSimpArgs false

theorem one_G (p : Int) (Q : Nat) (h : p + 10000 = (Q : Int)) : oS (10 ^ Q) = ⟨#[49]⟩ ∧ oP (10 ^ Q) = p + 1 := by
  have hv : num [49] * 10 ^ (p + 1 - (([49] : List UInt8).length : Int) + 10000).toNat = 10 ^ Q := by
    rw [show (p + 1 - (([49] : List UInt8).length : Int) + 10000).toNat = Q by simp; omega, show num [49] = 1 from rfl, Nat.one_mul]
  have hd : IsDec [49] (p + 1) (10 ^ Q) := ⟨rfl, rfl, rfl, fun h => (by cases h), by simp; omega, hv⟩
  obtain ⟨h1, h2⟩ := o_of hd
  exact ⟨by unfold oS; rw [← h1], h2.symm⟩
set_option maxRecDepth 1000000 in
set_option maxHeartbeats 3200000 in
theorem half_up {S1 S2 X Y Z : ByteArray} {P1 P2 p PX PY PZ c d : Int} (hc : CmpC S1 P1 S2 P2 c 0) (hc0 : c ≤ 0) (hX : AddC S1 P1 S1 P1 X PX 0) (hY : AddC S2 P2 S2 P2 Y PY 0) (hZ : AddC X PX ⟨#[49]⟩ (p + 1) Z PZ 0) (hd : CmpC Y PY Z PZ d 0) (hd0 : d ≤ 0) (hp0 : -100000 ≤ p) (hp1 : p ≤ 100000) (w : World) :
    Calls Tryd.prog 14 #[.agg #[.string S1, .int .i64 P1], .agg #[.string S2, .int .i64 P2], .int .i64 p] w fun x w' => x = .returned (.bool true) ∧ Below w.heap.size w w' := by
  obtain ⟨W2, hW2⟩ : ∃ W2, (w.alloc (.cells #[.string S1, .int .i64 P1] 24)).alloc (.cells #[.string S2, .int .i64 P2] 24) = W2 := ⟨_, rfl⟩
  have bA : BoxD W2 w.heap.size (.string S1) (.int .i64 P1) := by rw [← hW2]; simp [BoxD, go_sem]
  have bB : BoxD W2 (w.heap.size + 1) (.string S2) (.int .i64 P2) := by rw [← hW2]; simp [BoxD, go_sem]
  have hbW : Below w.heap.size w W2 := by rw [← hW2]; go_grown
  obtain ⟨a0, a1, -, -⟩ := bA
  obtain ⟨b0, b1, -, -⟩ := bB
  have k0 : ∀ x : Cl W2, x.w.cell? ⟨w.heap.size, 0, none⟩ = some (.string S1) := fun x => x.cell a0
  have k1 : ∀ x : Cl W2, x.w.cell? ⟨w.heap.size, 1, none⟩ = some (.int .i64 P1) := fun x => x.cell a1
  have k2 : ∀ x : Cl W2, x.w.cell? ⟨w.heap.size + 1, 0, none⟩ = some (.string S2) := fun x => x.cell b0
  have k3 : ∀ x : Cl W2, x.w.cell? ⟨w.heap.size + 1, 1, none⟩ = some (.int .i64 P2) := fun x => x.cell b1
  have z0 : ∀ x : Cl W2, w.heap.size < x.w.heap.size := fun x => World.block_lt_of_cell? x.w _ (k0 x)
  have z1 : ∀ x : Cl W2, w.heap.size + 1 < x.w.heap.size := fun x => World.block_lt_of_cell? x.w _ (k2 x)
  have hcI : ¬ 0 < c := by omega
  go_enter Tryd.func14, Tryd.ntmps14
  go_wp2_with (first
    | (go_at_call 10; (with_reducible refine (Cl.go0 (hc _)).mono ?_); rintro x w9 ⟨y, rfl, rfl⟩)
    | (go_at_call 9; (with_reducible refine (hX _).mono ?_); rintro x w5 ⟨rfl, hb5⟩; obtain ⟨y5, rfl⟩ := Cl.next hb5)
    | (go_at_call 9; (with_reducible refine (hY _).mono ?_); rintro x w6 ⟨rfl, hb6⟩; have bX := keepb hb6 (B := y5.w.heap.size) (x := .string X) (y := .int .i64 PX) (by simp [BoxD, go_sem]); obtain ⟨y6, rfl⟩ := Cl.after hb6; have hl5 : y5.w.heap.size < y6.w.heap.size := World.block_lt_of_cell? _ _ bX.1; obtain ⟨m0, m1, m2, m3⟩ := id bX)
    | (go_at_call 9; (with_reducible refine (hZ _).mono ?_); rintro x w7 ⟨rfl, hb7⟩; have bY := keepb hb7 (B := y6.w.heap.size) (x := .string Y) (y := .int .i64 PY) (by simp [BoxD, go_sem]); obtain ⟨y7, rfl⟩ := Cl.after hb7; have hl6 : y6.w.heap.size < y7.w.heap.size := World.block_lt_of_cell? _ _ bY.1; obtain ⟨n0, n1, n2, n3⟩ := id bY)
    | (go_at_call 10; (with_reducible refine (hd _).mono ?_); rintro x w8 ⟨rfl, hb8⟩; obtain ⟨y8, rfl⟩ := Cl.after hb8))
  go_ret
  refine ⟨?_, bel_call hbW y8.below (Nat.le_refl _)⟩
  first | rfl | simp [hd0]
set_option maxRecDepth 1000000 in
set_option maxHeartbeats 3200000 in
theorem half_dn {S1 S2 X Y Z : ByteArray} {P1 P2 p PX PY PZ c d : Int} (hc : CmpC S1 P1 S2 P2 c 0) (hc0 : 0 < c) (hX : AddC S2 P2 S2 P2 X PX 0) (hY : AddC S1 P1 S1 P1 Y PY 0) (hZ : AddC X PX ⟨#[49]⟩ (p + 1) Z PZ 0) (hd : CmpC Y PY Z PZ d 0) (hd0 : d ≤ 0) (hp0 : -100000 ≤ p) (hp1 : p ≤ 100000) (w : World) :
    Calls Tryd.prog 14 #[.agg #[.string S1, .int .i64 P1], .agg #[.string S2, .int .i64 P2], .int .i64 p] w fun x w' => x = .returned (.bool true) ∧ Below w.heap.size w w' := by
  go_enter Tryd.func14, Tryd.ntmps14
  go_upto_region 6 with (go_at_call 10; (with_reducible refine (hc _).mono ?_); rintro x w2 ⟨rfl, hb2⟩; have bA := keepb hb2 (B := w.heap.size) (x := .string S1) (y := .int .i64 P1) (by simp [BoxD, go_sem]); have bB := keepb hb2 (B := w.heap.size + 1) (x := .string S2) (y := .int .i64 P2) (by simp [BoxD, go_sem]); obtain ⟨a0, a1, a2, a3⟩ := id bA; obtain ⟨b0, b1, b2, b3⟩ := id bB)
  have h2 : Below w.heap.size w w2 := bel_call (B := w.heap.size) (w := w) (by go_grown) hb2 (Nat.le_refl _)
  have bA' := (bA.put (.string S2) (.int .i64 P2)).past (C := w.heap.size + 1) (by omega) (.string S1) (.int .i64 P1)
  have bB' := (bB.past (C := w.heap.size) (by omega) (.string S2) (.int .i64 P2)).put (.string S1) (.int .i64 P1)
  have hbW := (((h2.setCell (p := ⟨w.heap.size, 0, none⟩) (Nat.le_refl _) (.string S2)).setCell (p := ⟨w.heap.size, 1, none⟩) (Nat.le_refl _) (.int .i64 P2)).setCell (p := ⟨w.heap.size + 1, 0, none⟩) (Nat.le_succ _) (.string S1)).setCell (p := ⟨w.heap.size + 1, 1, none⟩) (Nat.le_succ _) (.int .i64 P1)
  generalize (((w2.setCell ⟨w.heap.size, 0, none⟩ (.string S2)).setCell ⟨w.heap.size, 1, none⟩ (.int .i64 P2)).setCell ⟨w.heap.size + 1, 0, none⟩ (.string S1)).setCell ⟨w.heap.size + 1, 1, none⟩ (.int .i64 P1) = Ws at *
  clear hb2 bA bB a0 a1 a2 a3 b0 b1 b2 b3 h2
  obtain ⟨a0, a1, -, -⟩ := bA'
  obtain ⟨b0, b1, -, -⟩ := bB'
  have k0 : ∀ x : Cl Ws, x.w.cell? ⟨w.heap.size, 0, none⟩ = some (.string S2) := fun x => x.cell a0
  have k1 : ∀ x : Cl Ws, x.w.cell? ⟨w.heap.size, 1, none⟩ = some (.int .i64 P2) := fun x => x.cell a1
  have k2 : ∀ x : Cl Ws, x.w.cell? ⟨w.heap.size + 1, 0, none⟩ = some (.string S1) := fun x => x.cell b0
  have k3 : ∀ x : Cl Ws, x.w.cell? ⟨w.heap.size + 1, 1, none⟩ = some (.int .i64 P1) := fun x => x.cell b1
  have z0 : ∀ x : Cl Ws, w.heap.size < x.w.heap.size := fun x => World.block_lt_of_cell? x.w _ (k0 x)
  have z1 : ∀ x : Cl Ws, w.heap.size + 1 < x.w.heap.size := fun x => World.block_lt_of_cell? x.w _ (k2 x)
  have hnx : ∀ w5, Below Ws.heap.size Ws w5 → ∃ y : Cl Ws, w5 = y.w := fun w5 h => ⟨⟨w5, h⟩, rfl⟩
  go_wp2_with (first
    | (go_at_call 9; (with_reducible refine (hX _).mono ?_); rintro x w5 ⟨rfl, hb5⟩; obtain ⟨y5, rfl⟩ := hnx _ hb5)
    | (go_at_call 9; (with_reducible refine (hY _).mono ?_); rintro x w6 ⟨rfl, hb6⟩; have bX := keepb hb6 (B := y5.w.heap.size) (x := .string X) (y := .int .i64 PX) (by simp [BoxD, go_sem]); obtain ⟨y6, rfl⟩ := Cl.after hb6; have hl5 : y5.w.heap.size < y6.w.heap.size := World.block_lt_of_cell? _ _ bX.1; obtain ⟨m0, m1, m2, m3⟩ := id bX)
    | (go_at_call 9; (with_reducible refine (hZ _).mono ?_); rintro x w7 ⟨rfl, hb7⟩; have bY := keepb hb7 (B := y6.w.heap.size) (x := .string Y) (y := .int .i64 PY) (by simp [BoxD, go_sem]); obtain ⟨y7, rfl⟩ := Cl.after hb7; have hl6 : y6.w.heap.size < y7.w.heap.size := World.block_lt_of_cell? _ _ bY.1; obtain ⟨n0, n1, n2, n3⟩ := id bY)
    | (go_at_call 10; (with_reducible refine (hd _).mono ?_); rintro x w8 ⟨rfl, hb8⟩; obtain ⟨y8, rfl⟩ := Cl.after hb8))
  go_ret
  refine ⟨?_, bel_call hbW y8.below (Nat.le_refl _)⟩
  first | rfl | simp [hd0]
theorem ordN_le {a b : Nat} (h : a ≤ b) : ordN a b ≤ 0 := by unfold ordN; split; decide; rw [if_neg (by omega)]; decide
/-- Two numbers that are no further apart than half a unit. -/
theorem half_any {v u Q : Nat} {p : Int} (hQ : p + 10000 = (Q : Int)) (gv : Good v) (gu : Good u) (gvv : Good (v + v)) (guu : Good (u + u)) (g1 : Good (10 ^ Q)) (gz1 : Good (v + v + 10 ^ Q)) (gz2 : Good (u + u + 10 ^ Q))
    (h1 : v + v ≤ u + u + 10 ^ Q) (h2 : u + u ≤ v + v + 10 ^ Q) (w : World) :
    Calls Tryd.prog 14 #[.agg #[.string (oS v), .int .i64 (oP v)], .agg #[.string (oS u), .int .i64 (oP u)], .int .i64 p] w fun x w' => x = .returned (.bool true) ∧ Below w.heap.size w w' := by
  obtain ⟨o1, o2⟩ := one_G p Q hQ
  have q0 := g1.p0
  have q1 := g1.p1
  rw [o2] at q0 q1
  by_cases h : v ≤ u
  · have hZ := addC gvv g1 gz1
    rw [o1, o2] at hZ
    exact half_up (cmpC gv gu) (ordN_le h) (addC gv gv gvv) (addC gu gu guu) hZ (cmpC guu gz1) (ordN_le h2) (by omega) (by omega) w
  · have hZ := addC guu g1 gz2
    rw [o1, o2] at hZ
    exact half_dn (cmpC gv gu) (by rw [ordN_gt (by omega)]; decide) (addC gu gu guu) (addC gv gv gvv) hZ (cmpC gvv gz2) (ordN_le h1) (by omega) (by omega) w
end Go.Proofs.YtjfoknhoehamhabDoor
