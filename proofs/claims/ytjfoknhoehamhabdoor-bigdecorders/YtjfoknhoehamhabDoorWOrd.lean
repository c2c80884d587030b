/- The walks of the law BigdecOrders. -/
import Derived.Test.YtjfoknhoehamhabDoorBLaw
namespace Go.Proofs.YtjfoknhoehamhabDoor
open Go.RowKit
set_option linter.unusedVariables false
set_option linter.unusedSimpArgs false

theorem bE_zero {a b : Int} : bE a b = 0 ↔ a = 0 ∧ b = 0 := by
  unfold bE
  by_cases h : a = 0
  · rw [if_pos h]; simp [h]
  · rw [if_neg h]; simp [h]
theorem ordN_cases (a b : Nat) : (ordN a b = -1 ∧ a < b) ∨ (ordN a b = 0 ∧ a = b) ∨ (ordN a b = 1 ∧ b < a) := by
  rcases Nat.lt_trichotomy a b with h | h | h
  · exact .inl ⟨ordN_lt h, h⟩
  · exact .inr (.inl ⟨ordN_eq h, h⟩)
  · exact .inr (.inr ⟨ordN_gt h, h⟩)
/-- Three decimals' boxes. -/
structure Ord3 (w W : World) (s1 s2 s3 : ByteArray) (p1 p2 p3 : Int) : Prop where
  a : BoxD W w.heap.size (.string s1) (.int .i64 p1)
  b : BoxD W (w.heap.size + 1) (.string s2) (.int .i64 p2)
  c : BoxD W (w.heap.size + 2) (.string s3) (.int .i64 p3)
  bel : Below w.heap.size w W
set_option maxRecDepth 1000000 in
set_option maxHeartbeats 1600000 in
theorem ord_err {s1 s2 s3 : ByteArray} {p1 p2 p3 ab ba bc ac e f g h : Int} (hab : CmpC s1 p1 s2 p2 ab e) (hba : CmpC s2 p2 s1 p1 ba f) (hbc : CmpC s2 p2 s3 p3 bc g) (hac : CmpC s1 p1 s3 p3 ac h)
    (hh : (¬ e = 0 ∧ ab = 0 ∧ ba = 0 ∧ (g = 0 ∨ (¬ g = 0 ∧ bc = 0))) ∨ (e = 0 ∧ ¬ g = 0 ∧ bc = 0)) (w : World) :
    Calls Tryd.prog 4 #[.agg #[.string s1, .int .i64 p1], .agg #[.string s2, .int .i64 p2], .agg #[.string s3, .int .i64 p3]] w fun x w' => x = .returned (.bool true) ∧ Below w.heap.size w w' := by
  have hL := lives4_any
  obtain ⟨W3, hW3⟩ : ∃ W3, ((w.alloc (.cells #[.string s1, .int .i64 p1] 24)).alloc (.cells #[.string s2, .int .i64 p2] 24)).alloc (.cells #[.string s3, .int .i64 p3] 24) = W3 := ⟨_, rfl⟩
  have bA : BoxD W3 w.heap.size (.string s1) (.int .i64 p1) := by rw [← hW3]; simp [BoxD, go_sem]
  have bB : BoxD W3 (w.heap.size + 1) (.string s2) (.int .i64 p2) := by rw [← hW3]; simp [BoxD, go_sem]
  have bC : BoxD W3 (w.heap.size + 2) (.string s3) (.int .i64 p3) := by rw [← hW3]; simp [BoxD, go_sem]
  have hbW : Below w.heap.size w W3 := by rw [← hW3]; go_grown
  obtain ⟨a0, a1, -, -⟩ := bA
  obtain ⟨b0, b1, -, -⟩ := bB
  obtain ⟨c0, c1, -, -⟩ := bC
  have k0 : ∀ x : Cl W3, x.w.cell? ⟨w.heap.size, 0, none⟩ = some (.string s1) := fun x => x.cell a0
  have k1 : ∀ x : Cl W3, x.w.cell? ⟨w.heap.size, 1, none⟩ = some (.int .i64 p1) := fun x => x.cell a1
  have k2 : ∀ x : Cl W3, x.w.cell? ⟨w.heap.size + 1, 0, none⟩ = some (.string s2) := fun x => x.cell b0
  have k3 : ∀ x : Cl W3, x.w.cell? ⟨w.heap.size + 1, 1, none⟩ = some (.int .i64 p2) := fun x => x.cell b1
  have k4 : ∀ x : Cl W3, x.w.cell? ⟨w.heap.size + 2, 0, none⟩ = some (.string s3) := fun x => x.cell c0
  have k5 : ∀ x : Cl W3, x.w.cell? ⟨w.heap.size + 2, 1, none⟩ = some (.int .i64 p3) := fun x => x.cell c1
  rcases hh with ⟨he, rfl, rfl, hg⟩ | ⟨rfl, hg, rfl⟩
  · have heb : (e != 0) = true := by simp [he]
    have hec : (e == 0) = false := by simp [he]
    rcases hg with rfl | ⟨hg, rfl⟩
    · go_enter Tryd.func4, Tryd.ntmps4
      go_wp2_with (first
        | (go_at_call 10; (with_reducible refine (Cl.go0 (hab _)).mono ?_); rintro x w9 ⟨y, rfl, rfl⟩)
        | (go_at_call 10; (with_reducible refine (Cl.go (hba _)).mono ?_); rintro x w9 ⟨y, rfl, rfl⟩)
        | (go_at_call 10; (with_reducible refine (Cl.go (hbc _)).mono ?_); rintro x w9 ⟨y, rfl, rfl⟩)
        | (go_at_call 10; (with_reducible refine (Cl.go (hac _)).mono ?_); rintro x w9 ⟨y, rfl, rfl⟩)
        | (go_at_call 8; refine (Cl.go (hL _)).mono ?_; rintro x w9 ⟨y, rfl, rfl⟩))
      go_ret
      exact ⟨rfl, bel_call hbW y.below (Nat.le_refl _)⟩
    · have hgb : (g == 0) = false := by simp [hg]
      go_enter Tryd.func4, Tryd.ntmps4
      go_wp2_with (first
        | (go_at_call 10; (with_reducible refine (Cl.go0 (hab _)).mono ?_); rintro x w9 ⟨y, rfl, rfl⟩)
        | (go_at_call 10; (with_reducible refine (Cl.go (hba _)).mono ?_); rintro x w9 ⟨y, rfl, rfl⟩)
        | (go_at_call 10; (with_reducible refine (Cl.go (hbc _)).mono ?_); rintro x w9 ⟨y, rfl, rfl⟩)
        | (go_at_call 10; (with_reducible refine (Cl.go (hac _)).mono ?_); rintro x w9 ⟨y, rfl, rfl⟩)
        | (go_at_call 8; refine (Cl.go (hL _)).mono ?_; rintro x w9 ⟨y, rfl, rfl⟩))
      go_ret
      exact ⟨rfl, bel_call hbW y.below (Nat.le_refl _)⟩
  · have hgb : (g != 0) = true := by simp [hg]
    have hgc : (g == 0) = false := by simp [hg]
    go_enter Tryd.func4, Tryd.ntmps4
    go_wp2_with (first
      | (go_at_call 10; (with_reducible refine (Cl.go0 (hab _)).mono ?_); rintro x w9 ⟨y, rfl, rfl⟩)
      | (go_at_call 10; (with_reducible refine (Cl.go (hba _)).mono ?_); rintro x w9 ⟨y, rfl, rfl⟩)
      | (go_at_call 10; (with_reducible refine (Cl.go (hbc _)).mono ?_); rintro x w9 ⟨y, rfl, rfl⟩)
      | (go_at_call 10; (with_reducible refine (Cl.go (hac _)).mono ?_); rintro x w9 ⟨y, rfl, rfl⟩)
      | (go_at_call 8; refine (Cl.go (hL _)).mono ?_; rintro x w9 ⟨y, rfl, rfl⟩))
    go_ret
    exact ⟨rfl, bel_call hbW y.below (Nat.le_refl _)⟩
set_option maxRecDepth 1000000 in
set_option maxHeartbeats 3200000 in
theorem ord_bad {s1 s2 s3 X Y : ByteArray} {p1 p2 p3 ab bc ac PX PY ex ey : Int} (hab : CmpC s1 p1 s2 p2 ab 0) (hba : CmpC s2 p2 s1 p1 (-ab) 0) (hbc : CmpC s2 p2 s3 p3 bc 0) (hac : CmpC s1 p1 s3 p3 ac 0) (hx : AddC s1 p1 s3 p3 X PX ex) (hy : AddC s2 p2 s3 p3 Y PY ey) (hz : AddC s3 p3 s1 p1 X PX ex) (hab0 : -1 ≤ ab) (hab1 : ab ≤ 1) (hmin : ab ≤ 0 → bc ≤ 0 → ac = min ab bc) (hbad : ¬ ex = 0 ∨ (ex = 0 ∧ ¬ ey = 0)) (w : World) :
    Calls Tryd.prog 4 #[.agg #[.string s1, .int .i64 p1], .agg #[.string s2, .int .i64 p2], .agg #[.string s3, .int .i64 p3]] w fun x w' => x = .returned (.bool true) ∧ Below w.heap.size w w' := by
  have hL := lives4_any
  obtain ⟨W3, hW3⟩ : ∃ W3, ((w.alloc (.cells #[.string s1, .int .i64 p1] 24)).alloc (.cells #[.string s2, .int .i64 p2] 24)).alloc (.cells #[.string s3, .int .i64 p3] 24) = W3 := ⟨_, rfl⟩
  have bA : BoxD W3 w.heap.size (.string s1) (.int .i64 p1) := by rw [← hW3]; simp [BoxD, go_sem]
  have bB : BoxD W3 (w.heap.size + 1) (.string s2) (.int .i64 p2) := by rw [← hW3]; simp [BoxD, go_sem]
  have bC : BoxD W3 (w.heap.size + 2) (.string s3) (.int .i64 p3) := by rw [← hW3]; simp [BoxD, go_sem]
  have hbW : Below w.heap.size w W3 := by rw [← hW3]; go_grown
  obtain ⟨a0, a1, -, -⟩ := bA
  obtain ⟨b0, b1, -, -⟩ := bB
  obtain ⟨c0, c1, -, -⟩ := bC
  have k0 : ∀ x : Cl W3, x.w.cell? ⟨w.heap.size, 0, none⟩ = some (.string s1) := fun x => x.cell a0
  have k1 : ∀ x : Cl W3, x.w.cell? ⟨w.heap.size, 1, none⟩ = some (.int .i64 p1) := fun x => x.cell a1
  have k2 : ∀ x : Cl W3, x.w.cell? ⟨w.heap.size + 1, 0, none⟩ = some (.string s2) := fun x => x.cell b0
  have k3 : ∀ x : Cl W3, x.w.cell? ⟨w.heap.size + 1, 1, none⟩ = some (.int .i64 p2) := fun x => x.cell b1
  have k4 : ∀ x : Cl W3, x.w.cell? ⟨w.heap.size + 2, 0, none⟩ = some (.string s3) := fun x => x.cell c0
  have k5 : ∀ x : Cl W3, x.w.cell? ⟨w.heap.size + 2, 1, none⟩ = some (.int .i64 p3) := fun x => x.cell c1
  have z0 : ∀ x : Cl W3, w.heap.size < x.w.heap.size := fun x => World.block_lt_of_cell? x.w _ (k0 x)
  have z1 : ∀ x : Cl W3, w.heap.size + 1 < x.w.heap.size := fun x => World.block_lt_of_cell? x.w _ (k2 x)
  have z2 : ∀ x : Cl W3, w.heap.size + 2 < x.w.heap.size := fun x => World.block_lt_of_cell? x.w _ (k4 x)
  have HM : Hid (ab ≤ 0 → bc ≤ 0 → ac = min ab bc) := hmin
  clear hmin
  go_enter Tryd.func4, Tryd.ntmps4
  go_upto_region 7 with (first
    | (go_at_call 10; (with_reducible refine (Cl.go0 (hab _)).mono ?_); rintro x w9 ⟨y, rfl, rfl⟩)
    | (go_at_call 10; (with_reducible refine (Cl.go (hba _)).mono ?_); rintro x w9 ⟨y, rfl, rfl⟩)
    | (go_at_call 10; (with_reducible refine (Cl.go (hbc _)).mono ?_); rintro x w9 ⟨y, rfl, rfl⟩)
    | (go_at_call 10; (with_reducible refine (Cl.go (hac _)).mono ?_); rintro x w9 ⟨y, rfl, rfl⟩))
  go_cut [96] (fun b wx => b = .bool false ∧ wx = y.w)
  case first =>
    as_aux_lemma =>
    by_cases h1 : ab ≤ 0
    · by_cases h2 : bc ≤ 0
      · have h3 := HM.out h1 h2
        subst h3
        go_wp2
        go_meet
        exact ⟨rfl, rfl⟩
      · go_wp2
        go_meet
        exact ⟨rfl, rfl⟩
    · go_wp2
      go_meet
      exact ⟨rfl, rfl⟩
  case rest =>
  obtain ⟨rfl, rfl⟩ := hcut
  clear HM
  rcases hbad with hex | ⟨rfl, hey⟩
  · have hexb : (ex != 0) = true := by simp [hex]
    go_wp2_with (first
      | (go_at_call 9; (with_reducible refine (hx _).mono ?_); rintro x w5 ⟨rfl, hb5⟩; obtain ⟨y5, rfl⟩ := Cl.next hb5)
      | (go_at_call 9; (with_reducible refine (hy _).mono ?_); rintro x w6 ⟨rfl, hb6⟩; have bX := keepb hb6 (B := y5.w.heap.size) (x := .string X) (y := .int .i64 PX) (by simp [BoxD, go_sem]); obtain ⟨y6, rfl⟩ := Cl.after hb6; have hl5 : y5.w.heap.size < y6.w.heap.size := World.block_lt_of_cell? _ _ bX.1)
      | (go_at_call 9; (with_reducible refine (hz _).mono ?_); rintro x w7 ⟨rfl, hb7⟩; have bX7 := keepb hb7 (B := y5.w.heap.size) (x := .string X) (y := .int .i64 PX) (by obtain ⟨q0, q1, q2, q3⟩ := bX; simp [BoxD, go_sem, q0, q1, q2, q3, hl5]); have bY7 := keepb hb7 (B := y6.w.heap.size) (x := .string Y) (y := .int .i64 PY) (by simp [BoxD, go_sem]); obtain ⟨y7, rfl⟩ := Cl.after hb7; have hl57 : y5.w.heap.size < y7.w.heap.size := World.block_lt_of_cell? _ _ bX7.1; have hl67 : y6.w.heap.size < y7.w.heap.size := World.block_lt_of_cell? _ _ bY7.1; obtain ⟨m0, m1, m2, m3⟩ := id bX7; obtain ⟨n0, n1, n2, n3⟩ := id bY7)
      | (go_at_call 8; refine (hL _).mono ?_; rintro x w8 ⟨rfl, hb8⟩; obtain ⟨y8, rfl⟩ := Cl.after hb8))
    go_ret
    exact ⟨rfl, bel_call hbW y8.below (Nat.le_refl _)⟩
  · have heyb : (ey != 0) = true := by simp [hey]
    go_wp2_with (first
      | (go_at_call 9; (with_reducible refine (hx _).mono ?_); rintro x w5 ⟨rfl, hb5⟩; obtain ⟨y5, rfl⟩ := Cl.next hb5)
      | (go_at_call 9; (with_reducible refine (hy _).mono ?_); rintro x w6 ⟨rfl, hb6⟩; have bX := keepb hb6 (B := y5.w.heap.size) (x := .string X) (y := .int .i64 PX) (by simp [BoxD, go_sem]); obtain ⟨y6, rfl⟩ := Cl.after hb6; have hl5 : y5.w.heap.size < y6.w.heap.size := World.block_lt_of_cell? _ _ bX.1)
      | (go_at_call 9; (with_reducible refine (hz _).mono ?_); rintro x w7 ⟨rfl, hb7⟩; have bX7 := keepb hb7 (B := y5.w.heap.size) (x := .string X) (y := .int .i64 PX) (by obtain ⟨q0, q1, q2, q3⟩ := bX; simp [BoxD, go_sem, q0, q1, q2, q3, hl5]); have bY7 := keepb hb7 (B := y6.w.heap.size) (x := .string Y) (y := .int .i64 PY) (by simp [BoxD, go_sem]); obtain ⟨y7, rfl⟩ := Cl.after hb7; have hl57 : y5.w.heap.size < y7.w.heap.size := World.block_lt_of_cell? _ _ bX7.1; have hl67 : y6.w.heap.size < y7.w.heap.size := World.block_lt_of_cell? _ _ bY7.1; obtain ⟨m0, m1, m2, m3⟩ := id bX7; obtain ⟨n0, n1, n2, n3⟩ := id bY7)
      | (go_at_call 8; refine (hL _).mono ?_; rintro x w8 ⟨rfl, hb8⟩; obtain ⟨y8, rfl⟩ := Cl.after hb8))
    go_ret
    exact ⟨rfl, bel_call hbW y8.below (Nat.le_refl _)⟩
set_option maxRecDepth 1000000 in
set_option maxHeartbeats 3200000 in
theorem ord_good {s1 s2 s3 X Y : ByteArray} {p1 p2 p3 ab bc ac PX PY XY e4 : Int} (hab : CmpC s1 p1 s2 p2 ab 0) (hba : CmpC s2 p2 s1 p1 (-ab) 0) (hbc : CmpC s2 p2 s3 p3 bc 0) (hac : CmpC s1 p1 s3 p3 ac 0) (hx : AddC s1 p1 s3 p3 X PX 0) (hy : AddC s2 p2 s3 p3 Y PY 0) (hz : AddC s3 p3 s1 p1 X PX 0) (hab0 : -1 ≤ ab) (hab1 : ab ≤ 1) (hmin : ab ≤ 0 → bc ≤ 0 → ac = min ab bc) (hxy : CmpC X PX Y PY XY e4) (h4 : e4 = 0 → XY = ab) (w : World) :
    Calls Tryd.prog 4 #[.agg #[.string s1, .int .i64 p1], .agg #[.string s2, .int .i64 p2], .agg #[.string s3, .int .i64 p3]] w fun x w' => x = .returned (.bool true) ∧ Below w.heap.size w w' := by
  have hL := lives4_any
  obtain ⟨W3, hW3⟩ : ∃ W3, ((w.alloc (.cells #[.string s1, .int .i64 p1] 24)).alloc (.cells #[.string s2, .int .i64 p2] 24)).alloc (.cells #[.string s3, .int .i64 p3] 24) = W3 := ⟨_, rfl⟩
  have bA : BoxD W3 w.heap.size (.string s1) (.int .i64 p1) := by rw [← hW3]; simp [BoxD, go_sem]
  have bB : BoxD W3 (w.heap.size + 1) (.string s2) (.int .i64 p2) := by rw [← hW3]; simp [BoxD, go_sem]
  have bC : BoxD W3 (w.heap.size + 2) (.string s3) (.int .i64 p3) := by rw [← hW3]; simp [BoxD, go_sem]
  have hbW : Below w.heap.size w W3 := by rw [← hW3]; go_grown
  obtain ⟨a0, a1, -, -⟩ := bA
  obtain ⟨b0, b1, -, -⟩ := bB
  obtain ⟨c0, c1, -, -⟩ := bC
  have k0 : ∀ x : Cl W3, x.w.cell? ⟨w.heap.size, 0, none⟩ = some (.string s1) := fun x => x.cell a0
  have k1 : ∀ x : Cl W3, x.w.cell? ⟨w.heap.size, 1, none⟩ = some (.int .i64 p1) := fun x => x.cell a1
  have k2 : ∀ x : Cl W3, x.w.cell? ⟨w.heap.size + 1, 0, none⟩ = some (.string s2) := fun x => x.cell b0
  have k3 : ∀ x : Cl W3, x.w.cell? ⟨w.heap.size + 1, 1, none⟩ = some (.int .i64 p2) := fun x => x.cell b1
  have k4 : ∀ x : Cl W3, x.w.cell? ⟨w.heap.size + 2, 0, none⟩ = some (.string s3) := fun x => x.cell c0
  have k5 : ∀ x : Cl W3, x.w.cell? ⟨w.heap.size + 2, 1, none⟩ = some (.int .i64 p3) := fun x => x.cell c1
  have z0 : ∀ x : Cl W3, w.heap.size < x.w.heap.size := fun x => World.block_lt_of_cell? x.w _ (k0 x)
  have z1 : ∀ x : Cl W3, w.heap.size + 1 < x.w.heap.size := fun x => World.block_lt_of_cell? x.w _ (k2 x)
  have z2 : ∀ x : Cl W3, w.heap.size + 2 < x.w.heap.size := fun x => World.block_lt_of_cell? x.w _ (k4 x)
  have HM : Hid (ab ≤ 0 → bc ≤ 0 → ac = min ab bc) := hmin
  clear hmin
  go_enter Tryd.func4, Tryd.ntmps4
  go_upto_region 7 with (first
    | (go_at_call 10; (with_reducible refine (Cl.go0 (hab _)).mono ?_); rintro x w9 ⟨y, rfl, rfl⟩)
    | (go_at_call 10; (with_reducible refine (Cl.go (hba _)).mono ?_); rintro x w9 ⟨y, rfl, rfl⟩)
    | (go_at_call 10; (with_reducible refine (Cl.go (hbc _)).mono ?_); rintro x w9 ⟨y, rfl, rfl⟩)
    | (go_at_call 10; (with_reducible refine (Cl.go (hac _)).mono ?_); rintro x w9 ⟨y, rfl, rfl⟩))
  go_cut [96] (fun b wx => b = .bool false ∧ wx = y.w)
  case first =>
    as_aux_lemma =>
    by_cases h1 : ab ≤ 0
    · by_cases h2 : bc ≤ 0
      · have h3 := HM.out h1 h2
        subst h3
        go_wp2
        go_meet
        exact ⟨rfl, rfl⟩
      · go_wp2
        go_meet
        exact ⟨rfl, rfl⟩
    · go_wp2
      go_meet
      exact ⟨rfl, rfl⟩
  case rest =>
  obtain ⟨rfl, rfl⟩ := hcut
  clear HM
  have H4 : Hid (e4 = 0 → XY = ab) := h4
  clear h4
  by_cases he4 : e4 = 0
  · subst he4
    have hq := H4.out rfl
    subst hq
    go_wp2_with (first
      | (go_at_call 9; (with_reducible refine (hx _).mono ?_); rintro x w5 ⟨rfl, hb5⟩; obtain ⟨y5, rfl⟩ := Cl.next hb5)
      | (go_at_call 9; (with_reducible refine (hy _).mono ?_); rintro x w6 ⟨rfl, hb6⟩; have bX := keepb hb6 (B := y5.w.heap.size) (x := .string X) (y := .int .i64 PX) (by simp [BoxD, go_sem]); obtain ⟨y6, rfl⟩ := Cl.after hb6; have hl5 : y5.w.heap.size < y6.w.heap.size := World.block_lt_of_cell? _ _ bX.1)
      | (go_at_call 9; (with_reducible refine (hz _).mono ?_); rintro x w7 ⟨rfl, hb7⟩; have bX7 := keepb hb7 (B := y5.w.heap.size) (x := .string X) (y := .int .i64 PX) (by obtain ⟨q0, q1, q2, q3⟩ := bX; simp [BoxD, go_sem, q0, q1, q2, q3, hl5]); have bY7 := keepb hb7 (B := y6.w.heap.size) (x := .string Y) (y := .int .i64 PY) (by simp [BoxD, go_sem]); obtain ⟨y7, rfl⟩ := Cl.after hb7; have hl57 : y5.w.heap.size < y7.w.heap.size := World.block_lt_of_cell? _ _ bX7.1; have hl67 : y6.w.heap.size < y7.w.heap.size := World.block_lt_of_cell? _ _ bY7.1; obtain ⟨m0, m1, m2, m3⟩ := id bX7; obtain ⟨n0, n1, n2, n3⟩ := id bY7)
      | (go_at_call 10; (with_reducible refine (hxy _).mono ?_); rintro x w8 ⟨rfl, hb8⟩; obtain ⟨e0, e1, e2, e3⟩ := keepb hb8 (B := y5.w.heap.size) (x := .string X) (y := .int .i64 PX) (by simp [BoxD, go_sem, m0, m1, m2, m3, hl57]); obtain ⟨g0, g1, g2, g3⟩ := keepb hb8 (B := y7.w.heap.size) (x := .string X) (y := .int .i64 PX) (by simp [BoxD, go_sem]); obtain ⟨y8, rfl⟩ := Cl.after hb8)
      | (go_at_call 8; refine (Cl.go (hL _)).mono ?_; rintro x w9 ⟨y9, rfl, rfl⟩))
    go_ret
    exact ⟨rfl, bel_call hbW y9.below (Nat.le_refl _)⟩
  · have he4b : (e4 == 0) = false := by simp [he4]
    go_wp2_with (first
      | (go_at_call 9; (with_reducible refine (hx _).mono ?_); rintro x w5 ⟨rfl, hb5⟩; obtain ⟨y5, rfl⟩ := Cl.next hb5)
      | (go_at_call 9; (with_reducible refine (hy _).mono ?_); rintro x w6 ⟨rfl, hb6⟩; have bX := keepb hb6 (B := y5.w.heap.size) (x := .string X) (y := .int .i64 PX) (by simp [BoxD, go_sem]); obtain ⟨y6, rfl⟩ := Cl.after hb6; have hl5 : y5.w.heap.size < y6.w.heap.size := World.block_lt_of_cell? _ _ bX.1)
      | (go_at_call 9; (with_reducible refine (hz _).mono ?_); rintro x w7 ⟨rfl, hb7⟩; have bX7 := keepb hb7 (B := y5.w.heap.size) (x := .string X) (y := .int .i64 PX) (by obtain ⟨q0, q1, q2, q3⟩ := bX; simp [BoxD, go_sem, q0, q1, q2, q3, hl5]); have bY7 := keepb hb7 (B := y6.w.heap.size) (x := .string Y) (y := .int .i64 PY) (by simp [BoxD, go_sem]); obtain ⟨y7, rfl⟩ := Cl.after hb7; have hl57 : y5.w.heap.size < y7.w.heap.size := World.block_lt_of_cell? _ _ bX7.1; have hl67 : y6.w.heap.size < y7.w.heap.size := World.block_lt_of_cell? _ _ bY7.1; obtain ⟨m0, m1, m2, m3⟩ := id bX7; obtain ⟨n0, n1, n2, n3⟩ := id bY7)
      | (go_at_call 10; (with_reducible refine (hxy _).mono ?_); rintro x w8 ⟨rfl, hb8⟩; obtain ⟨e0, e1, e2, e3⟩ := keepb hb8 (B := y5.w.heap.size) (x := .string X) (y := .int .i64 PX) (by simp [BoxD, go_sem, m0, m1, m2, m3, hl57]); obtain ⟨g0, g1, g2, g3⟩ := keepb hb8 (B := y7.w.heap.size) (x := .string X) (y := .int .i64 PX) (by simp [BoxD, go_sem]); obtain ⟨y8, rfl⟩ := Cl.after hb8)
      | (go_at_call 8; refine (Cl.go (hL _)).mono ?_; rintro x w9 ⟨y9, rfl, rfl⟩))
    go_ret
    exact ⟨rfl, bel_call hbW y9.below (Nat.le_refl _)⟩
end Go.Proofs.YtjfoknhoehamhabDoor
