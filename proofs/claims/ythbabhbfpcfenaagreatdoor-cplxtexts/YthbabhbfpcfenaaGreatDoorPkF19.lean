/- SWalkG: these texts in one. -/
import Derived.Test.YthbabhbfpcfenaaGreatDoorPkF18
/- The walks of package short: Parts, Shortest. -/
namespace Go.Proofs.YthbabhbfpcfenaaGreatDoor
open Go.RowKit
set_option linter.unusedVariables false
set_option linter.unusedSimpArgs false

/-- The pattern without its sign bit. -/
def bare (f ww bits : Nat) : Nat := bits % 2 ^ (f + ww)
def sgn (f ww bits : Nat) : Bool := decide (bits / 2 ^ (f + ww) % 2 = 1)
/-- What Parts answers of a size: m, e, what it is. -/
def ptM (f ww I bits : Nat) : Nat := if bare f ww bits < I then pm f (bare f ww bits) else 0
def ptE (f ww I : Nat) (least : Int) (bits : Nat) : Int := if bare f ww bits < I then least + pk f (bare f ww bits) else 0
def ptK (f ww I bits : Nat) : Int := if bare f ww bits < I then 0 else if bare f ww bits = I then 1 else 2
theorem bare_lt {size : Int} {f ww : Nat} {least : Int} {I : Nat} (h : Ly size f ww least I) (bits : Nat) : bare f ww bits < 9300000000000000000 := by
  rcases h with ⟨-, rfl, rfl, -, -⟩ | ⟨-, rfl, rfl, -, -⟩
  · have : bare 23 8 bits = bits % 2147483648 := rfl
    omega
  · have : bare 52 11 bits = bits % 9223372036854775808 := rfl
    omega
set_option maxRecDepth 1000000 in
theorem parts_size {bits : Nat} {size : Int} (h1 : ¬ size = 32) (h2 : ¬ size = 64) (w : World) :
    Calls Tryz.prog 22 #[.int .u64 bits, .int .i64 size] w fun e w' => e = .returned (.tuple #[.bool false, .int .u64 0, .int .i64 0, .int .i64 3]) ∧ Below w.heap.size w w' := by
  have hL := fun w => layout_no size w h1 h2
  go_enter Tryz.func22, Tryz.ntmps22
  go_wp2_with (go_at_call 43; refine (hL _).mono ?_; rintro x w2 ⟨rfl, hb2⟩)
  go_returns
  exact ⟨rfl, hb2.alloc hb2.size _⟩
set_option maxRecDepth 1000000 in
set_option maxHeartbeats 1600000 in
theorem parts_any {bits : Nat} {size : Int} {f ww : Nat} {least : Int} {I : Nat} (h : Ly size f ww least I) (hb : bits < 18446744073709551616) (w : World) :
    Calls Tryz.prog 22 #[.int .u64 bits, .int .i64 size] w fun e w' => e = .returned (.tuple #[.bool (sgn f ww bits), .int .u64 (ptM f ww I bits), .int .i64 (ptE f ww I least bits), .int .i64 (ptK f ww I bits)]) ∧ Below w.heap.size w w' := by
  have hL := fun w => layout_any h w
  have hS := fun w => split_any h bits w hb
  have hF := fun w => inf_any h w
  have hlt := bare_lt h bits
  obtain ⟨-, -, hI, -⟩ := h.pk
  have eb : bits % 2 ^ (f + ww) = bare f ww bits := rfl
  have es : decide (bits / 2 ^ (f + ww) % 2 = 1) = sgn f ww bits := rfl
  rw [eb, es] at hS
  have hM : bare f ww bits < I → ∀ w, _ := fun hp w => finite_any h (bare f ww bits) w hp
  unfold ptM ptE ptK
  generalize bare f ww bits = p at *
  generalize sgn f ww bits = sg at *
  clear es eb
  rcases Nat.lt_trichotomy p I with hp | hp | hp
  · rw [if_pos hp, if_pos hp, if_pos hp]
    have hM := hM hp
    have hpI : (p : Int) < I := by omega
    have b1 : ((p : Int) == (I : Int)) = false := by simp; omega
    generalize pm f p = m at *
    generalize least + (pk f p : Int) = e at *
    go_enter Tryz.func22, Tryz.ntmps22
    go_wp2_with (first
      | (go_at_call 43; refine (hL _).mono ?_; rintro x w2 ⟨rfl, hb2⟩; obtain ⟨W2, hW2⟩ : ∃ W2, w2.alloc (.cells #[.int .i64 ww, .int .i64 f, .int .i64 least] 63) = W2 := ⟨_, rfl⟩; have hbW := hb2.alloc hb2.size (.cells #[.int .i64 ww, .int .i64 f, .int .i64 least] 63); have d0 : W2.cell? ⟨w2.heap.size, 0, none⟩ = some (.int .i64 ww) := (by rw [← hW2]; simp [go_sem]); have d1 : W2.cell? ⟨w2.heap.size, 1, none⟩ = some (.int .i64 f) := (by rw [← hW2]; simp [go_sem]); have d2 : W2.cell? ⟨w2.heap.size, 2, none⟩ = some (.int .i64 least) := (by rw [← hW2]; simp [go_sem]); rw [hW2] at hbW; have c0 : ∀ x : Cl W2, x.w.cell? ⟨w2.heap.size, 0, none⟩ = some (.int .i64 ww) := (fun x => x.cell d0); have c1 : ∀ x : Cl W2, x.w.cell? ⟨w2.heap.size, 1, none⟩ = some (.int .i64 f) := (fun x => x.cell d1); have c2 : ∀ x : Cl W2, x.w.cell? ⟨w2.heap.size, 2, none⟩ = some (.int .i64 least) := (fun x => x.cell d2))
      | (go_at_call 44; (with_reducible refine (Cl.go0 (hS _)).mono ?_); rintro x w9 ⟨y3, rfl, rfl⟩)
      | (go_at_call 45; (with_reducible refine (Cl.go (hF _)).mono ?_); rintro x w9 ⟨y4, rfl, rfl⟩)
      | (go_at_call 46; (with_reducible refine (Cl.go (hM _)).mono ?_); rintro x w9 ⟨y5, rfl, rfl⟩))
    go_returns
    exact ⟨rfl, bel_call hbW y5.below (Nat.le_refl _)⟩
  · rw [if_neg (by omega), if_neg (by omega), if_neg (by omega), if_pos hp]
    clear hM
    subst hp
    go_enter Tryz.func22, Tryz.ntmps22
    go_wp2_with (first
      | (go_at_call 43; refine (hL _).mono ?_; rintro x w2 ⟨rfl, hb2⟩; obtain ⟨W2, hW2⟩ : ∃ W2, w2.alloc (.cells #[.int .i64 ww, .int .i64 f, .int .i64 least] 63) = W2 := ⟨_, rfl⟩; have hbW := hb2.alloc hb2.size (.cells #[.int .i64 ww, .int .i64 f, .int .i64 least] 63); have d0 : W2.cell? ⟨w2.heap.size, 0, none⟩ = some (.int .i64 ww) := (by rw [← hW2]; simp [go_sem]); have d1 : W2.cell? ⟨w2.heap.size, 1, none⟩ = some (.int .i64 f) := (by rw [← hW2]; simp [go_sem]); have d2 : W2.cell? ⟨w2.heap.size, 2, none⟩ = some (.int .i64 least) := (by rw [← hW2]; simp [go_sem]); rw [hW2] at hbW; have c0 : ∀ x : Cl W2, x.w.cell? ⟨w2.heap.size, 0, none⟩ = some (.int .i64 ww) := (fun x => x.cell d0); have c1 : ∀ x : Cl W2, x.w.cell? ⟨w2.heap.size, 1, none⟩ = some (.int .i64 f) := (fun x => x.cell d1); have c2 : ∀ x : Cl W2, x.w.cell? ⟨w2.heap.size, 2, none⟩ = some (.int .i64 least) := (fun x => x.cell d2))
      | (go_at_call 44; (with_reducible refine (Cl.go0 (hS _)).mono ?_); rintro x w9 ⟨y3, rfl, rfl⟩)
      | (go_at_call 45; (with_reducible refine (Cl.go (hF _)).mono ?_); rintro x w9 ⟨y4, rfl, rfl⟩))
    go_returns
    exact ⟨rfl, bel_call hbW y4.below (Nat.le_refl _)⟩
  · rw [if_neg (by omega), if_neg (by omega), if_neg (by omega), if_neg (by omega)]
    clear hM
    have hpI : (I : Int) < p := by omega
    have b1 : ((p : Int) == (I : Int)) = false := by simp; omega
    go_enter Tryz.func22, Tryz.ntmps22
    go_wp2_with (first
      | (go_at_call 43; refine (hL _).mono ?_; rintro x w2 ⟨rfl, hb2⟩; obtain ⟨W2, hW2⟩ : ∃ W2, w2.alloc (.cells #[.int .i64 ww, .int .i64 f, .int .i64 least] 63) = W2 := ⟨_, rfl⟩; have hbW := hb2.alloc hb2.size (.cells #[.int .i64 ww, .int .i64 f, .int .i64 least] 63); have d0 : W2.cell? ⟨w2.heap.size, 0, none⟩ = some (.int .i64 ww) := (by rw [← hW2]; simp [go_sem]); have d1 : W2.cell? ⟨w2.heap.size, 1, none⟩ = some (.int .i64 f) := (by rw [← hW2]; simp [go_sem]); have d2 : W2.cell? ⟨w2.heap.size, 2, none⟩ = some (.int .i64 least) := (by rw [← hW2]; simp [go_sem]); rw [hW2] at hbW; have c0 : ∀ x : Cl W2, x.w.cell? ⟨w2.heap.size, 0, none⟩ = some (.int .i64 ww) := (fun x => x.cell d0); have c1 : ∀ x : Cl W2, x.w.cell? ⟨w2.heap.size, 1, none⟩ = some (.int .i64 f) := (fun x => x.cell d1); have c2 : ∀ x : Cl W2, x.w.cell? ⟨w2.heap.size, 2, none⟩ = some (.int .i64 least) := (fun x => x.cell d2))
      | (go_at_call 44; (with_reducible refine (Cl.go0 (hS _)).mono ?_); rintro x w9 ⟨y3, rfl, rfl⟩)
      | (go_at_call 45; (with_reducible refine (Cl.go (hF _)).mono ?_); rintro x w9 ⟨y4, rfl, rfl⟩))
    go_returns
    exact ⟨rfl, bel_call hbW y4.below (Nat.le_refl _)⟩
set_option maxRecDepth 1000000 in
theorem short_size {bits : Nat} {size : Int} (h1 : ¬ size = 32) (h2 : ¬ size = 64) (w : World) :
    Calls Tryz.prog 115 #[.int .u64 bits, .int .i64 size] w fun e w' => e = .returned (.tuple #[.agg #[.string ⟨#[]⟩, .int .i64 0], .int .i64 1]) ∧ Below w.heap.size w w' := by
  have hL := fun w => layout_no size w h1 h2
  go_enter Tryz.func115, Tryz.ntmps115
  go_wp2_with (go_at_call 43; refine (hL _).mono ?_; rintro x w2 ⟨rfl, hb2⟩; obtain ⟨r0, r1, r2, r3⟩ := keepb hb2 (B := w.heap.size) (x := .string ⟨#[]⟩) (y := .int .i64 0) (by simp [BoxD, go_sem]); have hlt : w.heap.size < w2.heap.size := World.block_lt_of_cell? w2 _ r0)
  refine bodyPost_ret (by simp [results, Tryz.results115, go_sem, cs_same, r0, r1, hlt]; rfl) rfl ?_
  refine ⟨rfl, ?_⟩
  have h := bel_call (B := w.heap.size) (w := w) (by go_grown) hb2 (Nat.le_refl _)
  have hs := (h.setCell (p := ⟨w.heap.size, 0, none⟩) (Nat.le_refl _) (.string ⟨#[]⟩)).setCell (p := ⟨w.heap.size, 1, none⟩) (Nat.le_refl _) (.int .i64 0)
  exact hs.alloc hs.size _
set_option maxRecDepth 1000000 in
set_option maxHeartbeats 1600000 in
theorem short_none {bits : Nat} {size : Int} {f ww : Nat} {least : Int} {I : Nat} (h : Ly size f ww least I) (hb : bits < 18446744073709551616) (hp : I ≤ bare f ww bits ∨ bare f ww bits = 0) (w : World) :
    Calls Tryz.prog 115 #[.int .u64 bits, .int .i64 size] w fun e w' => e = .returned (.tuple #[.agg #[.string ⟨#[]⟩, .int .i64 0], .int .i64 (if bare f ww bits = 0 then 0 else 1)]) ∧ Below w.heap.size w w' := by
  have hL := fun w => layout_any h w
  have hS := fun w => split_any h bits w hb
  have hF := fun w => inf_any h w
  have hlt := bare_lt h bits
  obtain ⟨-, -, hI, hI2, -⟩ := h.pk
  have eb : bits % 2 ^ (f + ww) = bare f ww bits := rfl
  have es : decide (bits / 2 ^ (f + ww) % 2 = 1) = sgn f ww bits := rfl
  rw [eb, es] at hS
  generalize bare f ww bits = p at *
  generalize sgn f ww bits = sg at *
  clear es eb
  by_cases hz : p = 0
  · rw [if_pos hz]
    subst hz
    have hpI : ¬ (I : Int) ≤ 0 := by omega
    go_enter Tryz.func115, Tryz.ntmps115
    go_wp2_with (first
      | (go_at_call 43; refine (hL _).mono ?_; rintro x w2 ⟨rfl, hb2⟩; have bR2 := keepb hb2 (B := w.heap.size) (x := .string ⟨#[]⟩) (y := .int .i64 0) (by simp [BoxD, go_sem]); have hbw2 := bel_call (B := w.heap.size) (w := w) (by go_grown) hb2 (Nat.le_refl _); obtain ⟨W2, hW2⟩ : ∃ W2, w2.alloc (.cells #[.int .i64 ww, .int .i64 f, .int .i64 least] 63) = W2 := ⟨_, rfl⟩; have bR := keepb ((Below.refl _ _).alloc (Nat.le_refl _) (.cells #[.int .i64 ww, .int .i64 f, .int .i64 least] 63)) bR2; have hbW := hbw2.alloc hbw2.size (.cells #[.int .i64 ww, .int .i64 f, .int .i64 least] 63); have d0 : W2.cell? ⟨w2.heap.size, 0, none⟩ = some (.int .i64 ww) := (by rw [← hW2]; simp [go_sem]); have d1 : W2.cell? ⟨w2.heap.size, 1, none⟩ = some (.int .i64 f) := (by rw [← hW2]; simp [go_sem]); have d2 : W2.cell? ⟨w2.heap.size, 2, none⟩ = some (.int .i64 least) := (by rw [← hW2]; simp [go_sem]); rw [hW2] at bR hbW; have c0 : ∀ x : Cl W2, x.w.cell? ⟨w2.heap.size, 0, none⟩ = some (.int .i64 ww) := (fun x => x.cell d0); have c1 : ∀ x : Cl W2, x.w.cell? ⟨w2.heap.size, 1, none⟩ = some (.int .i64 f) := (fun x => x.cell d1); have c2 : ∀ x : Cl W2, x.w.cell? ⟨w2.heap.size, 2, none⟩ = some (.int .i64 least) := (fun x => x.cell d2); obtain ⟨e0, e1, e2, e3⟩ := id bR; have hz : w.heap.size < W2.heap.size := World.block_lt_of_cell? W2 _ e0; have r0 : ∀ x : Cl W2, x.w.cell? ⟨w.heap.size, 0, none⟩ = some (.string ⟨#[]⟩) := (fun x => x.cell e0); have r1 : ∀ x : Cl W2, x.w.cell? ⟨w.heap.size, 1, none⟩ = some (.int .i64 0) := (fun x => x.cell e1); have r2 : ∀ x : Cl W2, x.w.frozen? ⟨w.heap.size, 0, none⟩ = false := (fun x => x.froz hz e2); have r3 : ∀ x : Cl W2, x.w.frozen? ⟨w.heap.size, 1, none⟩ = false := (fun x => x.froz hz e3))
      | (go_at_call 44; (with_reducible refine (Cl.go0 (hS _)).mono ?_); rintro x w9 ⟨y3, rfl, rfl⟩)
      | (go_at_call 45; (with_reducible refine (Cl.go (hF _)).mono ?_); rintro x w9 ⟨y4, rfl, rfl⟩))
    refine bodyPost_ret (by simp [results, Tryz.results115, go_sem, cs_same, r0 y4, r1 y4]; rfl) rfl ?_
    have hh := bel_call hbW y4.below (Nat.le_refl _)
    exact ⟨rfl, (hh.setCell (p := ⟨w.heap.size, 0, none⟩) (Nat.le_refl _) _).setCell (p := ⟨w.heap.size, 1, none⟩) (Nat.le_refl _) _⟩
  · rw [if_neg hz]
    have hpI : (I : Int) ≤ p := by omega
    go_enter Tryz.func115, Tryz.ntmps115
    go_wp2_with (first
      | (go_at_call 43; refine (hL _).mono ?_; rintro x w2 ⟨rfl, hb2⟩; have bR2 := keepb hb2 (B := w.heap.size) (x := .string ⟨#[]⟩) (y := .int .i64 0) (by simp [BoxD, go_sem]); have hbw2 := bel_call (B := w.heap.size) (w := w) (by go_grown) hb2 (Nat.le_refl _); obtain ⟨W2, hW2⟩ : ∃ W2, w2.alloc (.cells #[.int .i64 ww, .int .i64 f, .int .i64 least] 63) = W2 := ⟨_, rfl⟩; have bR := keepb ((Below.refl _ _).alloc (Nat.le_refl _) (.cells #[.int .i64 ww, .int .i64 f, .int .i64 least] 63)) bR2; have hbW := hbw2.alloc hbw2.size (.cells #[.int .i64 ww, .int .i64 f, .int .i64 least] 63); have d0 : W2.cell? ⟨w2.heap.size, 0, none⟩ = some (.int .i64 ww) := (by rw [← hW2]; simp [go_sem]); have d1 : W2.cell? ⟨w2.heap.size, 1, none⟩ = some (.int .i64 f) := (by rw [← hW2]; simp [go_sem]); have d2 : W2.cell? ⟨w2.heap.size, 2, none⟩ = some (.int .i64 least) := (by rw [← hW2]; simp [go_sem]); rw [hW2] at bR hbW; have c0 : ∀ x : Cl W2, x.w.cell? ⟨w2.heap.size, 0, none⟩ = some (.int .i64 ww) := (fun x => x.cell d0); have c1 : ∀ x : Cl W2, x.w.cell? ⟨w2.heap.size, 1, none⟩ = some (.int .i64 f) := (fun x => x.cell d1); have c2 : ∀ x : Cl W2, x.w.cell? ⟨w2.heap.size, 2, none⟩ = some (.int .i64 least) := (fun x => x.cell d2); obtain ⟨e0, e1, e2, e3⟩ := id bR; have hz : w.heap.size < W2.heap.size := World.block_lt_of_cell? W2 _ e0; have r0 : ∀ x : Cl W2, x.w.cell? ⟨w.heap.size, 0, none⟩ = some (.string ⟨#[]⟩) := (fun x => x.cell e0); have r1 : ∀ x : Cl W2, x.w.cell? ⟨w.heap.size, 1, none⟩ = some (.int .i64 0) := (fun x => x.cell e1); have r2 : ∀ x : Cl W2, x.w.frozen? ⟨w.heap.size, 0, none⟩ = false := (fun x => x.froz hz e2); have r3 : ∀ x : Cl W2, x.w.frozen? ⟨w.heap.size, 1, none⟩ = false := (fun x => x.froz hz e3))
      | (go_at_call 44; (with_reducible refine (Cl.go0 (hS _)).mono ?_); rintro x w9 ⟨y3, rfl, rfl⟩)
      | (go_at_call 45; (with_reducible refine (Cl.go (hF _)).mono ?_); rintro x w9 ⟨y4, rfl, rfl⟩))
    refine bodyPost_ret (by simp [results, Tryz.results115, go_sem, cs_same, r0 y4, r1 y4]; rfl) rfl ?_
    have hh := bel_call hbW y4.below (Nat.le_refl _)
    exact ⟨rfl, (hh.setCell (p := ⟨w.heap.size, 0, none⟩) (Nat.le_refl _) _).setCell (p := ⟨w.heap.size, 1, none⟩) (Nat.le_refl _) _⟩
theorem hasB_iff {f I p x : Nat} {least : Int} (h0 : p ≠ 0) (hp : p < I) : hasB (decide (p % 2 = 0)) (ordN x (mid f least (p - 1))) (ordN x (mid f least p)) = true ↔ RD f I (un least) x p := by
  rw [RD_bounds h0 hp]
  have e1 : pa f (p - 1) * un least = mid f least (p - 1) := rfl
  have e2 : pa f p * un least = mid f least p := rfl
  rw [e1, e2]
  generalize mid f least (p - 1) = a at *
  generalize mid f least p = b at *
  unfold hasB ordN
  by_cases he : p % 2 = 0
  · rw [if_pos (decide_eq_true he), if_pos he]
    simp only [Bool.and_eq_true, decide_eq_true_eq]
    constructor
    · rintro ⟨h1, h2⟩
      refine ⟨?_, ?_⟩
      · rcases Nat.lt_or_ge x a with k | k
        · rw [if_pos k] at h1; omega
        · exact k
      · rcases Nat.lt_or_ge b x with k | k
        · rw [if_neg (by omega), if_pos k] at h2; omega
        · exact k
    · rintro ⟨h1, h2⟩
      refine ⟨?_, ?_⟩
      · rw [if_neg (by omega)]; split <;> decide
      · split
        · decide
        · rw [if_neg (by omega)]; decide
  · rw [if_neg (by simp [he]), if_neg he]
    simp only [Bool.and_eq_true, decide_eq_true_eq]
    constructor
    · rintro ⟨h1, h2⟩
      refine ⟨?_, ?_⟩
      · rcases Nat.lt_or_ge a x with k | k
        · exact k
        · exfalso; split at h1
          · omega
          · rw [if_neg (by omega)] at h1; omega
      · rcases Nat.lt_or_ge x b with k | k
        · exact k
        · exfalso; rw [if_neg (by omega)] at h2; split at h2 <;> omega
    · rintro ⟨h1, h2⟩
      refine ⟨?_, ?_⟩
      · rw [if_neg (by omega), if_pos h1]; decide
      · rw [if_pos h2]; decide
/-- A pattern's value, in units. -/
def val (f : Nat) (least : Int) (p : Nat) : Nat := 2 * pq f p * un least
theorem val_ex {size : Int} {f ww : Nat} {least : Int} {I : Nat} (h : Ly size f ww least I) {p : Nat} (hp : p < I) : exU (pm f p) (least + pk f p) = val f least p ∧ Fine (val f least p) := by
  obtain ⟨h0, h1, -, -, -, -, -, -, h2⟩ := h.pk
  have h3 := h2 p hp
  have h4 := h.pm p
  have e := exU_val (f := f) (p := p) (least := least) (by omega) (by omega)
  have := fine_ex (m := pm f p) (e := least + pk f p) (by omega) (by omega) (by omega)
  rw [e] at this
  exact ⟨e, this⟩
theorem fewest_any {size : Int} {f ww : Nat} {least : Int} {I : Nat} (h : Ly size f ww least I) {p d : Nat} (h0 : p ≠ 0) (hp : p < I) (hd : SH (fun x => RD f I (un least) x p) (val f least p) d) (w : World) :
    Calls Tryz.prog 141 #[.agg #[.string (oS (val f least p)), .int .i64 (oP (val f least p))], .func (.func 144) #[.agg #[.string (oS (mid f least (p - 1))), .int .i64 (oP (mid f least (p - 1))), .string (oS (mid f least p)), .int .i64 (oP (mid f least p)), .bool (decide (p % 2 = 0))]] #[]] w fun x w' => x = .returned (.agg #[.string (oS d), .int .i64 (oP d)]) ∧ Below w.heap.size w w' := by
  refine fewest_walk (bd_of (un_pos least) h0 hp) hd (val_ex h hp).2 (fun x b hx hxb => ?_) w
  intro w
  have c1 : CpC (oS x) (oP x) (oS (mid f least (p - 1))) (oP (mid f least (p - 1))) (ordN x (mid f least (p - 1))) := fun w => scompare_any (cmpC hx (mid_good h (by omega))) w
  have c2 : CpC (oS x) (oP x) (oS (mid f least p)) (oP (mid f least p)) (ordN x (mid f least p)) := fun w => scompare_any (cmpC hx (mid_good h hp)) w
  have := has_walk (ev := decide (p % 2 = 0)) c1 c2 w
  have e : hasB (decide (p % 2 = 0)) (ordN x (mid f least (p - 1))) (ordN x (mid f least p)) = b := by
    cases hb : hasB (decide (p % 2 = 0)) (ordN x (mid f least (p - 1))) (ordN x (mid f least p)) with
    | true => exact (hxb.1 ((hasB_iff h0 hp).1 hb)).symm
    | false =>
      cases b with
      | false => rfl
      | true => exact absurd ((hasB_iff h0 hp).2 (hxb.2 rfl)) (by rw [hb]; decide)
  rw [e] at this
  exact this
theorem boundsof_any {size : Int} {f ww : Nat} {least : Int} {I : Nat} (h : Ly size f ww least I) {p : Nat} (h0 : p ≠ 0) (hp : p < I) (w : World) :
    Calls Tryz.prog 143 #[.agg #[.int .i64 ww, .int .i64 f, .int .i64 least], .int .u64 p] w fun x w' => x = .returned (.agg #[.string (oS (mid f least (p - 1))), .int .i64 (oP (mid f least (p - 1))), .string (oS (mid f least p)), .int .i64 (oP (mid f least p)), .bool (decide (p % 2 = 0))]) ∧ Below w.heap.size w w' := by
  obtain ⟨-, -, hI, -⟩ := h.pk
  have e : ((p - 1 : Nat) : Int) = (p : Int) - 1 := by omega
  have h1 : AbC f ww least ((p - 1 : Nat) : Int) (oS (mid f least (p - 1))) (oP (mid f least (p - 1))) := fun w => above_any h (p - 1) w (by omega)
  rw [e] at h1
  exact bounds_walk h1 (fun w => above_any h p w hp) (by omega) (by omega) w
set_option maxRecDepth 1000000 in
set_option maxHeartbeats 3200000 in
theorem short_ok {bits : Nat} {size : Int} {f ww : Nat} {least : Int} {I d : Nat} (h : Ly size f ww least I) (hb : bits < 18446744073709551616) (hp : bare f ww bits < I) (h0 : bare f ww bits ≠ 0) (hd : SH (fun x => RD f I (un least) x (bare f ww bits)) (val f least (bare f ww bits)) d) (w : World) :
    Calls Tryz.prog 115 #[.int .u64 bits, .int .i64 size] w fun e w' => e = .returned (.tuple #[.agg #[.string (oS d), .int .i64 (oP d)], .int .i64 0]) ∧ Below w.heap.size w w' := by
  have hL := fun w => layout_any h w
  have hS := fun w => split_any h bits w hb
  have hF := fun w => inf_any h w
  have hM := fun w => finite_any h (bare f ww bits) w hp
  have hW := fun w => fewest_any h h0 hp hd w
  have hB := fun w => boundsof_any h h0 hp w
  have hv := (val_ex h hp).1
  obtain ⟨q0, q1, hI, hI2, -, -, -, -, q2⟩ := h.pk
  have q3 := q2 _ hp
  have q4 := h.pm (bare f ww bits)
  have hX := fun w => sexact_any (pm f (bare f ww bits)) (least + pk f (bare f ww bits)) w (by omega) (by omega) (by omega)
  rw [hv] at hX
  have eb : bits % 2 ^ (f + ww) = bare f ww bits := rfl
  have es : decide (bits / 2 ^ (f + ww) % 2 = 1) = sgn f ww bits := rfl
  rw [eb, es] at hS
  clear hv q2 q3 q4 hd es eb h
  generalize hB5 : (#[.string (oS (mid f least (bare f ww bits - 1))), .int .i64 (oP (mid f least (bare f ww bits - 1))), .string (oS (mid f least (bare f ww bits))), .int .i64 (oP (mid f least (bare f ww bits))), .bool (decide (bare f ww bits % 2 = 0))] : Array Value) = bv at *
  clear hB5
  generalize pm f (bare f ww bits) = m at *
  generalize least + (pk f (bare f ww bits) : Int) = e at *
  generalize oS (val f least (bare f ww bits)) = SV at *
  generalize oP (val f least (bare f ww bits)) = PV at *
  generalize bare f ww bits = p at *
  generalize sgn f ww bits = sg at *
  generalize oS d = SD at *
  generalize oP d = PD at *
  have hpI : ¬ (I : Int) ≤ p := by omega
  have b1 : ((p : Int) == 0) = false := by simp; omega
  have hnx : ∀ (W2 : World) (y : Cl W2) w5, Below y.w.drew.heap.size y.w.drew w5 → ∃ z : Cl W2, w5 = z.w := fun W2 y w5 hb => ⟨⟨w5, bel_call y.below.drew hb (Nat.le_refl _)⟩, rfl⟩
  go_enter Tryz.func115, Tryz.ntmps115
  go_wp2_with (first
    | (go_at_call 43; refine (hL _).mono ?_; rintro x w2 ⟨rfl, hb2⟩; have bR2 := keepb hb2 (B := w.heap.size) (x := .string ⟨#[]⟩) (y := .int .i64 0) (by simp [BoxD, go_sem]); have hbw2 := bel_call (B := w.heap.size) (w := w) (by go_grown) hb2 (Nat.le_refl _); obtain ⟨W2, hW2⟩ : ∃ W2, w2.alloc (.cells #[.int .i64 ww, .int .i64 f, .int .i64 least] 63) = W2 := ⟨_, rfl⟩; have bR := keepb ((Below.refl _ _).alloc (Nat.le_refl _) (.cells #[.int .i64 ww, .int .i64 f, .int .i64 least] 63)) bR2; have hbW := hbw2.alloc hbw2.size (.cells #[.int .i64 ww, .int .i64 f, .int .i64 least] 63); have d0 : W2.cell? ⟨w2.heap.size, 0, none⟩ = some (.int .i64 ww) := (by rw [← hW2]; simp [go_sem]); have d1 : W2.cell? ⟨w2.heap.size, 1, none⟩ = some (.int .i64 f) := (by rw [← hW2]; simp [go_sem]); have d2 : W2.cell? ⟨w2.heap.size, 2, none⟩ = some (.int .i64 least) := (by rw [← hW2]; simp [go_sem]); rw [hW2] at bR hbW; have c0 : ∀ x : Cl W2, x.w.cell? ⟨w2.heap.size, 0, none⟩ = some (.int .i64 ww) := (fun x => x.cell d0); have c1 : ∀ x : Cl W2, x.w.cell? ⟨w2.heap.size, 1, none⟩ = some (.int .i64 f) := (fun x => x.cell d1); have c2 : ∀ x : Cl W2, x.w.cell? ⟨w2.heap.size, 2, none⟩ = some (.int .i64 least) := (fun x => x.cell d2); obtain ⟨e0, e1, e2, e3⟩ := id bR; have hz : w.heap.size < W2.heap.size := World.block_lt_of_cell? W2 _ e0; have r0 : ∀ x : Cl W2, x.w.cell? ⟨w.heap.size, 0, none⟩ = some (.string ⟨#[]⟩) := (fun x => x.cell e0); have r1 : ∀ x : Cl W2, x.w.cell? ⟨w.heap.size, 1, none⟩ = some (.int .i64 0) := (fun x => x.cell e1); have r2 : ∀ x : Cl W2, x.w.frozen? ⟨w.heap.size, 0, none⟩ = false := (fun x => x.froz hz e2); have r3 : ∀ x : Cl W2, x.w.frozen? ⟨w.heap.size, 1, none⟩ = false := (fun x => x.froz hz e3))
    | (go_at_call 44; (with_reducible refine (Cl.go0 (hS _)).mono ?_); rintro x w9 ⟨y3, rfl, rfl⟩)
    | (go_at_call 45; (with_reducible refine (Cl.go (hF _)).mono ?_); rintro x w9 ⟨y4, rfl, rfl⟩)
    | (go_at_call 46; (with_reducible refine (Cl.go (hM _)).mono ?_); rintro x w9 ⟨y5, rfl, rfl⟩))
  go_region_with (first
    | (go_at_call 142; (with_reducible refine (hX _).mono ?_); rintro x w6 ⟨rfl, hb6⟩; obtain ⟨y6, rfl⟩ := hnx _ _ _ hb6)
    | (go_at_call 143; (with_reducible refine (hB _).mono ?_); rintro x w7 ⟨rfl, hb7⟩; obtain ⟨y7, rfl⟩ := Cl.next hb7)
    | (go_at_call 141; (with_reducible refine (hW _).mono ?_); rintro x w8 ⟨rfl, hb8⟩; obtain ⟨y8, rfl⟩ := Cl.next hb8))
  all_goals go_wp2
  all_goals refine bodyPost_ret (by simp [results, Tryz.results115, go_sem, cs_same, r0 y8, r1 y8]; rfl) rfl ?_
  all_goals
    have hh := bel_call hbW y8.below (Nat.le_refl _)
    exact ⟨rfl, (hh.setCell (p := ⟨w.heap.size, 0, none⟩) (Nat.le_refl _) _).setCell (p := ⟨w.heap.size, 1, none⟩) (Nat.le_refl _) _⟩
end Go.Proofs.YthbabhbfpcfenaaGreatDoor
