/- SWalkG, SLive, FWalkE: these texts in one. -/
import Derived.Test.YtiagjheifblkiaaGreatDoorSWalkF
import Derived.Test.YtiagjheifblkiaaGreatDoorPt29
namespace Go.Proofs.YtiagjheifblkiaaGreatDoor
open Go.RowKit
set_option linter.unusedVariables false
set_option linter.unusedSimpArgs false
def bare (f ww bits : Nat) : Nat := bits % 2 ^ (f + ww)
def sgn (f ww bits : Nat) : Bool := decide (bits / 2 ^ (f + ww) % 2 = 1)
def ptM (f ww I bits : Nat) : Nat := if bare f ww bits < I then pm f (bare f ww bits) else 0
def ptE (f ww I : Nat) (least : Int) (bits : Nat) : Int := if bare f ww bits < I then least + pk f (bare f ww bits) else 0
def ptK (f ww I bits : Nat) : Int := if bare f ww bits < I then 0 else if bare f ww bits = I then 1 else 2
theorem bare_lt {size : Int} {f ww : Nat} {least : Int} {I : Nat} (h : Ly size f ww least I) (bits : Nat) : bare f ww bits < 9300000000000000000 := by
 rcases h with ⟨-, rfl, rfl, -, -⟩ | ⟨-, rfl, rfl, -, -⟩
 ·have : bare 23 8 bits = bits % 2147483648 := rfl
  omega
 ·have : bare 52 11 bits = bits % 9223372036854775808 := rfl
  omega
set_option maxRecDepth 1000000 in
set_option maxHeartbeats 1600000 in
theorem sparts_any {bits : Nat} {size : Int} {f ww : Nat} {least : Int} {I : Nat} (h : Ly size f ww least I) (hb : bits < 18446744073709551616) (w : World) :
  Calls Tryz.prog 16 #[.int .u64 bits, .int .i64 size] w fun e w' => e = .returned (.tuple #[.bool (sgn f ww bits), .int .u64 (ptM f ww I bits), .int .i64 (ptE f ww I least bits), .int .i64 (ptK f ww I bits)]) ∧ Below w.heap.size w w' := by
 have hL := fun w => layout_any h w
 have hS := fun w => split_any h bits w hb
 have hF := fun w => inf_any h w
 have hlt := bare_lt h bits
 obtain ⟨-, -, hI, -⟩ := h.pk
 have eb : bits % 2 ^ (f + ww) = bare f ww bits := rfl
 have es : decide (bits / 2 ^ (f + ww) % 2 = 1) = sgn f ww bits := rfl
 rw [eb, es] at hS
 have hM : bare f ww bits < I → ∀ w, _ := fun hp w => finite_any h (bare f ww bits) w hp
 unfold ptM ptE ptK
 generalize bare f ww bits = p at *
 generalize sgn f ww bits = sg at *
 clear es eb
 rcases Nat.lt_trichotomy p I with hp | hp | hp
 ·rw [if_pos hp, if_pos hp, if_pos hp]
  have hM := hM hp
  have hpI : (p : Int) < I := by omega
  have b1 : ((p : Int) == (I : Int)) = false := by simp; omega
  generalize pm f p = m at *
  generalize least + (pk f p : Int) = e at *
  go_enter Tryz.func16, Tryz.ntmps16
  go_wp2_with (first
   | (go_at_call 25; refine (hL _).mono ?_; rintro x w2 ⟨rfl, hb2⟩; obtain ⟨W2, hW2⟩ : ∃ W2, w2.alloc (.cells #[.int .i64 ww, .int .i64 f, .int .i64 least] 66) = W2 := ⟨_, rfl⟩; have hbW := hb2.alloc hb2.size (.cells #[.int .i64 ww, .int .i64 f, .int .i64 least] 66); have d0 : W2.cell? ⟨w2.heap.size, 0, none⟩ = some (.int .i64 ww) := (by rw [← hW2]; simp [go_sem]); have d1 : W2.cell? ⟨w2.heap.size, 1, none⟩ = some (.int .i64 f) := (by rw [← hW2]; simp [go_sem]); have d2 : W2.cell? ⟨w2.heap.size, 2, none⟩ = some (.int .i64 least) := (by rw [← hW2]; simp [go_sem]); rw [hW2] at hbW; have c0 : ∀ x : Cl W2, x.w.cell? ⟨w2.heap.size, 0, none⟩ = some (.int .i64 ww) := (fun x => x.cell d0); have c1 : ∀ x : Cl W2, x.w.cell? ⟨w2.heap.size, 1, none⟩ = some (.int .i64 f) := (fun x => x.cell d1); have c2 : ∀ x : Cl W2, x.w.cell? ⟨w2.heap.size, 2, none⟩ = some (.int .i64 least) := (fun x => x.cell d2))
   | (go_at_call 34; (with_reducible refine (Cl.go0 (hS _)).mono ?_); rintro x w9 ⟨y3, rfl, rfl⟩)
   | (go_at_call 31; (with_reducible refine (Cl.go (hF _)).mono ?_); rintro x w9 ⟨y4, rfl, rfl⟩)
   | (go_at_call 35; (with_reducible refine (Cl.go (hM _)).mono ?_); rintro x w9 ⟨y5, rfl, rfl⟩))
  go_returns
  exact ⟨rfl, bel_call hbW y5.below (Nat.le_refl _)⟩
 ·rw [if_neg (by omega), if_neg (by omega), if_neg (by omega), if_pos hp]
  clear hM
  subst hp
  go_enter Tryz.func16, Tryz.ntmps16
  go_wp2_with (first
   | (go_at_call 25; refine (hL _).mono ?_; rintro x w2 ⟨rfl, hb2⟩; obtain ⟨W2, hW2⟩ : ∃ W2, w2.alloc (.cells #[.int .i64 ww, .int .i64 f, .int .i64 least] 66) = W2 := ⟨_, rfl⟩; have hbW := hb2.alloc hb2.size (.cells #[.int .i64 ww, .int .i64 f, .int .i64 least] 66); have d0 : W2.cell? ⟨w2.heap.size, 0, none⟩ = some (.int .i64 ww) := (by rw [← hW2]; simp [go_sem]); have d1 : W2.cell? ⟨w2.heap.size, 1, none⟩ = some (.int .i64 f) := (by rw [← hW2]; simp [go_sem]); have d2 : W2.cell? ⟨w2.heap.size, 2, none⟩ = some (.int .i64 least) := (by rw [← hW2]; simp [go_sem]); rw [hW2] at hbW; have c0 : ∀ x : Cl W2, x.w.cell? ⟨w2.heap.size, 0, none⟩ = some (.int .i64 ww) := (fun x => x.cell d0); have c1 : ∀ x : Cl W2, x.w.cell? ⟨w2.heap.size, 1, none⟩ = some (.int .i64 f) := (fun x => x.cell d1); have c2 : ∀ x : Cl W2, x.w.cell? ⟨w2.heap.size, 2, none⟩ = some (.int .i64 least) := (fun x => x.cell d2))
   | (go_at_call 34; (with_reducible refine (Cl.go0 (hS _)).mono ?_); rintro x w9 ⟨y3, rfl, rfl⟩)
   | (go_at_call 31; (with_reducible refine (Cl.go (hF _)).mono ?_); rintro x w9 ⟨y4, rfl, rfl⟩))
  go_returns
  exact ⟨rfl, bel_call hbW y4.below (Nat.le_refl _)⟩
 ·rw [if_neg (by omega), if_neg (by omega), if_neg (by omega), if_neg (by omega)]
  clear hM
  have hpI : (I : Int) < p := by omega
  have b1 : ((p : Int) == (I : Int)) = false := by simp; omega
  go_enter Tryz.func16, Tryz.ntmps16
  go_wp2_with (first
   | (go_at_call 25; refine (hL _).mono ?_; rintro x w2 ⟨rfl, hb2⟩; obtain ⟨W2, hW2⟩ : ∃ W2, w2.alloc (.cells #[.int .i64 ww, .int .i64 f, .int .i64 least] 66) = W2 := ⟨_, rfl⟩; have hbW := hb2.alloc hb2.size (.cells #[.int .i64 ww, .int .i64 f, .int .i64 least] 66); have d0 : W2.cell? ⟨w2.heap.size, 0, none⟩ = some (.int .i64 ww) := (by rw [← hW2]; simp [go_sem]); have d1 : W2.cell? ⟨w2.heap.size, 1, none⟩ = some (.int .i64 f) := (by rw [← hW2]; simp [go_sem]); have d2 : W2.cell? ⟨w2.heap.size, 2, none⟩ = some (.int .i64 least) := (by rw [← hW2]; simp [go_sem]); rw [hW2] at hbW; have c0 : ∀ x : Cl W2, x.w.cell? ⟨w2.heap.size, 0, none⟩ = some (.int .i64 ww) := (fun x => x.cell d0); have c1 : ∀ x : Cl W2, x.w.cell? ⟨w2.heap.size, 1, none⟩ = some (.int .i64 f) := (fun x => x.cell d1); have c2 : ∀ x : Cl W2, x.w.cell? ⟨w2.heap.size, 2, none⟩ = some (.int .i64 least) := (fun x => x.cell d2))
   | (go_at_call 34; (with_reducible refine (Cl.go0 (hS _)).mono ?_); rintro x w9 ⟨y3, rfl, rfl⟩)
   | (go_at_call 31; (with_reducible refine (Cl.go (hF _)).mono ?_); rintro x w9 ⟨y4, rfl, rfl⟩))
  go_returns
  exact ⟨rfl, bel_call hbW y4.below (Nat.le_refl _)⟩
set_option maxRecDepth 1000000 in
set_option maxHeartbeats 1600000 in
theorem short_none {bits : Nat} {size : Int} {f ww : Nat} {least : Int} {I : Nat} (h : Ly size f ww least I) (hb : bits < 18446744073709551616) (hp : I ≤ bare f ww bits ∨ bare f ww bits = 0) (w : World) :
  Calls Tryz.prog 358 #[.int .u64 bits, .int .i64 size] w fun e w' => e = .returned (.tuple #[.agg #[.string ⟨#[]⟩, .int .i64 0], .int .i64 (if bare f ww bits = 0 then 0 else 1)]) ∧ Below w.heap.size w w' := by
 have hL := fun w => layout_any h w
 have hS := fun w => split_any h bits w hb
 have hF := fun w => inf_any h w
 have hlt := bare_lt h bits
 obtain ⟨-, -, hI, hI2, -⟩ := h.pk
 have eb : bits % 2 ^ (f + ww) = bare f ww bits := rfl
 have es : decide (bits / 2 ^ (f + ww) % 2 = 1) = sgn f ww bits := rfl
 rw [eb, es] at hS
 generalize bare f ww bits = p at *
 generalize sgn f ww bits = sg at *
 clear es eb
 by_cases hz : p = 0
 ·rw [if_pos hz]
  subst hz
  have hpI : ¬ (I : Int) ≤ 0 := by omega
  go_enter Tryz.func358, Tryz.ntmps358
  go_wp2_with (first
   | (go_at_call 25; refine (hL _).mono ?_; rintro x w2 ⟨rfl, hb2⟩; have bR2 := keepb hb2 (B := w.heap.size) (x := .string ⟨#[]⟩) (y := .int .i64 0) (by simp [BoxDe, go_sem]); have hbw2 := bel_call (B := w.heap.size) (w := w) (by go_grown) hb2 (Nat.le_refl _); obtain ⟨W2, hW2⟩ : ∃ W2, w2.alloc (.cells #[.int .i64 ww, .int .i64 f, .int .i64 least] 66) = W2 := ⟨_, rfl⟩; have bR := keepb ((Below.refl _ _).alloc (Nat.le_refl _) (.cells #[.int .i64 ww, .int .i64 f, .int .i64 least] 66)) bR2; have hbW := hbw2.alloc hbw2.size (.cells #[.int .i64 ww, .int .i64 f, .int .i64 least] 66); have d0 : W2.cell? ⟨w2.heap.size, 0, none⟩ = some (.int .i64 ww) := (by rw [← hW2]; simp [go_sem]); have d1 : W2.cell? ⟨w2.heap.size, 1, none⟩ = some (.int .i64 f) := (by rw [← hW2]; simp [go_sem]); have d2 : W2.cell? ⟨w2.heap.size, 2, none⟩ = some (.int .i64 least) := (by rw [← hW2]; simp [go_sem]); rw [hW2] at bR hbW; have c0 : ∀ x : Cl W2, x.w.cell? ⟨w2.heap.size, 0, none⟩ = some (.int .i64 ww) := (fun x => x.cell d0); have c1 : ∀ x : Cl W2, x.w.cell? ⟨w2.heap.size, 1, none⟩ = some (.int .i64 f) := (fun x => x.cell d1); have c2 : ∀ x : Cl W2, x.w.cell? ⟨w2.heap.size, 2, none⟩ = some (.int .i64 least) := (fun x => x.cell d2); obtain ⟨e0, e1, e2, e3⟩ := id bR; have hz : w.heap.size < W2.heap.size := World.block_lt_of_cell? W2 _ e0; have r0 : ∀ x : Cl W2, x.w.cell? ⟨w.heap.size, 0, none⟩ = some (.string ⟨#[]⟩) := (fun x => x.cell e0); have r1 : ∀ x : Cl W2, x.w.cell? ⟨w.heap.size, 1, none⟩ = some (.int .i64 0) := (fun x => x.cell e1); have r2 : ∀ x : Cl W2, x.w.frozen? ⟨w.heap.size, 0, none⟩ = false := (fun x => x.froz hz e2); have r3 : ∀ x : Cl W2, x.w.frozen? ⟨w.heap.size, 1, none⟩ = false := (fun x => x.froz hz e3))
   | (go_at_call 34; (with_reducible refine (Cl.go0 (hS _)).mono ?_); rintro x w9 ⟨y3, rfl, rfl⟩)
   | (go_at_call 31; (with_reducible refine (Cl.go (hF _)).mono ?_); rintro x w9 ⟨y4, rfl, rfl⟩))
  refine bodyPost_ret (by simp [results, Tryz.results358, go_sem, cs_same, r0 y4, r1 y4]; rfl) rfl ?_
  have hh := bel_call hbW y4.below (Nat.le_refl _)
  exact ⟨rfl, (hh.setCell (p := ⟨w.heap.size, 0, none⟩) (Nat.le_refl _) _).setCell (p := ⟨w.heap.size, 1, none⟩) (Nat.le_refl _) _⟩
 ·rw [if_neg hz]
  have hpI : (I : Int) ≤ p := by omega
  go_enter Tryz.func358, Tryz.ntmps358
  go_wp2_with (first
   | (go_at_call 25; refine (hL _).mono ?_; rintro x w2 ⟨rfl, hb2⟩; have bR2 := keepb hb2 (B := w.heap.size) (x := .string ⟨#[]⟩) (y := .int .i64 0) (by simp [BoxDe, go_sem]); have hbw2 := bel_call (B := w.heap.size) (w := w) (by go_grown) hb2 (Nat.le_refl _); obtain ⟨W2, hW2⟩ : ∃ W2, w2.alloc (.cells #[.int .i64 ww, .int .i64 f, .int .i64 least] 66) = W2 := ⟨_, rfl⟩; have bR := keepb ((Below.refl _ _).alloc (Nat.le_refl _) (.cells #[.int .i64 ww, .int .i64 f, .int .i64 least] 66)) bR2; have hbW := hbw2.alloc hbw2.size (.cells #[.int .i64 ww, .int .i64 f, .int .i64 least] 66); have d0 : W2.cell? ⟨w2.heap.size, 0, none⟩ = some (.int .i64 ww) := (by rw [← hW2]; simp [go_sem]); have d1 : W2.cell? ⟨w2.heap.size, 1, none⟩ = some (.int .i64 f) := (by rw [← hW2]; simp [go_sem]); have d2 : W2.cell? ⟨w2.heap.size, 2, none⟩ = some (.int .i64 least) := (by rw [← hW2]; simp [go_sem]); rw [hW2] at bR hbW; have c0 : ∀ x : Cl W2, x.w.cell? ⟨w2.heap.size, 0, none⟩ = some (.int .i64 ww) := (fun x => x.cell d0); have c1 : ∀ x : Cl W2, x.w.cell? ⟨w2.heap.size, 1, none⟩ = some (.int .i64 f) := (fun x => x.cell d1); have c2 : ∀ x : Cl W2, x.w.cell? ⟨w2.heap.size, 2, none⟩ = some (.int .i64 least) := (fun x => x.cell d2); obtain ⟨e0, e1, e2, e3⟩ := id bR; have hz : w.heap.size < W2.heap.size := World.block_lt_of_cell? W2 _ e0; have r0 : ∀ x : Cl W2, x.w.cell? ⟨w.heap.size, 0, none⟩ = some (.string ⟨#[]⟩) := (fun x => x.cell e0); have r1 : ∀ x : Cl W2, x.w.cell? ⟨w.heap.size, 1, none⟩ = some (.int .i64 0) := (fun x => x.cell e1); have r2 : ∀ x : Cl W2, x.w.frozen? ⟨w.heap.size, 0, none⟩ = false := (fun x => x.froz hz e2); have r3 : ∀ x : Cl W2, x.w.frozen? ⟨w.heap.size, 1, none⟩ = false := (fun x => x.froz hz e3))
   | (go_at_call 34; (with_reducible refine (Cl.go0 (hS _)).mono ?_); rintro x w9 ⟨y3, rfl, rfl⟩)
   | (go_at_call 31; (with_reducible refine (Cl.go (hF _)).mono ?_); rintro x w9 ⟨y4, rfl, rfl⟩))
  refine bodyPost_ret (by simp [results, Tryz.results358, go_sem, cs_same, r0 y4, r1 y4]; rfl) rfl ?_
  have hh := bel_call hbW y4.below (Nat.le_refl _)
  exact ⟨rfl, (hh.setCell (p := ⟨w.heap.size, 0, none⟩) (Nat.le_refl _) _).setCell (p := ⟨w.heap.size, 1, none⟩) (Nat.le_refl _) _⟩
theorem hasB_iff {f I p x : Nat} {least : Int} (h0 : p ≠ 0) (hp : p < I) : hasB (decide (p % 2 = 0)) (ordN x (midS f least (p - 1))) (ordN x (midS f least p)) = true ↔ RD f I (un least) x p := by
 rw [RD_bounds h0 hp]
 have e1 : pa f (p - 1) * un least = midS f least (p - 1) := rfl
 have e2 : pa f p * un least = midS f least p := rfl
 rw [e1, e2]
 generalize midS f least (p - 1) = a at *
 generalize midS f least p = b at *
 unfold hasB ordN
 by_cases he : p % 2 = 0
 ·rw [if_pos (decide_eq_true he), if_pos he]
  simp only [Bool.and_eq_true, decide_eq_true_eq]
  constructor
  ·rintro ⟨h1, h2⟩
   refine ⟨?_, ?_⟩
   ·rcases Nat.lt_or_ge x a with k | k
    ·rw [if_pos k] at h1; omega
    ·exact k
   ·rcases Nat.lt_or_ge b x with k | k
    ·rw [if_neg (by omega), if_pos k] at h2; omega
    ·exact k
  ·rintro ⟨h1, h2⟩
   refine ⟨?_, ?_⟩
   ·rw [if_neg (by omega)]; split <;> decide
   ·split
    ·decide
    ·rw [if_neg (by omega)]; decide
 ·rw [if_neg (by simp [he]), if_neg he]
  simp only [Bool.and_eq_true, decide_eq_true_eq]
  constructor
  ·rintro ⟨h1, h2⟩
   refine ⟨?_, ?_⟩
   ·rcases Nat.lt_or_ge a x with k | k
    ·exact k
    ·exfalso; split at h1
     ·omega
     ·rw [if_neg (by omega)] at h1; omega
   ·rcases Nat.lt_or_ge x b with k | k
    ·exact k
    ·exfalso; rw [if_neg (by omega)] at h2; split at h2 <;> omega
  ·rintro ⟨h1, h2⟩
   refine ⟨?_, ?_⟩
   ·rw [if_neg (by omega), if_pos h1]; decide
   ·rw [if_pos h2]; decide
def val (f : Nat) (least : Int) (p : Nat) : Nat := 2 * pq f p * un least
theorem val_ex {size : Int} {f ww : Nat} {least : Int} {I : Nat} (h : Ly size f ww least I) {p : Nat} (hp : p < I) : exU (pm f p) (least + pk f p) = val f least p ∧ Fine (val f least p) := by
 obtain ⟨h0, h1, -, -, -, -, -, -, h2⟩ := h.pk
 have h3 := h2 p hp
 have h4 := h.pm p
 have e := exU_val (f := f) (p := p) (least := least) (by omega) (by omega)
 have := fine_ex (m := pm f p) (e := least + pk f p) (by omega) (by omega) (by omega)
 rw [e] at this
 exact ⟨e, this⟩
theorem fewest_any {size : Int} {f ww : Nat} {least : Int} {I : Nat} (h : Ly size f ww least I) {p d : Nat} (h0 : p ≠ 0) (hp : p < I) (hdB : SH (fun x => RD f I (un least) x p) (val f least p) d) (w : World) :
  Calls Tryz.prog 362 #[.agg #[.string (oS (val f least p)), .int .i64 (oP (val f least p))], .func (.func 364) #[.agg #[.string (oS (midS f least (p - 1))), .int .i64 (oP (midS f least (p - 1))), .string (oS (midS f least p)), .int .i64 (oP (midS f least p)), .bool (decide (p % 2 = 0))]] #[]] w fun x w' => x = .returned (.agg #[.string (oS d), .int .i64 (oP d)]) ∧ Below w.heap.size w w' := by
 refine fewest_walk (bd_of (un_pos least) h0 hp) hdB (val_ex h hp).2 (fun x b hx hxb => ?_) w
 intro w
 have c1 : CpC (oS x) (oP x) (oS (midS f least (p - 1))) (oP (midS f least (p - 1))) (ordN x (midS f least (p - 1))) := fun w => scompare_any (cmpC hx (mid_good h (by omega))) w
 have c2 : CpC (oS x) (oP x) (oS (midS f least p)) (oP (midS f least p)) (ordN x (midS f least p)) := fun w => scompare_any (cmpC hx (mid_good h hp)) w
 have := has_walk (ev := decide (p % 2 = 0)) c1 c2 w
 have e : hasB (decide (p % 2 = 0)) (ordN x (midS f least (p - 1))) (ordN x (midS f least p)) = b := by
  cases hb : hasB (decide (p % 2 = 0)) (ordN x (midS f least (p - 1))) (ordN x (midS f least p)) with
  | true => exact (hxb.1 ((hasB_iff h0 hp).1 hb)).symm
  | false =>
    cases b with
    | false => rfl
    | true => exact absurd ((hasB_iff h0 hp).2 (hxb.2 rfl)) (by rw [hb]; decide)
 rw [e] at this
 exact this
theorem boundsof_any {size : Int} {f ww : Nat} {least : Int} {I : Nat} (h : Ly size f ww least I) {p : Nat} (h0 : p ≠ 0) (hp : p < I) (w : World) :
  Calls Tryz.prog 363 #[.agg #[.int .i64 ww, .int .i64 f, .int .i64 least], .int .u64 p] w fun x w' => x = .returned (.agg #[.string (oS (midS f least (p - 1))), .int .i64 (oP (midS f least (p - 1))), .string (oS (midS f least p)), .int .i64 (oP (midS f least p)), .bool (decide (p % 2 = 0))]) ∧ Below w.heap.size w w' := by
 obtain ⟨-, -, hI, -⟩ := h.pk
 have e : ((p - 1 : Nat) : Int) = (p : Int) - 1 := by omega
 have h1 : AbC f ww least ((p - 1 : Nat) : Int) (oS (midS f least (p - 1))) (oP (midS f least (p - 1))) := fun w => above_any h (p - 1) w (by omega)
 rw [e] at h1
 exact bounds_walk h1 (fun w => above_any h p w hp) (by omega) (by omega) w
set_option maxRecDepth 1000000 in
set_option maxHeartbeats 3200000 in
theorem short_ok {bits : Nat} {size : Int} {f ww : Nat} {least : Int} {I d : Nat} (h : Ly size f ww least I) (hb : bits < 18446744073709551616) (hp : bare f ww bits < I) (h0 : bare f ww bits ≠ 0) (hdB : SH (fun x => RD f I (un least) x (bare f ww bits)) (val f least (bare f ww bits)) d) (w : World) :
  Calls Tryz.prog 358 #[.int .u64 bits, .int .i64 size] w fun e w' => e = .returned (.tuple #[.agg #[.string (oS d), .int .i64 (oP d)], .int .i64 0]) ∧ Below w.heap.size w w' := by
 have hL := fun w => layout_any h w
 have hS := fun w => split_any h bits w hb
 have hF := fun w => inf_any h w
 have hM := fun w => finite_any h (bare f ww bits) w hp
 have hW := fun w => fewest_any h h0 hp hdB w
 have hB := fun w => boundsof_any h h0 hp w
 have hv := (val_ex h hp).1
 obtain ⟨q0, q1, hI, hI2, -, -, -, -, q2⟩ := h.pk
 have q3 := q2 _ hp
 have q4 := h.pm (bare f ww bits)
 have hX := fun w => sexact_any (pm f (bare f ww bits)) (least + pk f (bare f ww bits)) w (by omega) (by omega) (by omega)
 rw [hv] at hX
 have eb : bits % 2 ^ (f + ww) = bare f ww bits := rfl
 have es : decide (bits / 2 ^ (f + ww) % 2 = 1) = sgn f ww bits := rfl
 rw [eb, es] at hS
 clear hv q2 q3 q4 hdB es eb h
 generalize hB5 : (#[.string (oS (midS f least (bare f ww bits - 1))), .int .i64 (oP (midS f least (bare f ww bits - 1))), .string (oS (midS f least (bare f ww bits))), .int .i64 (oP (midS f least (bare f ww bits))), .bool (decide (bare f ww bits % 2 = 0))] : Array Value) = bv at *
 clear hB5
 generalize pm f (bare f ww bits) = m at *
 generalize least + (pk f (bare f ww bits) : Int) = e at *
 generalize oS (val f least (bare f ww bits)) = SV at *
 generalize oP (val f least (bare f ww bits)) = PV at *
 generalize bare f ww bits = p at *
 generalize sgn f ww bits = sg at *
 generalize oS d = SD at *
 generalize oP d = PD at *
 have hpI : ¬ (I : Int) ≤ p := by omega
 have b1 : ((p : Int) == 0) = false := by simp; omega
 have hnx : ∀ (W2 : World) (y : Cl W2) w5, Below y.w.drew.heap.size y.w.drew w5 → ∃ z : Cl W2, w5 = z.w := fun W2 y w5 hb => ⟨⟨w5, bel_call y.below.drew hb (Nat.le_refl _)⟩, rfl⟩
 go_enter Tryz.func358, Tryz.ntmps358
 go_wp2_with (first
  | (go_at_call 25; refine (hL _).mono ?_; rintro x w2 ⟨rfl, hb2⟩; have bR2 := keepb hb2 (B := w.heap.size) (x := .string ⟨#[]⟩) (y := .int .i64 0) (by simp [BoxDe, go_sem]); have hbw2 := bel_call (B := w.heap.size) (w := w) (by go_grown) hb2 (Nat.le_refl _); obtain ⟨W2, hW2⟩ : ∃ W2, w2.alloc (.cells #[.int .i64 ww, .int .i64 f, .int .i64 least] 66) = W2 := ⟨_, rfl⟩; have bR := keepb ((Below.refl _ _).alloc (Nat.le_refl _) (.cells #[.int .i64 ww, .int .i64 f, .int .i64 least] 66)) bR2; have hbW := hbw2.alloc hbw2.size (.cells #[.int .i64 ww, .int .i64 f, .int .i64 least] 66); have d0 : W2.cell? ⟨w2.heap.size, 0, none⟩ = some (.int .i64 ww) := (by rw [← hW2]; simp [go_sem]); have d1 : W2.cell? ⟨w2.heap.size, 1, none⟩ = some (.int .i64 f) := (by rw [← hW2]; simp [go_sem]); have d2 : W2.cell? ⟨w2.heap.size, 2, none⟩ = some (.int .i64 least) := (by rw [← hW2]; simp [go_sem]); rw [hW2] at bR hbW; have c0 : ∀ x : Cl W2, x.w.cell? ⟨w2.heap.size, 0, none⟩ = some (.int .i64 ww) := (fun x => x.cell d0); have c1 : ∀ x : Cl W2, x.w.cell? ⟨w2.heap.size, 1, none⟩ = some (.int .i64 f) := (fun x => x.cell d1); have c2 : ∀ x : Cl W2, x.w.cell? ⟨w2.heap.size, 2, none⟩ = some (.int .i64 least) := (fun x => x.cell d2); obtain ⟨e0, e1, e2, e3⟩ := id bR; have hz : w.heap.size < W2.heap.size := World.block_lt_of_cell? W2 _ e0; have r0 : ∀ x : Cl W2, x.w.cell? ⟨w.heap.size, 0, none⟩ = some (.string ⟨#[]⟩) := (fun x => x.cell e0); have r1 : ∀ x : Cl W2, x.w.cell? ⟨w.heap.size, 1, none⟩ = some (.int .i64 0) := (fun x => x.cell e1); have r2 : ∀ x : Cl W2, x.w.frozen? ⟨w.heap.size, 0, none⟩ = false := (fun x => x.froz hz e2); have r3 : ∀ x : Cl W2, x.w.frozen? ⟨w.heap.size, 1, none⟩ = false := (fun x => x.froz hz e3))
  | (go_at_call 34; (with_reducible refine (Cl.go0 (hS _)).mono ?_); rintro x w9 ⟨y3, rfl, rfl⟩)
  | (go_at_call 31; (with_reducible refine (Cl.go (hF _)).mono ?_); rintro x w9 ⟨y4, rfl, rfl⟩)
  | (go_at_call 35; (with_reducible refine (Cl.go (hM _)).mono ?_); rintro x w9 ⟨y5, rfl, rfl⟩))
 go_region_with (first
  | (go_at_call 51; (with_reducible refine (hX _).mono ?_); rintro x w6 ⟨rfl, hb6⟩; obtain ⟨y6, rfl⟩ := hnx _ _ _ hb6)
  | (go_at_call 363; (with_reducible refine (hB _).mono ?_); rintro x w7 ⟨rfl, hb7⟩; obtain ⟨y7, rfl⟩ := Cl.next hb7)
  | (go_at_call 362; (with_reducible refine (hW _).mono ?_); rintro x w8 ⟨rfl, hb8⟩; obtain ⟨y8, rfl⟩ := Cl.next hb8))
 all_goals go_wp2
 all_goals refine bodyPost_ret (by simp [results, Tryz.results358, go_sem, cs_same, r0 y8, r1 y8]; rfl) rfl ?_
 all_goals
  have hh := bel_call hbW y8.below (Nat.le_refl _)
  exact ⟨rfl, (hh.setCell (p := ⟨w.heap.size, 0, none⟩) (Nat.le_refl _) _).setCell (p := ⟨w.heap.size, 1, none⟩) (Nat.le_refl _) _⟩
end Go.Proofs.YtiagjheifblkiaaGreatDoor
namespace Go.Proofs.YtiagjheifblkiaaGreatDoor
open Go.RowKit
set_option linter.unusedVariables false
set_option linter.unusedSimpArgs false
abbrev ShC (bits : Nat) (size : Int) (S : ByteArray) (P E : Int) : Prop := ∀ w, Calls Tryz.prog 358 #[.int .u64 bits, .int .i64 size] w fun e w' => e = .returned (.tuple #[.agg #[.string S, .int .i64 P], .int .i64 E]) ∧ Below w.heap.size w w'
abbrev PtC (bits : Nat) (size : Int) (sg : Bool) (m : Nat) (x k : Int) : Prop := ∀ w, Calls Tryz.prog 16 #[.int .u64 bits, .int .i64 size] w fun e w' => e = .returned (.tuple #[.bool sg, .int .u64 m, .int .i64 x, .int .i64 k]) ∧ Below w.heap.size w w'
theorem lyB : Ly 64 52 11 (-1074) 9218868437227405312 := .inr ⟨rfl, rfl, rfl, rfl, rfl⟩
theorem lyA : Ly 32 23 8 (-149) 2139095040 := .inl ⟨rfl, rfl, rfl, rfl, rfl⟩
theorem bare_small {size : Int} {f ww : Nat} {least : Int} {I : Nat} (h : Ly size f ww least I) {p : Nat} (hp : p < I) : bare f ww p = p := by
 rcases h with ⟨-, rfl, rfl, -, rfl⟩ | ⟨-, rfl, rfl, -, rfl⟩
 ·have : bare 23 8 p = p % 2147483648 := rfl
  omega
 ·have : bare 52 11 p = p % 9223372036854775808 := rfl
  omega
end Go.Proofs.YtiagjheifblkiaaGreatDoor
namespace Go.Proofs.YtiagjheifblkiaaGreatDoor
open Go.RowKit
set_option linter.unusedVariables false
set_option linter.unusedSimpArgs false
set_option maxRecDepth 1000000 in
theorem fsign_any (neg : Bool) (p mi sh sp z : Bool) (wid prec verb : Int) (w : World) :
  Calls Tryz.prog 287 #[.bool neg, .agg #[.bool p, .bool mi, .bool sh, .bool sp, .bool z, .int .i64 wid, .int .i64 prec, .int .i32 verb]] w fun x w' => x = .returned (.string (sgF neg p sp)) ∧ Below w.heap.size w w' := by
 cases neg <;> cases p <;> cases sp
 all_goals
  go_enter Tryz.func287, Tryz.ntmps287
  go_wp2
  go_ret
  exact ⟨rfl, by go_grown⟩
set_option maxRecDepth 1000000 in
theorem fsignI_any (neg : Bool) (p mi sh sp z : Bool) (wid prec verb : Int) (w : World) :
  Calls Tryz.prog 288 #[.bool neg, .agg #[.bool p, .bool mi, .bool sh, .bool sp, .bool z, .int .i64 wid, .int .i64 prec, .int .i32 verb]] w fun x w' => x = .returned (.string (sgI neg p sp)) ∧ Below w.heap.size w w' := by
 have hS : ∀ w, Calls Tryz.prog 287 #[.bool neg, .agg #[.bool p, .bool mi, .bool sh, .bool sp, .bool z, .int .i64 wid, .int .i64 prec, .int .i32 verb]] w fun x w' => x = .returned (.string (sgF neg p sp)) ∧ Below w.heap.size w w' := fun w => fsign_any neg p mi sh sp z wid prec verb w
 have hbA : Below w.heap.size w (w.alloc (.cells #[.bool p, .bool mi, .bool sh, .bool sp, .bool z, .int .i64 wid, .int .i64 prec, .int .i32 verb] 198)) := (Below.refl _ _).alloc (Nat.le_refl _) _
 unfold sgI
 by_cases h0 : (sgF neg p sp).size = 0
 ·have hue : (sgF neg p sp).toList.isEmpty = true := empty_yes _ h0
  rw [if_pos h0]
  clear h0
  generalize sgF neg p sp = r at *
  go_enter Tryz.func288, Tryz.ntmps288
  go_wp2_with (go_at_call 287; (with_reducible refine (hS _).mono ?_); rintro x w1 ⟨rfl, hb1⟩)
  go_ret
  exact ⟨rfl, bel_call hbA hb1 (Nat.le_refl _)⟩
 ·have hue : (sgF neg p sp).toList.isEmpty = false := empty_no _ (by omega)
  rw [if_neg h0]
  clear h0
  generalize sgF neg p sp = r at *
  go_enter Tryz.func288, Tryz.ntmps288
  go_wp2_with (go_at_call 287; (with_reducible refine (hS _).mono ?_); rintro x w1 ⟨rfl, hb1⟩)
  go_ret
  exact ⟨rfl, bel_call hbA hb1 (Nat.le_refl _)⟩
set_option maxRecDepth 1000000 in
set_option maxHeartbeats 1000000 in
theorem fpad_any (s : ByteArray) (p mi sh sp z : Bool) (wid prec verb : Int) (w : World) (hs : s.size ≤ 1000000) :
  Calls Tryz.prog 285 #[.string s, .agg #[.bool p, .bool mi, .bool sh, .bool sp, .bool z, .int .i64 wid, .int .i64 prec, .int .i32 verb]] w fun e w' => e = .returned (.string (padS s mi false wid)) ∧ Below w.heap.size w w' := by
 have hP : ∀ w, Calls Tryz.prog 204 #[.string s, .agg #[.bool p, .bool mi, .bool sh, .bool sp, .bool false, .int .i64 wid, .int .i64 prec, .int .i32 verb]] w fun e w' => e = .returned (.string (padS s mi false wid)) ∧ Below w.heap.size w w' := fun w => pad_any s p mi sh sp false wid prec verb w hs
 generalize padS s mi false wid = r at *
 have hbA : Below w.heap.size w (w.alloc (.cells #[.bool p, .bool mi, .bool sh, .bool sp, .bool false, .int .i64 wid, .int .i64 prec, .int .i32 verb] 198)) := (Below.refl _ _).alloc (Nat.le_refl _) _
 go_enter Tryz.func285, Tryz.ntmps285
 go_wp2_with (go_at_call 204; refine (hP _).mono ?_; rintro e w1 ⟨rfl, hb1⟩)
 go_ret
 exact ⟨rfl, hbA.trans (hb1.mono hbA.size)⟩
theorem great_any (verb : Int) (w : World) : Calls Tryz.prog 289 #[.int .i32 verb] w fun e w' => e = .returned (.bool (grV verb)) ∧ w' = w := by
 by_cases h1 : verb = 69
 ·subst h1
  go_enter Tryz.func289, Tryz.ntmps289
  go_wp2
  go_ret
  exact ⟨rfl, rfl⟩
 by_cases h2 : verb = 71
 ·subst h2
  go_enter Tryz.func289, Tryz.ntmps289
  go_wp2
  go_ret
  exact ⟨rfl, rfl⟩
 by_cases h3 : verb = 88
 ·subst h3
  go_enter Tryz.func289, Tryz.ntmps289
  go_wp2
  go_ret
  exact ⟨rfl, rfl⟩
 have e : grV verb = false := decide_eq_false (by omega)
 rw [e]
 have b1 : (verb == 69) = false := by simp [h1]
 have b2 : (verb == 71) = false := by simp [h2]
 have b3 : (verb == 88) = false := by simp [h3]
 go_enter Tryz.func289, Tryz.ntmps289
 go_wp2
 go_ret
 exact ⟨rfl, rfl⟩
def wrF (verb : Int) : Nat := if verb = 101 ∨ verb = 69 then 321 else if verb = 102 ∨ verb = 70 then 322 else if verb = 98 then 324 else if verb = 120 ∨ verb = 88 then 325 else 323
abbrev WrC (verb : Int) (v : Value) (b : Bool) : Prop := ∀ w, Calls Tryz.prog 284 #[.int .i32 verb] w fun e w' => e = .returned (.tuple #[v, .bool b]) ∧ w' = w
set_option maxRecDepth 1000000 in
theorem writer_yes {verb : Int} (h : fVerb verb = true) : WrC verb (.func (.func (wrF verb)) #[] #[]) true := fun w => by
 have h := of_decide_eq_true h
 rcases h with rfl | rfl | rfl | rfl | rfl | rfl | rfl | rfl | rfl | rfl
 all_goals
  go_enter Tryz.func284, Tryz.ntmps284
  go_wp2
  go_returns
  exact ⟨rfl, rfl⟩
end Go.Proofs.YtiagjheifblkiaaGreatDoor
