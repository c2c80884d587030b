/- BTopA, BLimb: these texts in one. -/
import Derived.Test.YtiagjheifblkiaaGreatDoorShelfF
import Derived.Test.YtiagjheifblkiaaGreatDoorPt20
import Derived.OwnWalk
import Derived.WalkSmall
namespace Go.Proofs.YtiagjheifblkiaaGreatDoor
open Go.RowKit
set_option linter.unusedVariables false
theorem keeph {W w2 : World} (hb : Below W.heap.size W w2) {p : Addr} {v : Value} (h : W.cell? p = some v ∧ W.frozen? p = false) : w2.cell? p = some v ∧ w2.frozen? p = false := by
 refine ⟨keep hb h.1, ?_⟩
 have hp : p.block < W.heap.size := by
  rcases Nat.lt_or_ge p.block W.heap.size with h1 | h1
  ·exact h1
  ·have := h.1; simp [World.cell?, Array.getElem?_eq_none h1] at this
 exact (hb.frozen hp).trans h.2
theorem cs_same (W : World) (a : Addr) (v : Value) (h : (W.cell? a).isSome = true) : (W.setCell a v).cell? a = some v := by
 obtain ⟨u, hu⟩ := Option.isSome_iff_exists.1 h
 exact World.cell?_setCell_same _ _ _ hu
def BoxDe (W : World) (B : Nat) (x y : Value) : Prop := W.cell? ⟨B, 0, none⟩ = some x ∧ W.cell? ⟨B, 1, none⟩ = some y ∧ W.frozen? ⟨B, 0, none⟩ = false ∧ W.frozen? ⟨B, 1, none⟩ = false
theorem keepb {W w2 : World} (hb : Below W.heap.size W w2) {B : Nat} {x y : Value} (h : BoxDe W B x y) : BoxDe w2 B x y :=
 ⟨(keeph hb ⟨h.1, h.2.2.1⟩).1, (keeph hb ⟨h.2.1, h.2.2.2⟩).1, (keeph hb ⟨h.1, h.2.2.1⟩).2, (keeph hb ⟨h.2.1, h.2.2.2⟩).2⟩
theorem BoxDe.put {W : World} {B : Nat} {x y : Value} (h : BoxDe W B x y) (x' y' : Value) : BoxDe ((W.setCell ⟨B, 0, none⟩ x').setCell ⟨B, 1, none⟩ y') B x' y' :=
 ⟨set_otherB (by decide) (World.cell?_setCell_same _ _ _ h.1), put1 h.2.1 _ _, by rw [World.frozen?_setCell, World.frozen?_setCell]; exact h.2.2.1, by rw [World.frozen?_setCell, World.frozen?_setCell]; exact h.2.2.2⟩
theorem BoxDe.past {W : World} {B C : Nat} {x y : Value} (h : BoxDe W B x y) (hne : C ≠ B) (x' y' : Value) : BoxDe ((W.setCell ⟨C, 0, none⟩ x').setCell ⟨C, 1, none⟩ y') B x y :=
 ⟨set_past hne (set_past hne h.1), set_past hne (set_past hne h.2.1), by rw [World.frozen?_setCell, World.frozen?_setCell]; exact h.2.2.1, by rw [World.frozen?_setCell, World.frozen?_setCell]; exact h.2.2.2⟩
theorem BoxDe.reads {W : World} {B : Nat} {x y : Value} (h : BoxDe W B x y) : (∀ u, (W.setCell ⟨B, 0, none⟩ u).cell? ⟨B, 0, none⟩ = some u) ∧ (∀ u v, ((W.setCell ⟨B, 0, none⟩ u).setCell ⟨B, 1, none⟩ v).cell? ⟨B, 1, none⟩ = some v) := ⟨fun u => put0 h.1 u, fun u v => put1 h.2.1 u v⟩
def bE (e1 e2 : Int) : Int := if e1 = 0 then e2 else e1
def NormC (s : ByteArray) (p : Int) (S : ByteArray) (P E : Int) : Prop := ∀ w, Calls Tryz.prog 20 #[.agg #[.string s, .int .i64 p]] w fun e w' => e = .returned (.tuple #[.agg #[.string S, .int .i64 P], .int .i64 E]) ∧ Below w.heap.size w w'
set_option maxRecDepth 1000000 in
set_option maxHeartbeats 400000 in
theorem nb_first {s1 s2 S1 : ByteArray} {p1 p2 P1 E1 : Int} (h1 : NormC s1 p1 S1 P1 E1) (hE : ¬ E1 = 0) (w : World) :
  Calls Tryz.prog 32 #[.agg #[.string s1, .int .i64 p1], .agg #[.string s2, .int .i64 p2]] w fun e w' => e = .returned (.tuple #[.agg #[.string ⟨#[]⟩, .int .i64 0], .agg #[.string ⟨#[]⟩, .int .i64 0], .int .i64 E1]) ∧ Below w.heap.size w w' := by
 have hEb : (E1 != 0) = true := by simp [hE]
 go_enter Tryz.func32, Tryz.ntmps32
 go_wp2_with (go_at_call_of 20 s1; refine (h1 _).mono ?_; rintro e w2 ⟨rfl, hb2⟩; obtain ⟨a0, a1, a2, a3⟩ := keepb hb2 (B := w.heap.size) (x := .string s1) (y := .int .i64 p1) (by simp [BoxDe, go_sem]); obtain ⟨r0, r1, r2, r3⟩ := keepb hb2 (B := w.heap.size + 2) (x := .string ⟨#[]⟩) (y := .int .i64 0) (by simp [BoxDe, go_sem]); obtain ⟨t0, t1, t2, t3⟩ := keepb hb2 (B := w.heap.size + 3) (x := .string ⟨#[]⟩) (y := .int .i64 0) (by simp [BoxDe, go_sem]))
 refine bodyPost_ret (by simp [results, Tryz.results32, go_sem, cs_same, r0, r1, t0, t1]; rfl) rfl ?_
 refine ⟨rfl, ?_⟩
 have h0 := bel_call (B := w.heap.size) (w := w) (by go_grown) hb2 (Nat.le_refl _)
 iterate 6 (refine Below.setCell ?_ (by dsimp only; omega) _)
 exact h0
set_option maxRecDepth 1000000 in
set_option maxHeartbeats 800000 in
theorem nb_both {s1 s2 S1 S2 : ByteArray} {p1 p2 P1 P2 : Int} (h1 : NormC s1 p1 S1 P1 0) (h2 : NormC s2 p2 S2 P2 0) (w : World) :
  Calls Tryz.prog 32 #[.agg #[.string s1, .int .i64 p1], .agg #[.string s2, .int .i64 p2]] w fun e w' => e = .returned (.tuple #[.agg #[.string S1, .int .i64 P1], .agg #[.string S2, .int .i64 P2], .int .i64 0]) ∧ Below w.heap.size w w' := by
 go_enter Tryz.func32, Tryz.ntmps32
 go_wp2_with (first
  | (go_at_call_of 20 s1; refine (h1 _).mono ?_; rintro e w2 ⟨rfl, hb2⟩; have bA := keepb hb2 (B := w.heap.size) (x := .string s1) (y := .int .i64 p1) (by simp [BoxDe, go_sem]); have bB := keepb hb2 (B := w.heap.size + 1) (x := .string s2) (y := .int .i64 p2) (by simp [BoxDe, go_sem]); have bR := keepb hb2 (B := w.heap.size + 2) (x := .string ⟨#[]⟩) (y := .int .i64 0) (by simp [BoxDe, go_sem]); have bT := keepb hb2 (B := w.heap.size + 3) (x := .string ⟨#[]⟩) (y := .int .i64 0) (by simp [BoxDe, go_sem]); obtain ⟨a0, a1, a2, a3⟩ := id bA; obtain ⟨b0, b1, b2, b3⟩ := id bB)
  | (go_at_call_of 20 s2; refine (h2 _).mono ?_; rintro e w3 ⟨rfl, hb3⟩; have bA' := keepb hb3 (bA.put (.string S1) (.int .i64 P1)); have bB' := keepb hb3 (bB.past (C := w.heap.size) (by omega) (.string S1) (.int .i64 P1)); have bR' := keepb hb3 (bR.past (C := w.heap.size) (by omega) (.string S1) (.int .i64 P1)); have bT' := keepb hb3 (bT.past (C := w.heap.size) (by omega) (.string S1) (.int .i64 P1)); obtain ⟨c0, c1, c2, c3⟩ := id bA'; obtain ⟨d0, d1, d2, d3⟩ := id bB'; obtain ⟨r0, r1, r2, r3⟩ := id bR'; obtain ⟨t0, t1, t2, t3⟩ := id bT'; obtain ⟨z0, z1⟩ := bB'.reads))
 go_region
 go_wp2
 refine bodyPost_ret (by simp [results, Tryz.results32, go_sem, cs_same, r0, r1, t0, t1]; rfl) rfl ?_
 refine ⟨rfl, ?_⟩
 have h0 := bel_call (B := w.heap.size) (w := w) (by go_grown) hb2 (Nat.le_refl _)
 have h1 := (h0.setCell (p := ⟨w.heap.size, 0, none⟩) (Nat.le_refl _) (.string S1)).setCell (p := ⟨w.heap.size, 1, none⟩) (Nat.le_refl _) (.int .i64 P1)
 have h2 := bel_call h1 hb3 (Nat.le_refl _)
 refine Below.drew ?_
 iterate 6 (refine Below.setCell ?_ (by dsimp only; omega) _)
 exact h2
set_option maxRecDepth 1000000 in
set_option maxHeartbeats 800000 in
theorem nb_second {s1 s2 S1 S2 : ByteArray} {p1 p2 P1 P2 E2 : Int} (h1 : NormC s1 p1 S1 P1 0) (h2 : NormC s2 p2 S2 P2 E2) (hE : ¬ E2 = 0) (w : World) :
  Calls Tryz.prog 32 #[.agg #[.string s1, .int .i64 p1], .agg #[.string s2, .int .i64 p2]] w fun e w' => e = .returned (.tuple #[.agg #[.string ⟨#[]⟩, .int .i64 0], .agg #[.string ⟨#[]⟩, .int .i64 0], .int .i64 E2]) ∧ Below w.heap.size w w' := by
 have hEb : (E2 != 0) = true := by simp [hE]
 go_enter Tryz.func32, Tryz.ntmps32
 go_wp2_with (first
  | (go_at_call_of 20 s1; refine (h1 _).mono ?_; rintro e w2 ⟨rfl, hb2⟩; have bA := keepb hb2 (B := w.heap.size) (x := .string s1) (y := .int .i64 p1) (by simp [BoxDe, go_sem]); have bB := keepb hb2 (B := w.heap.size + 1) (x := .string s2) (y := .int .i64 p2) (by simp [BoxDe, go_sem]); have bR := keepb hb2 (B := w.heap.size + 2) (x := .string ⟨#[]⟩) (y := .int .i64 0) (by simp [BoxDe, go_sem]); have bT := keepb hb2 (B := w.heap.size + 3) (x := .string ⟨#[]⟩) (y := .int .i64 0) (by simp [BoxDe, go_sem]); obtain ⟨a0, a1, a2, a3⟩ := id bA; obtain ⟨b0, b1, b2, b3⟩ := id bB)
  | (go_at_call_of 20 s2; refine (h2 _).mono ?_; rintro e w3 ⟨rfl, hb3⟩; have bA' := keepb hb3 (bA.put (.string S1) (.int .i64 P1)); have bB' := keepb hb3 (bB.past (C := w.heap.size) (by omega) (.string S1) (.int .i64 P1)); have bR' := keepb hb3 (bR.past (C := w.heap.size) (by omega) (.string S1) (.int .i64 P1)); have bT' := keepb hb3 (bT.past (C := w.heap.size) (by omega) (.string S1) (.int .i64 P1)); obtain ⟨c0, c1, c2, c3⟩ := id bA'; obtain ⟨d0, d1, d2, d3⟩ := id bB'; obtain ⟨r0, r1, r2, r3⟩ := id bR'; obtain ⟨t0, t1, t2, t3⟩ := id bT'; obtain ⟨z0, z1⟩ := bB'.reads))
 refine bodyPost_ret (by simp [results, Tryz.results32, go_sem, cs_same, r0, r1, t0, t1]; rfl) rfl ?_
 refine ⟨rfl, ?_⟩
 have h0 := bel_call (B := w.heap.size) (w := w) (by go_grown) hb2 (Nat.le_refl _)
 have h1 := (h0.setCell (p := ⟨w.heap.size, 0, none⟩) (Nat.le_refl _) (.string S1)).setCell (p := ⟨w.heap.size, 1, none⟩) (Nat.le_refl _) (.int .i64 P1)
 have h2 := bel_call h1 hb3 (Nat.le_refl _)
 iterate 6 (refine Below.setCell ?_ (by dsimp only; omega) _)
 exact h2
theorem normC (s : ByteArray) (p : Int) (hs : s.size ≤ 9223372036854775807) : NormC s p (oS (normV s p)) (oP (normV s p)) (normE s p) := fun w => norm_any s p w hs
def BothC (s1 : ByteArray) (p1 : Int) (s2 : ByteArray) (p2 : Int) (S1 : ByteArray) (P1 : Int) (S2 : ByteArray) (P2 E : Int) : Prop := ∀ w, Calls Tryz.prog 32 #[.agg #[.string s1, .int .i64 p1], .agg #[.string s2, .int .i64 p2]] w fun e w' => e = .returned (.tuple #[.agg #[.string S1, .int .i64 P1], .agg #[.string S2, .int .i64 P2], .int .i64 E]) ∧ Below w.heap.size w w'
def bV (e : Int) (v : Nat) : Nat := if e = 0 then v else 0
theorem bothC (s1 s2 : ByteArray) (p1 p2 : Int) (hs1 : s1.size ≤ 9223372036854775807) (hs2 : s2.size ≤ 9223372036854775807) :
  BothC s1 p1 s2 p2 (oS (bV (bE (normE s1 p1) (normE s2 p2)) (normV s1 p1))) (oP (bV (bE (normE s1 p1) (normE s2 p2)) (normV s1 p1))) (oS (bV (bE (normE s1 p1) (normE s2 p2)) (normV s2 p2))) (oP (bV (bE (normE s1 p1) (normE s2 p2)) (normV s2 p2))) (bE (normE s1 p1) (normE s2 p2)) := fun w => by
 have h1 := normC s1 p1 hs1
 have h2 := normC s2 p2 hs2
 by_cases e1 : normE s1 p1 = 0
 ·rw [e1] at h1
  have eb : bE (normE s1 p1) (normE s2 p2) = normE s2 p2 := if_pos e1
  rw [eb]
  by_cases e2 : normE s2 p2 = 0
  ·rw [e2] at h2 ⊢
   have := nb_both h1 h2 w
   simpa [bV] using this
  ·have := nb_second h1 h2 e2 w
   simpa [bV, e2, zero_S, o_zero.2] using this
 ·have eb : bE (normE s1 p1) (normE s2 p2) = normE s1 p1 := if_neg e1
  rw [eb]
  have := nb_first (s2 := s2) (p2 := p2) h1 e1 w
  simpa [bV, e1, zero_S, o_zero.2] using this
set_option maxRecDepth 1000000 in
set_option maxHeartbeats 800000 in
theorem cmp_err {s1 s2 S1 S2 : ByteArray} {p1 p2 P1 P2 E : Int} (hB : BothC s1 p1 s2 p2 S1 P1 S2 P2 E) (hE : ¬ E = 0) (w : World) :
  Calls Tryz.prog 50 #[.agg #[.string s1, .int .i64 p1], .agg #[.string s2, .int .i64 p2]] w fun e w' => e = .returned (.tuple #[.int .i64 0, .int .i64 E]) ∧ Below w.heap.size w w' := by
 have hEb : (E != 0) = true := by simp [hE]
 go_enter Tryz.func50, Tryz.ntmps50
 go_wp2_with (go_at_call 32; refine (hB _).mono ?_; rintro e w2 ⟨rfl, hb2⟩; have bA := keepb hb2 (B := w.heap.size) (x := .string s1) (y := .int .i64 p1) (by simp [BoxDe, go_sem]); have bB := keepb hb2 (B := w.heap.size + 1) (x := .string s2) (y := .int .i64 p2) (by simp [BoxDe, go_sem]); obtain ⟨a0, a1, a2, a3⟩ := id bA; obtain ⟨b0, b1, b2, b3⟩ := id bB)
 go_ret2
 refine ⟨rfl, ?_⟩
 have h0 := bel_call (B := w.heap.size) (w := w) (by go_grown) hb2 (Nat.le_refl _)
 iterate 4 (refine Below.setCell ?_ (by dsimp only; omega) _)
 exact h0
set_option maxRecDepth 1000000 in
set_option maxHeartbeats 1600000 in
theorem cmp_ok {s1 s2 : ByteArray} {p1 p2 : Int} {v u : Nat} (hB : BothC s1 p1 s2 p2 (oS v) (oP v) (oS u) (oP u) 0) (w : World) :
  Calls Tryz.prog 50 #[.agg #[.string s1, .int .i64 p1], .agg #[.string s2, .int .i64 p2]] w fun e w' => e = .returned (.tuple #[.int .i64 (ordN v u), .int .i64 0]) ∧ Below w.heap.size w w' := by
 have hC : ∀ w, Calls Tryz.prog 68 #[.string (oS v), .string (oS u)] w fun e w' => e = .returned (.int .i64 (Lib.compareBytes (oL v) (oL u))) ∧ w' = w := fun w => Tryz.strings_Compare (oS v) (oS u) w
 have HR : Hid (oL v = [] ∨ oL u = [] ∨ oP v = oP u → Lib.compareBytes (oL v) (oL u) = ordN v u) := cmp_rest
 have HL : Hid (oL v ≠ [] → oL u ≠ [] → oP v < oP u → v < u) := cmp_points
 have HG : Hid (oL u ≠ [] → oL v ≠ [] → oP u < oP v → u < v) := cmp_points
 have zv := oS_size v
 have zu := oS_size u
 have nv : oL v = [] ↔ (oS v).size = 0 := by rw [zv]; exact List.length_eq_zero_iff.symm
 have nu : oL u = [] ↔ (oS u).size = 0 := by rw [zu]; exact List.length_eq_zero_iff.symm
 simp only [ne_eq] at HL HG
 rw [nv, nu] at HL HG HR
 clear zv zu nv nu
 generalize Lib.compareBytes (oL v) (oL u) = cb at *
 generalize oS v = S1 at *
 generalize oS u = S2 at *
 generalize oP v = P1 at *
 generalize oP u = P2 at *
 by_cases h1 : S1.size = 0
 ·have e1 : S1.toList.isEmpty = true := empty_yes S1 h1
  have HE : Hid (cb = ordN v u) := HR.out (.inl h1)
  clear HR HL HG h1
  go_enter Tryz.func50, Tryz.ntmps50
  go_wp2_with (first | (go_at_call 32; refine (hB _).mono ?_; rintro e w2 ⟨rfl, hb2⟩; have bA := keepb hb2 (B := w.heap.size) (x := .string s1) (y := .int .i64 p1) (by simp [BoxDe, go_sem]); have bB := keepb hb2 (B := w.heap.size + 1) (x := .string s2) (y := .int .i64 p2) (by simp [BoxDe, go_sem]); obtain ⟨a0, a1, a2, a3⟩ := id bA; obtain ⟨b0, b1, b2, b3⟩ := id bB; obtain ⟨y0, y1⟩ := bA.reads; obtain ⟨z0, z1⟩ := (bB.past (C := w.heap.size) (by omega) (.string S1) (.int .i64 P1)).reads) | (go_at_call 68; refine (hC _).mono ?_; rintro e w3 ⟨rfl, rfl⟩))
  go_ret2
  rw [← HE.out]
  refine ⟨rfl, ?_⟩
  have h0 := bel_call (B := w.heap.size) (w := w) (by go_grown) hb2 (Nat.le_refl _)
  iterate 4 (refine Below.setCell ?_ (by dsimp only; omega) _)
  exact h0
 have e1 : S1.toList.isEmpty = false := empty_no S1 (by omega)
 by_cases h2 : S2.size = 0
 ·have e2 : S2.toList.isEmpty = true := empty_yes S2 h2
  have HE : Hid (cb = ordN v u) := HR.out (.inr (.inl h2))
  clear HR HL HG h1 h2
  go_enter Tryz.func50, Tryz.ntmps50
  go_wp2_with (first | (go_at_call 32; refine (hB _).mono ?_; rintro e w2 ⟨rfl, hb2⟩; have bA := keepb hb2 (B := w.heap.size) (x := .string s1) (y := .int .i64 p1) (by simp [BoxDe, go_sem]); have bB := keepb hb2 (B := w.heap.size + 1) (x := .string s2) (y := .int .i64 p2) (by simp [BoxDe, go_sem]); obtain ⟨a0, a1, a2, a3⟩ := id bA; obtain ⟨b0, b1, b2, b3⟩ := id bB; obtain ⟨y0, y1⟩ := bA.reads; obtain ⟨z0, z1⟩ := (bB.past (C := w.heap.size) (by omega) (.string S1) (.int .i64 P1)).reads) | (go_at_call 68; refine (hC _).mono ?_; rintro e w3 ⟨rfl, rfl⟩))
  go_ret2
  rw [← HE.out]
  refine ⟨rfl, ?_⟩
  have h0 := bel_call (B := w.heap.size) (w := w) (by go_grown) hb2 (Nat.le_refl _)
  iterate 4 (refine Below.setCell ?_ (by dsimp only; omega) _)
  exact h0
 have e2 : S2.toList.isEmpty = false := empty_no S2 (by omega)
 by_cases h3 : P1 = P2
 ·have HE : Hid (cb = ordN v u) := HR.out (.inr (.inr h3))
  have h3b : (P1 != P2) = false := by simp [h3]
  clear HR HL HG h1 h2 h3
  go_enter Tryz.func50, Tryz.ntmps50
  go_wp2_with (first | (go_at_call 32; refine (hB _).mono ?_; rintro e w2 ⟨rfl, hb2⟩; have bA := keepb hb2 (B := w.heap.size) (x := .string s1) (y := .int .i64 p1) (by simp [BoxDe, go_sem]); have bB := keepb hb2 (B := w.heap.size + 1) (x := .string s2) (y := .int .i64 p2) (by simp [BoxDe, go_sem]); obtain ⟨a0, a1, a2, a3⟩ := id bA; obtain ⟨b0, b1, b2, b3⟩ := id bB; obtain ⟨y0, y1⟩ := bA.reads; obtain ⟨z0, z1⟩ := (bB.past (C := w.heap.size) (by omega) (.string S1) (.int .i64 P1)).reads) | (go_at_call 68; refine (hC _).mono ?_; rintro e w3 ⟨rfl, rfl⟩))
  go_ret2
  rw [← HE.out]
  refine ⟨rfl, ?_⟩
  have h0 := bel_call (B := w.heap.size) (w := w) (by go_grown) hb2 (Nat.le_refl _)
  iterate 4 (refine Below.setCell ?_ (by dsimp only; omega) _)
  exact h0
 have h3b : (P1 != P2) = true := by simp [h3]
 by_cases h4 : P1 < P2
 ·have HE : Hid (ordN v u = -1) := ordN_lt (HL.out h1 h2 h4)
  have h4b : decide (P1 < P2) = true := by simp [h4]
  have hO : ∀ w, Calls Tryz.prog 67 #[.bool true] w fun e w' => e = .returned (.int .i64 (-1)) ∧ w' = w := fun w => order_any true w
  clear HR HL HG h1 h2
  go_enter Tryz.func50, Tryz.ntmps50
  go_wp2_with (first | (go_at_call 32; refine (hB _).mono ?_; rintro e w2 ⟨rfl, hb2⟩; have bA := keepb hb2 (B := w.heap.size) (x := .string s1) (y := .int .i64 p1) (by simp [BoxDe, go_sem]); have bB := keepb hb2 (B := w.heap.size + 1) (x := .string s2) (y := .int .i64 p2) (by simp [BoxDe, go_sem]); obtain ⟨a0, a1, a2, a3⟩ := id bA; obtain ⟨b0, b1, b2, b3⟩ := id bB; obtain ⟨y0, y1⟩ := bA.reads; obtain ⟨z0, z1⟩ := (bB.past (C := w.heap.size) (by omega) (.string S1) (.int .i64 P1)).reads) | (go_at_call 67; refine (hO _).mono ?_; rintro e w3 ⟨rfl, rfl⟩))
  go_ret2
  rw [HE.out]
  refine ⟨rfl, ?_⟩
  have h0 := bel_call (B := w.heap.size) (w := w) (by go_grown) hb2 (Nat.le_refl _)
  iterate 4 (refine Below.setCell ?_ (by dsimp only; omega) _)
  exact h0
 ·have HE : Hid (ordN v u = 1) := ordN_gt (HG.out h2 h1 (by omega))
  have h4b : decide (P1 < P2) = false := by simp; omega
  have hO : ∀ w, Calls Tryz.prog 67 #[.bool false] w fun e w' => e = .returned (.int .i64 1) ∧ w' = w := fun w => order_any false w
  clear HR HL HG h1 h2
  go_enter Tryz.func50, Tryz.ntmps50
  go_wp2_with (first | (go_at_call 32; refine (hB _).mono ?_; rintro e w2 ⟨rfl, hb2⟩; have bA := keepb hb2 (B := w.heap.size) (x := .string s1) (y := .int .i64 p1) (by simp [BoxDe, go_sem]); have bB := keepb hb2 (B := w.heap.size + 1) (x := .string s2) (y := .int .i64 p2) (by simp [BoxDe, go_sem]); obtain ⟨a0, a1, a2, a3⟩ := id bA; obtain ⟨b0, b1, b2, b3⟩ := id bB; obtain ⟨y0, y1⟩ := bA.reads; obtain ⟨z0, z1⟩ := (bB.past (C := w.heap.size) (by omega) (.string S1) (.int .i64 P1)).reads) | (go_at_call 67; refine (hO _).mono ?_; rintro e w3 ⟨rfl, rfl⟩))
  go_ret2
  rw [HE.out]
  refine ⟨rfl, ?_⟩
  have h0 := bel_call (B := w.heap.size) (w := w) (by go_grown) hb2 (Nat.le_refl _)
  iterate 4 (refine Below.setCell ?_ (by dsimp only; omega) _)
  exact h0
theorem cmp_any (s1 s2 : ByteArray) (p1 p2 : Int) (w : World) (hs1 : s1.size ≤ 9223372036854775807) (hs2 : s2.size ≤ 9223372036854775807) :
  Calls Tryz.prog 50 #[.agg #[.string s1, .int .i64 p1], .agg #[.string s2, .int .i64 p2]] w fun e w' => e = .returned (.tuple #[.int .i64 (if bE (normE s1 p1) (normE s2 p2) = 0 then ordN (normV s1 p1) (normV s2 p2) else 0), .int .i64 (bE (normE s1 p1) (normE s2 p2))]) ∧ Below w.heap.size w w' := by
 have hB := bothC s1 s2 p1 p2 hs1 hs2
 by_cases hE : bE (normE s1 p1) (normE s2 p2) = 0
 ·rw [hE] at hB ⊢
  simp only [bV, if_true] at hB ⊢
  exact cmp_ok hB w
 ·rw [if_neg hE]
  exact cmp_err hB hE w
end Go.Proofs.YtiagjheifblkiaaGreatDoor
namespace Go.Proofs.YtiagjheifblkiaaGreatDoor
open Go.RowKit
set_option linter.unusedVariables false
def lv : List Nat → Nat
 | [] => 0
 | x :: l => x + 1000000000 * lv l
theorem lv_append (a b : List Nat) : lv (a ++ b) = lv a + 1000000000 ^ a.length * lv b := by
 induction a with
 | nil => simp [lv]
 | cons x a ih =>
   rw [List.cons_append, lv, ih, lv, List.length_cons, Nat.pow_succ, Nat.mul_add, Nat.mul_comm (1000000000 ^ a.length) 1000000000, Nat.mul_assoc, Nat.add_assoc]
theorem lv_snoc (a : List Nat) (x : Nat) : lv (a ++ [x]) = lv a + 1000000000 ^ a.length * x := by rw [lv_append]; simp [lv]
theorem lv_zero (a : List Nat) : lv (a ++ [0]) = lv a := by rw [lv_snoc]; simp
def cu (xs : List Nat) : List Value := xs.map fun x : Nat => Value.int .u32 (x : Int)
theorem cu_len (xs : List Nat) : (cu xs).length = xs.length := by simp [cu]
theorem cu_append (a b : List Nat) : cu (a ++ b) = cu a ++ cu b := by simp [cu]
theorem cu_take (xs : List Nat) (m : Nat) : cu (xs.take m) = (cu xs).take m := by simp [cu]
structure Lm (w : World) (B : Nat) (ao : Option Addr) (n c : Nat) (xs : List Nat) : Prop where
 own : w.ownsRow B 86 1 (.slice ao n c) n (cu xs)
 lim : ∀ x ∈ xs, x < 1000000000
theorem Lm.len {w : World} {B : Nat} {ao : Option Addr} {n c : Nat} {xs : List Nat} (h : Lm w B ao n c xs) : xs.length = n := by
 have := h.own.1
 rw [cu_len] at this; omega
theorem Lm.nil (w : World) (B : Nat) : Lm w B none 0 0 [] := ⟨World.ownsRow_nil _ _ _ _, fun x hx => by cases hx⟩
theorem Lm.head {w : World} {B : Nat} {ao : Option Addr} {n c : Nat} {xs : List Nat} (h : Lm w B ao n c xs) (hn : 0 < n) : ∃ g, ao = some ⟨g, 0, none⟩ ∧ B ≤ g ∧ g < w.heap.size := by
 rcases h.own.2 with ⟨h1, h2⟩ | ⟨g, cap, cur, h1, hB, hg, -⟩
 ·omega
 ·cases h1
  exact ⟨g, rfl, hB, (Array.getElem?_eq_some_iff.1 hg).1⟩
theorem Lm.cell {w : World} {B g n c : Nat} {xs : List Nat} (h : Lm w B (some ⟨g, 0, none⟩) n c xs) (j : Nat) (hj : j < n) : w.cell? ⟨g, j, none⟩ = some (.int .u32 ((xs.getD j 0 : Nat) : Int)) := by
 rw [h.own.cellAt j (by omega)]
 have := h.len
 have hj' : j < xs.length := by omega
 simp [cu, hj', List.getD]
theorem Lm.froz {w : World} {B g n c : Nat} {xs : List Nat} (h : Lm w B (some ⟨g, 0, none⟩) n c xs) (j : Nat) : w.frozen? ⟨g, j, none⟩ = false := h.own.frozenAt j
theorem Lm.cut {w : World} {B : Nat} {ao : Option Addr} {n c : Nat} {xs : List Nat} (h : Lm w B ao n c xs) {m : Nat} (hm : m ≤ n) : Lm w B ao m c (xs.take m) := by
 have hl := h.len
 refine ⟨⟨by rw [cu_len, List.length_take]; omega, ?_⟩, fun x hx => h.lim x (List.mem_of_mem_take hx)⟩
 rcases h.own.2 with ⟨h1, h2⟩ | ⟨g, cap, cur, h1, hB, hg, k1, k2, k3, k4⟩
 ·cases h1
  exact .inl ⟨by rw [show m = 0 by omega], by omega⟩
 ·cases h1
  refine .inr ⟨g, c, cur, rfl, hB, hg, by omega, k2, k3, ?_⟩
  rw [cu_take, ← k4, List.take_take]
  congr 1; omega
theorem Lm.below {w w' : World} {B : Nat} {ao : Option Addr} {n c : Nat} {xs : List Nat} (h : Lm w B ao n c xs) (b : Below w.heap.size w w') : Lm w' B ao n c xs := by
 refine ⟨⟨h.own.1, ?_⟩, h.lim⟩
 rcases h.own.2 with h1 | ⟨g, cap, cur, h1, hB, hg, k⟩
 ·exact .inl h1
 ·exact .inr ⟨g, cap, cur, h1, hB, (b.block g (Array.getElem?_eq_some_iff.1 hg).1).trans hg, k⟩
theorem Lm.mono {w : World} {B B' : Nat} {ao : Option Addr} {n c : Nat} {xs : List Nat} (h : Lm w B ao n c xs) (hb : B' ≤ B) : Lm w B' ao n c xs := by
 refine ⟨⟨h.own.1, ?_⟩, h.lim⟩
 rcases h.own.2 with h1 | ⟨g, cap, cur, h1, hB, k⟩
 ·exact .inl h1
 ·exact .inr ⟨g, cap, cur, h1, Nat.le_trans hb hB, k⟩
theorem num_take (s : ByteArray) (k : Nat) (h : k < s.size) : num (s.data.toList.take (k + 1)) = num (s.data.toList.take k) * 10 + dgD (s[k]'h) := by
 have hl : k < s.data.toList.length := by rw [list_len]; exact h
 have e : s.data.toList[k]'hl = s[k]'h := rfl
 rw [List.take_succ_eq_append_getElem hl, num_snoc, e]
theorem allD_at (s : ByteArray) (hdB : allD s.data.toList = true) (k : Nat) (h : k < s.size) : 48 ≤ (s[k]'h).toNat ∧ (s[k]'h).toNat ≤ 57 := by
 have hl : k < s.data.toList.length := by rw [list_len]; exact h
 have hm : (s[k]'h) ∈ s.data.toList := List.getElem_mem hl
 exact (isD_iff _).1 (allD_mem hdB hm)
theorem num_take_lt (s : ByteArray) (hdB : allD s.data.toList = true) (k : Nat) (h : k ≤ 8) : num (s.data.toList.take k) < 100000000 := by
 have h1 := num_lt (s.data.toList.take k) (allD_of fun x hx => allD_mem hdB (List.mem_of_mem_take hx))
 have h2 : (s.data.toList.take k).length ≤ 8 := by rw [List.length_take]; omega
 exact Nat.lt_of_lt_of_le h1 (Nat.pow_le_pow_right (by decide) h2)
set_option maxRecDepth 1000000 in
set_option maxHeartbeats 400000 in
theorem limbof_any (s : ByteArray) (w : World) (hdB : allD s.data.toList = true) (hz : s.size ≤ 9) :
  Calls Tryz.prog 71 #[.string s] w fun e w' => e = .returned (.int .u32 ((num s.data.toList : Nat) : Int)) ∧ w' = w := by
 have HD : Hid (allD s.data.toList = true) := hdB
 clear hdB
 go_enter Tryz.func71, Tryz.ntmps71
 go_wp2
 go_loopg [3, 7] s.size (fun g l i wr => wr = w ∧ ∃ k m : Nat, i = .int .i64 k ∧ l = .int .u32 (m : Int) ∧ k + g = s.size ∧ Hid (m = num (s.data.toList.take k)))
 case atStart => exact ⟨rfl, 0, 0, rfl, rfl, Nat.zero_add _, rfl⟩
 case round =>
  obtain ⟨rfl, k, m, rfl, rfl, hkg, HM⟩ := hrel
  by_cases hlt : k < s.size
  ·have hltI : (k : Int) < s.size := by omega
   have hm : m < 100000000 := by rw [HM.out]; exact num_take_lt s HD.out k (by omega)
   obtain ⟨x0, x1⟩ := allD_at s HD.out k hlt
   have HN : Hid (m * 10 + ((s[k]'hlt).toNat - 48) = num (s.data.toList.take (k + 1))) := by
    show _ = _
    rw [num_take s k hlt, ← HM.out]; rfl
   clear HM
   obtain ⟨x, hx⟩ : ∃ x, (s[k]'hlt).toNat = x := ⟨_, rfl⟩
   rw [hx] at x0 x1 HN
   go_wp2
   go_roundg (gk - 1)
   case measure => omega
   case rel => exact ⟨rfl, k + 1, m * 10 + (x - 48), by go_num, by go_num, by omega, HN⟩
  ·have hltI : ¬ (k : Int) < s.size := by omega
   have HF : Hid (m = num s.data.toList) := by
    show m = _
    rw [HM.out, List.take_of_length_le (by rw [list_len]; omega)]
   go_wp2
   go_ret
   rw [HF.out]
   exact ⟨rfl, rfl⟩
theorem lv_pop (xs : List Nat) (m : Nat) (hm : m < xs.length) (h0 : xs.getD m 0 = 0) : lv (xs.take (m + 1)) = lv (xs.take m) := by
 rw [List.take_succ_eq_append_getElem hm]
 have : xs[m] = 0 := by rw [← h0]; simp [List.getD, hm]
 rw [this, lv_zero]
set_option maxRecDepth 1000000 in
set_option maxHeartbeats 400000 in
theorem cutl_any (B : Nat) (ao : Option Addr) (n c : Nat) (xs : List Nat) (w : World) (h : Lm w B ao n c xs) (hn : n ≤ 100000000) :
  Calls Tryz.prog 69 #[.slice ao n c] w fun e w' => (∃ m, m ≤ n ∧ e = .returned (.slice ao m c) ∧ lv (xs.take m) = lv xs) ∧ w' = w := by
 go_enter Tryz.func69, Tryz.ntmps69
 go_wp2
 go_loopg [0] n (fun g v wr => wr = w ∧ ∃ m : Nat, v = .slice ao m c ∧ m = g ∧ m ≤ n ∧ Hid (lv (xs.take m) = lv xs))
 case atStart => exact ⟨rfl, n, rfl, rfl, Nat.le_refl _, by show _ = _; rw [List.take_of_length_le (by rw [h.len]; exact Nat.le_refl _)]⟩
 case round =>
  obtain ⟨rfl, m, rfl, rfl, hmn, HL⟩ := hrel
  rcases Nat.eq_zero_or_pos m with h0 | h0
  ·subst h0
   go_wp2
   go_ret
   exact ⟨⟨0, Nat.zero_le _, rfl, HL.out⟩, rfl⟩
  ·obtain ⟨g, rfl, hBg, hgw⟩ := h.head (by omega)
   obtain ⟨j, rfl⟩ : ∃ j, m = j + 1 := ⟨m - 1, by omega⟩
   have hc := h.cell j (by omega)
   have HL2 : Hid (xs.getD j 0 = 0 → lv (xs.take j) = lv xs) := fun h0 => by
    rw [← lv_pop xs j (by rw [h.len]; omega) h0]; exact HL.out
   have hcap : n ≤ c := by
    rcases h.own.2 with ⟨h1, -⟩ | ⟨g', cap, cur, h1, -, -, k1, -⟩
    ·cases h1
    ·cases h1; exact k1
   generalize xs.getD j 0 = x at *
   by_cases hx : x = 0
   ·subst hx
    have HL3 : Hid (lv (xs.take j) = lv xs) := HL2.out rfl
    go_wp2
    go_roundg j
    case measure => omega
    case rel => exact ⟨rfl, j, by go_num, rfl, by omega, HL3⟩
   ·have hxI : ¬ (x : Int) = 0 := by omega
    go_wp2
    go_ret
    exact ⟨⟨j + 1, hmn, by go_num, HL.out⟩, rfl⟩
end Go.Proofs.YtiagjheifblkiaaGreatDoor
