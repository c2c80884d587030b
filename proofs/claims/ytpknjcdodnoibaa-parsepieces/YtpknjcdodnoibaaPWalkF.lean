/- Package parse: the width, the precision. -/
import Derived.Test.YtpknjcdodnoibaaPWalkE
namespace Go.Proofs.Ytpknjcdodnoibaa
open Go.RowKit
set_option linter.unusedVariables false
set_option linter.unusedSimpArgs false

/-- On the way through width and precision: the two boxes of the results, the box B of the index. -/
structure StW (w0 : World) (s : ByteArray) (R F B : Nat) (x : Ix) (P : Nat) (l : Bs) (w : World) : Prop where
  r : RdW s R F P l w
  a : Bx w w0.heap.size [.int .i64 0, .int .i64 0, .int .i64 0, .int .i64 0]
  b : Bx w (w0.heap.size + 1) [.int .i64 0, .int .i64 0]
  c : Bx w B [.int .i64 (x.k : Nat), .int .i64 (x.n : Nat)]
  g : w0.grownBy w (some R)
  nR : R < w0.heap.size
  nF : F < w0.heap.size
  nB : w0.heap.size + 1 < B
theorem StW.up {w0 : World} {s : ByteArray} {R F B : Nat} {x : Ix} {P : Nat} {l : Bs} {w w' : World} (h : StW w0 s R F B x P l w) (hb : Below w.heap.size w w') : StW w0 s R F B x P l w' :=
  ⟨h.r.up hb, h.a.up hb, h.b.up hb, h.c.up hb, h.g.trans (gr_below hb _), h.nR, h.nF, h.nB⟩
theorem StW.go {w0 : World} {s : ByteArray} {R F B : Nat} {x : Ix} {P P' : Nat} {l l' : Bs} {w w' : World} (h : StW w0 s R F B x P l w) (hr : RdW s R F P' l' w') (hg : w.grownBy w' (some R)) : StW w0 s R F B x P' l' w' :=
  ⟨hr, h.a.grown hg (by have := h.nR; omega), h.b.grown hg (by have := h.nR; omega), h.c.grown hg (by have := h.nR; have := h.nB; omega), h.g.trans hg, h.nR, h.nF, h.nB⟩
theorem StW.cells {w0 : World} {s : ByteArray} {R F B : Nat} {x : Ix} {P : Nat} {l : Bs} {w : World} (h : StW w0 s R F B x P l w) :
    (w.cell? ⟨w0.heap.size, 0, none⟩ = some (.int .i64 0) ∧ w.cell? ⟨w0.heap.size, 1, none⟩ = some (.int .i64 0) ∧ w.cell? ⟨w0.heap.size, 2, none⟩ = some (.int .i64 0) ∧ w.cell? ⟨w0.heap.size, 3, none⟩ = some (.int .i64 0)) ∧
    (w.cell? ⟨w0.heap.size + 1, 0, none⟩ = some (.int .i64 0) ∧ w.cell? ⟨w0.heap.size + 1, 1, none⟩ = some (.int .i64 0)) ∧
    (w.cell? ⟨B, 0, none⟩ = some (.int .i64 (x.k : Nat)) ∧ w.cell? ⟨B, 1, none⟩ = some (.int .i64 (x.n : Nat))) ∧
    ((∀ i, w.frozen? ⟨w0.heap.size, i, none⟩ = false) ∧ (∀ i, w.frozen? ⟨w0.heap.size + 1, i, none⟩ = false) ∧ (∀ i, w.frozen? ⟨B, i, none⟩ = false)) ∧
    (w.cell? ⟨R, 0, none⟩ = some (.int .i64 (P : Nat)) ∧ w.cell? ⟨R, 1, none⟩ = some (.func (.func 9) #[] #[.pointer (some ⟨F, 0, none⟩)]) ∧ w.cell? ⟨F, 0, none⟩ = some (.string s)) :=
  ⟨h.a.four, h.b.two, h.c.two, ⟨h.a.z, h.b.z, h.c.z⟩, h.r.a, h.r.n, h.r.f⟩
/-- The end: six stores into the results' boxes, in whatever order. -/
theorem StW.fin {w0 : World} {s : ByteArray} {R F B : Nat} {x : Ix} {P : Nat} {l : Bs} {w : World} (h : StW w0 s R F B x P l w) {b1 b2 b3 b4 b5 b6 o1 o2 o3 o4 o5 o6 : Nat} {v1 v2 v3 v4 v5 v6 : Value}
    (c1 : w0.heap.size ≤ b1) (c2 : w0.heap.size ≤ b2) (c3 : w0.heap.size ≤ b3) (c4 : w0.heap.size ≤ b4) (c5 : w0.heap.size ≤ b5) (c6 : w0.heap.size ≤ b6) :
    (∃ P', RdW s R F P' l ((((((w.setCell ⟨b1, o1, none⟩ v1).setCell ⟨b2, o2, none⟩ v2).setCell ⟨b3, o3, none⟩ v3).setCell ⟨b4, o4, none⟩ v4).setCell ⟨b5, o5, none⟩ v5).setCell ⟨b6, o6, none⟩ v6)) ∧
    w0.grownBy ((((((w.setCell ⟨b1, o1, none⟩ v1).setCell ⟨b2, o2, none⟩ v2).setCell ⟨b3, o3, none⟩ v3).setCell ⟨b4, o4, none⟩ v4).setCell ⟨b5, o5, none⟩ v5).setCell ⟨b6, o6, none⟩ v6) (some R) := by
  have := h.nR
  have := h.nF
  exact ⟨⟨P, (((((h.r.grown (by omega) (by omega) _).grown (by omega) (by omega) _).grown (by omega) (by omega) _).grown (by omega) (by omega) _).grown (by omega) (by omega) _).grown (by omega) (by omega) _⟩,
    gr_own (gr_own (gr_own (gr_own (gr_own (gr_own h.g c1 _) c2 _) c3 _) c4 _) c5 _) c6 _⟩
/-- The beginning: the two boxes, the index, its box. -/
theorem StW.begin {w : World} {s : ByteArray} {R F P P' : Nat} {l l' : Bs} {x : Ix} {w3 W1 W2 : World} (h : RdW s R F P l w) (e1 : W1 = w.alloc (.cells #[.int .i64 0, .int .i64 0, .int .i64 0, .int .i64 0] 38)) (e2 : W2 = W1.alloc (.cells #[.int .i64 0, .int .i64 0] 36))
    (hr : RdW s R F P' l' w3) (hg : W2.grownBy w3 (some R)) : StW w s R F w3.heap.size x P' l' (w3.alloc (.cells #[.int .i64 (x.k : Nat), .int .i64 (x.n : Nat)] 36)) := by
  have hs1 : W1.heap.size = w.heap.size + 1 := by rw [e1]; simp
  have hs2 : W2.heap.size = w.heap.size + 2 := by rw [e2]; simp [hs1]
  have hb1 : Below w.heap.size w W1 := by rw [e1]; exact (Below.refl _ _).alloc (Nat.le_refl _) _
  have hb2 : Below W1.heap.size W1 W2 := by rw [e2]; exact (Below.refl _ _).alloc (Nat.le_refl _) _
  have hx1 : Bx W2 w.heap.size [.int .i64 0, .int .i64 0, .int .i64 0, .int .i64 0] := Bx.up (by rw [e1]; exact Bx.new _ _ _) hb2
  have hx2 : Bx W2 (w.heap.size + 1) [.int .i64 0, .int .i64 0] := by rw [← hs1, e2]; exact Bx.new _ _ _
  have hRw : R < w.heap.size := lt_of_cell9 h.a
  have hFw : F < w.heap.size := lt_of_cell9 h.f
  have al : Below w3.heap.size w3 (w3.alloc (.cells #[.int .i64 (x.k : Nat), .int .i64 (x.n : Nat)] 36)) := (Below.refl _ _).alloc (Nat.le_refl _) _
  have hsz := hg.size
  exact ⟨hr.up al, (hx1.grown hg (by omega)).up al, (hx2.grown hg (by omega)).up al, Bx.new _ _ _, ((gr_below hb1 _).trans (gr_below hb2 _)).trans (hg.trans (gr_below al _)), hRw, hFw, by omega⟩

abbrev IdC (s : ByteArray) (R F P : Nat) (l : Bs) (x : Ix) (l' : Bs) : Prop := ∀ w, RdW s R F P l w → Calls Try.prog 28 #[.pointer (some ⟨R, 0, none⟩)] w fun e w' => e = .returned (.agg #[.int .i64 (x.k : Nat), .int .i64 (x.n : Nat)]) ∧ (∃ P', RdW s R F P' l' w') ∧ w.grownBy w' (some R)
abbrev WdC (s : ByteArray) (R F P : Nat) (l : Bs) (a : Nb) (x : Ix) (l' : Bs) : Prop := ∀ w, RdW s R F P l w → Calls Try.prog 24 #[.pointer (some ⟨R, 0, none⟩)] w fun e w' => e = .returned (.tuple #[nbV a, ixV x]) ∧ (∃ P', RdW s R F P' l' w') ∧ w.grownBy w' (some R)
theorem StW.finD {w0 : World} {s : ByteArray} {R F : Nat} {l : Bs} {w : World} (h : (∃ P', RdW s R F P' l w) ∧ w0.grownBy w (some R)) : (∃ P', RdW s R F P' l w.drew) ∧ w0.grownBy w.drew (some R) := by
  obtain ⟨⟨P', a⟩, b⟩ := h
  exact ⟨⟨P', a.up ((Below.refl _ _).drew)⟩, b.trans (gr_below ((Below.refl _ _).drew) _)⟩
set_option maxRecDepth 1000000 in
set_option maxHeartbeats 4000000 in
theorem width_star {s : ByteArray} {R F P : Nat} {l l1 : Bs} {x : Ix} (hI : IdC s R F P l x l1) (hh : hd l1 = 42) : WdC s R F P l ⟨2, 0, x⟩ ix0 l1.tail := fun w h => by
  have hT := fun P1 => take_yes (s := s) (R := R) (F := F) (P := P1) (l := l1) (c := 42) (by omega) (by omega) hh
  obtain ⟨W1, hW1⟩ : ∃ W1, W1 = w.alloc (.cells #[.int .i64 0, .int .i64 0, .int .i64 0, .int .i64 0] 38) := ⟨_, rfl⟩
  obtain ⟨W2, hW2⟩ : ∃ W2, W2 = W1.alloc (.cells #[.int .i64 0, .int .i64 0] 36) := ⟨_, rfl⟩
  have h1 : RdW s R F P l W1 := h.up (by rw [hW1]; exact (Below.refl _ _).alloc (Nat.le_refl _) _)
  have h2 : RdW s R F P l W2 := h1.up (by rw [hW2]; exact (Below.refl _ _).alloc (Nat.le_refl _) _)
  have beg := fun (P1 : Nat) (w3 : World) (hr : RdW s R F P1 l1 w3) (hg : W2.grownBy w3 (some R)) => StW.begin (x := x) h hW1 hW2 hr hg
  clear h1
  unfold nbV ixV ix0
  dsimp only
  go_enter Try.func24, Try.ntmps24
  go_upto_region 1 with fail
  rw [← hW1, ← hW2]
  clear hW1 hW2
  go_upto_region 2 with (go_at_call 28; refine (hI _ h2).mono ?_; rintro e w3 ⟨rfl, ⟨P1, h3⟩, g3⟩; have s4 := beg P1 w3 h3 g3)
  generalize w3.alloc (.cells #[.int .i64 (x.k : Nat), .int .i64 (x.n : Nat)] 36) = W4 at *
  generalize w3.heap.size = B at *
  go_wp2_with (go_at_call 14; refine (hT _ _ s4.r).mono ?_; rintro e w5 ⟨rfl, h5, g5⟩; have s5 := s4.go h5 g5; obtain ⟨⟨k0, k1, k2, k3⟩, ⟨j0, j1⟩, ⟨i0, i1⟩, ⟨z0, z1, z2⟩, ⟨d0, d1, d2⟩⟩ := s5.cells)
  refine bodyPost_ret (by simp [results, Try.results24, go_sem, cs_same9, k0, k1, k2, k3, j0, j1]; rfl) rfl ?_
  exact ⟨rfl, s5.fin (by omega) (by omega) (by omega) (by omega) (by omega) (by omega)⟩
set_option maxRecDepth 1000000 in
set_option maxHeartbeats 4000000 in
theorem width_low {s : ByteArray} {R F P : Nat} {l l1 : Bs} {x : Ix} {q n : Nat} (hI : IdC s R F P l x l1) (hh : hd l1 ≠ 42) (hx : nxt l1 = (q, n)) (hq : q < 49) : WdC s R F P l nb0 x l1 := fun w h => by
  have hT := fun P1 => take_no (s := s) (R := R) (F := F) (P := P1) (l := l1) (c := 42) (by omega) (by omega) hh
  obtain ⟨W1, hW1⟩ : ∃ W1, W1 = w.alloc (.cells #[.int .i64 0, .int .i64 0, .int .i64 0, .int .i64 0] 38) := ⟨_, rfl⟩
  obtain ⟨W2, hW2⟩ : ∃ W2, W2 = W1.alloc (.cells #[.int .i64 0, .int .i64 0] 36) := ⟨_, rfl⟩
  have h1 : RdW s R F P l W1 := h.up (by rw [hW1]; exact (Below.refl _ _).alloc (Nat.le_refl _) _)
  have h2 : RdW s R F P l W2 := h1.up (by rw [hW2]; exact (Below.refl _ _).alloc (Nat.le_refl _) _)
  have beg := fun (P1 : Nat) (w3 : World) (hr : RdW s R F P1 l1 w3) (hg : W2.grownBy w3 (some R)) => StW.begin (x := x) h hW1 hW2 hr hg
  clear h1
  unfold nbV ixV nb0 ix0
  dsimp only
  have b1 : (q : Int) < 49 := by omega
  go_enter Try.func24, Try.ntmps24
  go_upto_region 1 with fail
  rw [← hW1, ← hW2]
  clear hW1 hW2
  go_upto_region 2 with (go_at_call 28; refine (hI _ h2).mono ?_; rintro e w3 ⟨rfl, ⟨P1, h3⟩, g3⟩; have s4 := beg P1 w3 h3 g3)
  generalize w3.alloc (.cells #[.int .i64 (x.k : Nat), .int .i64 (x.n : Nat)] 36) = W4 at *
  generalize w3.heap.size = B at *
  go_upto_region 4 with (go_at_call 14; refine (hT _ _ s4.r).mono ?_; rintro e w5 ⟨rfl, h5, g5⟩; have s4' := s4.go h5 g5)
  have c0 : ∀ x : Cl w5, x.w.cell? ⟨R, 0, none⟩ = some (.int .i64 (P1 : Nat)) := fun x => x.cell h5.a
  have c1 : ∀ x : Cl w5, x.w.cell? ⟨R, 1, none⟩ = some (.func (.func 9) #[] #[.pointer (some ⟨F, 0, none⟩)]) := fun x => x.cell h5.n
  have hN := h5.next hx
  refine wp_region_above w5 (Below.refl _ _) (by kernel_rfl) (by kernel_rfl) ?_
  intro hCl
  repeat (go_big_quiet_step ((go_at_call 9; exact Cl.call (hN _))))
  refine wpQuiet_nil ?_
  intro _ hw'
  obtain ⟨y, hy⟩ := hw'
  subst hy
  have s5 := s4'.up y.below
  obtain ⟨⟨k0, k1, k2, k3⟩, ⟨j0, j1⟩, ⟨i0, i1⟩, ⟨z0, z1, z2⟩, ⟨d0, d1, d2⟩⟩ := s5.cells
  clear c0 c1 hN hCl
  have n1 := s5.nB
  go_wp2
  go_region
  all_goals go_wp2
  all_goals refine bodyPost_ret (by simp [results, Try.results24, go_sem, cs_same9, k0, k1, k2, k3, j0, j1]; rfl) rfl ?_
  all_goals refine ⟨rfl, ?_⟩
  all_goals exact StW.finD (s5.fin (by omega) (by omega) (by omega) (by omega) (by omega) (by omega))
set_option maxRecDepth 1000000 in
set_option maxHeartbeats 4000000 in
theorem width_high {s : ByteArray} {R F P : Nat} {l l1 : Bs} {x : Ix} {q n : Nat} (hI : IdC s R F P l x l1) (hh : hd l1 ≠ 42) (hx : nxt l1 = (q, n)) (hq : 57 < q) : WdC s R F P l nb0 x l1 := fun w h => by
  have hT := fun P1 => take_no (s := s) (R := R) (F := F) (P := P1) (l := l1) (c := 42) (by omega) (by omega) hh
  obtain ⟨W1, hW1⟩ : ∃ W1, W1 = w.alloc (.cells #[.int .i64 0, .int .i64 0, .int .i64 0, .int .i64 0] 38) := ⟨_, rfl⟩
  obtain ⟨W2, hW2⟩ : ∃ W2, W2 = W1.alloc (.cells #[.int .i64 0, .int .i64 0] 36) := ⟨_, rfl⟩
  have h1 : RdW s R F P l W1 := h.up (by rw [hW1]; exact (Below.refl _ _).alloc (Nat.le_refl _) _)
  have h2 : RdW s R F P l W2 := h1.up (by rw [hW2]; exact (Below.refl _ _).alloc (Nat.le_refl _) _)
  have beg := fun (P1 : Nat) (w3 : World) (hr : RdW s R F P1 l1 w3) (hg : W2.grownBy w3 (some R)) => StW.begin (x := x) h hW1 hW2 hr hg
  clear h1
  unfold nbV ixV nb0 ix0
  dsimp only
  have b1 : ¬ (q : Int) < 49 := by omega
  have b2 : 57 < (q : Int) := by omega
  go_enter Try.func24, Try.ntmps24
  go_upto_region 1 with fail
  rw [← hW1, ← hW2]
  clear hW1 hW2
  go_upto_region 2 with (go_at_call 28; refine (hI _ h2).mono ?_; rintro e w3 ⟨rfl, ⟨P1, h3⟩, g3⟩; have s4 := beg P1 w3 h3 g3)
  generalize w3.alloc (.cells #[.int .i64 (x.k : Nat), .int .i64 (x.n : Nat)] 36) = W4 at *
  generalize w3.heap.size = B at *
  go_upto_region 4 with (go_at_call 14; refine (hT _ _ s4.r).mono ?_; rintro e w5 ⟨rfl, h5, g5⟩; have s4' := s4.go h5 g5)
  have c0 : ∀ x : Cl w5, x.w.cell? ⟨R, 0, none⟩ = some (.int .i64 (P1 : Nat)) := fun x => x.cell h5.a
  have c1 : ∀ x : Cl w5, x.w.cell? ⟨R, 1, none⟩ = some (.func (.func 9) #[] #[.pointer (some ⟨F, 0, none⟩)]) := fun x => x.cell h5.n
  have hN := h5.next hx
  refine wp_region_above w5 (Below.refl _ _) (by kernel_rfl) (by kernel_rfl) ?_
  intro hCl
  repeat (go_big_quiet_step ((go_at_call 9; exact Cl.call (hN _))))
  refine wpQuiet_nil ?_
  intro _ hw'
  obtain ⟨y, hy⟩ := hw'
  subst hy
  have s5 := s4'.up y.below
  obtain ⟨⟨k0, k1, k2, k3⟩, ⟨j0, j1⟩, ⟨i0, i1⟩, ⟨z0, z1, z2⟩, ⟨d0, d1, d2⟩⟩ := s5.cells
  clear c0 c1 hN hCl
  have n1 := s5.nB
  go_wp2
  go_region
  all_goals go_wp2
  all_goals refine bodyPost_ret (by simp [results, Try.results24, go_sem, cs_same9, k0, k1, k2, k3, j0, j1]; rfl) rfl ?_
  all_goals refine ⟨rfl, ?_⟩
  all_goals exact StW.finD (s5.fin (by omega) (by omega) (by omega) (by omega) (by omega) (by omega))
set_option maxRecDepth 1000000 in
set_option maxHeartbeats 4000000 in
theorem width_given {s : ByteArray} {R F P : Nat} {l l1 : Bs} {x : Ix} {q n : Nat} (hI : IdC s R F P l x l1) (hh : hd l1 ≠ 42) (hx : nxt l1 = (q, n)) (hq : 49 ≤ q) (hq' : q ≤ 57) : WdC s R F P l ⟨1, wN (dgs l1), ix0⟩ (spl x) (aft l1) := fun w h => by
  have hT := fun P1 => take_no (s := s) (R := R) (F := F) (P := P1) (l := l1) (c := 42) (by omega) (by omega) hh
  have hG : ∀ P1 (w : World), RdW s R F P1 l1 w → Calls Try.prog 31 #[.pointer (some ⟨R, 0, none⟩)] w fun e w' => e = .returned (.agg #[.int .i64 1, .int .i64 (wN (dgs l1)), .int .i64 0, .int .i64 0]) ∧ RdW s R F (P1 + (dgs l1).length) (aft l1) w' ∧ w.grownBy w' (some R) := fun P1 => given_any s R F P1 l1
  have hS : ∀ w : World, Calls Try.prog 25 #[.agg #[.int .i64 (x.k : Nat), .int .i64 (x.n : Nat)]] w fun e w' => e = .returned (.agg #[.int .i64 ((spl x).k : Nat), .int .i64 ((spl x).n : Nat)]) ∧ Below w.heap.size w w' := spoilt_any x
  unfold nbV ixV ix0 at *
  dsimp only at *
  generalize wN (dgs l1) = D at *
  generalize spl x = sx at *
  obtain ⟨W1, hW1⟩ : ∃ W1, W1 = w.alloc (.cells #[.int .i64 0, .int .i64 0, .int .i64 0, .int .i64 0] 38) := ⟨_, rfl⟩
  obtain ⟨W2, hW2⟩ : ∃ W2, W2 = W1.alloc (.cells #[.int .i64 0, .int .i64 0] 36) := ⟨_, rfl⟩
  have h1 : RdW s R F P l W1 := h.up (by rw [hW1]; exact (Below.refl _ _).alloc (Nat.le_refl _) _)
  have h2 : RdW s R F P l W2 := h1.up (by rw [hW2]; exact (Below.refl _ _).alloc (Nat.le_refl _) _)
  have beg := fun (P1 : Nat) (w3 : World) (hr : RdW s R F P1 l1 w3) (hg : W2.grownBy w3 (some R)) => StW.begin (x := x) h hW1 hW2 hr hg
  clear h1
  have b1 : ¬ (q : Int) < 49 := by omega
  have b2 : ¬ 57 < (q : Int) := by omega
  go_enter Try.func24, Try.ntmps24
  go_upto_region 1 with fail
  rw [← hW1, ← hW2]
  clear hW1 hW2
  go_upto_region 2 with (go_at_call 28; refine (hI _ h2).mono ?_; rintro e w3 ⟨rfl, ⟨P1, h3⟩, g3⟩; have s4 := beg P1 w3 h3 g3)
  generalize w3.alloc (.cells #[.int .i64 (x.k : Nat), .int .i64 (x.n : Nat)] 36) = W4 at *
  generalize w3.heap.size = B at *
  go_upto_region 4 with (go_at_call 14; refine (hT _ _ s4.r).mono ?_; rintro e w5 ⟨rfl, h5, g5⟩; have s4' := s4.go h5 g5)
  have c0 : ∀ x : Cl w5, x.w.cell? ⟨R, 0, none⟩ = some (.int .i64 (P1 : Nat)) := fun x => x.cell h5.a
  have c1 : ∀ x : Cl w5, x.w.cell? ⟨R, 1, none⟩ = some (.func (.func 9) #[] #[.pointer (some ⟨F, 0, none⟩)]) := fun x => x.cell h5.n
  have hN := h5.next hx
  refine wp_region_above w5 (Below.refl _ _) (by kernel_rfl) (by kernel_rfl) ?_
  intro hCl
  repeat (go_big_quiet_step ((go_at_call 9; exact Cl.call (hN _))))
  refine wpQuiet_nil ?_
  intro _ hw'
  obtain ⟨y, hy⟩ := hw'
  subst hy
  have s5 := s4'.up y.below
  obtain ⟨⟨k0, k1, k2, k3⟩, ⟨j0, j1⟩, ⟨i0, i1⟩, ⟨z0, z1, z2⟩, ⟨d0, d1, d2⟩⟩ := s5.cells
  clear c0 c1 hN hCl
  have hGv : ∀ V, StW w s R F B x P1 l1 V → Calls Try.prog 31 #[.pointer (some ⟨R, 0, none⟩)] V fun e w' => e = .returned (.agg #[.int .i64 1, .int .i64 D, .int .i64 0, .int .i64 0]) ∧ StW w s R F B x (P1 + (dgs l1).length) (aft l1) w' := fun V hV => (hG P1 V hV.r).mono fun e w' ⟨e1, e2, e3⟩ => ⟨e1, hV.go e2 e3⟩
  have hSv : ∀ V (P2 : Nat) (l2 : Bs), StW w s R F B x P2 l2 V → Calls Try.prog 25 #[.agg #[.int .i64 (x.k : Nat), .int .i64 (x.n : Nat)]] V fun e w' => e = .returned (.agg #[.int .i64 (sx.k : Nat), .int .i64 (sx.n : Nat)]) ∧ StW w s R F B x P2 l2 w' := fun V P2 l2 hV => (hS V).mono fun e w' ⟨e1, e2⟩ => ⟨e1, hV.up e2⟩
  clear hG hS hT beg hI
  have s6 : StW w s R F B x P1 l1 y.w.drew := s5.up ((Below.refl _ _).drew)
  have n1 := s5.nB
  go_wp2
  go_region_with (first
    | (go_at_call 31; refine (hGv _ (by assumption)).mono ?_; rintro e w6 ⟨rfl, s7⟩; obtain ⟨⟨u0, u1, u2, u3⟩, ⟨t0, t1⟩, ⟨v0, v1⟩, ⟨f0, f1, f2⟩, ⟨e0, e1, e2⟩⟩ := s7.cells)
    | (go_at_call 25; refine (hSv _ _ _ (by assumption)).mono ?_; rintro e w7 ⟨rfl, s8⟩; obtain ⟨⟨u0, u1, u2, u3⟩, ⟨t0, t1⟩, ⟨v0, v1⟩, ⟨f0, f1, f2⟩, ⟨e0, e1, e2⟩⟩ := s8.cells))
  all_goals go_wp2
  all_goals refine bodyPost_ret (by simp [results, Try.results24, go_sem, cs_same9, u0, u1, u2, u3, t0, t1]; rfl) rfl ?_
  all_goals refine ⟨rfl, StW.fin (by assumption) (by omega) (by omega) (by omega) (by omega) (by omega) (by omega)⟩
end Go.Proofs.Ytpknjcdodnoibaa
