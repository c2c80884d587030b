/- Package parse: the index. -/
import Derived.Test.YtpknjcdodnoibaaPWalkB
namespace Go.Proofs.Ytpknjcdodnoibaa
open Go.RowKit
set_option linter.unusedVariables false
set_option linter.unusedSimpArgs false

abbrev IxC (s : ByteArray) (R F P : Nat) (l : Bs) : Prop := ∀ w, RdW s R F P l w → Calls Try.prog 28 #[.pointer (some ⟨R, 0, none⟩)] w fun e w' => e = .returned (ixV (idx l).1) ∧ (∃ P', RdW s R F P' (idx l).2 w') ∧ w.grownBy w' (some R)
set_option maxRecDepth 1000000 in
set_option maxHeartbeats 1600000 in
theorem index_no {s : ByteArray} {R F P : Nat} {l : Bs} (hh : hd l ≠ 91) : IxC s R F P l := fun w h => by
  rw [show idx l = (ix0, l) from if_neg hh]
  unfold ixV ix0
  dsimp only
  have hT := take_no (s := s) (R := R) (F := F) (P := P) (l := l) (c := 91) (by omega) (by omega) hh
  obtain ⟨W1, hW1⟩ : ∃ W1, W1 = w.alloc (.cells #[.int .i64 0, .int .i64 0] 36) := ⟨_, rfl⟩
  have hb1 : Below w.heap.size w W1 := by rw [hW1]; exact (Below.refl _ _).alloc (Nat.le_refl _) _
  have h1 := h.up hb1
  have hRw : R < w.heap.size := lt_of_cell9 h.a
  have hFw : F < w.heap.size := lt_of_cell9 h.f
  have hx1 : Bx W1 w.heap.size [.int .i64 0, .int .i64 0] := by rw [hW1]; exact Bx.new _ _ _
  have n1 : w.heap.size ≠ R := by omega
  have n2 : w.heap.size ≠ F := by omega
  go_enter Try.func28, Try.ntmps28
  go_upto_region 1 with fail
  rw [← hW1]
  clear hW1
  go_wp2_with (go_at_call 14; refine (hT _ h1).mono ?_; rintro e w2 ⟨rfl, h2, g2⟩; obtain ⟨k0, k1⟩ := (hx1.grown g2 n1).two; have k2 := (hx1.grown g2 n1).z)
  refine bodyPost_ret (by simp [results, Try.results28, go_sem, cs_same9, k0, k1]; rfl) rfl ?_
  exact ⟨rfl, ⟨P, (h2.grown n1 n2 _).grown n1 n2 _⟩, gr_own (gr_own ((gr_below hb1 _).trans g2) (Nat.le_refl _) _) (Nat.le_refl _) _⟩
set_option maxRecDepth 1000000 in
set_option maxHeartbeats 1600000 in
theorem index_none {s : ByteArray} {R F P P1 P2 C q k : Nat} {l l1 : Bs} (hT : TkC s R F P l 91 true P1 l1) (hP : P1 ≤ P2) (hm : P2 + 1 ≤ 1000000000001)
    (hN : ∀ w, RdW s R F P1 l1 w → Calls Try.prog 32 #[.pointer (some ⟨R, 0, none⟩), .int .i64 (P1 : Nat)] w fun e w' => e = .returned (.tuple #[.int .i64 (C : Nat), .int .i64 (P2 : Nat)]) ∧ Below w.heap.size w w')
    (hX : ∀ w, w.cell? ⟨F, 0, none⟩ = some (.string s) → Calls Try.prog 9 #[.int .i64 (P2 : Nat), .pointer (some ⟨F, 0, none⟩)] w fun e w' => e = .returned (.tuple #[.int .i32 (q : Nat), .int .i64 (k : Nat)]) ∧ Below w.heap.size w w')
    (hz : P1 = P2) (w : World) (h : RdW s R F P l w) : Calls Try.prog 28 #[.pointer (some ⟨R, 0, none⟩)] w fun e w' => e = .returned (.agg #[.int .i64 2, .int .i64 0]) ∧ (∃ P', RdW s R F P' l1 w') ∧ w.grownBy w' (some R) := by
  obtain ⟨W1, hW1⟩ : ∃ W1, W1 = w.alloc (.cells #[.int .i64 0, .int .i64 0] 36) := ⟨_, rfl⟩
  have hb1 : Below w.heap.size w W1 := by rw [hW1]; exact (Below.refl _ _).alloc (Nat.le_refl _) _
  have h1 := h.up hb1
  have hRw : R < w.heap.size := lt_of_cell9 h.a
  have hFw : F < w.heap.size := lt_of_cell9 h.f
  have hx1 : Bx W1 w.heap.size [.int .i64 0, .int .i64 0] := by rw [hW1]; exact Bx.new _ _ _
  have n1 : w.heap.size ≠ R := by omega
  have n2 : w.heap.size ≠ F := by omega
  have n3 : R ≠ w.heap.size := by omega
  have b1 : ((P2 : Int) - P1) ≤ 0 := by omega
  have b2 : ¬ 0 < (P2 : Int) - P1 := by omega
  have b3 : ¬ (P1 : Int) < P2 := by omega
  clear hz
  go_enter Try.func28, Try.ntmps28
  go_upto_region 1 with fail
  rw [← hW1]
  clear hW1
  go_wp2_with (first
    | (go_at_call 14; refine (hT _ h1).mono ?_; rintro e w2 ⟨rfl, h2, g2⟩; have d0 := h2.a)
    | (go_at_call 32; refine (hN _ h2).mono ?_; rintro e w3 ⟨rfl, hb3⟩; have d1 := (h2.up hb3).n; have d2 := (h2.up hb3).a; have d3 := (h2.up hb3).f)
    | (go_at_call 9; refine (hX _ d3).mono ?_; rintro e w4 ⟨rfl, hb4⟩; obtain ⟨k0, k1⟩ := ((hx1.grown g2 n1).up (hb3.trans (hb4.mono hb3.size))).two; have k2 := ((hx1.grown g2 n1).up (hb3.trans (hb4.mono hb3.size))).z))
  refine bodyPost_ret (by simp [results, Try.results28, go_sem, cs_same9, k0, k1, n1, n2, n3]; rfl) rfl ?_
  exact ⟨rfl, ⟨P1, ((h2.up (hb3.trans (hb4.mono hb3.size))).grown n1 n2 _).grown n1 n2 _⟩, gr_own (gr_own (((gr_below hb1 _).trans g2).trans ((gr_below hb3 _).trans (gr_below hb4 _))) (Nat.le_refl _) _) (Nat.le_refl _) _⟩
set_option maxRecDepth 1000000 in
set_option maxHeartbeats 1600000 in
theorem index_open {s : ByteArray} {R F P P1 P2 C q k : Nat} {l l1 : Bs} (hT : TkC s R F P l 91 true P1 l1) (hP : P1 ≤ P2) (hm : P2 + 1 ≤ 1000000000001)
    (hN : ∀ w, RdW s R F P1 l1 w → Calls Try.prog 32 #[.pointer (some ⟨R, 0, none⟩), .int .i64 (P1 : Nat)] w fun e w' => e = .returned (.tuple #[.int .i64 (C : Nat), .int .i64 (P2 : Nat)]) ∧ Below w.heap.size w w')
    (hX : ∀ w, w.cell? ⟨F, 0, none⟩ = some (.string s) → Calls Try.prog 9 #[.int .i64 (P2 : Nat), .pointer (some ⟨F, 0, none⟩)] w fun e w' => e = .returned (.tuple #[.int .i32 (q : Nat), .int .i64 (k : Nat)]) ∧ Below w.heap.size w w')
    (hz : P1 < P2) (hq : q ≠ 93) (w : World) (h : RdW s R F P l w) : Calls Try.prog 28 #[.pointer (some ⟨R, 0, none⟩)] w fun e w' => e = .returned (.agg #[.int .i64 2, .int .i64 0]) ∧ (∃ P', RdW s R F P' l1 w') ∧ w.grownBy w' (some R) := by
  obtain ⟨W1, hW1⟩ : ∃ W1, W1 = w.alloc (.cells #[.int .i64 0, .int .i64 0] 36) := ⟨_, rfl⟩
  have hb1 : Below w.heap.size w W1 := by rw [hW1]; exact (Below.refl _ _).alloc (Nat.le_refl _) _
  have h1 := h.up hb1
  have hRw : R < w.heap.size := lt_of_cell9 h.a
  have hFw : F < w.heap.size := lt_of_cell9 h.f
  have hx1 : Bx W1 w.heap.size [.int .i64 0, .int .i64 0] := by rw [hW1]; exact Bx.new _ _ _
  have n1 : w.heap.size ≠ R := by omega
  have n2 : w.heap.size ≠ F := by omega
  have n3 : R ≠ w.heap.size := by omega
  have b2 : 0 < (P2 : Int) - P1 := by omega
  have b3 : (P1 : Int) < P2 := by omega
  have b4 : ¬ (q : Int) = 93 := by omega
  have b5 : ((q : Int) == 93) = false := beq_eq_false_iff_ne.2 b4
  clear hz hq
  go_enter Try.func28, Try.ntmps28
  go_upto_region 1 with fail
  rw [← hW1]
  clear hW1
  go_wp2_with (first
    | (go_at_call 14; refine (hT _ h1).mono ?_; rintro e w2 ⟨rfl, h2, g2⟩; have d0 := h2.a)
    | (go_at_call 32; refine (hN _ h2).mono ?_; rintro e w3 ⟨rfl, hb3⟩; have d1 := (h2.up hb3).n; have d2 := (h2.up hb3).a; have d3 := (h2.up hb3).f)
    | (go_at_call 9; refine (hX _ d3).mono ?_; rintro e w4 ⟨rfl, hb4⟩; obtain ⟨k0, k1⟩ := ((hx1.grown g2 n1).up (hb3.trans (hb4.mono hb3.size))).two; have k2 := ((hx1.grown g2 n1).up (hb3.trans (hb4.mono hb3.size))).z))
  refine bodyPost_ret (by simp [results, Try.results28, go_sem, cs_same9, k0, k1, n1, n2, n3]; rfl) rfl ?_
  exact ⟨rfl, ⟨P1, ((h2.up (hb3.trans (hb4.mono hb3.size))).grown n1 n2 _).grown n1 n2 _⟩, gr_own (gr_own (((gr_below hb1 _).trans g2).trans ((gr_below hb3 _).trans (gr_below hb4 _))) (Nat.le_refl _) _) (Nat.le_refl _) _⟩
set_option maxRecDepth 1000000 in
set_option maxHeartbeats 1600000 in
theorem index_good {s : ByteArray} {R F P P1 P2 C q k : Nat} {l l1 l3 : Bs} (hT : TkC s R F P l 91 true P1 l1) (hP : P1 ≤ P2) (hm : P2 + 1 ≤ 1000000000001)
    (hN : ∀ w, RdW s R F P1 l1 w → Calls Try.prog 32 #[.pointer (some ⟨R, 0, none⟩), .int .i64 (P1 : Nat)] w fun e w' => e = .returned (.tuple #[.int .i64 (C : Nat), .int .i64 (P2 : Nat)]) ∧ Below w.heap.size w w')
    (hX : ∀ w, w.cell? ⟨F, 0, none⟩ = some (.string s) → Calls Try.prog 9 #[.int .i64 (P2 : Nat), .pointer (some ⟨F, 0, none⟩)] w fun e w' => e = .returned (.tuple #[.int .i32 (q : Nat), .int .i64 (k : Nat)]) ∧ Below w.heap.size w w')
    (hz : P1 < P2) (e5 : s.data.toList.drop (P2 + 1) = l3) (e6 : P2 + 1 + l3.length = s.size) (hq : q = 93) (hk : k = 1) (h9 : P2 ≤ P1 + 9) (hC : 0 < C) (w : World) (h : RdW s R F P l w) : Calls Try.prog 28 #[.pointer (some ⟨R, 0, none⟩)] w fun e w' => e = .returned (.agg #[.int .i64 1, .int .i64 (C : Nat)]) ∧ (∃ P', RdW s R F P' l3 w') ∧ w.grownBy w' (some R) := by
  obtain ⟨W1, hW1⟩ : ∃ W1, W1 = w.alloc (.cells #[.int .i64 0, .int .i64 0] 36) := ⟨_, rfl⟩
  have hb1 : Below w.heap.size w W1 := by rw [hW1]; exact (Below.refl _ _).alloc (Nat.le_refl _) _
  have h1 := h.up hb1
  have hRw : R < w.heap.size := lt_of_cell9 h.a
  have hFw : F < w.heap.size := lt_of_cell9 h.f
  have hx1 : Bx W1 w.heap.size [.int .i64 0, .int .i64 0] := by rw [hW1]; exact Bx.new _ _ _
  have n1 : w.heap.size ≠ R := by omega
  have n2 : w.heap.size ≠ F := by omega
  have n3 : R ≠ w.heap.size := by omega
  have b2 : 0 < (P2 : Int) - P1 := by omega
  have b3 : (P1 : Int) < P2 := by omega
  subst hq hk
  have b6 : (P2 : Int) - P1 ≤ 9 := by omega
  have b7 : (0 : Int) < C := by omega
  clear hz h9
  go_enter Try.func28, Try.ntmps28
  go_upto_region 1 with fail
  rw [← hW1]
  clear hW1
  go_wp2_with (first
    | (go_at_call 14; refine (hT _ h1).mono ?_; rintro e w2 ⟨rfl, h2, g2⟩; have d0 := h2.a)
    | (go_at_call 32; refine (hN _ h2).mono ?_; rintro e w3 ⟨rfl, hb3⟩; have d1 := (h2.up hb3).n; have d2 := (h2.up hb3).a; have d3 := (h2.up hb3).f)
    | (go_at_call 9; refine (hX _ d3).mono ?_; rintro e w4 ⟨rfl, hb4⟩; have f0 := (h2.up (hb3.trans (hb4.mono hb3.size))).z; have f1 := (h2.up (hb3.trans (hb4.mono hb3.size))).a; obtain ⟨k0, k1⟩ := ((hx1.grown g2 n1).up (hb3.trans (hb4.mono hb3.size))).two; have k2 := ((hx1.grown g2 n1).up (hb3.trans (hb4.mono hb3.size))).z))
  refine bodyPost_ret (by simp [results, Try.results28, go_sem, cs_same9, k0, k1, n1, n2, n3]; rfl) rfl ?_
  exact ⟨rfl, ⟨(P2 + 1), (((h2.up (hb3.trans (hb4.mono hb3.size))).put e5 e6).grown n1 n2 _).grown n1 n2 _⟩, gr_own (gr_own (gr_put (((gr_below hb1 _).trans g2).trans ((gr_below hb3 _).trans (gr_below hb4 _))) _) (Nat.le_refl _) _) (Nat.le_refl _) _⟩
set_option maxRecDepth 1000000 in
set_option maxHeartbeats 1600000 in
theorem index_nought {s : ByteArray} {R F P P1 P2 C q k : Nat} {l l1 l3 : Bs} (hT : TkC s R F P l 91 true P1 l1) (hP : P1 ≤ P2) (hm : P2 + 1 ≤ 1000000000001)
    (hN : ∀ w, RdW s R F P1 l1 w → Calls Try.prog 32 #[.pointer (some ⟨R, 0, none⟩), .int .i64 (P1 : Nat)] w fun e w' => e = .returned (.tuple #[.int .i64 (C : Nat), .int .i64 (P2 : Nat)]) ∧ Below w.heap.size w w')
    (hX : ∀ w, w.cell? ⟨F, 0, none⟩ = some (.string s) → Calls Try.prog 9 #[.int .i64 (P2 : Nat), .pointer (some ⟨F, 0, none⟩)] w fun e w' => e = .returned (.tuple #[.int .i32 (q : Nat), .int .i64 (k : Nat)]) ∧ Below w.heap.size w w')
    (hz : P1 < P2) (e5 : s.data.toList.drop (P2 + 1) = l3) (e6 : P2 + 1 + l3.length = s.size) (hq : q = 93) (hk : k = 1) (h9 : P2 ≤ P1 + 9) (hC : C = 0) (w : World) (h : RdW s R F P l w) : Calls Try.prog 28 #[.pointer (some ⟨R, 0, none⟩)] w fun e w' => e = .returned (.agg #[.int .i64 2, .int .i64 0]) ∧ (∃ P', RdW s R F P' l3 w') ∧ w.grownBy w' (some R) := by
  obtain ⟨W1, hW1⟩ : ∃ W1, W1 = w.alloc (.cells #[.int .i64 0, .int .i64 0] 36) := ⟨_, rfl⟩
  have hb1 : Below w.heap.size w W1 := by rw [hW1]; exact (Below.refl _ _).alloc (Nat.le_refl _) _
  have h1 := h.up hb1
  have hRw : R < w.heap.size := lt_of_cell9 h.a
  have hFw : F < w.heap.size := lt_of_cell9 h.f
  have hx1 : Bx W1 w.heap.size [.int .i64 0, .int .i64 0] := by rw [hW1]; exact Bx.new _ _ _
  have n1 : w.heap.size ≠ R := by omega
  have n2 : w.heap.size ≠ F := by omega
  have n3 : R ≠ w.heap.size := by omega
  have b2 : 0 < (P2 : Int) - P1 := by omega
  have b3 : (P1 : Int) < P2 := by omega
  subst hq hk hC
  have b6 : (P2 : Int) - P1 ≤ 9 := by omega
  clear hz h9
  go_enter Try.func28, Try.ntmps28
  go_upto_region 1 with fail
  rw [← hW1]
  clear hW1
  go_wp2_with (first
    | (go_at_call 14; refine (hT _ h1).mono ?_; rintro e w2 ⟨rfl, h2, g2⟩; have d0 := h2.a)
    | (go_at_call 32; refine (hN _ h2).mono ?_; rintro e w3 ⟨rfl, hb3⟩; have d1 := (h2.up hb3).n; have d2 := (h2.up hb3).a; have d3 := (h2.up hb3).f)
    | (go_at_call 9; refine (hX _ d3).mono ?_; rintro e w4 ⟨rfl, hb4⟩; have f0 := (h2.up (hb3.trans (hb4.mono hb3.size))).z; have f1 := (h2.up (hb3.trans (hb4.mono hb3.size))).a; obtain ⟨k0, k1⟩ := ((hx1.grown g2 n1).up (hb3.trans (hb4.mono hb3.size))).two; have k2 := ((hx1.grown g2 n1).up (hb3.trans (hb4.mono hb3.size))).z))
  refine bodyPost_ret (by simp [results, Try.results28, go_sem, cs_same9, k0, k1, n1, n2, n3]; rfl) rfl ?_
  exact ⟨rfl, ⟨(P2 + 1), (((h2.up (hb3.trans (hb4.mono hb3.size))).put e5 e6).grown n1 n2 _).grown n1 n2 _⟩, gr_own (gr_own (gr_put (((gr_below hb1 _).trans g2).trans ((gr_below hb3 _).trans (gr_below hb4 _))) _) (Nat.le_refl _) _) (Nat.le_refl _) _⟩
set_option maxRecDepth 1000000 in
set_option maxHeartbeats 1600000 in
theorem index_long {s : ByteArray} {R F P P1 P2 C q k : Nat} {l l1 l3 : Bs} (hT : TkC s R F P l 91 true P1 l1) (hP : P1 ≤ P2) (hm : P2 + 1 ≤ 1000000000001)
    (hN : ∀ w, RdW s R F P1 l1 w → Calls Try.prog 32 #[.pointer (some ⟨R, 0, none⟩), .int .i64 (P1 : Nat)] w fun e w' => e = .returned (.tuple #[.int .i64 (C : Nat), .int .i64 (P2 : Nat)]) ∧ Below w.heap.size w w')
    (hX : ∀ w, w.cell? ⟨F, 0, none⟩ = some (.string s) → Calls Try.prog 9 #[.int .i64 (P2 : Nat), .pointer (some ⟨F, 0, none⟩)] w fun e w' => e = .returned (.tuple #[.int .i32 (q : Nat), .int .i64 (k : Nat)]) ∧ Below w.heap.size w w')
    (hz : P1 < P2) (e5 : s.data.toList.drop (P2 + 1) = l3) (e6 : P2 + 1 + l3.length = s.size) (hq : q = 93) (hk : k = 1) (h9 : P1 + 9 < P2) (w : World) (h : RdW s R F P l w) : Calls Try.prog 28 #[.pointer (some ⟨R, 0, none⟩)] w fun e w' => e = .returned (.agg #[.int .i64 2, .int .i64 0]) ∧ (∃ P', RdW s R F P' l3 w') ∧ w.grownBy w' (some R) := by
  obtain ⟨W1, hW1⟩ : ∃ W1, W1 = w.alloc (.cells #[.int .i64 0, .int .i64 0] 36) := ⟨_, rfl⟩
  have hb1 : Below w.heap.size w W1 := by rw [hW1]; exact (Below.refl _ _).alloc (Nat.le_refl _) _
  have h1 := h.up hb1
  have hRw : R < w.heap.size := lt_of_cell9 h.a
  have hFw : F < w.heap.size := lt_of_cell9 h.f
  have hx1 : Bx W1 w.heap.size [.int .i64 0, .int .i64 0] := by rw [hW1]; exact Bx.new _ _ _
  have n1 : w.heap.size ≠ R := by omega
  have n2 : w.heap.size ≠ F := by omega
  have n3 : R ≠ w.heap.size := by omega
  have b2 : 0 < (P2 : Int) - P1 := by omega
  have b3 : (P1 : Int) < P2 := by omega
  subst hq hk
  have b6 : ¬ (P2 : Int) - P1 ≤ 9 := by omega
  clear hz h9
  go_enter Try.func28, Try.ntmps28
  go_upto_region 1 with fail
  rw [← hW1]
  clear hW1
  go_wp2_with (first
    | (go_at_call 14; refine (hT _ h1).mono ?_; rintro e w2 ⟨rfl, h2, g2⟩; have d0 := h2.a)
    | (go_at_call 32; refine (hN _ h2).mono ?_; rintro e w3 ⟨rfl, hb3⟩; have d1 := (h2.up hb3).n; have d2 := (h2.up hb3).a; have d3 := (h2.up hb3).f)
    | (go_at_call 9; refine (hX _ d3).mono ?_; rintro e w4 ⟨rfl, hb4⟩; have f0 := (h2.up (hb3.trans (hb4.mono hb3.size))).z; have f1 := (h2.up (hb3.trans (hb4.mono hb3.size))).a; obtain ⟨k0, k1⟩ := ((hx1.grown g2 n1).up (hb3.trans (hb4.mono hb3.size))).two; have k2 := ((hx1.grown g2 n1).up (hb3.trans (hb4.mono hb3.size))).z))
  refine bodyPost_ret (by simp [results, Try.results28, go_sem, cs_same9, k0, k1, n1, n2, n3]; rfl) rfl ?_
  exact ⟨rfl, ⟨(P2 + 1), (((h2.up (hb3.trans (hb4.mono hb3.size))).put e5 e6).grown n1 n2 _).grown n1 n2 _⟩, gr_own (gr_own (gr_put (((gr_below hb1 _).trans g2).trans ((gr_below hb3 _).trans (gr_below hb4 _))) _) (Nat.le_refl _) _) (Nat.le_refl _) _⟩
theorem index_any (s : ByteArray) (R F P : Nat) (l : Bs) : IxC s R F P l := fun w h => by
  by_cases hh : hd l = 91
  · have hT := take_yes (s := s) (R := R) (F := F) (P := P) (l := l) (c := 91) (by omega) (by omega) hh
    have hm := h.m
    obtain ⟨x, e, -⟩ := hd_lt hh (by omega)
    have he1 : P + 1 + l.tail.length = s.size := by have := h.e; rw [e] at this; simp at this ⊢; omega
    have hd1 : s.data.toList.drop (P + 1) = l.tail := (drop_more h.d).trans (by simp)
    obtain ⟨ea, eb⟩ := aft_at hd1 he1
    have hN : ∀ w, RdW s R F (P + 1) l.tail w → Calls Try.prog 32 #[.pointer (some ⟨R, 0, none⟩), .int .i64 (P + 1 : Nat)] w fun e w' => e = .returned (.tuple #[.int .i64 (capD (dgs l.tail) : Nat), .int .i64 (P + 1 + (dgs l.tail).length : Nat)]) ∧ Below w.heap.size w w' :=
      fun w hw => number_any s R F (P + 1) l.tail w hw (P + 1) l.tail hd1 he1
    obtain ⟨q, k, hx⟩ : ∃ q k, nxt (aft l.tail) = (q, k) := ⟨_, _, rfl⟩
    have hX : ∀ w, w.cell? ⟨F, 0, none⟩ = some (.string s) → Calls Try.prog 9 #[.int .i64 (P + 1 + (dgs l.tail).length : Nat), .pointer (some ⟨F, 0, none⟩)] w fun e w' => e = .returned (.tuple #[.int .i32 (q : Nat), .int .i64 (k : Nat)]) ∧ Below w.heap.size w w' :=
      fun w hw => next_walk ea eb hx w hw
    by_cases hz : dgs l.tail = []
    · have hi : idx l = (ix2, l.tail) := by unfold idx; rw [if_pos hh, if_neg (by simp [hz])]
      rw [hi]
      exact index_none hT (by omega) (by omega) hN hX (by rw [hz]; rfl) w h
    · have hz' : 0 < (dgs l.tail).length := List.length_pos_iff.2 hz
      by_cases hq : hd (aft l.tail) = 93
      · have hi : idx l = (ixG (dgs l.tail), (aft l.tail).tail) := by unfold idx; rw [if_pos hh, if_pos ⟨hz, hq⟩]
        have q1 : q = 93 := by have := (nxt_is (l := aft l.tail) (c := 93) (by omega) (by omega)).2 hq; rw [hx] at this; exact this
        have k1 : k = 1 := by have := nxt_one hq (by omega); rw [hx] at this; exact this
        obtain ⟨y, ey, -⟩ := hd_lt hq (by omega)
        have e6 : P + 1 + (dgs l.tail).length + 1 + (aft l.tail).tail.length = s.size := by have := eb; rw [ey] at this; simp at this ⊢; omega
        have e5 : s.data.toList.drop (P + 1 + (dgs l.tail).length + 1) = (aft l.tail).tail := (drop_more ea).trans (by simp)
        rw [hi]
        unfold ixG
        by_cases h9 : (dgs l.tail).length ≤ 9
        · have hc := cap_few (dgs_all l.tail) h9
          rw [hc] at hN
          by_cases hC : 0 < valD (dgs l.tail)
          · rw [if_pos ⟨h9, hC⟩]
            exact index_good hT (by omega) (by omega) hN hX (by omega) e5 e6 q1 k1 (by omega) hC w h
          · rw [if_neg (fun x => hC x.2)]
            exact index_nought hT (by omega) (by omega) hN hX (by omega) e5 e6 q1 k1 (by omega) (by omega) w h
        · rw [if_neg (fun x => h9 x.1)]
          exact index_long hT (by omega) (by omega) hN hX (by omega) e5 e6 q1 k1 (by omega) w h
      · have hi : idx l = (ix2, l.tail) := by unfold idx; rw [if_pos hh, if_neg (fun x => hq x.2)]
        rw [hi]
        refine index_open hT (by omega) (by omega) hN hX (by omega) (fun e => hq ?_) w h
        exact (nxt_is (l := aft l.tail) (c := 93) (by omega) (by omega)).1 (by rw [hx]; exact e)
  · exact index_no hh w h
end Go.Proofs.Ytpknjcdodnoibaa
