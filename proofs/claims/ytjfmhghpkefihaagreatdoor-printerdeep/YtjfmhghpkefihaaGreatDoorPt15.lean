/- PWalkC, PWalkD: these texts in one. -/
import Derived.Test.YtjfmhghpkefihaaGreatDoorPt14
namespace Go.Proofs.YtjfmhghpkefihaaGreatDoor
open Go.RowKit
set_option linter.unusedVariables false
set_option linter.unusedSimpArgs false
abbrev IxC (s : ByteArray) (R F P : Nat) (l : Bs) : Prop := ∀ w, RdW s R F P l w → Calls Tryz.prog 108 #[.pointer (some ⟨R, 0, none⟩)] w fun e w' => e = .returned (ixV (idx l).1) ∧ (∃ P', RdW s R F P' (idx l).2 w') ∧ w.grownBy w' (some R)
set_option maxRecDepth 1000000 in
set_option maxHeartbeats 1600000 in
theorem index_no {s : ByteArray} {R F P : Nat} {l : Bs} (hh : hd l ≠ 91) : IxC s R F P l := fun w h => by
 rw [show idx l = (ix0, l) from if_neg hh]
 unfold ixV ix0
 dsimp only
 have hT := take_no (s := s) (R := R) (F := F) (P := P) (l := l) (c := 91) (by omega) (by omega) hh
 obtain ⟨W1, hW1⟩ : ∃ W1, W1 = w.alloc (.cells #[.int .i64 0, .int .i64 0] 82) := ⟨_, rfl⟩
 have hb1 : Below w.heap.size w W1 := by rw [hW1]; exact (Below.refl _ _).alloc (Nat.le_refl _) _
 have h1 := h.up hb1
 have hRw : R < w.heap.size := lt_of_cell9 h.a
 have hFw : F < w.heap.size := lt_of_cell9 h.f
 have hx1 : Bx W1 w.heap.size [.int .i64 0, .int .i64 0] := by rw [hW1]; exact Bx.new _ _ _
 have n1 : w.heap.size ≠ R := by omega
 have n2 : w.heap.size ≠ F := by omega
 go_enter Tryz.func108, Tryz.ntmps108
 go_upto_region 1 with fail
 rw [← hW1]
 clear hW1
 go_wp2_with (go_at_call 63; refine (hT _ h1).mono ?_; rintro e w2 ⟨rfl, h2, g2⟩; obtain ⟨k0, k1⟩ := (hx1.grown g2 n1).two; have k2 := (hx1.grown g2 n1).z)
 refine bodyPost_ret (by simp [results, Tryz.results108, go_sem, cs_same9, k0, k1]; rfl) rfl ?_
 exact ⟨rfl, ⟨P, (h2.grown n1 n2 _).grown n1 n2 _⟩, gr_own (gr_own ((gr_below hb1 _).trans g2) (Nat.le_refl _) _) (Nat.le_refl _) _⟩
set_option maxRecDepth 1000000 in
set_option maxHeartbeats 1600000 in
theorem index_none {s : ByteArray} {R F P P1 P2 C q k : Nat} {l l1 : Bs} (hT : TkC s R F P l 91 true P1 l1) (hP : P1 ≤ P2) (hm : P2 + 1 ≤ 1000000000001)
  (hN : ∀ w, RdW s R F P1 l1 w → Calls Tryz.prog 154 #[.pointer (some ⟨R, 0, none⟩), .int .i64 (P1 : Nat)] w fun e w' => e = .returned (.tuple #[.int .i64 (C : Nat), .int .i64 (P2 : Nat)]) ∧ Below w.heap.size w w')
  (hX : ∀ w, w.cell? ⟨F, 0, none⟩ = some (.string s) → Calls Tryz.prog 41 #[.int .i64 (P2 : Nat), .pointer (some ⟨F, 0, none⟩)] w fun e w' => e = .returned (.tuple #[.int .i32 (q : Nat), .int .i64 (k : Nat)]) ∧ Below w.heap.size w w')
  (hz : P1 = P2) (w : World) (h : RdW s R F P l w) : Calls Tryz.prog 108 #[.pointer (some ⟨R, 0, none⟩)] w fun e w' => e = .returned (.agg #[.int .i64 2, .int .i64 0]) ∧ (∃ P', RdW s R F P' l1 w') ∧ w.grownBy w' (some R) := by
 obtain ⟨W1, hW1⟩ : ∃ W1, W1 = w.alloc (.cells #[.int .i64 0, .int .i64 0] 82) := ⟨_, rfl⟩
 have hb1 : Below w.heap.size w W1 := by rw [hW1]; exact (Below.refl _ _).alloc (Nat.le_refl _) _
 have h1 := h.up hb1
 have hRw : R < w.heap.size := lt_of_cell9 h.a
 have hFw : F < w.heap.size := lt_of_cell9 h.f
 have hx1 : Bx W1 w.heap.size [.int .i64 0, .int .i64 0] := by rw [hW1]; exact Bx.new _ _ _
 have n1 : w.heap.size ≠ R := by omega
 have n2 : w.heap.size ≠ F := by omega
 have n3 : R ≠ w.heap.size := by omega
 have b1 : ((P2 : Int) - P1) ≤ 0 := by omega
 have b2 : ¬ 0 < (P2 : Int) - P1 := by omega
 have b3 : ¬ (P1 : Int) < P2 := by omega
 clear hz
 go_enter Tryz.func108, Tryz.ntmps108
 go_upto_region 1 with fail
 rw [← hW1]
 clear hW1
 go_wp2_with (first
  | (go_at_call 63; refine (hT _ h1).mono ?_; rintro e w2 ⟨rfl, h2, g2⟩; have d0 := h2.a)
  | (go_at_call 154; refine (hN _ h2).mono ?_; rintro e w3 ⟨rfl, hb3⟩; have d1 := (h2.up hb3).n; have d2 := (h2.up hb3).a; have d3 := (h2.up hb3).f)
  | (go_at_call 41; refine (hX _ d3).mono ?_; rintro e w4 ⟨rfl, hb4⟩; obtain ⟨k0, k1⟩ := ((hx1.grown g2 n1).up (hb3.trans (hb4.mono hb3.size))).two; have k2 := ((hx1.grown g2 n1).up (hb3.trans (hb4.mono hb3.size))).z))
 refine bodyPost_ret (by simp [results, Tryz.results108, go_sem, cs_same9, k0, k1, n1, n2, n3]; rfl) rfl ?_
 exact ⟨rfl, ⟨P1, ((h2.up (hb3.trans (hb4.mono hb3.size))).grown n1 n2 _).grown n1 n2 _⟩, gr_own (gr_own (((gr_below hb1 _).trans g2).trans ((gr_below hb3 _).trans (gr_below hb4 _))) (Nat.le_refl _) _) (Nat.le_refl _) _⟩
set_option maxRecDepth 1000000 in
set_option maxHeartbeats 1600000 in
theorem index_open {s : ByteArray} {R F P P1 P2 C q k : Nat} {l l1 : Bs} (hT : TkC s R F P l 91 true P1 l1) (hP : P1 ≤ P2) (hm : P2 + 1 ≤ 1000000000001)
  (hN : ∀ w, RdW s R F P1 l1 w → Calls Tryz.prog 154 #[.pointer (some ⟨R, 0, none⟩), .int .i64 (P1 : Nat)] w fun e w' => e = .returned (.tuple #[.int .i64 (C : Nat), .int .i64 (P2 : Nat)]) ∧ Below w.heap.size w w')
  (hX : ∀ w, w.cell? ⟨F, 0, none⟩ = some (.string s) → Calls Tryz.prog 41 #[.int .i64 (P2 : Nat), .pointer (some ⟨F, 0, none⟩)] w fun e w' => e = .returned (.tuple #[.int .i32 (q : Nat), .int .i64 (k : Nat)]) ∧ Below w.heap.size w w')
  (hz : P1 < P2) (hq : q ≠ 93) (w : World) (h : RdW s R F P l w) : Calls Tryz.prog 108 #[.pointer (some ⟨R, 0, none⟩)] w fun e w' => e = .returned (.agg #[.int .i64 2, .int .i64 0]) ∧ (∃ P', RdW s R F P' l1 w') ∧ w.grownBy w' (some R) := by
 obtain ⟨W1, hW1⟩ : ∃ W1, W1 = w.alloc (.cells #[.int .i64 0, .int .i64 0] 82) := ⟨_, rfl⟩
 have hb1 : Below w.heap.size w W1 := by rw [hW1]; exact (Below.refl _ _).alloc (Nat.le_refl _) _
 have h1 := h.up hb1
 have hRw : R < w.heap.size := lt_of_cell9 h.a
 have hFw : F < w.heap.size := lt_of_cell9 h.f
 have hx1 : Bx W1 w.heap.size [.int .i64 0, .int .i64 0] := by rw [hW1]; exact Bx.new _ _ _
 have n1 : w.heap.size ≠ R := by omega
 have n2 : w.heap.size ≠ F := by omega
 have n3 : R ≠ w.heap.size := by omega
 have b2 : 0 < (P2 : Int) - P1 := by omega
 have b3 : (P1 : Int) < P2 := by omega
 have b4 : ¬ (q : Int) = 93 := by omega
 have b5 : ((q : Int) == 93) = false := beq_eq_false_iff_ne.2 b4
 clear hz hq
 go_enter Tryz.func108, Tryz.ntmps108
 go_upto_region 1 with fail
 rw [← hW1]
 clear hW1
 go_wp2_with (first
  | (go_at_call 63; refine (hT _ h1).mono ?_; rintro e w2 ⟨rfl, h2, g2⟩; have d0 := h2.a)
  | (go_at_call 154; refine (hN _ h2).mono ?_; rintro e w3 ⟨rfl, hb3⟩; have d1 := (h2.up hb3).n; have d2 := (h2.up hb3).a; have d3 := (h2.up hb3).f)
  | (go_at_call 41; refine (hX _ d3).mono ?_; rintro e w4 ⟨rfl, hb4⟩; obtain ⟨k0, k1⟩ := ((hx1.grown g2 n1).up (hb3.trans (hb4.mono hb3.size))).two; have k2 := ((hx1.grown g2 n1).up (hb3.trans (hb4.mono hb3.size))).z))
 refine bodyPost_ret (by simp [results, Tryz.results108, go_sem, cs_same9, k0, k1, n1, n2, n3]; rfl) rfl ?_
 exact ⟨rfl, ⟨P1, ((h2.up (hb3.trans (hb4.mono hb3.size))).grown n1 n2 _).grown n1 n2 _⟩, gr_own (gr_own (((gr_below hb1 _).trans g2).trans ((gr_below hb3 _).trans (gr_below hb4 _))) (Nat.le_refl _) _) (Nat.le_refl _) _⟩
set_option maxRecDepth 1000000 in
set_option maxHeartbeats 1600000 in
theorem index_good {s : ByteArray} {R F P P1 P2 C q k : Nat} {l l1 l3 : Bs} (hT : TkC s R F P l 91 true P1 l1) (hP : P1 ≤ P2) (hm : P2 + 1 ≤ 1000000000001)
  (hN : ∀ w, RdW s R F P1 l1 w → Calls Tryz.prog 154 #[.pointer (some ⟨R, 0, none⟩), .int .i64 (P1 : Nat)] w fun e w' => e = .returned (.tuple #[.int .i64 (C : Nat), .int .i64 (P2 : Nat)]) ∧ Below w.heap.size w w')
  (hX : ∀ w, w.cell? ⟨F, 0, none⟩ = some (.string s) → Calls Tryz.prog 41 #[.int .i64 (P2 : Nat), .pointer (some ⟨F, 0, none⟩)] w fun e w' => e = .returned (.tuple #[.int .i32 (q : Nat), .int .i64 (k : Nat)]) ∧ Below w.heap.size w w')
  (hz : P1 < P2) (e5 : s.data.toList.drop (P2 + 1) = l3) (e6 : P2 + 1 + l3.length = s.size) (hq : q = 93) (hk : k = 1) (h9 : P2 ≤ P1 + 9) (hC : 0 < C) (w : World) (h : RdW s R F P l w) : Calls Tryz.prog 108 #[.pointer (some ⟨R, 0, none⟩)] w fun e w' => e = .returned (.agg #[.int .i64 1, .int .i64 (C : Nat)]) ∧ (∃ P', RdW s R F P' l3 w') ∧ w.grownBy w' (some R) := by
 obtain ⟨W1, hW1⟩ : ∃ W1, W1 = w.alloc (.cells #[.int .i64 0, .int .i64 0] 82) := ⟨_, rfl⟩
 have hb1 : Below w.heap.size w W1 := by rw [hW1]; exact (Below.refl _ _).alloc (Nat.le_refl _) _
 have h1 := h.up hb1
 have hRw : R < w.heap.size := lt_of_cell9 h.a
 have hFw : F < w.heap.size := lt_of_cell9 h.f
 have hx1 : Bx W1 w.heap.size [.int .i64 0, .int .i64 0] := by rw [hW1]; exact Bx.new _ _ _
 have n1 : w.heap.size ≠ R := by omega
 have n2 : w.heap.size ≠ F := by omega
 have n3 : R ≠ w.heap.size := by omega
 have b2 : 0 < (P2 : Int) - P1 := by omega
 have b3 : (P1 : Int) < P2 := by omega
 subst hq hk
 have b6 : (P2 : Int) - P1 ≤ 9 := by omega
 have b7 : (0 : Int) < C := by omega
 clear hz h9
 go_enter Tryz.func108, Tryz.ntmps108
 go_upto_region 1 with fail
 rw [← hW1]
 clear hW1
 go_wp2_with (first
  | (go_at_call 63; refine (hT _ h1).mono ?_; rintro e w2 ⟨rfl, h2, g2⟩; have d0 := h2.a)
  | (go_at_call 154; refine (hN _ h2).mono ?_; rintro e w3 ⟨rfl, hb3⟩; have d1 := (h2.up hb3).n; have d2 := (h2.up hb3).a; have d3 := (h2.up hb3).f)
  | (go_at_call 41; refine (hX _ d3).mono ?_; rintro e w4 ⟨rfl, hb4⟩; have f0 := (h2.up (hb3.trans (hb4.mono hb3.size))).z; have f1 := (h2.up (hb3.trans (hb4.mono hb3.size))).a; obtain ⟨k0, k1⟩ := ((hx1.grown g2 n1).up (hb3.trans (hb4.mono hb3.size))).two; have k2 := ((hx1.grown g2 n1).up (hb3.trans (hb4.mono hb3.size))).z))
 refine bodyPost_ret (by simp [results, Tryz.results108, go_sem, cs_same9, k0, k1, n1, n2, n3]; rfl) rfl ?_
 exact ⟨rfl, ⟨(P2 + 1), (((h2.up (hb3.trans (hb4.mono hb3.size))).put e5 e6).grown n1 n2 _).grown n1 n2 _⟩, gr_own (gr_own (gr_put (((gr_below hb1 _).trans g2).trans ((gr_below hb3 _).trans (gr_below hb4 _))) _) (Nat.le_refl _) _) (Nat.le_refl _) _⟩
set_option maxRecDepth 1000000 in
set_option maxHeartbeats 1600000 in
theorem index_nought {s : ByteArray} {R F P P1 P2 C q k : Nat} {l l1 l3 : Bs} (hT : TkC s R F P l 91 true P1 l1) (hP : P1 ≤ P2) (hm : P2 + 1 ≤ 1000000000001)
  (hN : ∀ w, RdW s R F P1 l1 w → Calls Tryz.prog 154 #[.pointer (some ⟨R, 0, none⟩), .int .i64 (P1 : Nat)] w fun e w' => e = .returned (.tuple #[.int .i64 (C : Nat), .int .i64 (P2 : Nat)]) ∧ Below w.heap.size w w')
  (hX : ∀ w, w.cell? ⟨F, 0, none⟩ = some (.string s) → Calls Tryz.prog 41 #[.int .i64 (P2 : Nat), .pointer (some ⟨F, 0, none⟩)] w fun e w' => e = .returned (.tuple #[.int .i32 (q : Nat), .int .i64 (k : Nat)]) ∧ Below w.heap.size w w')
  (hz : P1 < P2) (e5 : s.data.toList.drop (P2 + 1) = l3) (e6 : P2 + 1 + l3.length = s.size) (hq : q = 93) (hk : k = 1) (h9 : P2 ≤ P1 + 9) (hC : C = 0) (w : World) (h : RdW s R F P l w) : Calls Tryz.prog 108 #[.pointer (some ⟨R, 0, none⟩)] w fun e w' => e = .returned (.agg #[.int .i64 2, .int .i64 0]) ∧ (∃ P', RdW s R F P' l3 w') ∧ w.grownBy w' (some R) := by
 obtain ⟨W1, hW1⟩ : ∃ W1, W1 = w.alloc (.cells #[.int .i64 0, .int .i64 0] 82) := ⟨_, rfl⟩
 have hb1 : Below w.heap.size w W1 := by rw [hW1]; exact (Below.refl _ _).alloc (Nat.le_refl _) _
 have h1 := h.up hb1
 have hRw : R < w.heap.size := lt_of_cell9 h.a
 have hFw : F < w.heap.size := lt_of_cell9 h.f
 have hx1 : Bx W1 w.heap.size [.int .i64 0, .int .i64 0] := by rw [hW1]; exact Bx.new _ _ _
 have n1 : w.heap.size ≠ R := by omega
 have n2 : w.heap.size ≠ F := by omega
 have n3 : R ≠ w.heap.size := by omega
 have b2 : 0 < (P2 : Int) - P1 := by omega
 have b3 : (P1 : Int) < P2 := by omega
 subst hq hk hC
 have b6 : (P2 : Int) - P1 ≤ 9 := by omega
 clear hz h9
 go_enter Tryz.func108, Tryz.ntmps108
 go_upto_region 1 with fail
 rw [← hW1]
 clear hW1
 go_wp2_with (first
  | (go_at_call 63; refine (hT _ h1).mono ?_; rintro e w2 ⟨rfl, h2, g2⟩; have d0 := h2.a)
  | (go_at_call 154; refine (hN _ h2).mono ?_; rintro e w3 ⟨rfl, hb3⟩; have d1 := (h2.up hb3).n; have d2 := (h2.up hb3).a; have d3 := (h2.up hb3).f)
  | (go_at_call 41; refine (hX _ d3).mono ?_; rintro e w4 ⟨rfl, hb4⟩; have f0 := (h2.up (hb3.trans (hb4.mono hb3.size))).z; have f1 := (h2.up (hb3.trans (hb4.mono hb3.size))).a; obtain ⟨k0, k1⟩ := ((hx1.grown g2 n1).up (hb3.trans (hb4.mono hb3.size))).two; have k2 := ((hx1.grown g2 n1).up (hb3.trans (hb4.mono hb3.size))).z))
 refine bodyPost_ret (by simp [results, Tryz.results108, go_sem, cs_same9, k0, k1, n1, n2, n3]; rfl) rfl ?_
 exact ⟨rfl, ⟨(P2 + 1), (((h2.up (hb3.trans (hb4.mono hb3.size))).put e5 e6).grown n1 n2 _).grown n1 n2 _⟩, gr_own (gr_own (gr_put (((gr_below hb1 _).trans g2).trans ((gr_below hb3 _).trans (gr_below hb4 _))) _) (Nat.le_refl _) _) (Nat.le_refl _) _⟩
set_option maxRecDepth 1000000 in
set_option maxHeartbeats 1600000 in
theorem index_long {s : ByteArray} {R F P P1 P2 C q k : Nat} {l l1 l3 : Bs} (hT : TkC s R F P l 91 true P1 l1) (hP : P1 ≤ P2) (hm : P2 + 1 ≤ 1000000000001)
  (hN : ∀ w, RdW s R F P1 l1 w → Calls Tryz.prog 154 #[.pointer (some ⟨R, 0, none⟩), .int .i64 (P1 : Nat)] w fun e w' => e = .returned (.tuple #[.int .i64 (C : Nat), .int .i64 (P2 : Nat)]) ∧ Below w.heap.size w w')
  (hX : ∀ w, w.cell? ⟨F, 0, none⟩ = some (.string s) → Calls Tryz.prog 41 #[.int .i64 (P2 : Nat), .pointer (some ⟨F, 0, none⟩)] w fun e w' => e = .returned (.tuple #[.int .i32 (q : Nat), .int .i64 (k : Nat)]) ∧ Below w.heap.size w w')
  (hz : P1 < P2) (e5 : s.data.toList.drop (P2 + 1) = l3) (e6 : P2 + 1 + l3.length = s.size) (hq : q = 93) (hk : k = 1) (h9 : P1 + 9 < P2) (w : World) (h : RdW s R F P l w) : Calls Tryz.prog 108 #[.pointer (some ⟨R, 0, none⟩)] w fun e w' => e = .returned (.agg #[.int .i64 2, .int .i64 0]) ∧ (∃ P', RdW s R F P' l3 w') ∧ w.grownBy w' (some R) := by
 obtain ⟨W1, hW1⟩ : ∃ W1, W1 = w.alloc (.cells #[.int .i64 0, .int .i64 0] 82) := ⟨_, rfl⟩
 have hb1 : Below w.heap.size w W1 := by rw [hW1]; exact (Below.refl _ _).alloc (Nat.le_refl _) _
 have h1 := h.up hb1
 have hRw : R < w.heap.size := lt_of_cell9 h.a
 have hFw : F < w.heap.size := lt_of_cell9 h.f
 have hx1 : Bx W1 w.heap.size [.int .i64 0, .int .i64 0] := by rw [hW1]; exact Bx.new _ _ _
 have n1 : w.heap.size ≠ R := by omega
 have n2 : w.heap.size ≠ F := by omega
 have n3 : R ≠ w.heap.size := by omega
 have b2 : 0 < (P2 : Int) - P1 := by omega
 have b3 : (P1 : Int) < P2 := by omega
 subst hq hk
 have b6 : ¬ (P2 : Int) - P1 ≤ 9 := by omega
 clear hz h9
 go_enter Tryz.func108, Tryz.ntmps108
 go_upto_region 1 with fail
 rw [← hW1]
 clear hW1
 go_wp2_with (first
  | (go_at_call 63; refine (hT _ h1).mono ?_; rintro e w2 ⟨rfl, h2, g2⟩; have d0 := h2.a)
  | (go_at_call 154; refine (hN _ h2).mono ?_; rintro e w3 ⟨rfl, hb3⟩; have d1 := (h2.up hb3).n; have d2 := (h2.up hb3).a; have d3 := (h2.up hb3).f)
  | (go_at_call 41; refine (hX _ d3).mono ?_; rintro e w4 ⟨rfl, hb4⟩; have f0 := (h2.up (hb3.trans (hb4.mono hb3.size))).z; have f1 := (h2.up (hb3.trans (hb4.mono hb3.size))).a; obtain ⟨k0, k1⟩ := ((hx1.grown g2 n1).up (hb3.trans (hb4.mono hb3.size))).two; have k2 := ((hx1.grown g2 n1).up (hb3.trans (hb4.mono hb3.size))).z))
 refine bodyPost_ret (by simp [results, Tryz.results108, go_sem, cs_same9, k0, k1, n1, n2, n3]; rfl) rfl ?_
 exact ⟨rfl, ⟨(P2 + 1), (((h2.up (hb3.trans (hb4.mono hb3.size))).put e5 e6).grown n1 n2 _).grown n1 n2 _⟩, gr_own (gr_own (gr_put (((gr_below hb1 _).trans g2).trans ((gr_below hb3 _).trans (gr_below hb4 _))) _) (Nat.le_refl _) _) (Nat.le_refl _) _⟩
theorem index_any (s : ByteArray) (R F P : Nat) (l : Bs) : IxC s R F P l := fun w h => by
 by_cases hh : hd l = 91
 ·have hT := take_yes (s := s) (R := R) (F := F) (P := P) (l := l) (c := 91) (by omega) (by omega) hh
  have hm := h.m
  obtain ⟨x, e, -⟩ := hd_lt hh (by omega)
  have he1 : P + 1 + l.tail.length = s.size := by have := h.e; rw [e] at this; simp at this ⊢; omega
  have hd1 : s.data.toList.drop (P + 1) = l.tail := (drop_more h.d).trans (by simp)
  obtain ⟨ea, eb⟩ := aft_at hd1 he1
  have hN : ∀ w, RdW s R F (P + 1) l.tail w → Calls Tryz.prog 154 #[.pointer (some ⟨R, 0, none⟩), .int .i64 (P + 1 : Nat)] w fun e w' => e = .returned (.tuple #[.int .i64 (capD (dgs l.tail) : Nat), .int .i64 (P + 1 + (dgs l.tail).length : Nat)]) ∧ Below w.heap.size w w' :=
   fun w hw => pnumber_any s R F (P + 1) l.tail w hw (P + 1) l.tail hd1 he1
  obtain ⟨q, k, hx⟩ : ∃ q k, nxt (aft l.tail) = (q, k) := ⟨_, _, rfl⟩
  have hX : ∀ w, w.cell? ⟨F, 0, none⟩ = some (.string s) → Calls Tryz.prog 41 #[.int .i64 (P + 1 + (dgs l.tail).length : Nat), .pointer (some ⟨F, 0, none⟩)] w fun e w' => e = .returned (.tuple #[.int .i32 (q : Nat), .int .i64 (k : Nat)]) ∧ Below w.heap.size w w' :=
   fun w hw => next_walk ea eb hx w hw
  by_cases hz : dgs l.tail = []
  ·have hi : idx l = (ix2, l.tail) := by unfold idx; rw [if_pos hh, if_neg (by simp [hz])]
   rw [hi]
   exact index_none hT (by omega) (by omega) hN hX (by rw [hz]; rfl) w h
  ·have hz' : 0 < (dgs l.tail).length := List.length_pos_iff.2 hz
   by_cases hq : hd (aft l.tail) = 93
   ·have hi : idx l = (ixG (dgs l.tail), (aft l.tail).tail) := by unfold idx; rw [if_pos hh, if_pos ⟨hz, hq⟩]
    have q1 : q = 93 := by have := (nxt_is (l := aft l.tail) (c := 93) (by omega) (by omega)).2 hq; rw [hx] at this; exact this
    have k1 : k = 1 := by have := nxt_one hq (by omega); rw [hx] at this; exact this
    obtain ⟨y, ey, -⟩ := hd_lt hq (by omega)
    have e6 : P + 1 + (dgs l.tail).length + 1 + (aft l.tail).tail.length = s.size := by have := eb; rw [ey] at this; simp at this ⊢; omega
    have e5 : s.data.toList.drop (P + 1 + (dgs l.tail).length + 1) = (aft l.tail).tail := (drop_more ea).trans (by simp)
    rw [hi]
    unfold ixG
    by_cases h9 : (dgs l.tail).length ≤ 9
    ·have hc := cap_few (dgs_all l.tail) h9
     rw [hc] at hN
     by_cases hC : 0 < valD (dgs l.tail)
     ·rw [if_pos ⟨h9, hC⟩]
      exact index_good hT (by omega) (by omega) hN hX (by omega) e5 e6 q1 k1 (by omega) hC w h
     ·rw [if_neg (fun x => hC x.2)]
      exact index_nought hT (by omega) (by omega) hN hX (by omega) e5 e6 q1 k1 (by omega) (by omega) w h
    ·rw [if_neg (fun x => h9 x.1)]
     exact index_long hT (by omega) (by omega) hN hX (by omega) e5 e6 q1 k1 (by omega) w h
   ·have hi : idx l = (ix2, l.tail) := by unfold idx; rw [if_pos hh, if_neg (fun x => hq x.2)]
    rw [hi]
    refine index_open hT (by omega) (by omega) hN hX (by omega) (fun e => hq ?_) w h
    exact (nxt_is (l := aft l.tail) (c := 93) (by omega) (by omega)).1 (by rw [hx]; exact e)
 ·exact index_no hh w h
end Go.Proofs.YtjfmhghpkefihaaGreatDoor
namespace Go.Proofs.YtjfmhghpkefihaaGreatDoor
open Go.RowKit
set_option linter.unusedVariables false
set_option linter.unusedSimpArgs false
def spV (f : Fl) (sz : Int) (verb : Nat) : List Value := [.bool f.p, .bool f.m, .bool f.s, .bool f.b, .bool f.z, .int .i64 sz, .int .i64 sz, .int .i32 (verb : Nat)]
theorem flg_cons (x : UInt8) (t : Bs) (f : Fl) : flg (x :: t) f =
  if x.toNat = 43 then flg t ⟨true, f.m, f.s, f.b, f.z⟩
  else if x.toNat = 45 then flg t ⟨f.p, true, f.s, f.b, f.z⟩
  else if x.toNat = 35 then flg t ⟨f.p, f.m, true, f.b, f.z⟩
  else if x.toNat = 32 then flg t ⟨f.p, f.m, f.s, true, f.z⟩
  else if x.toNat = 48 then flg t ⟨f.p, f.m, f.s, f.b, true⟩
  else (f, x :: t) := rfl
theorem flg_no {l : Bs} {f : Fl} (h : hd l ≠ 43 ∧ hd l ≠ 45 ∧ hd l ≠ 35 ∧ hd l ≠ 32 ∧ hd l ≠ 48) : flg l f = (f, l) := by
 cases l with
 | nil => rfl
 | cons x t =>
   unfold hd at h
   dsimp only at h
   unfold flg
   rw [if_neg h.1, if_neg h.2.1, if_neg h.2.2.1, if_neg h.2.2.2.1, if_neg h.2.2.2.2]
abbrev FlC (s : ByteArray) (R F P : Nat) (l : Bs) : Prop := ∀ w, RdW s R F P l w → Calls Tryz.prog 103 #[.pointer (some ⟨R, 0, none⟩)] w fun e w' => e = .returned (.agg (spV (flg l fl0).1 (-1) 0).toArray) ∧ (∃ P', RdW s R F P' (flg l fl0).2 w') ∧ w.grownBy w' (some R)
set_option maxRecDepth 1000000 in
set_option maxHeartbeats 4000000 in
theorem flags_any (s : ByteArray) (R F P : Nat) (l : Bs) : FlC s R F P l := fun w h0 => by
 obtain ⟨W1, hW1⟩ : ∃ W1, W1 = (w.alloc (.cells #[.bool false, .bool false, .bool false, .bool false, .bool false, .int .i64 0, .int .i64 0, .int .i32 0] 67)) := ⟨_, rfl⟩
 obtain ⟨W2, hW2⟩ : ∃ W2, W2 = (W1.alloc (.cells #[.bool false, .bool false, .bool false, .bool false, .bool false, .int .i64 (-1), .int .i64 (-1), .int .i32 0] 67)) := ⟨_, rfl⟩
 have hRw : R < w.heap.size := lt_of_cell9 h0.a
 have hFw : F < w.heap.size := lt_of_cell9 h0.f
 have hs1 : W1.heap.size = w.heap.size + 1 := by rw [hW1]; simp
 have hb1 : Below w.heap.size w W1 := by rw [hW1]; exact (Below.refl _ _).alloc (Nat.le_refl _) _
 have hb2 : Below W1.heap.size W1 W2 := by rw [hW2]; exact (Below.refl _ _).alloc (Nat.le_refl _) _
 have hx1 : Bx W2 w.heap.size [.bool false, .bool false, .bool false, .bool false, .bool false, .int .i64 0, .int .i64 0, .int .i32 0] := Bx.up (by rw [hW1]; exact Bx.new _ _ _) hb2
 have hx2 : Bx W2 (w.heap.size + 1) (spV fl0 (-1) 0) := by rw [← hs1, hW2]; exact Bx.new _ _ _
 have hr2 : RdW s R F P l W2 := (h0.up hb1).up hb2
 have hg2 : w.grownBy W2 (some R) := (gr_below hb1 _).trans (gr_below hb2 _)
 have n1 : w.heap.size ≠ R := by omega
 have n2 : w.heap.size ≠ F := by omega
 have n3 : w.heap.size + 1 ≠ R := by omega
 have n4 : w.heap.size + 1 ≠ F := by omega
 have n5 : ¬ R = w.heap.size + 1 := by omega
 have n6 : w.heap.size ≠ w.heap.size + 1 := by omega
 have n7 : w.heap.size + 1 ≠ w.heap.size := by omega
 go_enter Tryz.func103, Tryz.ntmps103
 go_wp2
 go_step3
 go_wp2
 go_step3
 go_wp2
 rw [← hW1, ← hW2]
 clear hW1 hW2 hb1 hb2 h0
 go_loopg [4, 5] l.length (fun g a b wr => ∃ (P' : Nat) (l' : Bs) (f : Fl), RdW s R F P' l' wr ∧ l'.length ≤ g ∧ Hid (flg l' f = flg l fl0) ∧ w.grownBy wr (some R) ∧ Bx wr w.heap.size [.bool false, .bool false, .bool false, .bool false, .bool false, .int .i64 0, .int .i64 0, .int .i32 0] ∧ Bx wr (w.heap.size + 1) (spV f (-1) 0))
 case atStart => exact ⟨P, l, fl0, hr2, Nat.le_refl _, rfl, hg2, hx1, hx2⟩
 case round =>
  obtain ⟨P', l', f, h, hg, HL, hgr, hy1, hy2⟩ := hrel
  clear hr2 hg2 hx1 hx2
  obtain ⟨q, n, hx⟩ : ∃ q n, nxt l' = (q, n) := ⟨_, _, rfl⟩
  have hN := h.next hx
  have hm := h.m
  have he := h.e
  have c0 : ∀ x : Cl wr, x.w.cell? ⟨R, 0, none⟩ = some (.int .i64 (P' : Nat)) := fun x => x.cell h.a
  have c1 : ∀ x : Cl wr, x.w.cell? ⟨R, 1, none⟩ = some (.func (.func 41) #[] #[.pointer (some ⟨F, 0, none⟩)]) := fun x => x.cell h.n
  have HX : Hid (nxt l' = (q, n)) := hx
  clear hx
  go_wp2
  refine wp_region_above wr (Below.refl _ _) (by kernel_rfl) (by kernel_rfl) ?_
  intro hCl
  repeat (go_big_quiet_step ((go_at_call 41; exact Cl.call (hN _))))
  refine wpQuiet_nil ?_
  intro _ hw'
  obtain ⟨y, hy⟩ := hw'
  subst hy
  have hY := h.up y.below
  have hgY := hgr.trans (gr_below y.below (some R))
  have z1 := hy1.up y.below
  have z2 := hy2.up y.below
  obtain ⟨p, m, sh, b, z⟩ := f
  have g0 := z2.c 0 _ rfl
  have g1 := z2.c 1 _ rfl
  have g2 := z2.c 2 _ rfl
  have g3 := z2.c 3 _ rfl
  have g4 := z2.c 4 _ rfl
  have g5 := z2.c 5 _ rfl
  have g6 := z2.c 6 _ rfl
  have g7 := z2.c 7 _ rfl
  have gz := z2.z
  have e0 := z1.c 0 _ rfl
  have e1 := z1.c 1 _ rfl
  have e2 := z1.c 2 _ rfl
  have e3 := z1.c 3 _ rfl
  have e4 := z1.c 4 _ rfl
  have e5 := z1.c 5 _ rfl
  have e6 := z1.c 6 _ rfl
  have e7 := z1.c 7 _ rfl
  have ez := z1.z
  have d0 := hY.a
  have d1 := hY.z
  clear c0 c1 hN hCl hy1 hy2
  have key : ∀ c, 1 ≤ c → c < 128 → (q = c ↔ hd l' = c) := fun c k1 k2 => by have := nxt_is (l := l') k1 k2; rw [HX.out] at this; exact this
  have put : ∀ (c : Nat), q = c → 1 ≤ c → c < 128 → n = 1 ∧ ∃ x, l' = x :: l'.tail ∧ x.toNat = c ∧ s.data.toList.drop (P' + 1) = l'.tail ∧ P' + 1 + l'.tail.length = s.size := fun c hc k1 k2 => by
   have hh := (key c k1 k2).1 hc
   obtain ⟨x, e, hx⟩ := hd_lt hh (by omega)
   refine ⟨by have := nxt_one hh k2; rw [HX.out] at this; exact this, x, e, hx, (drop_more h.d).trans (by simp), ?_⟩
   rw [e] at he
   simp at he ⊢
   omega
  by_cases q43 : q = 43
  ·obtain ⟨rfl, x, ex, hxc, hd', he'⟩ := put 43 q43 (by omega) (by omega)
   have HL' : Hid (flg l'.tail ⟨true, m, sh, b, z⟩ = flg l fl0) := by
    show _ = _
    rw [← HL.out]
    conv => rhs; rw [ex]
    rw [flg_cons]
    simp [hxc]
   have hlen : l'.tail.length ≤ gk - 1 ∧ 0 < gk := by
    have := congrArg List.length ex
    simp at this ⊢
    omega
   subst q43
   have hr : RdW s R F (P' + 1) l'.tail ((y.w.setCell ⟨w.heap.size + 1, 0, none⟩ (.bool true)).setCell ⟨R, 0, none⟩ (.int .i64 ((P' + 1 : Nat)))) := (hY.grown n3 n4 _).put hd' he'
   have hgg : w.grownBy ((y.w.setCell ⟨w.heap.size + 1, 0, none⟩ (.bool true)).setCell ⟨R, 0, none⟩ (.int .i64 ((P' + 1 : Nat)))) (some R) := gr_put (gr_own hgY (by omega) _) _
   have hz1 : Bx ((y.w.setCell ⟨w.heap.size + 1, 0, none⟩ (.bool true)).setCell ⟨R, 0, none⟩ (.int .i64 ((P' + 1 : Nat)))) w.heap.size _ := (z1.other n7 _).other n1.symm _
   have hz2 : Bx ((y.w.setCell ⟨w.heap.size + 1, 0, none⟩ (.bool true)).setCell ⟨R, 0, none⟩ (.int .i64 ((P' + 1 : Nat)))) (w.heap.size + 1) (spV ⟨true, m, sh, b, z⟩ (-1) 0) := (z2.set 0 (by simp [spV]) _).other n3.symm _
   have hPI : (P' : Int) + 1 ≤ 1000000000000 := by omega
   clear put key HX HL
   go_wp2
   go_roundg (gk - 1)
   case measure => omega
   case rel => exact ⟨P' + 1, l'.tail, ⟨true, m, sh, b, z⟩, hr, hlen.1, HL', hgg, hz1, hz2⟩
  by_cases q45 : q = 45
  ·obtain ⟨rfl, x, ex, hxc, hd', he'⟩ := put 45 q45 (by omega) (by omega)
   have HL' : Hid (flg l'.tail ⟨p, true, sh, b, z⟩ = flg l fl0) := by
    show _ = _
    rw [← HL.out]
    conv => rhs; rw [ex]
    rw [flg_cons]
    simp [hxc]
   have hlen : l'.tail.length ≤ gk - 1 ∧ 0 < gk := by
    have := congrArg List.length ex
    simp at this ⊢
    omega
   subst q45
   have hr : RdW s R F (P' + 1) l'.tail ((y.w.setCell ⟨w.heap.size + 1, 1, none⟩ (.bool true)).setCell ⟨R, 0, none⟩ (.int .i64 ((P' + 1 : Nat)))) := (hY.grown n3 n4 _).put hd' he'
   have hgg : w.grownBy ((y.w.setCell ⟨w.heap.size + 1, 1, none⟩ (.bool true)).setCell ⟨R, 0, none⟩ (.int .i64 ((P' + 1 : Nat)))) (some R) := gr_put (gr_own hgY (by omega) _) _
   have hz1 : Bx ((y.w.setCell ⟨w.heap.size + 1, 1, none⟩ (.bool true)).setCell ⟨R, 0, none⟩ (.int .i64 ((P' + 1 : Nat)))) w.heap.size _ := (z1.other n7 _).other n1.symm _
   have hz2 : Bx ((y.w.setCell ⟨w.heap.size + 1, 1, none⟩ (.bool true)).setCell ⟨R, 0, none⟩ (.int .i64 ((P' + 1 : Nat)))) (w.heap.size + 1) (spV ⟨p, true, sh, b, z⟩ (-1) 0) := (z2.set 1 (by simp [spV]) _).other n3.symm _
   have hPI : (P' : Int) + 1 ≤ 1000000000000 := by omega
   clear put key HX HL
   go_wp2
   go_roundg (gk - 1)
   case measure => omega
   case rel => exact ⟨P' + 1, l'.tail, ⟨p, true, sh, b, z⟩, hr, hlen.1, HL', hgg, hz1, hz2⟩
  by_cases q35 : q = 35
  ·obtain ⟨rfl, x, ex, hxc, hd', he'⟩ := put 35 q35 (by omega) (by omega)
   have HL' : Hid (flg l'.tail ⟨p, m, true, b, z⟩ = flg l fl0) := by
    show _ = _
    rw [← HL.out]
    conv => rhs; rw [ex]
    rw [flg_cons]
    simp [hxc]
   have hlen : l'.tail.length ≤ gk - 1 ∧ 0 < gk := by
    have := congrArg List.length ex
    simp at this ⊢
    omega
   subst q35
   have hr : RdW s R F (P' + 1) l'.tail ((y.w.setCell ⟨w.heap.size + 1, 2, none⟩ (.bool true)).setCell ⟨R, 0, none⟩ (.int .i64 ((P' + 1 : Nat)))) := (hY.grown n3 n4 _).put hd' he'
   have hgg : w.grownBy ((y.w.setCell ⟨w.heap.size + 1, 2, none⟩ (.bool true)).setCell ⟨R, 0, none⟩ (.int .i64 ((P' + 1 : Nat)))) (some R) := gr_put (gr_own hgY (by omega) _) _
   have hz1 : Bx ((y.w.setCell ⟨w.heap.size + 1, 2, none⟩ (.bool true)).setCell ⟨R, 0, none⟩ (.int .i64 ((P' + 1 : Nat)))) w.heap.size _ := (z1.other n7 _).other n1.symm _
   have hz2 : Bx ((y.w.setCell ⟨w.heap.size + 1, 2, none⟩ (.bool true)).setCell ⟨R, 0, none⟩ (.int .i64 ((P' + 1 : Nat)))) (w.heap.size + 1) (spV ⟨p, m, true, b, z⟩ (-1) 0) := (z2.set 2 (by simp [spV]) _).other n3.symm _
   have hPI : (P' : Int) + 1 ≤ 1000000000000 := by omega
   clear put key HX HL
   go_wp2
   go_roundg (gk - 1)
   case measure => omega
   case rel => exact ⟨P' + 1, l'.tail, ⟨p, m, true, b, z⟩, hr, hlen.1, HL', hgg, hz1, hz2⟩
  by_cases q32 : q = 32
  ·obtain ⟨rfl, x, ex, hxc, hd', he'⟩ := put 32 q32 (by omega) (by omega)
   have HL' : Hid (flg l'.tail ⟨p, m, sh, true, z⟩ = flg l fl0) := by
    show _ = _
    rw [← HL.out]
    conv => rhs; rw [ex]
    rw [flg_cons]
    simp [hxc]
   have hlen : l'.tail.length ≤ gk - 1 ∧ 0 < gk := by
    have := congrArg List.length ex
    simp at this ⊢
    omega
   subst q32
   have hr : RdW s R F (P' + 1) l'.tail ((y.w.setCell ⟨w.heap.size + 1, 3, none⟩ (.bool true)).setCell ⟨R, 0, none⟩ (.int .i64 ((P' + 1 : Nat)))) := (hY.grown n3 n4 _).put hd' he'
   have hgg : w.grownBy ((y.w.setCell ⟨w.heap.size + 1, 3, none⟩ (.bool true)).setCell ⟨R, 0, none⟩ (.int .i64 ((P' + 1 : Nat)))) (some R) := gr_put (gr_own hgY (by omega) _) _
   have hz1 : Bx ((y.w.setCell ⟨w.heap.size + 1, 3, none⟩ (.bool true)).setCell ⟨R, 0, none⟩ (.int .i64 ((P' + 1 : Nat)))) w.heap.size _ := (z1.other n7 _).other n1.symm _
   have hz2 : Bx ((y.w.setCell ⟨w.heap.size + 1, 3, none⟩ (.bool true)).setCell ⟨R, 0, none⟩ (.int .i64 ((P' + 1 : Nat)))) (w.heap.size + 1) (spV ⟨p, m, sh, true, z⟩ (-1) 0) := (z2.set 3 (by simp [spV]) _).other n3.symm _
   have hPI : (P' : Int) + 1 ≤ 1000000000000 := by omega
   clear put key HX HL
   go_wp2
   go_roundg (gk - 1)
   case measure => omega
   case rel => exact ⟨P' + 1, l'.tail, ⟨p, m, sh, true, z⟩, hr, hlen.1, HL', hgg, hz1, hz2⟩
  by_cases q48 : q = 48
  ·obtain ⟨rfl, x, ex, hxc, hd', he'⟩ := put 48 q48 (by omega) (by omega)
   have HL' : Hid (flg l'.tail ⟨p, m, sh, b, true⟩ = flg l fl0) := by
    show _ = _
    rw [← HL.out]
    conv => rhs; rw [ex]
    rw [flg_cons]
    simp [hxc]
   have hlen : l'.tail.length ≤ gk - 1 ∧ 0 < gk := by
    have := congrArg List.length ex
    simp at this ⊢
    omega
   subst q48
   have hr : RdW s R F (P' + 1) l'.tail ((y.w.setCell ⟨w.heap.size + 1, 4, none⟩ (.bool true)).setCell ⟨R, 0, none⟩ (.int .i64 ((P' + 1 : Nat)))) := (hY.grown n3 n4 _).put hd' he'
   have hgg : w.grownBy ((y.w.setCell ⟨w.heap.size + 1, 4, none⟩ (.bool true)).setCell ⟨R, 0, none⟩ (.int .i64 ((P' + 1 : Nat)))) (some R) := gr_put (gr_own hgY (by omega) _) _
   have hz1 : Bx ((y.w.setCell ⟨w.heap.size + 1, 4, none⟩ (.bool true)).setCell ⟨R, 0, none⟩ (.int .i64 ((P' + 1 : Nat)))) w.heap.size _ := (z1.other n7 _).other n1.symm _
   have hz2 : Bx ((y.w.setCell ⟨w.heap.size + 1, 4, none⟩ (.bool true)).setCell ⟨R, 0, none⟩ (.int .i64 ((P' + 1 : Nat)))) (w.heap.size + 1) (spV ⟨p, m, sh, b, true⟩ (-1) 0) := (z2.set 4 (by simp [spV]) _).other n3.symm _
   have hPI : (P' : Int) + 1 ≤ 1000000000000 := by omega
   clear put key HX HL
   go_wp2
   go_roundg (gk - 1)
   case measure => omega
   case rel => exact ⟨P' + 1, l'.tail, ⟨p, m, sh, b, true⟩, hr, hlen.1, HL', hgg, hz1, hz2⟩
  have HF : Hid (flg l fl0 = (⟨p, m, sh, b, z⟩, l')) := by
   show _ = _
   rw [← HL.out]
   exact flg_no ⟨fun e => q43 ((key 43 (by omega) (by omega)).2 e), fun e => q45 ((key 45 (by omega) (by omega)).2 e), fun e => q35 ((key 35 (by omega) (by omega)).2 e), fun e => q32 ((key 32 (by omega) (by omega)).2 e), fun e => q48 ((key 48 (by omega) (by omega)).2 e)⟩
  have i43 : ¬ (q : Int) = 43 := by omega
  have i45 : ¬ (q : Int) = 45 := by omega
  have i35 : ¬ (q : Int) = 35 := by omega
  have i32 : ¬ (q : Int) = 32 := by omega
  have i48 : ¬ (q : Int) = 48 := by omega
  clear put key HX HL q43 q45 q35 q32 q48
  go_wp2
  refine bodyPost_ret (by simp [results, Tryz.results103, go_sem, cs_same9, e0, e1, e2, e3, e4, e5, e6, e7]; rfl) rfl ?_
  rw [HF.out]
  refine ⟨rfl, ⟨P', ?_⟩, ?_⟩
  ·iterate 8 (refine RdW.grown ?_ n1 n2 _)
   exact hY
  ·iterate 8 (refine gr_own ?_ (Nat.le_refl _) _)
   exact hgY
end Go.Proofs.YtjfmhghpkefihaaGreatDoor
