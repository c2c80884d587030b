/- PWalkB, PWalkC: these texts in one. -/
import Derived.Test.YtdlnmnipnkeabaaGreatDoorPt12
import Derived.Handy
namespace Go.Proofs.YtdlnmnipnkeabaaGreatDoor
open Go.RowKit
set_option linter.unusedVariables false
set_option linter.unusedSimpArgs false
def ixV (x : Ix) : Value := .agg #[.int .i64 (x.k : Nat), .int .i64 (x.n : Nat)]
def nbV (x : Nb) : Value := .agg #[.int .i64 (x.k : Nat), .int .i64 x.n, .int .i64 (x.a.k : Nat), .int .i64 (x.a.n : Nat)]
theorem cs_same9 (W : World) (a : Addr) (v : Value) (h : (W.cell? a).isSome = true) : (W.setCell a v).cell? a = some v := by
 obtain ⟨u, hu⟩ := Option.isSome_iff_exists.1 h
 exact World.cell?_setCell_same _ _ _ hu
structure Bx (w : World) (B : Nat) (vs : List Value) : Prop where
 c : ∀ i v, vs[i]? = some v → w.cell? ⟨B, i, none⟩ = some v
 z : ∀ i, w.frozen? ⟨B, i, none⟩ = false
 b : B < w.heap.size
theorem Bx.up {w w' : World} {B : Nat} {vs : List Value} (h : Bx w B vs) (hb : Below w.heap.size w w') : Bx w' B vs :=
 ⟨fun i v hv => (hb.cell (p := ⟨B, i, none⟩) h.b).trans (h.c i v hv), fun i => (hb.frozen (p := ⟨B, i, none⟩) h.b).trans (h.z i), Nat.lt_of_lt_of_le h.b hb.size⟩
theorem Bx.grown {w w' : World} {B : Nat} {vs : List Value} {R : Nat} (h : Bx w B vs) (hg : w.grownBy w' (some R)) (hne : B ≠ R) : Bx w' B vs := by
 have hB := hg.block B h.b (by simpa using hne)
 exact ⟨fun i v hv => (World.cell?_of_block (w := w) (a := ⟨B, i, none⟩) hB).trans (h.c i v hv), fun i => (World.frozen?_of_block (w := w) (a := ⟨B, i, none⟩) hB).trans (h.z i), Nat.lt_of_lt_of_le h.b hg.size⟩
theorem Bx.new (w : World) (vs : List Value) (t : TypeId) : Bx (w.alloc (.cells vs.toArray t)) w.heap.size vs :=
 ⟨fun i v hv => by simp [hv], fun i => by simp, by simp⟩
theorem Bx.set {w : World} {B : Nat} {vs : List Value} (h : Bx w B vs) (i : Nat) (hi : i < vs.length) (v : Value) : Bx (w.setCell ⟨B, i, none⟩ v) B (vs.set i v) := by
 refine ⟨fun j u hu => ?_, fun j => (World.frozen?_setCell _ _ _ _).trans (h.z j), by simpa [World.setCell] using h.b⟩
 by_cases e : i = j
 ·subst e
  rw [List.getElem?_set_self hi] at hu
  obtain rfl := Option.some.inj hu
  exact World.cell?_setCell_same _ _ _ (h.c i _ (List.getElem?_eq_getElem hi))
 ·rw [List.getElem?_set_ne e] at hu
  rw [World.cell?_setCell_other _ _ _ _ (fun k => e (congrArg Addr.off k))]
  exact h.c j u hu
theorem Bx.other {w : World} {B B' o : Nat} {vs : List Value} (h : Bx w B vs) (hne : B' ≠ B) (v : Value) : Bx (w.setCell ⟨B', o, none⟩ v) B vs := by
 have hB : (w.setCell ⟨B', o, none⟩ v).heap[B]? = w.heap[B]? := Below.heap_setCell _ _ _ _ hne.symm
 exact ⟨fun i u hu => (World.cell?_of_block (w := w) (a := ⟨B, i, none⟩) hB).trans (h.c i u hu), fun i => (World.frozen?_of_block (w := w) (a := ⟨B, i, none⟩) hB).trans (h.z i), by simpa [World.setCell] using h.b⟩
theorem Bx.two {w : World} {B : Nat} {a b : Value} (h : Bx w B [a, b]) : w.cell? ⟨B, 0, none⟩ = some a ∧ w.cell? ⟨B, 1, none⟩ = some b := ⟨h.c 0 _ rfl, h.c 1 _ rfl⟩
theorem Bx.four {w : World} {B : Nat} {a b c d : Value} (h : Bx w B [a, b, c, d]) : w.cell? ⟨B, 0, none⟩ = some a ∧ w.cell? ⟨B, 1, none⟩ = some b ∧ w.cell? ⟨B, 2, none⟩ = some c ∧ w.cell? ⟨B, 3, none⟩ = some d := ⟨h.c 0 _ rfl, h.c 1 _ rfl, h.c 2 _ rfl, h.c 3 _ rfl⟩
theorem RdW.grown {s : ByteArray} {R F P : Nat} {l : Bs} {w : World} (h : RdW s R F P l w) {B o : Nat} (hR : B ≠ R) (hF : B ≠ F) (v : Value) : RdW s R F P l (w.setCell ⟨B, o, none⟩ v) := by
 have a : (w.setCell ⟨B, o, none⟩ v).heap[R]? = w.heap[R]? := Below.heap_setCell _ _ _ _ hR.symm
 have b : (w.setCell ⟨B, o, none⟩ v).heap[F]? = w.heap[F]? := Below.heap_setCell _ _ _ _ hF.symm
 exact ⟨(World.cell?_of_block (w := w) (a := ⟨R, 0, none⟩) a).trans h.a, (World.cell?_of_block (w := w) (a := ⟨R, 1, none⟩) a).trans h.n, (World.cell?_of_block (w := w) (a := ⟨F, 0, none⟩) b).trans h.f, (World.frozen?_of_block (w := w) (a := ⟨R, 0, none⟩) a).trans h.z, h.d, h.e, h.ne, h.m⟩
theorem gr_own {w w' : World} {R B o : Nat} (h : w.grownBy w' (some R)) (hB : w.heap.size ≤ B) (v : Value) : w.grownBy (w'.setCell ⟨B, o, none⟩ v) (some R) :=
 ⟨h.os, h.tape, h.output, by simpa [World.setCell] using h.size, fun k hk hne => by rw [Below.heap_setCell _ _ _ _ (by dsimp only; omega)]; exact h.block k hk hne⟩
theorem gr_alloc {w w' : World} {row : Option Nat} (h : w.grownBy w' row) (o : Obj) : w.grownBy (w'.alloc o) row := h.trans (World.grownBy_alloc _ _ _)
theorem drop_app {a b l : Bs} (h : a ++ b = l) : l.drop a.length = b := by subst h; simp
theorem aft_at {s : ByteArray} {P : Nat} {l : Bs} (hd : s.data.toList.drop P = l) (he : P + l.length = s.size) : s.data.toList.drop (P + (dgs l).length) = aft l ∧ (P + (dgs l).length) + (aft l).length = s.size := by
 have e := dgs_aft l
 constructor
 ·rw [drop_more hd]
  exact drop_app e
 ·have := congrArg List.length e
  rw [List.length_append] at this
  omega
abbrev SpC9 (x : Ix) : Prop := ∀ w, Calls Tryz.prog 103 #[ixV x] w fun e w' => e = .returned (ixV (spl x)) ∧ Below w.heap.size w w'
set_option maxRecDepth 1000000 in
set_option maxHeartbeats 1600000 in
theorem spoilt_any (x : Ix) : SpC9 x := fun w => by
 obtain ⟨k, n⟩ := x
 unfold ixV
 by_cases h : k = 0
 ·subst h
  rw [show spl ⟨0, n⟩ = ⟨0, n⟩ from rfl]
  dsimp only
  go_enter Tryz.func103, Tryz.ntmps103
  go_wp2
  go_returns
  refine ⟨rfl, ?_⟩
  go_grown
 ·have hI : ¬ (k : Int) = 0 := by omega
  rw [show spl ⟨k, n⟩ = ix2 from if_neg h]
  unfold ix2
  dsimp only
  go_enter Tryz.func103, Tryz.ntmps103
  go_wp2
  go_returns
  refine ⟨rfl, ?_⟩
  go_grown
abbrev GvC (s : ByteArray) (R F P : Nat) (l : Bs) : Prop := ∀ w, RdW s R F P l w → Calls Tryz.prog 126 #[.pointer (some ⟨R, 0, none⟩)] w fun e w' => e = .returned (nbV ⟨1, wN (dgs l), ix0⟩) ∧ RdW s R F (P + (dgs l).length) (aft l) w' ∧ w.grownBy w' (some R)
set_option maxRecDepth 1000000 in
set_option maxHeartbeats 1600000 in
theorem given_any (s : ByteArray) (R F P : Nat) (l : Bs) : GvC s R F P l := fun w h => by
 obtain ⟨W1, hW1⟩ : ∃ W1, W1 = w.alloc (.cells #[.int .i64 0, .int .i64 0, .int .i64 0, .int .i64 0] 117) := ⟨_, rfl⟩
 have hb1 : Below w.heap.size w W1 := by rw [hW1]; exact (Below.refl _ _).alloc (Nat.le_refl _) _
 have h1 := h.up hb1
 have hC := pnumber_any s R F P l W1 h1 P l h.d h.e
 have hcap : Hid ((if 1000 < capD (dgs l) then (-1 : Int) else (capD (dgs l) : Int)) = wN (dgs l)) := cap_wide (dgs l)
 obtain ⟨ea, eb⟩ := aft_at h.d h.e
 generalize capD (dgs l) = C at *
 generalize hP2 : P + (dgs l).length = P2 at *
 clear hP2
 have hRw : R < w.heap.size := lt_of_cell9 h.a
 have hFw : F < w.heap.size := lt_of_cell9 h.f
 have hx1 : Bx W1 w.heap.size [.int .i64 0, .int .i64 0, .int .i64 0, .int .i64 0] := by rw [hW1]; exact Bx.new _ _ _
 have a0 := h1.a
 have z0 := h1.z
 have fin : ∀ w2 (a : Int), Below W1.heap.size W1 w2 → RdW s R F P2 (aft l) (((((w2.setCell ⟨R, 0, none⟩ (.int .i64 (P2 : Nat))).setCell ⟨w.heap.size, 0, none⟩ (.int .i64 1)).setCell ⟨w.heap.size, 1, none⟩ (.int .i64 a)).setCell ⟨w.heap.size, 2, none⟩ (.int .i64 0)).setCell ⟨w.heap.size, 3, none⟩ (.int .i64 0)) ∧ w.grownBy (((((w2.setCell ⟨R, 0, none⟩ (.int .i64 (P2 : Nat))).setCell ⟨w.heap.size, 0, none⟩ (.int .i64 1)).setCell ⟨w.heap.size, 1, none⟩ (.int .i64 a)).setCell ⟨w.heap.size, 2, none⟩ (.int .i64 0)).setCell ⟨w.heap.size, 3, none⟩ (.int .i64 0)) (some R) := fun w2 a hb2 => by
  have n1 : w.heap.size ≠ R := by omega
  have n2 : w.heap.size ≠ F := by omega
  exact ⟨((((((h1.up hb2).put ea eb).grown n1 n2 _).grown n1 n2 _).grown n1 n2 _).grown n1 n2 _), gr_own (gr_own (gr_own (gr_own (gr_put ((gr_below hb1 _).trans (gr_below hb2 _)) _) (Nat.le_refl _) _) (Nat.le_refl _) _) (Nat.le_refl _) _) (Nat.le_refl _) _⟩
 have q0 : ∀ w2, Below W1.heap.size W1 w2 → (w2.frozen? ⟨R, 0, none⟩ = false ∧ (w2.cell? ⟨R, 0, none⟩ = some (.int .i64 (P : Nat)))) := fun w2 hb2 => ⟨(h1.up hb2).z, (h1.up hb2).a⟩
 have hBR : ¬ w.heap.size = R := by omega
 have hRB : ¬ R = w.heap.size := by omega
 unfold nbV ix0
 dsimp only
 by_cases hc : 1000 < C
 ·have hcI : 1000 < (C : Int) := by omega
  rw [if_pos hc] at hcap
  go_enter Tryz.func126, Tryz.ntmps126
  go_upto_region 1 with fail
  rw [← hW1]
  clear hW1
  go_wp2_with (go_at_call 127; refine hC.mono ?_; rintro e w2 ⟨rfl, hb2⟩; obtain ⟨k0, k1⟩ := q0 w2 hb2; obtain ⟨k2, k3, k4, k5⟩ := (hx1.up hb2).four; have k6 := (hx1.up hb2).z)
  refine bodyPost_ret (by simp [results, Tryz.results126, go_sem, cs_same9, k0, k1, k2, k3, k4, k5, hBR, hRB]; rfl) rfl ?_
  rw [← hcap.out]
  exact ⟨rfl, fin _ _ hb2⟩
 ·have hcI : ¬ 1000 < (C : Int) := by omega
  rw [if_neg hc] at hcap
  go_enter Tryz.func126, Tryz.ntmps126
  go_upto_region 1 with fail
  rw [← hW1]
  clear hW1
  go_wp2_with (go_at_call 127; refine hC.mono ?_; rintro e w2 ⟨rfl, hb2⟩; obtain ⟨k0, k1⟩ := q0 w2 hb2; obtain ⟨k2, k3, k4, k5⟩ := (hx1.up hb2).four; have k6 := (hx1.up hb2).z)
  refine bodyPost_ret (by simp [results, Tryz.results126, go_sem, cs_same9, k0, k1, k2, k3, k4, k5, hBR, hRB]; rfl) rfl ?_
  rw [← hcap.out]
  exact ⟨rfl, fin _ _ hb2⟩
end Go.Proofs.YtdlnmnipnkeabaaGreatDoor
namespace Go.Proofs.YtdlnmnipnkeabaaGreatDoor
open Go.RowKit
set_option linter.unusedVariables false
set_option linter.unusedSimpArgs false
abbrev IxC (s : ByteArray) (R F P : Nat) (l : Bs) : Prop := ∀ w, RdW s R F P l w → Calls Tryz.prog 106 #[.pointer (some ⟨R, 0, none⟩)] w fun e w' => e = .returned (ixV (idx l).1) ∧ (∃ P', RdW s R F P' (idx l).2 w') ∧ w.grownBy w' (some R)
set_option maxRecDepth 1000000 in
set_option maxHeartbeats 1600000 in
theorem index_no {s : ByteArray} {R F P : Nat} {l : Bs} (hh : hd l ≠ 91) : IxC s R F P l := fun w h => by
 rw [show idx l = (ix0, l) from if_neg hh]
 unfold ixV ix0
 dsimp only
 have hT := take_no (s := s) (R := R) (F := F) (P := P) (l := l) (c := 91) (by omega) (by omega) hh
 obtain ⟨W1, hW1⟩ : ∃ W1, W1 = w.alloc (.cells #[.int .i64 0, .int .i64 0] 115) := ⟨_, rfl⟩
 have hb1 : Below w.heap.size w W1 := by rw [hW1]; exact (Below.refl _ _).alloc (Nat.le_refl _) _
 have h1 := h.up hb1
 have hRw : R < w.heap.size := lt_of_cell9 h.a
 have hFw : F < w.heap.size := lt_of_cell9 h.f
 have hx1 : Bx W1 w.heap.size [.int .i64 0, .int .i64 0] := by rw [hW1]; exact Bx.new _ _ _
 have n1 : w.heap.size ≠ R := by omega
 have n2 : w.heap.size ≠ F := by omega
 go_enter Tryz.func106, Tryz.ntmps106
 go_upto_region 1 with fail
 rw [← hW1]
 clear hW1
 go_wp2_with (go_at_call 76; refine (hT _ h1).mono ?_; rintro e w2 ⟨rfl, h2, g2⟩; obtain ⟨k0, k1⟩ := (hx1.grown g2 n1).two; have k2 := (hx1.grown g2 n1).z)
 refine bodyPost_ret (by simp [results, Tryz.results106, go_sem, cs_same9, k0, k1]; rfl) rfl ?_
 exact ⟨rfl, ⟨P, (h2.grown n1 n2 _).grown n1 n2 _⟩, gr_own (gr_own ((gr_below hb1 _).trans g2) (Nat.le_refl _) _) (Nat.le_refl _) _⟩
set_option maxRecDepth 1000000 in
set_option maxHeartbeats 1600000 in
theorem index_none {s : ByteArray} {R F P P1 P2 C q k : Nat} {l l1 : Bs} (hT : TkC s R F P l 91 true P1 l1) (hP : P1 ≤ P2) (hm : P2 + 1 ≤ 1000000000001)
  (hN : ∀ w, RdW s R F P1 l1 w → Calls Tryz.prog 127 #[.pointer (some ⟨R, 0, none⟩), .int .i64 (P1 : Nat)] w fun e w' => e = .returned (.tuple #[.int .i64 (C : Nat), .int .i64 (P2 : Nat)]) ∧ Below w.heap.size w w')
  (hX : ∀ w, w.cell? ⟨F, 0, none⟩ = some (.string s) → Calls Tryz.prog 61 #[.int .i64 (P2 : Nat), .pointer (some ⟨F, 0, none⟩)] w fun e w' => e = .returned (.tuple #[.int .i32 (q : Nat), .int .i64 (k : Nat)]) ∧ Below w.heap.size w w')
  (hz : P1 = P2) (w : World) (h : RdW s R F P l w) : Calls Tryz.prog 106 #[.pointer (some ⟨R, 0, none⟩)] w fun e w' => e = .returned (.agg #[.int .i64 2, .int .i64 0]) ∧ (∃ P', RdW s R F P' l1 w') ∧ w.grownBy w' (some R) := by
 obtain ⟨W1, hW1⟩ : ∃ W1, W1 = w.alloc (.cells #[.int .i64 0, .int .i64 0] 115) := ⟨_, rfl⟩
 have hb1 : Below w.heap.size w W1 := by rw [hW1]; exact (Below.refl _ _).alloc (Nat.le_refl _) _
 have h1 := h.up hb1
 have hRw : R < w.heap.size := lt_of_cell9 h.a
 have hFw : F < w.heap.size := lt_of_cell9 h.f
 have hx1 : Bx W1 w.heap.size [.int .i64 0, .int .i64 0] := by rw [hW1]; exact Bx.new _ _ _
 have n1 : w.heap.size ≠ R := by omega
 have n2 : w.heap.size ≠ F := by omega
 have n3 : R ≠ w.heap.size := by omega
 have b1 : ((P2 : Int) - P1) ≤ 0 := by omega
 have b2 : ¬ 0 < (P2 : Int) - P1 := by omega
 have b3 : ¬ (P1 : Int) < P2 := by omega
 clear hz
 go_enter Tryz.func106, Tryz.ntmps106
 go_upto_region 1 with fail
 rw [← hW1]
 clear hW1
 go_wp2_with (first
  | (go_at_call 76; refine (hT _ h1).mono ?_; rintro e w2 ⟨rfl, h2, g2⟩; have d0 := h2.a)
  | (go_at_call 127; refine (hN _ h2).mono ?_; rintro e w3 ⟨rfl, hb3⟩; have d1 := (h2.up hb3).n; have d2 := (h2.up hb3).a; have d3 := (h2.up hb3).f)
  | (go_at_call 61; refine (hX _ d3).mono ?_; rintro e w4 ⟨rfl, hb4⟩; obtain ⟨k0, k1⟩ := ((hx1.grown g2 n1).up (hb3.trans (hb4.mono hb3.size))).two; have k2 := ((hx1.grown g2 n1).up (hb3.trans (hb4.mono hb3.size))).z))
 refine bodyPost_ret (by simp [results, Tryz.results106, go_sem, cs_same9, k0, k1, n1, n2, n3]; rfl) rfl ?_
 exact ⟨rfl, ⟨P1, ((h2.up (hb3.trans (hb4.mono hb3.size))).grown n1 n2 _).grown n1 n2 _⟩, gr_own (gr_own (((gr_below hb1 _).trans g2).trans ((gr_below hb3 _).trans (gr_below hb4 _))) (Nat.le_refl _) _) (Nat.le_refl _) _⟩
set_option maxRecDepth 1000000 in
set_option maxHeartbeats 1600000 in
theorem index_open {s : ByteArray} {R F P P1 P2 C q k : Nat} {l l1 : Bs} (hT : TkC s R F P l 91 true P1 l1) (hP : P1 ≤ P2) (hm : P2 + 1 ≤ 1000000000001)
  (hN : ∀ w, RdW s R F P1 l1 w → Calls Tryz.prog 127 #[.pointer (some ⟨R, 0, none⟩), .int .i64 (P1 : Nat)] w fun e w' => e = .returned (.tuple #[.int .i64 (C : Nat), .int .i64 (P2 : Nat)]) ∧ Below w.heap.size w w')
  (hX : ∀ w, w.cell? ⟨F, 0, none⟩ = some (.string s) → Calls Tryz.prog 61 #[.int .i64 (P2 : Nat), .pointer (some ⟨F, 0, none⟩)] w fun e w' => e = .returned (.tuple #[.int .i32 (q : Nat), .int .i64 (k : Nat)]) ∧ Below w.heap.size w w')
  (hz : P1 < P2) (hq : q ≠ 93) (w : World) (h : RdW s R F P l w) : Calls Tryz.prog 106 #[.pointer (some ⟨R, 0, none⟩)] w fun e w' => e = .returned (.agg #[.int .i64 2, .int .i64 0]) ∧ (∃ P', RdW s R F P' l1 w') ∧ w.grownBy w' (some R) := by
 obtain ⟨W1, hW1⟩ : ∃ W1, W1 = w.alloc (.cells #[.int .i64 0, .int .i64 0] 115) := ⟨_, rfl⟩
 have hb1 : Below w.heap.size w W1 := by rw [hW1]; exact (Below.refl _ _).alloc (Nat.le_refl _) _
 have h1 := h.up hb1
 have hRw : R < w.heap.size := lt_of_cell9 h.a
 have hFw : F < w.heap.size := lt_of_cell9 h.f
 have hx1 : Bx W1 w.heap.size [.int .i64 0, .int .i64 0] := by rw [hW1]; exact Bx.new _ _ _
 have n1 : w.heap.size ≠ R := by omega
 have n2 : w.heap.size ≠ F := by omega
 have n3 : R ≠ w.heap.size := by omega
 have b2 : 0 < (P2 : Int) - P1 := by omega
 have b3 : (P1 : Int) < P2 := by omega
 have b4 : ¬ (q : Int) = 93 := by omega
 have b5 : ((q : Int) == 93) = false := beq_eq_false_iff_ne.2 b4
 clear hz hq
 go_enter Tryz.func106, Tryz.ntmps106
 go_upto_region 1 with fail
 rw [← hW1]
 clear hW1
 go_wp2_with (first
  | (go_at_call 76; refine (hT _ h1).mono ?_; rintro e w2 ⟨rfl, h2, g2⟩; have d0 := h2.a)
  | (go_at_call 127; refine (hN _ h2).mono ?_; rintro e w3 ⟨rfl, hb3⟩; have d1 := (h2.up hb3).n; have d2 := (h2.up hb3).a; have d3 := (h2.up hb3).f)
  | (go_at_call 61; refine (hX _ d3).mono ?_; rintro e w4 ⟨rfl, hb4⟩; obtain ⟨k0, k1⟩ := ((hx1.grown g2 n1).up (hb3.trans (hb4.mono hb3.size))).two; have k2 := ((hx1.grown g2 n1).up (hb3.trans (hb4.mono hb3.size))).z))
 refine bodyPost_ret (by simp [results, Tryz.results106, go_sem, cs_same9, k0, k1, n1, n2, n3]; rfl) rfl ?_
 exact ⟨rfl, ⟨P1, ((h2.up (hb3.trans (hb4.mono hb3.size))).grown n1 n2 _).grown n1 n2 _⟩, gr_own (gr_own (((gr_below hb1 _).trans g2).trans ((gr_below hb3 _).trans (gr_below hb4 _))) (Nat.le_refl _) _) (Nat.le_refl _) _⟩
set_option maxRecDepth 1000000 in
set_option maxHeartbeats 1600000 in
theorem index_good {s : ByteArray} {R F P P1 P2 C q k : Nat} {l l1 l3 : Bs} (hT : TkC s R F P l 91 true P1 l1) (hP : P1 ≤ P2) (hm : P2 + 1 ≤ 1000000000001)
  (hN : ∀ w, RdW s R F P1 l1 w → Calls Tryz.prog 127 #[.pointer (some ⟨R, 0, none⟩), .int .i64 (P1 : Nat)] w fun e w' => e = .returned (.tuple #[.int .i64 (C : Nat), .int .i64 (P2 : Nat)]) ∧ Below w.heap.size w w')
  (hX : ∀ w, w.cell? ⟨F, 0, none⟩ = some (.string s) → Calls Tryz.prog 61 #[.int .i64 (P2 : Nat), .pointer (some ⟨F, 0, none⟩)] w fun e w' => e = .returned (.tuple #[.int .i32 (q : Nat), .int .i64 (k : Nat)]) ∧ Below w.heap.size w w')
  (hz : P1 < P2) (e5 : s.data.toList.drop (P2 + 1) = l3) (e6 : P2 + 1 + l3.length = s.size) (hq : q = 93) (hk : k = 1) (h9 : P2 ≤ P1 + 9) (hC : 0 < C) (w : World) (h : RdW s R F P l w) : Calls Tryz.prog 106 #[.pointer (some ⟨R, 0, none⟩)] w fun e w' => e = .returned (.agg #[.int .i64 1, .int .i64 (C : Nat)]) ∧ (∃ P', RdW s R F P' l3 w') ∧ w.grownBy w' (some R) := by
 obtain ⟨W1, hW1⟩ : ∃ W1, W1 = w.alloc (.cells #[.int .i64 0, .int .i64 0] 115) := ⟨_, rfl⟩
 have hb1 : Below w.heap.size w W1 := by rw [hW1]; exact (Below.refl _ _).alloc (Nat.le_refl _) _
 have h1 := h.up hb1
 have hRw : R < w.heap.size := lt_of_cell9 h.a
 have hFw : F < w.heap.size := lt_of_cell9 h.f
 have hx1 : Bx W1 w.heap.size [.int .i64 0, .int .i64 0] := by rw [hW1]; exact Bx.new _ _ _
 have n1 : w.heap.size ≠ R := by omega
 have n2 : w.heap.size ≠ F := by omega
 have n3 : R ≠ w.heap.size := by omega
 have b2 : 0 < (P2 : Int) - P1 := by omega
 have b3 : (P1 : Int) < P2 := by omega
 subst hq hk
 have b6 : (P2 : Int) - P1 ≤ 9 := by omega
 have b7 : (0 : Int) < C := by omega
 clear hz h9
 go_enter Tryz.func106, Tryz.ntmps106
 go_upto_region 1 with fail
 rw [← hW1]
 clear hW1
 go_wp2_with (first
  | (go_at_call 76; refine (hT _ h1).mono ?_; rintro e w2 ⟨rfl, h2, g2⟩; have d0 := h2.a)
  | (go_at_call 127; refine (hN _ h2).mono ?_; rintro e w3 ⟨rfl, hb3⟩; have d1 := (h2.up hb3).n; have d2 := (h2.up hb3).a; have d3 := (h2.up hb3).f)
  | (go_at_call 61; refine (hX _ d3).mono ?_; rintro e w4 ⟨rfl, hb4⟩; have f0 := (h2.up (hb3.trans (hb4.mono hb3.size))).z; have f1 := (h2.up (hb3.trans (hb4.mono hb3.size))).a; obtain ⟨k0, k1⟩ := ((hx1.grown g2 n1).up (hb3.trans (hb4.mono hb3.size))).two; have k2 := ((hx1.grown g2 n1).up (hb3.trans (hb4.mono hb3.size))).z))
 refine bodyPost_ret (by simp [results, Tryz.results106, go_sem, cs_same9, k0, k1, n1, n2, n3]; rfl) rfl ?_
 exact ⟨rfl, ⟨(P2 + 1), (((h2.up (hb3.trans (hb4.mono hb3.size))).put e5 e6).grown n1 n2 _).grown n1 n2 _⟩, gr_own (gr_own (gr_put (((gr_below hb1 _).trans g2).trans ((gr_below hb3 _).trans (gr_below hb4 _))) _) (Nat.le_refl _) _) (Nat.le_refl _) _⟩
set_option maxRecDepth 1000000 in
set_option maxHeartbeats 1600000 in
theorem index_nought {s : ByteArray} {R F P P1 P2 C q k : Nat} {l l1 l3 : Bs} (hT : TkC s R F P l 91 true P1 l1) (hP : P1 ≤ P2) (hm : P2 + 1 ≤ 1000000000001)
  (hN : ∀ w, RdW s R F P1 l1 w → Calls Tryz.prog 127 #[.pointer (some ⟨R, 0, none⟩), .int .i64 (P1 : Nat)] w fun e w' => e = .returned (.tuple #[.int .i64 (C : Nat), .int .i64 (P2 : Nat)]) ∧ Below w.heap.size w w')
  (hX : ∀ w, w.cell? ⟨F, 0, none⟩ = some (.string s) → Calls Tryz.prog 61 #[.int .i64 (P2 : Nat), .pointer (some ⟨F, 0, none⟩)] w fun e w' => e = .returned (.tuple #[.int .i32 (q : Nat), .int .i64 (k : Nat)]) ∧ Below w.heap.size w w')
  (hz : P1 < P2) (e5 : s.data.toList.drop (P2 + 1) = l3) (e6 : P2 + 1 + l3.length = s.size) (hq : q = 93) (hk : k = 1) (h9 : P2 ≤ P1 + 9) (hC : C = 0) (w : World) (h : RdW s R F P l w) : Calls Tryz.prog 106 #[.pointer (some ⟨R, 0, none⟩)] w fun e w' => e = .returned (.agg #[.int .i64 2, .int .i64 0]) ∧ (∃ P', RdW s R F P' l3 w') ∧ w.grownBy w' (some R) := by
 obtain ⟨W1, hW1⟩ : ∃ W1, W1 = w.alloc (.cells #[.int .i64 0, .int .i64 0] 115) := ⟨_, rfl⟩
 have hb1 : Below w.heap.size w W1 := by rw [hW1]; exact (Below.refl _ _).alloc (Nat.le_refl _) _
 have h1 := h.up hb1
 have hRw : R < w.heap.size := lt_of_cell9 h.a
 have hFw : F < w.heap.size := lt_of_cell9 h.f
 have hx1 : Bx W1 w.heap.size [.int .i64 0, .int .i64 0] := by rw [hW1]; exact Bx.new _ _ _
 have n1 : w.heap.size ≠ R := by omega
 have n2 : w.heap.size ≠ F := by omega
 have n3 : R ≠ w.heap.size := by omega
 have b2 : 0 < (P2 : Int) - P1 := by omega
 have b3 : (P1 : Int) < P2 := by omega
 subst hq hk hC
 have b6 : (P2 : Int) - P1 ≤ 9 := by omega
 clear hz h9
 go_enter Tryz.func106, Tryz.ntmps106
 go_upto_region 1 with fail
 rw [← hW1]
 clear hW1
 go_wp2_with (first
  | (go_at_call 76; refine (hT _ h1).mono ?_; rintro e w2 ⟨rfl, h2, g2⟩; have d0 := h2.a)
  | (go_at_call 127; refine (hN _ h2).mono ?_; rintro e w3 ⟨rfl, hb3⟩; have d1 := (h2.up hb3).n; have d2 := (h2.up hb3).a; have d3 := (h2.up hb3).f)
  | (go_at_call 61; refine (hX _ d3).mono ?_; rintro e w4 ⟨rfl, hb4⟩; have f0 := (h2.up (hb3.trans (hb4.mono hb3.size))).z; have f1 := (h2.up (hb3.trans (hb4.mono hb3.size))).a; obtain ⟨k0, k1⟩ := ((hx1.grown g2 n1).up (hb3.trans (hb4.mono hb3.size))).two; have k2 := ((hx1.grown g2 n1).up (hb3.trans (hb4.mono hb3.size))).z))
 refine bodyPost_ret (by simp [results, Tryz.results106, go_sem, cs_same9, k0, k1, n1, n2, n3]; rfl) rfl ?_
 exact ⟨rfl, ⟨(P2 + 1), (((h2.up (hb3.trans (hb4.mono hb3.size))).put e5 e6).grown n1 n2 _).grown n1 n2 _⟩, gr_own (gr_own (gr_put (((gr_below hb1 _).trans g2).trans ((gr_below hb3 _).trans (gr_below hb4 _))) _) (Nat.le_refl _) _) (Nat.le_refl _) _⟩
set_option maxRecDepth 1000000 in
set_option maxHeartbeats 1600000 in
theorem index_long {s : ByteArray} {R F P P1 P2 C q k : Nat} {l l1 l3 : Bs} (hT : TkC s R F P l 91 true P1 l1) (hP : P1 ≤ P2) (hm : P2 + 1 ≤ 1000000000001)
  (hN : ∀ w, RdW s R F P1 l1 w → Calls Tryz.prog 127 #[.pointer (some ⟨R, 0, none⟩), .int .i64 (P1 : Nat)] w fun e w' => e = .returned (.tuple #[.int .i64 (C : Nat), .int .i64 (P2 : Nat)]) ∧ Below w.heap.size w w')
  (hX : ∀ w, w.cell? ⟨F, 0, none⟩ = some (.string s) → Calls Tryz.prog 61 #[.int .i64 (P2 : Nat), .pointer (some ⟨F, 0, none⟩)] w fun e w' => e = .returned (.tuple #[.int .i32 (q : Nat), .int .i64 (k : Nat)]) ∧ Below w.heap.size w w')
  (hz : P1 < P2) (e5 : s.data.toList.drop (P2 + 1) = l3) (e6 : P2 + 1 + l3.length = s.size) (hq : q = 93) (hk : k = 1) (h9 : P1 + 9 < P2) (w : World) (h : RdW s R F P l w) : Calls Tryz.prog 106 #[.pointer (some ⟨R, 0, none⟩)] w fun e w' => e = .returned (.agg #[.int .i64 2, .int .i64 0]) ∧ (∃ P', RdW s R F P' l3 w') ∧ w.grownBy w' (some R) := by
 obtain ⟨W1, hW1⟩ : ∃ W1, W1 = w.alloc (.cells #[.int .i64 0, .int .i64 0] 115) := ⟨_, rfl⟩
 have hb1 : Below w.heap.size w W1 := by rw [hW1]; exact (Below.refl _ _).alloc (Nat.le_refl _) _
 have h1 := h.up hb1
 have hRw : R < w.heap.size := lt_of_cell9 h.a
 have hFw : F < w.heap.size := lt_of_cell9 h.f
 have hx1 : Bx W1 w.heap.size [.int .i64 0, .int .i64 0] := by rw [hW1]; exact Bx.new _ _ _
 have n1 : w.heap.size ≠ R := by omega
 have n2 : w.heap.size ≠ F := by omega
 have n3 : R ≠ w.heap.size := by omega
 have b2 : 0 < (P2 : Int) - P1 := by omega
 have b3 : (P1 : Int) < P2 := by omega
 subst hq hk
 have b6 : ¬ (P2 : Int) - P1 ≤ 9 := by omega
 clear hz h9
 go_enter Tryz.func106, Tryz.ntmps106
 go_upto_region 1 with fail
 rw [← hW1]
 clear hW1
 go_wp2_with (first
  | (go_at_call 76; refine (hT _ h1).mono ?_; rintro e w2 ⟨rfl, h2, g2⟩; have d0 := h2.a)
  | (go_at_call 127; refine (hN _ h2).mono ?_; rintro e w3 ⟨rfl, hb3⟩; have d1 := (h2.up hb3).n; have d2 := (h2.up hb3).a; have d3 := (h2.up hb3).f)
  | (go_at_call 61; refine (hX _ d3).mono ?_; rintro e w4 ⟨rfl, hb4⟩; have f0 := (h2.up (hb3.trans (hb4.mono hb3.size))).z; have f1 := (h2.up (hb3.trans (hb4.mono hb3.size))).a; obtain ⟨k0, k1⟩ := ((hx1.grown g2 n1).up (hb3.trans (hb4.mono hb3.size))).two; have k2 := ((hx1.grown g2 n1).up (hb3.trans (hb4.mono hb3.size))).z))
 refine bodyPost_ret (by simp [results, Tryz.results106, go_sem, cs_same9, k0, k1, n1, n2, n3]; rfl) rfl ?_
 exact ⟨rfl, ⟨(P2 + 1), (((h2.up (hb3.trans (hb4.mono hb3.size))).put e5 e6).grown n1 n2 _).grown n1 n2 _⟩, gr_own (gr_own (gr_put (((gr_below hb1 _).trans g2).trans ((gr_below hb3 _).trans (gr_below hb4 _))) _) (Nat.le_refl _) _) (Nat.le_refl _) _⟩
theorem index_any (s : ByteArray) (R F P : Nat) (l : Bs) : IxC s R F P l := fun w h => by
 by_cases hh : hd l = 91
 ·have hT := take_yes (s := s) (R := R) (F := F) (P := P) (l := l) (c := 91) (by omega) (by omega) hh
  have hm := h.m
  obtain ⟨x, e, -⟩ := hd_lt hh (by omega)
  have he1 : P + 1 + l.tail.length = s.size := by have := h.e; rw [e] at this; simp at this ⊢; omega
  have hd1 : s.data.toList.drop (P + 1) = l.tail := (drop_more h.d).trans (by simp)
  obtain ⟨ea, eb⟩ := aft_at hd1 he1
  have hN : ∀ w, RdW s R F (P + 1) l.tail w → Calls Tryz.prog 127 #[.pointer (some ⟨R, 0, none⟩), .int .i64 (P + 1 : Nat)] w fun e w' => e = .returned (.tuple #[.int .i64 (capD (dgs l.tail) : Nat), .int .i64 (P + 1 + (dgs l.tail).length : Nat)]) ∧ Below w.heap.size w w' :=
   fun w hw => pnumber_any s R F (P + 1) l.tail w hw (P + 1) l.tail hd1 he1
  obtain ⟨q, k, hx⟩ : ∃ q k, nxt (aft l.tail) = (q, k) := ⟨_, _, rfl⟩
  have hX : ∀ w, w.cell? ⟨F, 0, none⟩ = some (.string s) → Calls Tryz.prog 61 #[.int .i64 (P + 1 + (dgs l.tail).length : Nat), .pointer (some ⟨F, 0, none⟩)] w fun e w' => e = .returned (.tuple #[.int .i32 (q : Nat), .int .i64 (k : Nat)]) ∧ Below w.heap.size w w' :=
   fun w hw => next_walk ea eb hx w hw
  by_cases hz : dgs l.tail = []
  ·have hi : idx l = (ix2, l.tail) := by unfold idx; rw [if_pos hh, if_neg (by simp [hz])]
   rw [hi]
   exact index_none hT (by omega) (by omega) hN hX (by rw [hz]; rfl) w h
  ·have hz' : 0 < (dgs l.tail).length := List.length_pos_iff.2 hz
   by_cases hq : hd (aft l.tail) = 93
   ·have hi : idx l = (ixG (dgs l.tail), (aft l.tail).tail) := by unfold idx; rw [if_pos hh, if_pos ⟨hz, hq⟩]
    have q1 : q = 93 := by have := (nxt_is (l := aft l.tail) (c := 93) (by omega) (by omega)).2 hq; rw [hx] at this; exact this
    have k1 : k = 1 := by have := nxt_one hq (by omega); rw [hx] at this; exact this
    obtain ⟨y, ey, -⟩ := hd_lt hq (by omega)
    have e6 : P + 1 + (dgs l.tail).length + 1 + (aft l.tail).tail.length = s.size := by have := eb; rw [ey] at this; simp at this ⊢; omega
    have e5 : s.data.toList.drop (P + 1 + (dgs l.tail).length + 1) = (aft l.tail).tail := (drop_more ea).trans (by simp)
    rw [hi]
    unfold ixG
    by_cases h9 : (dgs l.tail).length ≤ 9
    ·have hc := cap_few (dgs_all l.tail) h9
     rw [hc] at hN
     by_cases hC : 0 < valD (dgs l.tail)
     ·rw [if_pos ⟨h9, hC⟩]
      exact index_good hT (by omega) (by omega) hN hX (by omega) e5 e6 q1 k1 (by omega) hC w h
     ·rw [if_neg (fun x => hC x.2)]
      exact index_nought hT (by omega) (by omega) hN hX (by omega) e5 e6 q1 k1 (by omega) (by omega) w h
    ·rw [if_neg (fun x => h9 x.1)]
     exact index_long hT (by omega) (by omega) hN hX (by omega) e5 e6 q1 k1 (by omega) w h
   ·have hi : idx l = (ix2, l.tail) := by unfold idx; rw [if_pos hh, if_neg (fun x => hq x.2)]
    rw [hi]
    refine index_open hT (by omega) (by omega) hN hX (by omega) (fun e => hq ?_) w h
    exact (nxt_is (l := aft l.tail) (c := 93) (by omega) (by omega)).1 (by rw [hx]; exact e)
 ·exact index_no hh w h
end Go.Proofs.YtdlnmnipnkeabaaGreatDoor
