/- Package parse: given, index, spoilt, single, flags. -/
import Derived.Test.YtpknjcdodnoibaaPWalkA
import Derived.Handy
namespace Go.Proofs.Ytpknjcdodnoibaa
open Go.RowKit
set_option linter.unusedVariables false
set_option linter.unusedSimpArgs false

/-- An index, a number as values. -/
def ixV (x : Ix) : Value := .agg #[.int .i64 (x.k : Nat), .int .i64 (x.n : Nat)]
def nbV (x : Nb) : Value := .agg #[.int .i64 (x.k : Nat), .int .i64 x.n, .int .i64 (x.a.k : Nat), .int .i64 (x.a.n : Nat)]
theorem cs_same9 (W : World) (a : Addr) (v : Value) (h : (W.cell? a).isSome = true) : (W.setCell a v).cell? a = some v := by
  obtain ⟨u, hu⟩ := Option.isSome_iff_exists.1 h
  exact World.cell?_setCell_same _ _ _ hu
/-- A box of cells that may be written. -/
structure Bx (w : World) (B : Nat) (vs : List Value) : Prop where
  c : ∀ i v, vs[i]? = some v → w.cell? ⟨B, i, none⟩ = some v
  z : ∀ i, w.frozen? ⟨B, i, none⟩ = false
  b : B < w.heap.size
theorem Bx.up {w w' : World} {B : Nat} {vs : List Value} (h : Bx w B vs) (hb : Below w.heap.size w w') : Bx w' B vs :=
  ⟨fun i v hv => (hb.cell (p := ⟨B, i, none⟩) h.b).trans (h.c i v hv), fun i => (hb.frozen (p := ⟨B, i, none⟩) h.b).trans (h.z i), Nat.lt_of_lt_of_le h.b hb.size⟩
theorem Bx.grown {w w' : World} {B : Nat} {vs : List Value} {R : Nat} (h : Bx w B vs) (hg : w.grownBy w' (some R)) (hne : B ≠ R) : Bx w' B vs := by
  have hB := hg.block B h.b (by simpa using hne)
  exact ⟨fun i v hv => (World.cell?_of_block (w := w) (a := ⟨B, i, none⟩) hB).trans (h.c i v hv), fun i => (World.frozen?_of_block (w := w) (a := ⟨B, i, none⟩) hB).trans (h.z i), Nat.lt_of_lt_of_le h.b hg.size⟩
theorem Bx.new (w : World) (vs : List Value) (t : TypeId) : Bx (w.alloc (.cells vs.toArray t)) w.heap.size vs :=
  ⟨fun i v hv => by simp [hv], fun i => by simp, by simp⟩
theorem Bx.set {w : World} {B : Nat} {vs : List Value} (h : Bx w B vs) (i : Nat) (hi : i < vs.length) (v : Value) : Bx (w.setCell ⟨B, i, none⟩ v) B (vs.set i v) := by
  refine ⟨fun j u hu => ?_, fun j => (World.frozen?_setCell _ _ _ _).trans (h.z j), by simpa [World.setCell] using h.b⟩
  by_cases e : i = j
  · subst e
    rw [List.getElem?_set_self hi] at hu
    obtain rfl := Option.some.inj hu
    exact World.cell?_setCell_same _ _ _ (h.c i _ (List.getElem?_eq_getElem hi))
  · rw [List.getElem?_set_ne e] at hu
    rw [World.cell?_setCell_other _ _ _ _ (fun k => e (congrArg Addr.off k))]
    exact h.c j u hu
theorem Bx.other {w : World} {B B' o : Nat} {vs : List Value} (h : Bx w B vs) (hne : B' ≠ B) (v : Value) : Bx (w.setCell ⟨B', o, none⟩ v) B vs := by
  have hB : (w.setCell ⟨B', o, none⟩ v).heap[B]? = w.heap[B]? := Below.heap_setCell _ _ _ _ hne.symm
  exact ⟨fun i u hu => (World.cell?_of_block (w := w) (a := ⟨B, i, none⟩) hB).trans (h.c i u hu), fun i => (World.frozen?_of_block (w := w) (a := ⟨B, i, none⟩) hB).trans (h.z i), by simpa [World.setCell] using h.b⟩
theorem Bx.two {w : World} {B : Nat} {a b : Value} (h : Bx w B [a, b]) : w.cell? ⟨B, 0, none⟩ = some a ∧ w.cell? ⟨B, 1, none⟩ = some b := ⟨h.c 0 _ rfl, h.c 1 _ rfl⟩
theorem Bx.four {w : World} {B : Nat} {a b c d : Value} (h : Bx w B [a, b, c, d]) : w.cell? ⟨B, 0, none⟩ = some a ∧ w.cell? ⟨B, 1, none⟩ = some b ∧ w.cell? ⟨B, 2, none⟩ = some c ∧ w.cell? ⟨B, 3, none⟩ = some d := ⟨h.c 0 _ rfl, h.c 1 _ rfl, h.c 2 _ rfl, h.c 3 _ rfl⟩
theorem RdW.grown {s : ByteArray} {R F P : Nat} {l : Bs} {w : World} (h : RdW s R F P l w) {B o : Nat} (hR : B ≠ R) (hF : B ≠ F) (v : Value) : RdW s R F P l (w.setCell ⟨B, o, none⟩ v) := by
  have a : (w.setCell ⟨B, o, none⟩ v).heap[R]? = w.heap[R]? := Below.heap_setCell _ _ _ _ hR.symm
  have b : (w.setCell ⟨B, o, none⟩ v).heap[F]? = w.heap[F]? := Below.heap_setCell _ _ _ _ hF.symm
  exact ⟨(World.cell?_of_block (w := w) (a := ⟨R, 0, none⟩) a).trans h.a, (World.cell?_of_block (w := w) (a := ⟨R, 1, none⟩) a).trans h.n, (World.cell?_of_block (w := w) (a := ⟨F, 0, none⟩) b).trans h.f, (World.frozen?_of_block (w := w) (a := ⟨R, 0, none⟩) a).trans h.z, h.d, h.e, h.ne, h.m⟩
theorem gr_own {w w' : World} {R B o : Nat} (h : w.grownBy w' (some R)) (hB : w.heap.size ≤ B) (v : Value) : w.grownBy (w'.setCell ⟨B, o, none⟩ v) (some R) :=
  ⟨h.os, h.tape, h.output, by simpa [World.setCell] using h.size, fun k hk hne => by rw [Below.heap_setCell _ _ _ _ (by dsimp only; omega)]; exact h.block k hk hne⟩
theorem gr_alloc {w w' : World} {row : Option Nat} (h : w.grownBy w' row) (o : Obj) : w.grownBy (w'.alloc o) row := h.trans (World.grownBy_alloc _ _ _)
theorem drop_app {a b l : Bs} (h : a ++ b = l) : l.drop a.length = b := by subst h; simp
theorem aft_at {s : ByteArray} {P : Nat} {l : Bs} (hd : s.data.toList.drop P = l) (he : P + l.length = s.size) : s.data.toList.drop (P + (dgs l).length) = aft l ∧ (P + (dgs l).length) + (aft l).length = s.size := by
  have e := dgs_aft l
  constructor
  · rw [drop_more hd]
    exact drop_app e
  · have := congrArg List.length e
    rw [List.length_append] at this
    omega
abbrev SpC9 (x : Ix) : Prop := ∀ w, Calls Try.prog 25 #[ixV x] w fun e w' => e = .returned (ixV (spl x)) ∧ Below w.heap.size w w'
set_option maxRecDepth 1000000 in
set_option maxHeartbeats 1600000 in
theorem spoilt_any (x : Ix) : SpC9 x := fun w => by
  obtain ⟨k, n⟩ := x
  unfold ixV
  by_cases h : k = 0
  · subst h
    rw [show spl ⟨0, n⟩ = ⟨0, n⟩ from rfl]
    dsimp only
    go_enter Try.func25, Try.ntmps25
    go_wp2
    go_returns
    refine ⟨rfl, ?_⟩
    go_grown
  · have hI : ¬ (k : Int) = 0 := by omega
    rw [show spl ⟨k, n⟩ = ix2 from if_neg h]
    unfold ix2
    dsimp only
    go_enter Try.func25, Try.ntmps25
    go_wp2
    go_returns
    refine ⟨rfl, ?_⟩
    go_grown

abbrev GvC (s : ByteArray) (R F P : Nat) (l : Bs) : Prop := ∀ w, RdW s R F P l w → Calls Try.prog 31 #[.pointer (some ⟨R, 0, none⟩)] w fun e w' => e = .returned (nbV ⟨1, wN (dgs l), ix0⟩) ∧ RdW s R F (P + (dgs l).length) (aft l) w' ∧ w.grownBy w' (some R)
set_option maxRecDepth 1000000 in
set_option maxHeartbeats 1600000 in
theorem given_any (s : ByteArray) (R F P : Nat) (l : Bs) : GvC s R F P l := fun w h => by
  obtain ⟨W1, hW1⟩ : ∃ W1, W1 = w.alloc (.cells #[.int .i64 0, .int .i64 0, .int .i64 0, .int .i64 0] 38) := ⟨_, rfl⟩
  have hb1 : Below w.heap.size w W1 := by rw [hW1]; exact (Below.refl _ _).alloc (Nat.le_refl _) _
  have h1 := h.up hb1
  have hC := number_any s R F P l W1 h1 P l h.d h.e
  have hcap : Hid ((if 1000 < capD (dgs l) then (-1 : Int) else (capD (dgs l) : Int)) = wN (dgs l)) := cap_wide (dgs l)
  obtain ⟨ea, eb⟩ := aft_at h.d h.e
  generalize capD (dgs l) = C at *
  generalize hP2 : P + (dgs l).length = P2 at *
  clear hP2
  have hRw : R < w.heap.size := lt_of_cell9 h.a
  have hFw : F < w.heap.size := lt_of_cell9 h.f
  have hx1 : Bx W1 w.heap.size [.int .i64 0, .int .i64 0, .int .i64 0, .int .i64 0] := by rw [hW1]; exact Bx.new _ _ _
  have a0 := h1.a
  have z0 := h1.z
  have fin : ∀ w2 (a : Int), Below W1.heap.size W1 w2 → RdW s R F P2 (aft l) (((((w2.setCell ⟨R, 0, none⟩ (.int .i64 (P2 : Nat))).setCell ⟨w.heap.size, 0, none⟩ (.int .i64 1)).setCell ⟨w.heap.size, 1, none⟩ (.int .i64 a)).setCell ⟨w.heap.size, 2, none⟩ (.int .i64 0)).setCell ⟨w.heap.size, 3, none⟩ (.int .i64 0)) ∧ w.grownBy (((((w2.setCell ⟨R, 0, none⟩ (.int .i64 (P2 : Nat))).setCell ⟨w.heap.size, 0, none⟩ (.int .i64 1)).setCell ⟨w.heap.size, 1, none⟩ (.int .i64 a)).setCell ⟨w.heap.size, 2, none⟩ (.int .i64 0)).setCell ⟨w.heap.size, 3, none⟩ (.int .i64 0)) (some R) := fun w2 a hb2 => by
    have n1 : w.heap.size ≠ R := by omega
    have n2 : w.heap.size ≠ F := by omega
    exact ⟨((((((h1.up hb2).put ea eb).grown n1 n2 _).grown n1 n2 _).grown n1 n2 _).grown n1 n2 _), gr_own (gr_own (gr_own (gr_own (gr_put ((gr_below hb1 _).trans (gr_below hb2 _)) _) (Nat.le_refl _) _) (Nat.le_refl _) _) (Nat.le_refl _) _) (Nat.le_refl _) _⟩
  have q0 : ∀ w2, Below W1.heap.size W1 w2 → (w2.frozen? ⟨R, 0, none⟩ = false ∧ (w2.cell? ⟨R, 0, none⟩ = some (.int .i64 (P : Nat)))) := fun w2 hb2 => ⟨(h1.up hb2).z, (h1.up hb2).a⟩
  have hBR : ¬ w.heap.size = R := by omega
  have hRB : ¬ R = w.heap.size := by omega
  unfold nbV ix0
  dsimp only
  by_cases hc : 1000 < C
  · have hcI : 1000 < (C : Int) := by omega
    rw [if_pos hc] at hcap
    go_enter Try.func31, Try.ntmps31
    go_upto_region 1 with fail
    rw [← hW1]
    clear hW1
    go_wp2_with (go_at_call 32; refine hC.mono ?_; rintro e w2 ⟨rfl, hb2⟩; obtain ⟨k0, k1⟩ := q0 w2 hb2; obtain ⟨k2, k3, k4, k5⟩ := (hx1.up hb2).four; have k6 := (hx1.up hb2).z)
    refine bodyPost_ret (by simp [results, Try.results31, go_sem, cs_same9, k0, k1, k2, k3, k4, k5, hBR, hRB]; rfl) rfl ?_
    rw [← hcap.out]
    exact ⟨rfl, fin _ _ hb2⟩
  · have hcI : ¬ 1000 < (C : Int) := by omega
    rw [if_neg hc] at hcap
    go_enter Try.func31, Try.ntmps31
    go_upto_region 1 with fail
    rw [← hW1]
    clear hW1
    go_wp2_with (go_at_call 32; refine hC.mono ?_; rintro e w2 ⟨rfl, hb2⟩; obtain ⟨k0, k1⟩ := q0 w2 hb2; obtain ⟨k2, k3, k4, k5⟩ := (hx1.up hb2).four; have k6 := (hx1.up hb2).z)
    refine bodyPost_ret (by simp [results, Try.results31, go_sem, cs_same9, k0, k1, k2, k3, k4, k5, hBR, hRB]; rfl) rfl ?_
    rw [← hcap.out]
    exact ⟨rfl, fin _ _ hb2⟩
end Go.Proofs.Ytpknjcdodnoibaa
