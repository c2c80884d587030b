/- CLive, CBox, NCplx: these texts in one. -/
import Derived.Test.YthbabhbfpcfenaaGreatDoorPkC1
/- The document's examples that every law of layer 7 asks. -/
namespace Go.Proofs.YthbabhbfpcfenaaGreatDoor
open Go.RowKit
set_option linter.unusedVariables false
set_option linter.unusedSimpArgs false

/-- 1.5, 1 and 2 as so many units. -/
theorem halves : ∃ K : Nat, K = 9999 ∧ val 52 (-1074) 4609434218613702656 = 15 * 10 ^ K ∧ val 52 (-1074) 4607182418800017408 = 10 * 10 ^ K ∧ val 52 (-1074) 4611686018427387904 = 20 * 10 ^ K := by
  obtain ⟨K, hK⟩ : ∃ K : Nat, K = 9999 := ⟨_, rfl⟩
  refine ⟨K, hK, ?_, ?_, ?_⟩
  · have h := (val_ex lyB (p := 4609434218613702656) (by decide)).1
    have hm : pm 52 4609434218613702656 = 6755399441055744 := by decide
    have hk : ((-1074 : Int) + pk 52 4609434218613702656) = -52 := by decide
    rw [hm, hk, exU_dn _ (by decide)] at h
    have e1 : ((-52 : Int) + 10000).toNat + 51 = K := by rw [hK]; rfl
    have e2 : (6755399441055744 : Nat) * 5 ^ (-(-52 : Int)).toNat = 15 * 10 ^ 51 := by decide
    rw [e2, Nat.mul_assoc, ← Nat.pow_add, Nat.add_comm, e1] at h
    exact h.symm
  · have h := (val_ex lyB (p := 4607182418800017408) (by decide)).1
    have hm : pm 52 4607182418800017408 = 4503599627370496 := by decide
    have hk : ((-1074 : Int) + pk 52 4607182418800017408) = -52 := by decide
    rw [hm, hk, exU_dn _ (by decide)] at h
    have e1 : ((-52 : Int) + 10000).toNat + 51 = K := by rw [hK]; rfl
    have e2 : (4503599627370496 : Nat) * 5 ^ (-(-52 : Int)).toNat = 10 * 10 ^ 51 := by decide
    rw [e2, Nat.mul_assoc, ← Nat.pow_add, Nat.add_comm, e1] at h
    exact h.symm
  · have h := (val_ex lyB (p := 4611686018427387904) (by decide)).1
    have hm : pm 52 4611686018427387904 = 4503599627370496 := by decide
    have hk : ((-1074 : Int) + pk 52 4611686018427387904) = -51 := by decide
    rw [hm, hk, exU_dn _ (by decide)] at h
    have e1 : ((-51 : Int) + 10000).toNat + 50 = K := by rw [hK]; rfl
    have e2 : (4503599627370496 : Nat) * 5 ^ (-(-51 : Int)).toNat = 20 * 10 ^ 50 := by decide
    rw [e2, Nat.mul_assoc, ← Nat.pow_add, Nat.add_comm, e1] at h
    exact h.symm
theorem sh_15 : ∃ v : Nat, val 52 (-1074) 4609434218613702656 = v ∧ oS v = ⟨#[49, 53]⟩ ∧ oP v = 1 ∧ v ≠ 0 ∧ SH (fun x => RD 52 9218868437227405312 (un (-1074)) x 4609434218613702656) v v := by
  obtain ⟨K, hK, h15, h10, h20⟩ := halves
  have hd : IsDec [49, 53] 1 (15 * 10 ^ K) := ⟨by decide, by decide, by decide, (fun h => by cases h), by decide, by
    have : ((1 : Int) - ([49, 53] : List UInt8).length + 10000).toNat = K := by rw [hK]; rfl
    rw [this]; rfl⟩
  obtain ⟨o1, o2⟩ := o_of hd
  have oS15 : oS (15 * 10 ^ K) = ⟨#[49, 53]⟩ := by unfold oS; rw [← o1]
  have hl : (oL (15 * 10 ^ K)).length = 2 := by rw [← o1]; rfl
  have hpos := pow_pos10 K
  refine ⟨15 * 10 ^ K, h15, oS15, o2.symm, by omega, .inr ⟨fun j h1 h2 => ?_, rfl⟩⟩
  obtain rfl : j = 1 := by omega
  have hQ : Qn (15 * 10 ^ K) 1 = K + 1 := by unfold Qn; rw [← o2, hK]; rfl
  have hB : Bn (15 * 10 ^ K) 1 = 10 * 10 ^ K := by
    unfold Bn
    rw [hQ, Nat.pow_succ]
    have : 15 * 10 ^ K / (10 ^ K * 10) = 1 := by
      rw [Nat.mul_comm 15, Nat.mul_div_mul_left _ _ hpos]
    rw [this]; omega
  have hA : An (15 * 10 ^ K) 1 = 20 * 10 ^ K := by
    unfold An
    rw [hB, hQ, Nat.pow_succ]; omega
  have hu := un_pos (-1074)
  refine ⟨fun h => ?_, fun h => ?_⟩
  · rw [hB, ← h10] at h
    have k := RD_self (f := 52) (I := 9218868437227405312) (u := un (-1074)) (p := 4607182418800017408) hu (by decide)
    exact absurd (RD.uniq hu h k) (by decide)
  · rw [hA, ← h20] at h
    have k := RD_self (f := 52) (I := 9218868437227405312) (u := un (-1074)) (p := 4611686018427387904) hu (by decide)
    exact absurd (RD.uniq hu h k) (by decide)
theorem two_is : ∃ v : Nat, val 52 (-1074) 4611686018427387904 = v ∧ oS v = ⟨#[50]⟩ ∧ oP v = 1 ∧ v ≠ 0 := by
  obtain ⟨K, hK, h15, h10, h20⟩ := halves
  have hd : IsDec [50] 1 (20 * 10 ^ K) := ⟨by decide, by decide, by decide, (fun h => by cases h), by decide, by
    have : ((1 : Int) - ([50] : List UInt8).length + 10000).toNat = K + 1 := by rw [hK]; rfl
    rw [this, Nat.pow_succ]
    have : num [50] = 2 := rfl
    rw [this]; omega⟩
  obtain ⟨o1, o2⟩ := o_of hd
  have hpos := pow_pos10 K
  exact ⟨20 * 10 ^ K, h20, by unfold oS; rw [← o1], o2.symm, by omega⟩
theorem live7_a : FlC 4609434218613702656 64 false false false false false (-1) (-1) 118 ⟨#[49, 46, 53]⟩ true := by
  obtain ⟨d, hd, gd, hF⟩ := fin_of (bits := 4609434218613702656) lyB (by decide) (by decide)
  have hb : bare 52 11 4609434218613702656 = 4609434218613702656 := by decide
  have hs : sgn 52 11 4609434218613702656 = false := by decide
  rw [hb] at hd
  rw [hb, hs] at hF
  obtain ⟨v, hv, h1, h2, h3, hsh⟩ := sh_15
  rw [hv] at hd hF
  have hdv := hd.uniq hsh
  subst hdv
  have := float_fin hF false false false false false (-1) (-1) 118 (by decide)
  rw [finT_118, filT_bare _ (asc_gen _ _ _ _)] at this
  have e : genT false (min (-1) 1000) d d = ⟨#[49, 46, 53]⟩ := by
    have hp : pw0 d = 0 := by unfold pw0; rw [if_neg h3, h2]; rfl
    unfold genT
    rw [if_pos (by decide)]
    unfold genG genD
    rw [hp, h1]
    decide
  rw [e] at this
  exact this
theorem live7_b : FlC 13835058055282163712 64 true false false false false (-1) (-1) 118 ⟨#[45, 50]⟩ true := by
  obtain ⟨d, hd, gd, hF⟩ := fin_of (bits := 13835058055282163712) lyB (by decide) (by decide)
  have hb : bare 52 11 13835058055282163712 = 4611686018427387904 := by decide
  have hs : sgn 52 11 13835058055282163712 = true := by decide
  rw [hb] at hd
  rw [hb, hs] at hF
  obtain ⟨v, hv, h1, h2, h3⟩ := two_is
  rw [hv] at hd hF
  have hl : (oL v).length = 1 := by rw [← oS_size, h1]; rfl
  have hdv : d = v := hd.all fun j a b => by omega
  subst hdv
  have := float_fin hF true false false false false (-1) (-1) 118 (by decide)
  rw [finT_118, filT_off _ _ _ _ (sgF_size _ _ _)] at this
  have e : genT false (min (-1) 1000) d d = ⟨#[50]⟩ := by
    have hp : pw0 d = 0 := by unfold pw0; rw [if_neg h3, h2]; rfl
    unfold genT
    rw [if_pos (by decide)]
    unfold genG genD
    rw [hp, h1]
    decide
  rw [e] at this
  exact this
theorem live7_c : CxC 4609434218613702656 13835058055282163712 128 false false false false false (-1) (-1) 118 ⟨#[40, 49, 46, 53, 45, 50, 105, 41]⟩ true := cx_yes false false false false false (-1) (-1) 118 szp128 live7_a live7_b (by decide) (by decide)
theorem live7_d : SpC ⟨#[40, 49, 101, 43, 48, 54, 45, 50, 105, 41]⟩ ⟨#[49, 101, 43, 48, 54]⟩ ⟨#[45, 50]⟩ true := by
  have h := (split_in (s := ⟨#[40, 49, 101, 43, 48, 54, 45, 50, 105, 41]⟩) (M := ⟨#[49, 101, 43, 48, 54, 45, 50]⟩) (by decide) rfl).2
  have e : lastS (⟨#[49, 101, 43, 48, 54, 45, 50]⟩ : ByteArray).data.toList (⟨#[49, 101, 43, 48, 54, 45, 50]⟩ : ByteArray).size = 5 := by decide
  rw [e] at h
  exact h (by decide)
theorem live7_e : SpC ⟨#[40, 49, 105, 41]⟩ ⟨#[]⟩ ⟨#[]⟩ false :=
  (split_in (s := ⟨#[40, 49, 105, 41]⟩) (M := ⟨#[49]⟩) (by decide) rfl).1 (by decide)
abbrev Li7 : Prop := ∀ w, Calls Tryz.prog 11 #[] w fun e w' => e = .returned (.bool true) ∧ Below w.heap.size w w'
set_option maxRecDepth 1000000 in
set_option maxHeartbeats 1000000 in
theorem lives7_any : Li7 := fun w => by
  have hC := live7_c
  have hD := live7_d
  have hE := live7_e
  generalize hR : (4609434218613702656 : Nat) = R at *
  generalize hI : (13835058055282163712 : Nat) = J at *
  go_enter Tryz.func11, Tryz.ntmps11
  go_wp2_with (first
    | (go_at_call 9; subst hR hI; refine (hC _).mono ?_; rintro x w1 ⟨rfl, hb1⟩)
    | (go_at_call_of 12 (⟨#[40, 49, 101, 43, 48, 54, 45, 50, 105, 41]⟩ : ByteArray); refine (hD _).mono ?_; rintro x w2 ⟨rfl, hb2⟩)
    | (go_at_call_of 12 (⟨#[40, 49, 105, 41]⟩ : ByteArray); refine (hE _).mono ?_; rintro x w3 ⟨rfl, hb3⟩))
  go_ret
  refine ⟨rfl, ?_⟩
  exact bel_call (bel_call hb1 hb2 (Nat.le_refl _)) hb3 (Nat.le_refl _)
end Go.Proofs.YthbabhbfpcfenaaGreatDoor

/- What the laws of layer 7 share: the boxes of a pair of bits and of a spec. -/
namespace Go.Proofs.YthbabhbfpcfenaaGreatDoor
open Go.RowKit
set_option linter.unusedVariables false
set_option linter.unusedSimpArgs false

/-- In the world W lie a pair's box, and a spec's behind it; all that was in w0 is as it was. -/
structure Bx7 (w0 W : World) (re im : Nat) (p mi sh sp z : Bool) (wid prec verb : Int) : Prop where
  q0 : W.cell? ⟨w0.heap.size, 0, none⟩ = some (.int .u64 re)
  q1 : W.cell? ⟨w0.heap.size, 1, none⟩ = some (.int .u64 im)
  c0 : W.cell? ⟨w0.heap.size + 1, 0, none⟩ = some (.bool p)
  c1 : W.cell? ⟨w0.heap.size + 1, 1, none⟩ = some (.bool mi)
  c2 : W.cell? ⟨w0.heap.size + 1, 2, none⟩ = some (.bool sh)
  c3 : W.cell? ⟨w0.heap.size + 1, 3, none⟩ = some (.bool sp)
  c4 : W.cell? ⟨w0.heap.size + 1, 4, none⟩ = some (.bool z)
  c5 : W.cell? ⟨w0.heap.size + 1, 5, none⟩ = some (.int .i64 wid)
  c6 : W.cell? ⟨w0.heap.size + 1, 6, none⟩ = some (.int .i64 prec)
  c7 : W.cell? ⟨w0.heap.size + 1, 7, none⟩ = some (.int .i32 verb)
  fr : ∀ i, W.frozen? ⟨w0.heap.size + 1, i, none⟩ = false
  lt : w0.heap.size + 1 < W.heap.size
  bl : Below w0.heap.size w0 W
theorem Bx7.cells {w0 W : World} {re im : Nat} {p mi sh sp z : Bool} {wid prec verb : Int} (h : Bx7 w0 W re im p mi sh sp z wid prec verb) : W.cell? ⟨w0.heap.size, 0, none⟩ = some (.int .u64 re) ∧ W.cell? ⟨w0.heap.size, 1, none⟩ = some (.int .u64 im) ∧ W.cell? ⟨w0.heap.size + 1, 0, none⟩ = some (.bool p) ∧ W.cell? ⟨w0.heap.size + 1, 1, none⟩ = some (.bool mi) ∧ W.cell? ⟨w0.heap.size + 1, 2, none⟩ = some (.bool sh) ∧ W.cell? ⟨w0.heap.size + 1, 3, none⟩ = some (.bool sp) ∧ W.cell? ⟨w0.heap.size + 1, 4, none⟩ = some (.bool z) ∧ W.cell? ⟨w0.heap.size + 1, 5, none⟩ = some (.int .i64 wid) ∧ W.cell? ⟨w0.heap.size + 1, 6, none⟩ = some (.int .i64 prec) ∧ W.cell? ⟨w0.heap.size + 1, 7, none⟩ = some (.int .i32 verb) ∧ (∀ i, W.frozen? ⟨w0.heap.size + 1, i, none⟩ = false) := ⟨h.q0, h.q1, h.c0, h.c1, h.c2, h.c3, h.c4, h.c5, h.c6, h.c7, h.fr⟩
abbrev PB (w : World) (re im : Nat) (p mi sh sp z : Bool) (wid prec verb : Int) : World := (w.alloc (.cells #[.int .u64 re, .int .u64 im] 24)).alloc (.cells #[.bool p, .bool mi, .bool sh, .bool sp, .bool z, .int .i64 wid, .int .i64 prec, .int .i32 verb] 26)
theorem Bx7.new (w : World) (re im : Nat) (p mi sh sp z : Bool) (wid prec verb : Int) : Bx7 w (PB w re im p mi sh sp z wid prec verb) re im p mi sh sp z wid prec verb where
  q0 := by simp
  q1 := by simp
  c0 := by simp
  c1 := by simp
  c2 := by simp
  c3 := by simp
  c4 := by simp
  c5 := by simp
  c6 := by simp
  c7 := by simp
  fr := fun i => by simp
  lt := by simp
  bl := ((Below.refl _ _).alloc (Nat.le_refl _) _).alloc (by simp) _
theorem Bx7.call {w0 W W2 : World} {re im : Nat} {p mi sh sp z : Bool} {wid prec verb : Int} (h : Bx7 w0 W re im p mi sh sp z wid prec verb) (b : Below W.heap.size W W2) : Bx7 w0 W2 re im p mi sh sp z wid prec verb where
  q0 := (b.cell (p := ⟨w0.heap.size, 0, none⟩) (Nat.lt_trans (Nat.lt_succ_self _) h.lt)).trans h.q0
  q1 := (b.cell (p := ⟨w0.heap.size, 1, none⟩) (Nat.lt_trans (Nat.lt_succ_self _) h.lt)).trans h.q1
  c0 := (b.cell (p := ⟨w0.heap.size + 1, 0, none⟩) h.lt).trans h.c0
  c1 := (b.cell (p := ⟨w0.heap.size + 1, 1, none⟩) h.lt).trans h.c1
  c2 := (b.cell (p := ⟨w0.heap.size + 1, 2, none⟩) h.lt).trans h.c2
  c3 := (b.cell (p := ⟨w0.heap.size + 1, 3, none⟩) h.lt).trans h.c3
  c4 := (b.cell (p := ⟨w0.heap.size + 1, 4, none⟩) h.lt).trans h.c4
  c5 := (b.cell (p := ⟨w0.heap.size + 1, 5, none⟩) h.lt).trans h.c5
  c6 := (b.cell (p := ⟨w0.heap.size + 1, 6, none⟩) h.lt).trans h.c6
  c7 := (b.cell (p := ⟨w0.heap.size + 1, 7, none⟩) h.lt).trans h.c7
  fr := fun i => (b.frozen (p := ⟨w0.heap.size + 1, i, none⟩) h.lt).trans (h.fr i)
  lt := Nat.lt_of_lt_of_le h.lt b.size
  bl := h.bl.trans (b.mono h.bl.size)
theorem Bx7.set0 {w0 W : World} {re im : Nat} {p mi sh sp z : Bool} {wid prec verb : Int} (h : Bx7 w0 W re im p mi sh sp z wid prec verb) (y : Bool) : Bx7 w0 (W.setCell ⟨w0.heap.size + 1, 0, none⟩ (.bool y)) re im y mi sh sp z wid prec verb where
  q0 := set_past (Nat.succ_ne_self _) h.q0
  q1 := set_past (Nat.succ_ne_self _) h.q1
  c0 := World.cell?_setCell_same _ _ _ h.c0
  c1 := set_other (by decide) h.c1
  c2 := set_other (by decide) h.c2
  c3 := set_other (by decide) h.c3
  c4 := set_other (by decide) h.c4
  c5 := set_other (by decide) h.c5
  c6 := set_other (by decide) h.c6
  c7 := set_other (by decide) h.c7
  fr := fun i => by rw [World.frozen?_setCell]; exact h.fr i
  lt := by rw [show (W.setCell ⟨w0.heap.size + 1, 0, none⟩ (.bool y)).heap.size = W.heap.size by simp [World.setCell]]; exact h.lt
  bl := h.bl.setCell (Nat.le_succ _) _
end Go.Proofs.YthbabhbfpcfenaaGreatDoor

/- The document's Complex. -/
namespace Go.Proofs.YthbabhbfpcfenaaGreatDoor
open Go.RowKit
set_option linter.unusedVariables false
set_option linter.unusedSimpArgs false

abbrev MfC7 (bits : Nat) (size : Int) (p mi sh sp z : Bool) (wid prec verb : Int) (s : ByteArray) (b : Bool) : Prop := ∀ w, Calls Tryz.prog 17 #[.int .u64 bits, .int .i64 size, .agg #[.bool p, .bool mi, .bool sh, .bool sp, .bool z, .int .i64 wid, .int .i64 prec, .int .i32 verb]] w fun e w' => e = .returned (.tuple #[.string s, .bool b]) ∧ Below w.heap.size w w'
abbrev NcC (re im : Nat) (size : Int) (p mi sh sp z : Bool) (wid prec verb : Int) (s : ByteArray) (ok : Bool) : Prop := ∀ w, Calls Tryz.prog 10 #[.int .u64 re, .int .u64 im, .int .i64 size, .agg #[.bool p, .bool mi, .bool sh, .bool sp, .bool z, .int .i64 wid, .int .i64 prec, .int .i32 verb]] w fun e w' => e = .returned (.tuple #[.string s, .bool ok]) ∧ Below w.heap.size w w'
/-- The size of a part, as the document has it. -/
def HalfD (size half : Int) : Prop := size = 64 ∧ half = 32 ∨ size = 128 ∧ half = 64 ∨ (¬ size = 64 ∧ ¬ size = 128) ∧ half = 0
/-- At block B of the world W lies a spec's box; all that was in w0 is as it was. -/
structure Bs7 (w0 W : World) (p mi sh sp z : Bool) (wid prec verb : Int) : Prop where
  c0 : W.cell? ⟨w0.heap.size, 0, none⟩ = some (.bool p)
  c1 : W.cell? ⟨w0.heap.size, 1, none⟩ = some (.bool mi)
  c2 : W.cell? ⟨w0.heap.size, 2, none⟩ = some (.bool sh)
  c3 : W.cell? ⟨w0.heap.size, 3, none⟩ = some (.bool sp)
  c4 : W.cell? ⟨w0.heap.size, 4, none⟩ = some (.bool z)
  c5 : W.cell? ⟨w0.heap.size, 5, none⟩ = some (.int .i64 wid)
  c6 : W.cell? ⟨w0.heap.size, 6, none⟩ = some (.int .i64 prec)
  c7 : W.cell? ⟨w0.heap.size, 7, none⟩ = some (.int .i32 verb)
  fr : ∀ i, W.frozen? ⟨w0.heap.size, i, none⟩ = false
  lt : w0.heap.size < W.heap.size
  bl : Below w0.heap.size w0 W
theorem Bs7.new (w : World) (p mi sh sp z : Bool) (wid prec verb : Int) : Bs7 w (w.alloc (.cells #[.bool p, .bool mi, .bool sh, .bool sp, .bool z, .int .i64 wid, .int .i64 prec, .int .i32 verb] 26)) p mi sh sp z wid prec verb where
  c0 := by simp
  c1 := by simp
  c2 := by simp
  c3 := by simp
  c4 := by simp
  c5 := by simp
  c6 := by simp
  c7 := by simp
  fr := fun i => by simp
  lt := by simp
  bl := (Below.refl _ _).alloc (Nat.le_refl _) _
theorem Bs7.call {w0 W W' : World} {p mi sh sp z : Bool} {wid prec verb : Int} (h : Bs7 w0 W p mi sh sp z wid prec verb) (b : Below W.heap.size W W') : Bs7 w0 W' p mi sh sp z wid prec verb where
  c0 := (b.cell (p := ⟨w0.heap.size, 0, none⟩) h.lt).trans h.c0
  c1 := (b.cell (p := ⟨w0.heap.size, 1, none⟩) h.lt).trans h.c1
  c2 := (b.cell (p := ⟨w0.heap.size, 2, none⟩) h.lt).trans h.c2
  c3 := (b.cell (p := ⟨w0.heap.size, 3, none⟩) h.lt).trans h.c3
  c4 := (b.cell (p := ⟨w0.heap.size, 4, none⟩) h.lt).trans h.c4
  c5 := (b.cell (p := ⟨w0.heap.size, 5, none⟩) h.lt).trans h.c5
  c6 := (b.cell (p := ⟨w0.heap.size, 6, none⟩) h.lt).trans h.c6
  c7 := (b.cell (p := ⟨w0.heap.size, 7, none⟩) h.lt).trans h.c7
  fr := fun i => (b.frozen (p := ⟨w0.heap.size, i, none⟩) h.lt).trans (h.fr i)
  lt := Nat.lt_of_lt_of_le h.lt b.size
  bl := h.bl.trans (b.mono h.bl.size)
theorem Bs7.set0 {w0 W : World} {p mi sh sp z : Bool} {wid prec verb : Int} (h : Bs7 w0 W p mi sh sp z wid prec verb) (y : Bool) : Bs7 w0 (W.setCell ⟨w0.heap.size, 0, none⟩ (.bool y)) y mi sh sp z wid prec verb where
  c0 := World.cell?_setCell_same _ _ _ h.c0
  c1 := set_other (by decide) h.c1
  c2 := set_other (by decide) h.c2
  c3 := set_other (by decide) h.c3
  c4 := set_other (by decide) h.c4
  c5 := set_other (by decide) h.c5
  c6 := set_other (by decide) h.c6
  c7 := set_other (by decide) h.c7
  fr := fun i => by rw [World.frozen?_setCell]; exact h.fr i
  lt := by rw [show (W.setCell ⟨w0.heap.size, 0, none⟩ (.bool y)).heap.size = W.heap.size by simp [World.setCell]]; exact h.lt
  bl := h.bl.setCell (Nat.le_refl _) _
set_option maxRecDepth 1000000 in
set_option maxHeartbeats 4000000 in
theorem nc_run {re im : Nat} {size half : Int} {A B R : ByteArray} {ok : Bool} (p mi sh sp z : Bool) (wid prec verb : Int) (hh : HalfD size half) (hA : MfC7 re half p mi sh sp z wid prec verb A ok) (hB : MfC7 im half true mi sh sp z wid prec verb B ok) (zA : A.size ≤ 1000000) (zB : B.size ≤ 1000000) (hR : ok = true ∧ R = ((⟨#[40]⟩ : ByteArray) ++ A ++ B) ++ ⟨#[105, 41]⟩ ∨ ok = false ∧ R = ⟨#[]⟩) : NcC re im size p mi sh sp z wid prec verb R ok := fun w => by
  have hx0 := Bs7.new w p mi sh sp z wid prec verb
  have z1 : ¬ 9223372036854775807 < (⟨#[40]⟩ : ByteArray).size + A.size := by rw [show (⟨#[40]⟩ : ByteArray).size = 1 from rfl]; omega
  have z2 : ¬ 9223372036854775807 < ((⟨#[40]⟩ : ByteArray) ++ A).size + B.size := by rw [app_size, show (⟨#[40]⟩ : ByteArray).size = 1 from rfl]; omega
  have z3 : ¬ 9223372036854775807 < ((⟨#[40]⟩ : ByteArray) ++ A ++ B).size + (⟨#[105, 41]⟩ : ByteArray).size := by rw [app_size, app_size, show (⟨#[40]⟩ : ByteArray).size = 1 from rfl, show (⟨#[105, 41]⟩ : ByteArray).size = 2 from rfl]; omega
  rcases hR with ⟨rfl, rfl⟩ | ⟨rfl, rfl⟩
  all_goals
    rcases hh with ⟨rfl, rfl⟩ | ⟨rfl, rfl⟩ | ⟨⟨n1, n2⟩, rfl⟩
    all_goals
      try have b1 : (size == 64) = false := beq_eq_false_iff_ne.2 n1
      try have b2 : (size == 128) = false := beq_eq_false_iff_ne.2 n2
      go_enter Tryz.func10, Tryz.ntmps10
      go_wp2_with (first
        | (go_at_call_of 17 ((re : Nat) : Int); (with_reducible refine (hA _).mono ?_); rintro x w3 ⟨rfl, hb3⟩; have hx3 := hx0.call hb3; have a0 := hx3.c0; have a8 := hx3.fr; have hx4 := hx3.set0 true; have t0 := hx4.c0; have t1 := hx4.c1; have t2 := hx4.c2; have t3 := hx4.c3; have t4 := hx4.c4; have t5 := hx4.c5; have t6 := hx4.c6; have t7 := hx4.c7; have s1 := hx3.c1; have s2 := hx3.c2; have s3 := hx3.c3; have s4 := hx3.c4; have s5 := hx3.c5; have s6 := hx3.c6; have s7 := hx3.c7)
        | (go_at_call_of 17 ((im : Nat) : Int); (with_reducible refine (hB _).mono ?_); rintro x w5 ⟨rfl, hb5⟩; have hx5 := hx4.call hb5))
      go_returns
      exact ⟨rfl, hx5.bl⟩
set_option maxRecDepth 1000000 in
set_option maxHeartbeats 4000000 in
theorem ctexts_run {re im : Nat} {size : Int} {S : ByteArray} {ok : Bool} (p mi sh sp z : Bool) (wid prec verb : Int) (hA : CxC re im size p mi sh sp z wid prec verb S ok) (hB : NcC re im size p mi sh sp z wid prec verb S ok) (w : World) :
    Calls Tryz.prog 3 #[.agg #[.int .u64 re, .int .u64 im], .int .i64 size, .agg #[.bool p, .bool mi, .bool sh, .bool sp, .bool z, .int .i64 wid, .int .i64 prec, .int .i32 verb]] w fun e w' => e = .returned (.bool true) ∧ Below w.heap.size w w' := by
  have hL := lives7_any
  have hx0 := Bx7.new w re im p mi sh sp z wid prec verb
  go_enter Tryz.func3, Tryz.ntmps3
  go_wp2_with (first
    | (go_at_call 9; (with_reducible refine (hA _).mono ?_); rintro x w3 ⟨rfl, hb3⟩; have hx3 := hx0.call hb3; obtain ⟨u0, u1, a0, a1, a2, a3, a4, a5, a6, a7, a8⟩ := hx3.cells)
    | (go_at_call 10; (with_reducible refine (hB _).mono ?_); rintro x w4 ⟨rfl, hb4⟩; have hx4 := hx3.call hb4)
    | (go_at_call 11; refine (hL _).mono ?_; rintro x w8 ⟨rfl, hb8⟩))
  go_ret
  exact ⟨rfl, bel_call hx4.bl hb8 (Nat.le_refl _)⟩
end Go.Proofs.YthbabhbfpcfenaaGreatDoor
