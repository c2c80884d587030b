/- printer: what is taken by an index; widths and precisions by numbers; a directive by whatever index. -/
import Derived.Test.YtdlnmnipnkeabaaGreatDoorPt21
namespace Go.Proofs.YtdlnmnipnkeabaaGreatDoor
open Go.RowKit
set_option linter.unusedVariables false
set_option linter.unusedSimpArgs false
abbrev TkJ (J : World → Prop) (g C : Nat) (l : List UInt8) (dp : Int) (av : Value) (vs : List Value) (k m nx nx' : Int) (v : Value) : Prop := ∀ W, EnJ J W g C l dp av vs nx → Calls Tryz.prog 81 #[.pointer (some ⟨g, 0, none⟩), .agg #[.int .i64 k, .int .i64 m]] W fun e w' => e = .returned (.tuple #[v, .bool true]) ∧ EnJ J w' g C l dp av vs nx' ∧ Kx (fun k => k = g) W w'
abbrev NumJ (J : World → Prop) (g C : Nat) (l : List UInt8) (dp : Int) (av : Value) (vs : List Value) (b : Nb) (least n nx nx' : Int) : Prop := ∀ W, EnJ J W g C l dp av vs nx → Calls Tryz.prog 107 #[.pointer (some ⟨g, 0, none⟩), .agg #[.int .i64 b.k, .int .i64 b.n, .int .i64 b.a.k, .int .i64 b.a.n], .int .i64 least] W fun e w' => e = .returned (.tuple #[.int .i64 n, .bool true]) ∧ EnJ J w' g C l dp av vs nx' ∧ Kx (fun k => k = g) W w'
set_option maxRecDepth 1000000 in
set_option maxHeartbeats 2000000 in
theorem take_G {w : World} {J : World → Prop} {g C : Nat} {l : List UInt8} {dp : Int} {av : Value} {vs : List Value} (i : Nat) (nx : Int) (hE : EnJ J w g C l dp av vs nx) (t : TypeId) (x : Value) (hi : vs[i]? = some (.iface t x)) (hlen : vs.length ≤ 1000) :
  Calls Tryz.prog 81 #[.pointer (some ⟨g, 0, none⟩), .agg #[.int .i64 1, .int .i64 ((i : Int) + 1)]] w fun e w' => e = .returned (.tuple #[.iface t x, .bool true]) ∧ EnJ J w' g C l dp av vs ((i : Int) + 2) ∧ Kx (fun k => k = g) w w' := by
 have hil : i < vs.length := (List.getElem?_eq_some_iff.1 hi).1
 obtain ⟨a, c, rfl, hc1, hc2, ha⟩ := hE.a
 obtain ⟨A, rfl, hA0, hcl⟩ := ha i _ hi
 have hA : A ≠ g := by omega
 obtain ⟨W1, hW1⟩ : ∃ W1, W1 = w.alloc (.cells #[.int .i64 1, .int .i64 ((i : Int) + 1)] 115) := ⟨_, rfl⟩
 have b1 : Below w.heap.size w W1 := by rw [hW1]; exact (Below.refl _ _).alloc (Nat.le_refl _) _
 have e1 := hE.up b1
 have q3 : W1.cell? ⟨g, 4100, none⟩ = some (.int .i64 nx) := e1.p.tl (i := 3) rfl
 have q2 : W1.cell? ⟨g, 4099, none⟩ = some (.slice (some ⟨A, 0, none⟩) vs.length c) := e1.p.tl (i := 2) rfl
 have qf : W1.frozen? ⟨g, 4100, none⟩ = false := e1.p.mid.frozen 4100
 have qa := up_cell b1 hcl
 have c0 : W1.cell? ⟨w.heap.size, 0, none⟩ = some (.int .i64 1) := by rw [hW1]; simp [go_sem]
 have c1 : W1.cell? ⟨w.heap.size, 1, none⟩ = some (.int .i64 ((i : Int) + 1)) := by rw [hW1]; simp [go_sem]
 obtain ⟨W2, hW2⟩ : ∃ W2, W2 = W1.setCell ⟨g, 4100, none⟩ (.int .i64 ((i : Int) + 2)) := ⟨_, rfl⟩
 have k2 : Kx (fun k => k = g) w W2 := by rw [hW2]; exact (Kx.of_below (P := fun k => k = g) b1).setCell g 4100 (Or.inl rfl) _
 have p2 : IsPr W2 g l (prT C dp (.slice (some ⟨A, 0, none⟩) vs.length c) ((i : Int) + 2)) := by
  have := e1.p.put 3 (.int .i64 ((i : Int) + 2))
  rw [hW2]
  exact this
 have q4 : W2.cell? ⟨g, 4099, none⟩ = some (.slice (some ⟨A, 0, none⟩) vs.length c) := p2.tl (i := 2) rfl
 have q5 : W2.cell? ⟨A, i, none⟩ = some (.iface t x) := k2.cell hcl hA
 have hle : ¬ ((i : Int) + 1 > vs.length) := by omega
 have hlI : (i : Int) < vs.length := by omega
 have E2 := hE.kept k2 p2
 have hlenI : (vs.length : Int) ≤ 1000 := by omega
 clear e1 b1 hi ha hcl p2 hE
 go_enter Tryz.func81, Tryz.ntmps81
 go_upto_region 1 with fail
 rw [← hW1]
 clear hW1
 go_upto_region 10 with fail
 rw [show (i : Int) + 1 + 1 = (i : Int) + 2 by omega, ← hW2]
 clear hW2
 go_wp2
 go_ret2
 exact ⟨rfl, E2, k2⟩
theorem tk_next {J : World → Prop} {g C : Nat} {l : List UInt8} {dp : Int} {av : Value} {vs : List Value} (i : Nat) (t : TypeId) (x : Value) (hi : vs[i]? = some (.iface t x)) (m : Int) (hlen : vs.length ≤ 1000) : TkJ J g C l dp av vs 0 m ((i : Int) + 1) ((i : Int) + 2) (.iface t x) := fun W hE => take_J i hE t x hi m hlen
theorem tk_good {J : World → Prop} {g C : Nat} {l : List UInt8} {dp : Int} {av : Value} {vs : List Value} (i : Nat) (t : TypeId) (x : Value) (hi : vs[i]? = some (.iface t x)) (nx : Int) (hlen : vs.length ≤ 1000) : TkJ J g C l dp av vs 1 ((i : Int) + 1) nx ((i : Int) + 2) (.iface t x) := fun W hE => take_G i nx hE t x hi hlen
set_option maxRecDepth 1000000 in
set_option maxHeartbeats 1000000 in
theorem num_star {J : World → Prop} {g C : Nat} {l : List UInt8} {dp : Int} {av : Value} {vs : List Value} {nx nx' : Int} {v : Value} (b : Nb) (hb : b.k = 2) (least n : Int) (hT : TkJ J g C l dp av vs b.a.k b.a.n nx nx' v) (hN : ∀ W, Calls Tryz.prog 128 #[v, .int .i64 least] W fun e w' => e = .returned (.tuple #[.int .i64 n, .bool true]) ∧ Below W.heap.size W w') : NumJ J g C l dp av vs b least n nx nx' := by
 intro w hE
 obtain ⟨m0, hm0⟩ : ∃ m0, b.n = m0 := ⟨_, rfl⟩
 obtain ⟨m1, hm1⟩ : ∃ m1 : Int, (b.a.k : Int) = m1 := ⟨_, rfl⟩
 obtain ⟨m2, hm2⟩ : ∃ m2 : Int, (b.a.n : Int) = m2 := ⟨_, rfl⟩
 rw [hm1, hm2] at hT
 rw [hb, hm0, hm1, hm2]
 clear hm0 hm1 hm2 hb
 obtain ⟨W1, hW1⟩ : ∃ W1, W1 = w.alloc (.cells #[.int .i64 2, .int .i64 m0, .int .i64 m1, .int .i64 m2] 117) := ⟨_, rfl⟩
 have b1 : Below w.heap.size w W1 := by rw [hW1]; exact (Below.refl _ _).alloc (Nat.le_refl _) _
 have c0 : W1.cell? ⟨w.heap.size, 0, none⟩ = some (.int .i64 2) := by rw [hW1]; simp [go_sem]
 have c2 : W1.cell? ⟨w.heap.size, 2, none⟩ = some (.int .i64 m1) := by rw [hW1]; simp [go_sem]
 have c3 : W1.cell? ⟨w.heap.size, 3, none⟩ = some (.int .i64 m2) := by rw [hW1]; simp [go_sem]
 have hT := hT W1 (hE.up b1)
 go_enter Tryz.func107, Tryz.ntmps107
 go_upto_region 1 with fail
 rw [show (((2 : Nat) : Int)) = 2 from rfl, ← hW1]
 clear hW1
 go_wp2_with (first | (go_at_call 81; refine hT.mono ?_; rintro e V ⟨rfl, eV, kV⟩) | (go_at_call 128; refine (hN _).mono ?_; rintro e V2 ⟨rfl, bV⟩))
 go_ret2
 exact ⟨rfl, eV.up bV, ((Kx.of_below b1).trans kV).trans (.of_below bV)⟩
set_option maxRecDepth 1000000 in
set_option maxHeartbeats 2000000 in
theorem sized_U (p : Pc) (t : ByteArray) (mi : Bool) (w1 p1 : Int) {J : World → Prop} {g C : Nat} {l : List UInt8} {dp : Int} {av : Value} {vs : List Value} {nx nx1 nx2 : Int} {w : World}
  (hW : (p.wid.k = 0 ∧ mi = (spQ p).mi ∧ w1 = (spQ p).wid ∧ nx1 = nx) ∨ (¬ p.wid.k = 0 ∧ ∃ n, NumJ J g C l dp av vs p.wid (-1000) n nx nx1 ∧ ((0 ≤ n ∧ mi = (spQ p).mi ∧ w1 = n) ∨ (n < 0 ∧ -1000 ≤ n ∧ mi = true ∧ w1 = -n))))
  (hP : (p.prec.k = 0 ∧ p1 = (spQ p).prec ∧ nx2 = nx1) ∨ (¬ p.prec.k = 0 ∧ NumJ J g C l dp av vs p.prec 0 p1 nx1 nx2))
  (hE : EnJ J w g C l dp av vs nx) :
  Calls Tryz.prog 79 #[.pointer (some ⟨g, 0, none⟩), .agg (pcV p t).toArray] w fun e w' => e = .returned (SV ⟨(spQ p).p, mi, (spQ p).sh, (spQ p).sp, (spQ p).z, w1, p1, (spQ p).verb⟩) ∧ EnJ J w' g C l dp av vs nx2 ∧ Kx (fun k => k = g) w w' := by
 have c2 : (pcV p t)[2]? = some (.bool (spQ p).p) := rfl
 have c3 : (pcV p t)[3]? = some (.bool (spQ p).mi) := rfl
 have c4 : (pcV p t)[4]? = some (.bool (spQ p).sh) := rfl
 have c5 : (pcV p t)[5]? = some (.bool (spQ p).sp) := rfl
 have c6 : (pcV p t)[6]? = some (.bool (spQ p).z) := rfl
 have c7 : (pcV p t)[7]? = some (.int .i64 (spQ p).wid) := rfl
 have c8 : (pcV p t)[8]? = some (.int .i64 (spQ p).prec) := rfl
 have c9 : (pcV p t)[9]? = some (.int .i32 (spQ p).verb) := rfl
 have c10 : (pcV p t)[10]? = some (.int .i64 p.wid.k) := rfl
 have c11 : (pcV p t)[11]? = some (.int .i64 p.wid.n) := rfl
 have c12 : (pcV p t)[12]? = some (.int .i64 p.wid.a.k) := rfl
 have c13 : (pcV p t)[13]? = some (.int .i64 p.wid.a.n) := rfl
 have c14 : (pcV p t)[14]? = some (.int .i64 p.prec.k) := rfl
 have c15 : (pcV p t)[15]? = some (.int .i64 p.prec.n) := rfl
 have c16 : (pcV p t)[16]? = some (.int .i64 p.prec.a.k) := rfl
 have c17 : (pcV p t)[17]? = some (.int .i64 p.prec.a.n) := rfl
 unfold NumJ at hW hP
 generalize spQ p = f at *
 generalize pcV p t = H at *
 generalize p.wid = wd at *
 generalize p.prec = pr at *
 obtain ⟨W1, hW1⟩ : ∃ W1, W1 = w.alloc (.cells H.toArray 119) := ⟨_, rfl⟩
 have hB : Blk W1 w.heap.size H := by rw [hW1]; exact Blk.new w H 119
 have b1 : Below w.heap.size w W1 := by rw [hW1]; exact (Below.refl _ _).alloc (Nat.le_refl _) _
 have s1 : W1.heap.size = w.heap.size + 1 := by rw [hW1]; simp
 have hl : w.heap.size < W1.heap.size := by omega
 obtain ⟨W2, hW2⟩ : ∃ W2, W2 = W1.alloc (.cells [.bool false, .bool false, .bool false, .bool false, .bool false, .int .i64 0, .int .i64 0, .int .i32 0].toArray 113) := ⟨_, rfl⟩
 have b2 : Below W1.heap.size W1 W2 := by rw [hW2]; exact (Below.refl _ _).alloc (Nat.le_refl _) _
 obtain ⟨W3, hW3⟩ : ∃ W3, W3 = W2.alloc (.cells [.bool f.p, .bool f.mi, .bool f.sh, .bool f.sp, .bool f.z, .int .i64 f.wid, .int .i64 f.prec, .int .i32 f.verb].toArray 113) := ⟨_, rfl⟩
 have b3 : Below W2.heap.size W2 W3 := by rw [hW3]; exact (Below.refl _ _).alloc (Nat.le_refl _) _
 have hB2 := hB.up b2
 have hR2 : Blk W2 W1.heap.size [.bool false, .bool false, .bool false, .bool false, .bool false, .int .i64 0, .int .i64 0, .int .i32 0] := by rw [hW2]; exact Blk.new W1 _ 113
 have hR3 := hR2.up b3
 have hB3 := hB2.up b3
 have hF3 : Blk W3 W2.heap.size [.bool f.p, .bool f.mi, .bool f.sh, .bool f.sp, .bool f.z, .int .i64 f.wid, .int .i64 f.prec, .int .i32 f.verb] := by rw [hW3]; exact Blk.new W2 _ 113
 have z2 : W1.heap.size < W2.heap.size := by rw [hW2]; simp
 have hg := hE.lt
 have bw : Below w.heap.size w W3 := (b1.trans (b2.mono b1.size)).trans (b3.mono (by omega))
 have E3 := hE.up bw
 have z3 := bw.size
 have e2 := hB2.c _ _ c2
 have e3 := hB2.c _ _ c3
 have e4 := hB2.c _ _ c4
 have e5 := hB2.c _ _ c5
 have e6 := hB2.c _ _ c6
 have e7 := hB2.c _ _ c7
 have e8 := hB2.c _ _ c8
 have e9 := hB2.c _ _ c9
 have e10 := hB3.c _ _ c10
 have e11 := hB3.c _ _ c11
 have e12 := hB3.c _ _ c12
 have e13 := hB3.c _ _ c13
 have x2 := hF3.b
 clear hB hB2 hR2 c2 c3 c4 c5 c6 c7 c8 c9 c10 c11 c12 c13 b2 b3 b1
 go_enter Tryz.func79, Tryz.ntmps79
 go_upto_region 1 with fail
 rw [← hW1, ← s1, ← hW2]
 have HW3 : Hid (W3 = _) := hW3
 clear hW1 hW2 hW3 s1
 go_upto_region 2 with fail
 rw [← HW3.out]
 clear HW3 e2 e3 e4 e5 e6 e7 e8 e9
 generalize W1.heap.size = B1 at *
 generalize W2.heap.size = B2 at *
 generalize hB0 : w.heap.size = B0 at *
 have HB0 : Hid (w.heap.size = B0) := hB0
 clear hB0
 go_upto_if 15 with fail
 go_cut [16] (fun _ wx => ∃ V, V = wx ∧ Blk V B0 H ∧ Blk V B1 [.bool false, .bool false, .bool false, .bool false, .bool false, .int .i64 0, .int .i64 0, .int .i32 0] ∧ Blk V B2 [.bool f.p, .bool mi, .bool f.sh, .bool f.sp, .bool f.z, .int .i64 w1, .int .i64 f.prec, .int .i32 f.verb] ∧ EnJ J V g C l dp av vs nx1 ∧ Kx (fun k => k = g) w V)
 case first =>
  have kw : Kx (fun k => k = g) w W3 := ⟨bw.os, bw.tape, bw.output, bw.size, fun i hi _ => bw.block i (by rw [← HB0.out]; exact hi)⟩
  rcases hW with ⟨hw0, rfl, rfl, rfl⟩ | ⟨hw0, n, hN, hn⟩
  ·have e10' : W3.cell? ⟨B0, 10, none⟩ = some (.int .i64 0) := by rw [e10, hw0]; rfl
   clear e10 hP
   go_wp2
   go_meet
   exact ⟨_, rfl, hB3, hR3, hF3, E3, kw⟩
  ·have hk : ((wd.k : Int) != 0) = true := by simp; omega
   have hN3 := hN W3 E3
   clear hN hP
   rcases hn with ⟨h0, rfl, rfl⟩ | ⟨h0, h1, rfl, rfl⟩
   ·have hnn : ¬ w1 < 0 := by omega
    go_wp2_with (go_at_call 107; refine hN3.mono ?_; rintro e V ⟨rfl, eV, kV⟩; have hFV := hF3.kx kV (by omega); have f5 : V.cell? ⟨B2, 5, none⟩ = some (.int .i64 f.wid) := hFV.c 5 _ rfl; have z5 : V.frozen? ⟨B2, 5, none⟩ = false := hFV.z 5)
    go_meet
    have k5 : Kx (fun k => k = g) w (V.setCell ⟨B2, 5, none⟩ (.int .i64 w1)) := (kw.trans kV).setCell _ _ (Or.inr (by rw [HB0.out]; omega)) _
    exact ⟨_, rfl, (hB3.kx kV (by omega)).far (by omega) _ _, (hR3.kx kV (by omega)).far (by omega) _ _, hFV.one 5 _ (by show 5 < 8; decide), hE.kept k5 (eV.p.kept (P := fun k => k = B2) ((Kx.refl (fun k => k = B2) _).setCell _ _ (Or.inl rfl) _) (by omega)), k5⟩
   ·have hw9 : IntKind.i64.wrap (-n) = -n := by rw [IntKind.wrap_i64]; omega
    go_wp2_with (go_at_call 107; refine hN3.mono ?_; rintro e V ⟨rfl, eV, kV⟩; have hFV := hF3.kx kV (by omega); have f1 : V.cell? ⟨B2, 1, none⟩ = some (.bool f.mi) := hFV.c 1 _ rfl; have z1 : V.frozen? ⟨B2, 1, none⟩ = false := hFV.z 1; have f5 : V.cell? ⟨B2, 5, none⟩ = some (.int .i64 f.wid) := hFV.c 5 _ rfl; have z5 : V.frozen? ⟨B2, 5, none⟩ = false := hFV.z 5)
    go_meet
    have k5 : Kx (fun k => k = g) w ((V.setCell ⟨B2, 1, none⟩ (.bool true)).setCell ⟨B2, 5, none⟩ (.int .i64 (-n))) := ((kw.trans kV).setCell _ _ (Or.inr (by rw [HB0.out]; omega)) _).setCell _ _ (Or.inr (by rw [HB0.out]; omega)) _
    exact ⟨_, rfl, ((hB3.kx kV (by omega)).far (by omega) _ _).far (by omega) _ _, ((hR3.kx kV (by omega)).far (by omega) _ _).far (by omega) _ _, (hFV.one 1 (.bool true) (by show 1 < 8; decide)).one 5 _ (by show 5 < 8; decide), hE.kept k5 (eV.p.kept (P := fun k => k = B2) (((Kx.refl (fun k => k = B2) _).setCell _ _ (Or.inl rfl) _).setCell _ _ (Or.inl rfl) _) (by omega)), k5⟩
 case rest =>
  obtain ⟨V4, rfl, hB4, hR4, hF4, E4, k4⟩ := hcut
  clear hW hB3 hR3 hF3 E3 bw z3 e10 e11 e12 e13 x2
  have e14 := hB4.c _ _ c14
  have e15 := hB4.c _ _ c15
  have e16 := hB4.c _ _ c16
  have e17 := hB4.c _ _ c17
  go_upto_if 43 with fail
  go_cut [44] (fun _ wy => ∃ V, V = wy ∧ Blk V B1 [.bool false, .bool false, .bool false, .bool false, .bool false, .int .i64 0, .int .i64 0, .int .i32 0] ∧ Blk V B2 [.bool f.p, .bool mi, .bool f.sh, .bool f.sp, .bool f.z, .int .i64 w1, .int .i64 p1, .int .i32 f.verb] ∧ EnJ J V g C l dp av vs nx2 ∧ Kx (fun k => k = g) w V)
  case first =>
   rcases hP with ⟨hw0, rfl, rfl⟩ | ⟨hw0, hN⟩
   ·have e14' : V4.cell? ⟨B0, 14, none⟩ = some (.int .i64 0) := by rw [e14, hw0]; rfl
    clear e14
    go_wp2
    go_meet
    exact ⟨_, rfl, hR4, hF4, E4, k4⟩
   ·have hk : ((pr.k : Int) != 0) = true := by simp; omega
    have hN4 := hN V4 E4
    clear hN
    go_wp2_with (go_at_call 107; refine hN4.mono ?_; rintro e V ⟨rfl, eV, kV⟩; have hFV := hF4.kx kV (by omega); have f6 : V.cell? ⟨B2, 6, none⟩ = some (.int .i64 f.prec) := hFV.c 6 _ rfl; have z6 : V.frozen? ⟨B2, 6, none⟩ = false := hFV.z 6)
    go_meet
    have k6 : Kx (fun k => k = g) w (V.setCell ⟨B2, 6, none⟩ (.int .i64 p1)) := (k4.trans kV).setCell _ _ (Or.inr (by rw [HB0.out]; omega)) _
    exact ⟨_, rfl, (hR4.kx kV (by omega)).far (by omega) _ _, hFV.one 6 _ (by show 6 < 8; decide), hE.kept k6 (eV.p.kept (P := fun k => k = B2) ((Kx.refl (fun k => k = B2) _).setCell _ _ (Or.inl rfl) _) (by omega)), k6⟩
  case rest =>
   obtain ⟨V5, rfl, hR5, hF5, E5, k5⟩ := hcut
   clear hP hB4 hR4 hF4 E4 k4 e14 e15 e16 e17
   have fin : Blk (V5.setCells B1 0 [.bool f.p, .bool mi, .bool f.sh, .bool f.sp, .bool f.z, .int .i64 w1, .int .i64 p1, .int .i32 f.verb]) B1 [.bool f.p, .bool mi, .bool f.sh, .bool f.sp, .bool f.z, .int .i64 w1, .int .i64 p1, .int .i32 f.verb] := hR5.all _ rfl
   have kf : Kx (fun k => k = g) w (V5.setCells B1 0 [.bool f.p, .bool mi, .bool f.sh, .bool f.sp, .bool f.z, .int .i64 w1, .int .i64 p1, .int .i32 f.verb]) := Kx.setCells _ (Or.inr (by rw [HB0.out]; omega)) _ _ _ k5
   have Ef := hE.kept kf (E5.p.kept (P := fun k => k = B1) (Kx.setCells (P := fun k => k = B1) _ (Or.inl rfl) _ _ _ (Kx.refl _ _)) (by omega))
   go_wp2_with (first
    | (refine wpl_ld row_Spec rfl (.tmp 5) rfl rfl hF5.range rfl ?_)
    | (refine wpl_st row_Spec rfl (.tmp 4) (.tmp 59) rfl rfl rfl hR5 rfl rfl ?_ ?_
       ·intro v hv
        simp only [List.mem_cons, List.not_mem_nil, or_false] at hv
        rcases hv with rfl | rfl | rfl | rfl | rfl | rfl | rfl | rfl <;> rfl
       generalize V5.setCells B1 0 _ = Wf at *))
   exact bodyPost_ret (res_row row_Spec Tryz.results79 rfl fin rfl) rfl ⟨rfl, Ef, kf⟩
set_option maxRecDepth 1000000 in
set_option maxHeartbeats 2000000 in
theorem dir_U (p : Pc) (t : ByteArray) (f : Sq) (tt : TypeId) (x : Value) (T : ByteArray) (nx1 nx2 : Int) {w : World} {J : World → Prop} {g C : Nat} {l : List UInt8} {dp : Int} {av : Value} {vs : List Value} {nx : Int} (hE : EnJ J w g C l dp av vs nx)
  (hS : ∀ W, EnJ J W g C l dp av vs nx → Calls Tryz.prog 79 #[.pointer (some ⟨g, 0, none⟩), .agg (pcV p t).toArray] W fun e w' => e = .returned (SV f) ∧ EnJ J w' g C l dp av vs nx1 ∧ Kx (fun k => k = g) W w')
  (hv : ¬ f.verb = 37) (hT0 : TkJ J g C l dp av vs p.arg.k p.arg.n nx1 nx2 (.iface tt x))
  {J' : World → Prop} {P : Nat → Prop} (hPg : P g) (hPl : ∀ k, P k → k ≤ g) (hSh : ∀ W, EnJ J W g C l dp av vs nx2 → Calls Tryz.prog 69 #[.pointer (some ⟨g, 0, none⟩), .iface tt x, SV f] W fun e w' => e = .returned (.string T) ∧ EnJ J' w' g C l dp av vs nx2 ∧ Kx P W w') (hl : l.length + T.size ≤ 1000000000) :
  Calls Tryz.prog 66 #[.pointer (some ⟨g, 0, none⟩), .agg (pcV p t).toArray] w fun e w' => e = .returned (.tuple #[]) ∧ EnJ J' w' g C (l ++ T.data.toList) dp av vs nx2 ∧ Kx P w w' := by
 have hlp := pcV_len p t
 have ha : (pcV p t)[18]? = some (.int .i64 p.arg.k) := rfl
 have ha1 : (pcV p t)[19]? = some (.int .i64 p.arg.n) := rfl
 generalize pcV p t = H at *
 obtain ⟨W1, hW1⟩ : ∃ W1, W1 = w.alloc (.cells H.toArray 119) := ⟨_, rfl⟩
 have hB : Blk W1 w.heap.size H := by rw [hW1]; exact Blk.new w H 119
 have b1 : Below w.heap.size w W1 := by rw [hW1]; exact (Below.refl _ _).alloc (Nat.le_refl _) _
 have hg := hE.lt
 have E1 := hE.up b1
 have hS1 := hS _ E1
 clear hS
 go_enter Tryz.func66, Tryz.ntmps66
 go_upto_region 1 with fail
 rw [← hW1]
 clear hW1
 go_upto_region 2 with (first | (refine wpl_ld row_Piece rfl (.tmp 3) rfl rfl hB.range hlp ?_) | (go_at_call 79; refine hS1.mono ?_; rintro e V ⟨rfl, eV, kV⟩))
 have hBV := hB.kx kV (by omega)
 obtain ⟨W4, hW4⟩ : ∃ W4, W4 = V.alloc (.cells #[.bool f.p, .bool f.mi, .bool f.sh, .bool f.sp, .bool f.z, .int .i64 f.wid, .int .i64 f.prec, .int .i32 f.verb] 113) := ⟨_, rfl⟩
 have b4 : Below V.heap.size V W4 := by rw [hW4]; exact (Below.refl _ _).alloc (Nat.le_refl _) _
 have hB4 := hBV.up b4
 have E4 := eV.up b4
 have q4 : W4.cell? ⟨V.heap.size, 0, none⟩ = some (.bool f.p) ∧ W4.cell? ⟨V.heap.size, 1, none⟩ = some (.bool f.mi) ∧ W4.cell? ⟨V.heap.size, 2, none⟩ = some (.bool f.sh) ∧ W4.cell? ⟨V.heap.size, 3, none⟩ = some (.bool f.sp) ∧ W4.cell? ⟨V.heap.size, 4, none⟩ = some (.bool f.z) ∧ W4.cell? ⟨V.heap.size, 5, none⟩ = some (.int .i64 f.wid) ∧ W4.cell? ⟨V.heap.size, 6, none⟩ = some (.int .i64 f.prec) ∧ W4.cell? ⟨V.heap.size, 7, none⟩ = some (.int .i32 f.verb) := by
  rw [hW4]
  refine ⟨?_, ?_, ?_, ?_, ?_, ?_, ?_, ?_⟩
  all_goals simp [go_sem]
 have d0 := hB4.c _ _ ha
 have d1 := hB4.c _ _ ha1
 have hgV : g < V.heap.size := eV.lt
 have k4 : Kx (fun k => k = g) w W4 := ((Kx.of_below b1).trans kV).trans (.of_below b4)
 have hT := hT0 _ E4
 have v7 := q4.2.2.2.2.2.2.2
 rw [← hW4]
 clear hW4 hB hBV hB4 hS1 b1 kV eV E1 ha ha1 hE
 go_upto_region 6 with (go_at_call 81; refine hT.mono ?_; rintro e V5 ⟨rfl, E5, k5⟩)
 clear d0 d1 v7 E4 hT
 have k5' : Kx (fun k => k = g) w V5 := k4.trans k5
 have s5 : V5.cell? ⟨V.heap.size, 0, none⟩ = some (.bool f.p) ∧ V5.cell? ⟨V.heap.size, 1, none⟩ = some (.bool f.mi) ∧ V5.cell? ⟨V.heap.size, 2, none⟩ = some (.bool f.sh) ∧ V5.cell? ⟨V.heap.size, 3, none⟩ = some (.bool f.sp) ∧ V5.cell? ⟨V.heap.size, 4, none⟩ = some (.bool f.z) ∧ V5.cell? ⟨V.heap.size, 5, none⟩ = some (.int .i64 f.wid) ∧ V5.cell? ⟨V.heap.size, 6, none⟩ = some (.int .i64 f.prec) ∧ V5.cell? ⟨V.heap.size, 7, none⟩ = some (.int .i32 f.verb) := by
  obtain ⟨a0, a1, a2, a3, a4, a5, a6, a7⟩ := q4
  exact ⟨k5.cell a0 (by dsimp only; omega), k5.cell a1 (by dsimp only; omega), k5.cell a2 (by dsimp only; omega), k5.cell a3 (by dsimp only; omega), k5.cell a4 (by dsimp only; omega), k5.cell a5 (by dsimp only; omega), k5.cell a6 (by dsimp only; omega), k5.cell a7 (by dsimp only; omega)⟩
 clear q4 k4 k5
 go_upto_region 7 with fail
 obtain ⟨Yd, hYd⟩ : ∃ Yd, Yd = V5.drew := ⟨_, rfl⟩
 have bY : Below V5.heap.size V5 Yd := by rw [hYd]; exact (Below.refl _ _).drew
 have EY : EnJ J Yd g C l dp av vs nx2 := E5.up bY
 have kY : Kx (fun k => k = g) w Yd := k5'.trans (.of_below bY)
 have sY : Yd.cell? ⟨V.heap.size, 0, none⟩ = some (.bool f.p) ∧ Yd.cell? ⟨V.heap.size, 1, none⟩ = some (.bool f.mi) ∧ Yd.cell? ⟨V.heap.size, 2, none⟩ = some (.bool f.sh) ∧ Yd.cell? ⟨V.heap.size, 3, none⟩ = some (.bool f.sp) ∧ Yd.cell? ⟨V.heap.size, 4, none⟩ = some (.bool f.z) ∧ Yd.cell? ⟨V.heap.size, 5, none⟩ = some (.int .i64 f.wid) ∧ Yd.cell? ⟨V.heap.size, 6, none⟩ = some (.int .i64 f.prec) ∧ Yd.cell? ⟨V.heap.size, 7, none⟩ = some (.int .i32 f.verb) := by rw [hYd]; exact s5
 refine wp_region_held_drew (S := fun w' : World => w'.cell? ⟨V.heap.size, 0, none⟩ = some (.bool f.p) ∧ w'.cell? ⟨V.heap.size, 1, none⟩ = some (.bool f.mi) ∧ w'.cell? ⟨V.heap.size, 2, none⟩ = some (.bool f.sh) ∧ w'.cell? ⟨V.heap.size, 3, none⟩ = some (.bool f.sp) ∧ w'.cell? ⟨V.heap.size, 4, none⟩ = some (.bool f.z) ∧ w'.cell? ⟨V.heap.size, 5, none⟩ = some (.int .i64 f.wid) ∧ w'.cell? ⟨V.heap.size, 6, none⟩ = some (.int .i64 f.prec) ∧ w'.cell? ⟨V.heap.size, 7, none⟩ = some (.int .i32 f.verb)) (by kernel_rfl) (by exact s5) ?_
 rw [← hYd]
 clear hYd E5 s5 k5' bY
 intro hS
 refine tk 0 (.pointer (some ⟨g, 0, none⟩)) rfl (by kernel_rfl) (fun _ _ _ h => h) (by rfl) (by assumption) ?_ ?_
 ·intro w5 s0
  go_simp
 try simp only [Act.put, List.getElem_toArray, List.getElem_cons_zero, List.getElem_cons_succ, List.setIfInBounds_toArray, List.set_cons_zero, List.set_cons_succ, List.length_cons]
 refine tk 1 (.pointer (some ⟨g, 0, none⟩)) rfl (by kernel_rfl) (fun _ _ _ h => h) (by rfl) (by assumption) ?_ ?_
 ·intro w5 s0
  go_simp
 try simp only [Act.put, List.getElem_toArray, List.getElem_cons_zero, List.getElem_cons_succ, List.setIfInBounds_toArray, List.set_cons_zero, List.set_cons_succ, List.length_cons]
 refine tk 2 (.pointer (some ⟨g, 0, none⟩)) rfl (by kernel_rfl) (fun _ _ _ h => h) (by rfl) (by assumption) ?_ ?_
 ·intro w5 s0
  go_simp
 try simp only [Act.put, List.getElem_toArray, List.getElem_cons_zero, List.getElem_cons_succ, List.setIfInBounds_toArray, List.set_cons_zero, List.set_cons_succ, List.length_cons]
 refine tk 3 (.pointer (some ⟨g, 0, none⟩)) rfl (by kernel_rfl) (fun _ _ _ h => h) (by rfl) (by assumption) ?_ ?_
 ·intro w5 s0
  go_simp
 try simp only [Act.put, List.getElem_toArray, List.getElem_cons_zero, List.getElem_cons_succ, List.setIfInBounds_toArray, List.set_cons_zero, List.set_cons_succ, List.length_cons]
 refine tk 4 (.iface tt x) rfl (by kernel_rfl) (fun _ _ _ h => h) (by rfl) (by assumption) ?_ ?_
 ·intro w5 s0
  go_simp
 try simp only [Act.put, List.getElem_toArray, List.getElem_cons_zero, List.getElem_cons_succ, List.setIfInBounds_toArray, List.set_cons_zero, List.set_cons_succ, List.length_cons]
 refine tk 5 (SV f) rfl (by kernel_rfl) (fun _ _ _ h => h) (by rfl) (by assumption) ?_ ?_
 ·intro w5 s0
  obtain ⟨a0, a1, a2, a3, a4, a5, a6, a7⟩ := s0
  go_simp
 try simp only [Act.put, List.getElem_toArray, List.getElem_cons_zero, List.getElem_cons_succ, List.setIfInBounds_toArray, List.set_cons_zero, List.set_cons_succ, List.length_cons]
 refine rd1 6 (by kernel_rfl) rfl fun K6 hK6 => ?_
 go_simp
 refine (hSh Yd EY).mono ?_
 rintro e W6 ⟨rfl, E6, b6⟩
 have sW6 : W6.cell? ⟨V.heap.size, 0, none⟩ = some (.bool f.p) ∧ W6.cell? ⟨V.heap.size, 1, none⟩ = some (.bool f.mi) ∧ W6.cell? ⟨V.heap.size, 2, none⟩ = some (.bool f.sh) ∧ W6.cell? ⟨V.heap.size, 3, none⟩ = some (.bool f.sp) ∧ W6.cell? ⟨V.heap.size, 4, none⟩ = some (.bool f.z) ∧ W6.cell? ⟨V.heap.size, 5, none⟩ = some (.int .i64 f.wid) ∧ W6.cell? ⟨V.heap.size, 6, none⟩ = some (.int .i64 f.prec) ∧ W6.cell? ⟨V.heap.size, 7, none⟩ = some (.int .i32 f.verb) := by
  obtain ⟨a0, a1, a2, a3, a4, a5, a6, a7⟩ := sY
  exact ⟨b6.cell a0 (fun hp => by have := hPl _ hp; dsimp only at this; omega), b6.cell a1 (fun hp => by have := hPl _ hp; dsimp only at this; omega), b6.cell a2 (fun hp => by have := hPl _ hp; dsimp only at this; omega), b6.cell a3 (fun hp => by have := hPl _ hp; dsimp only at this; omega), b6.cell a4 (fun hp => by have := hPl _ hp; dsimp only at this; omega), b6.cell a5 (fun hp => by have := hPl _ hp; dsimp only at this; omega), b6.cell a6 (fun hp => by have := hPl _ hp; dsimp only at this; omega), b6.cell a7 (fun hp => by have := hPl _ hp; dsimp only at this; omega)⟩
 refine hK6.out _ _ sW6 (fun _ => ?_)
 clear hK6
 try simp only [Act.put, List.getElem_toArray, List.getElem_cons_zero, List.getElem_cons_succ, List.setIfInBounds_toArray, List.set_cons_zero, List.set_cons_succ, List.length_cons]
 have k6 : Kx P w W6 := (kY.mono (fun k _ h => h ▸ hPg)).trans b6
 clear EY sY b6 kY hSh
 refine rd1 7 (by kernel_rfl) rfl fun K7 hK7 => ?_
 go_simp
 refine (put_any g l _ T W6 E6.p hl).mono ?_
 rintro e W7 ⟨rfl, p7, k7⟩
 have sW7 : W7.cell? ⟨V.heap.size, 0, none⟩ = some (.bool f.p) ∧ W7.cell? ⟨V.heap.size, 1, none⟩ = some (.bool f.mi) ∧ W7.cell? ⟨V.heap.size, 2, none⟩ = some (.bool f.sh) ∧ W7.cell? ⟨V.heap.size, 3, none⟩ = some (.bool f.sp) ∧ W7.cell? ⟨V.heap.size, 4, none⟩ = some (.bool f.z) ∧ W7.cell? ⟨V.heap.size, 5, none⟩ = some (.int .i64 f.wid) ∧ W7.cell? ⟨V.heap.size, 6, none⟩ = some (.int .i64 f.prec) ∧ W7.cell? ⟨V.heap.size, 7, none⟩ = some (.int .i32 f.verb) := by
  obtain ⟨a0, a1, a2, a3, a4, a5, a6, a7⟩ := sW6
  exact ⟨k7.cell a0 (by dsimp only; omega), k7.cell a1 (by dsimp only; omega), k7.cell a2 (by dsimp only; omega), k7.cell a3 (by dsimp only; omega), k7.cell a4 (by dsimp only; omega), k7.cell a5 (by dsimp only; omega), k7.cell a6 (by dsimp only; omega), k7.cell a7 (by dsimp only; omega)⟩
 refine hK7.out _ _ sW7 (fun _ => ?_)
 clear hK7
 try simp only [Act.put, List.getElem_toArray, List.getElem_cons_zero, List.getElem_cons_succ, List.setIfInBounds_toArray, List.set_cons_zero, List.set_cons_succ, List.length_cons]
 refine wpAnyH_done (by kernel_rfl) ?_ _
 have E7 := E6.kept k7 p7
 have kk : Kx P w W7 := k6.trans (k7.mono (fun k _ h => h ▸ hPg))
 clear E6 sW6 sW7 p7 k7 k6
 go_wp2
 go_end0
 exact ⟨rfl, E7, kk⟩
set_option maxRecDepth 1000000 in
theorem hasIndex_1 (p : Pc) (t : ByteArray) (h1 : p.arg.k = 1) (w : World) :
  Calls Tryz.prog 58 #[.agg (pcV p t).toArray] w fun e w' => e = .returned (.bool true) ∧ Below w.heap.size w w' := by
 have c1 : (pcV p t)[18]? = some (.int .i64 1) := by unfold pcV pieceV; rw [h1]; rfl
 generalize pcV p t = H at *
 obtain ⟨W1, hW1⟩ : ∃ W1, W1 = w.alloc (.cells H.toArray 119) := ⟨_, rfl⟩
 have hB : Blk W1 w.heap.size H := by rw [hW1]; exact Blk.new w H 119
 have b1 : Below w.heap.size w W1 := by rw [hW1]; exact (Below.refl _ _).alloc (Nat.le_refl _) _
 have d1 := hB.c _ _ c1
 clear hB h1
 go_enter Tryz.func58, Tryz.ntmps58
 go_upto_region 1 with fail
 rw [← hW1]
 clear hW1
 go_wp2
 go_ret
 exact ⟨rfl, b1⟩
set_option maxRecDepth 1000000 in
set_option maxHeartbeats 1000000 in
theorem contains_1 (ps : List Pc) (a : Option Addr) (c : Nat) (w : World) (hlen : ps.length ≤ 100000) (p : Pc) (hp : ps[0]? = some p) (hp1 : p.arg.k = 1) (g : Nat) (ha : a = some ⟨g, 0, none⟩) (hR : RowAt w g ps) :
  Calls Tryz.prog 57 #[.slice a ps.length c, .func (.func 58) #[] #[]] w fun e w' => e = .returned (.bool true) ∧ Below w.heap.size w w' := by
 have hlI : (ps.length : Int) ≤ 100000 := by omega
 have hl0 : 0 < ps.length := (List.getElem?_eq_some_iff.1 hp).1
 have hlt : (0 : Int) < ps.length := by omega
 subst ha
 have hr : w.rangeAt g 0 (pcV p (ba p.text)) := fun i v hv => by have := hR 0 p hp i v hv; simpa using this
 have hC := hasIndex_1 p (ba p.text) hp1 w
 have hl : (pcV p (ba p.text)).length = 20 := rfl
 have hI : Calls Tryz.prog 67 #[.slice (some ⟨g, 0, none⟩) ps.length c, .func (.func 58) #[] #[]] w fun e w' => e = .returned (.int .i64 0) ∧ Below w.heap.size w w' := by
  clear hR hp hp1
  generalize pcV p (ba p.text) = H at *
  go_enter Tryz.func67, Tryz.ntmps67
  go_wp2
  refine wp_loop_rounds 1 ?_
  rw [rounds_succ]
  go_wp2_with (first | (refine wpl_ld row_Piece rfl (.tmp 14) rfl rfl hr hl ?_) | (go_at_call 58; refine hC.mono ?_; rintro e V ⟨rfl, bV⟩))
  go_ret
  exact ⟨rfl, bV⟩
 clear hC hR hr
 go_enter Tryz.func57, Tryz.ntmps57
 go_wp2_with (go_at_call 67; refine hI.mono ?_; rintro e V ⟨rfl, bV⟩)
 go_ret
 exact ⟨rfl, bV⟩
set_option maxRecDepth 1000000 in
set_option maxHeartbeats 2000000 in
theorem format_ix (s : ByteArray) (hs : s.size ≤ 100000) (ps : List Pc) (hps : prs s.data.toList = ps) (p0 : Pc) (hp0 : ps[0]? = some p0) (hp1 : p0.arg.k = 1) (o : List UInt8) {w : World} {J : World → Prop} {g C : Nat} {dp : Int} {av : Value} {vs : List Value} {nx nx' : Int} {J' : World → Prop} {P : Nat → Prop} (hPg : P g) (hPl : ∀ k, P k → k ≤ g) (hE : EnJ J w g C [] dp av vs nx)
  (hP : PsJ P g C dp av vs ps J J' nx nx' o) (hov : ps.length ≤ 1 ∨ o.length ≤ 4096) (ho : o.length ≤ 100000) :
  Calls Tryz.prog 51 #[.pointer (some ⟨g, 0, none⟩), .string s] w fun e w' => e = .returned (.tuple #[]) ∧ EnJ J' w' g C o dp av vs nx' ∧ Kx P w w' := by
 have hPS := parse_any s (by omega) w
 have hlen : ps.length ≤ 100000 := by
  have := prs_len s.data.toList
  rw [hps] at this
  have e : s.size = s.data.toList.length := by rw [Array.length_toList]; rfl
  omega
 rw [hps] at hPS
 clear hps hs
 have hlI : (ps.length : Int) ≤ 100000 := by omega
 have hg := hE.lt
 have hz0 := zero_pc
 have hzl : (pieceV 0 ⟨#[]⟩ fl0 0 0 nb0 nb0 ix0).length = 20 := rfl
 generalize pieceV 0 ⟨#[]⟩ fl0 0 0 nb0 nb0 ix0 = ZV at *
 go_enter Tryz.func51, Tryz.ntmps51
 go_upto_region 1 with (go_at_call 54; refine hPS.mono ?_; rintro e W1 ⟨v, rfl, hrow, bW⟩)
 obtain ⟨a, c, rfl, hc1, hc2⟩ := own_slice9 hrow
 have hcI : (ps.length : Int) ≤ c := by omega
 have hra : 0 < ps.length → ∃ G, a = some ⟨G, 0, none⟩ ∧ w.heap.size ≤ G ∧ G < W1.heap.size ∧ RowAt W1 G ps := fun h => own_row hrow h
 have E1 := hE.up bW
 have k1 : Kx P w W1 := .of_below bW
 clear hrow hPS hE
 go_wp2
 go_loopg [6, 11] ps.length (fun gg z i wr => ∃ (j : Nat) (o1 o2 : List UInt8) (nj : Int) (Jj : World → Prop), i = .int .i64 j ∧ j + gg = ps.length ∧ Kx P W1 wr ∧ EnJ Jj wr g C o1 dp av vs nj ∧ PsJ P g C dp av vs (ps.drop j) Jj J' nj nx' o2 ∧ Hid (o1 ++ o2 = o) ∧ Hid (j = 0 → o1 = []))
 case atStart => exact ⟨0, [], o, nx, J, rfl, Nat.zero_add _, Kx.refl _ _, E1, hP, (rfl : _ = _), (fun _ => rfl : _ → _)⟩
 case round =>
  obtain ⟨j, o1, o2, nj, Jj, rfl, hjg, kj, Ej, hPj, hoo, hj0⟩ := hrel
  by_cases hlt : j < ps.length
  ·have hltI : (j : Int) < ps.length := by omega
   obtain ⟨G, rfl, hG0, hG, hR⟩ := hra (by omega)
   obtain ⟨p, hp⟩ : ∃ p, ps[j]? = some p := ⟨ps[j], List.getElem?_eq_getElem hlt⟩
   obtain ⟨q1, q2, n1, J1, hp1, hp2, rfl⟩ := psJ_next hp hPj
   have hR' := hR.kept (kj.block G hG (fun hp => by have := hPl _ hp; omega))
   have hr : wr.rangeAt G (j * 20) (pcV p (ba p.text)) := hR' j p hp
   have hsz : o1.length + (q1 ++ q2).length = o.length := by rw [← hoo.out]; simp only [List.length_append]
   rw [List.length_append] at hsz
   have ho1 : ¬ (4096 : Int) < o1.length := by
    rcases hov with h | h
    ·have : o1 = [] := hj0.out (by omega)
     rw [this]; decide
    ·omega
   have hl : (pcV p (ba p.text)).length = 20 := rfl
   have h1 := pcV_one p (ba p.text)
   unfold PcJ at hp1
   have hoo' : Hid (o1 ++ q1 ++ q2 = o) := by have := hoo.out; rw [← List.append_assoc] at this; exact this
   clear hR hR' hra hp hPj hoo hj0
   generalize pcV p (ba p.text) = H at *
   have k2 : Blk (wr.alloc (.cells ZV.toArray 119)) wr.heap.size ZV := Blk.new wr ZV 119
   have b3 : Below wr.heap.size wr ((wr.alloc (.cells ZV.toArray 119)).setCells wr.heap.size 0 H) := xbelow_sc ((Below.refl _ _).alloc (Nat.le_refl _) _) (Nat.le_refl _) _ _
   have k3 : Blk ((wr.alloc (.cells ZV.toArray 119)).setCells wr.heap.size 0 H) wr.heap.size H := k2.all _ (by rw [hl, hzl])
   go_upto_region 4 with (first | (refine wpl_ld row_Piece rfl (.tmp 13) rfl rfl hr hl ?_) | (refine wpl_allocz hz0 rfl rfl ?_) | (refine wpl_st row_Piece rfl (.tmp 6) (.tmp 14) rfl (us := H) rfl rfl k2 hzl hl h1 ?_; generalize (wr.alloc (.cells ZV.toArray 119)).setCells wr.heap.size 0 H = W3 at *))
   have E3 := Ej.up b3
   have hOv := over_any g o1 _ W3 E3.p
   have hC := hp1 W3 o1 E3 (by omega)
   clear Ej hr k2 hp1 E3
   go_wp2_with (first | (refine wpl_ld row_Piece rfl (.tmp 6) rfl rfl k3.range hl ?_) | (go_at_call 55; refine hOv.mono ?_; rintro e w9 ⟨rfl, q9⟩; subst q9) | (go_at_call 56; refine hC.mono ?_; rintro e W4 ⟨rfl, E4, k4⟩))
   go_roundg (gk - 1)
   case measure => omega
   case rel => exact ⟨j + 1, o1 ++ q1, q2, n1, J1, by go_num, by omega, (kj.trans (.of_below b3)).trans k4, E4, hp2, hoo', (fun h => by omega : _ → _)⟩
  ·have hltI : ¬ (j : Int) < ps.length := by omega
   have hd : ps.drop j = [] := List.drop_eq_nil_of_le (by omega)
   rw [hd] at hPj
   obtain ⟨rfl, rfl, rfl⟩ := hPj
   have hoo2 : o1 = o := by have := hoo.out; rwa [List.append_nil] at this
   subst hoo2
   obtain ⟨G, rfl, h2, h3, h4⟩ := hra (List.getElem?_eq_some_iff.1 hp0).1
   have hC := contains_1 ps _ c wr hlen p0 hp0 hp1 G rfl (h4.kept (kj.block G h3 (fun hp => by have := hPl _ hp; omega)))
   clear hra hj0 hoo h4
   go_wp2_with (go_at_call 57; refine hC.mono ?_; rintro e W3 ⟨rfl, b3⟩)
   go_end0
   exact ⟨rfl, Ej.up b3, ((k1.trans kj).trans (.of_below b3))⟩
end Go.Proofs.YtdlnmnipnkeabaaGreatDoor
