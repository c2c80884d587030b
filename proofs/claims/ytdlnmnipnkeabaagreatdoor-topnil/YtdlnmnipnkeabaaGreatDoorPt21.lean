/- DNum, DDeep: these texts in one. -/
import Derived.Test.YtdlnmnipnkeabaaGreatDoorPt19
import Derived.Test.YtdlnmnipnkeabaaGreatDoorPt20
namespace Go.Proofs.YtdlnmnipnkeabaaGreatDoor
open Go.RowKit
set_option linter.unusedVariables false
set_option linter.unusedSimpArgs false
theorem kxg {g : Nat} {w w' : World} (x : Kx (fun k => k = g) w w') : Kx (fun k => g ≤ k) w w' := x.mono fun _ _ h => by omega
structure EnJ (J : World → Prop) (w : World) (g C : Nat) (l : List UInt8) (dp : Int) (av : Value) (vs : List Value) (nx : Int) : Prop where
 p : IsPr w g l (prT C dp av nx)
 j : J w
 s : ∀ w w', J w → Kx (fun k => k = g) w w' → J w'
 c : C < g
 a : ∃ a c, av = .slice a vs.length c ∧ vs.length ≤ c ∧ c ≤ maxLen ∧ ∀ (j : Nat) (u : Value), vs[j]? = some u → ∃ A, a = some ⟨A, 0, none⟩ ∧ g < A ∧ w.cell? ⟨A, j, none⟩ = some u
section
variable {J : World → Prop} {w w' : World} {g C : Nat} {l l' : List UInt8} {dp : Int} {av : Value} {vs : List Value} {nx nx' : Int}
theorem EnJ.lt (h : EnJ J w g C l dp av vs nx) : g < w.heap.size := h.p.lt
theorem EnJ.kept (h : EnJ J w g C l dp av vs nx) (k : Kx (fun k => k = g) w w') (p : IsPr w' g l' (prT C dp av nx')) : EnJ J w' g C l' dp av vs nx' := by
 obtain ⟨p0, j, s, c, a, c', rfl, hc1, hc2, ha⟩ := h
 refine ⟨p, s _ _ j k, s, c, a, c', rfl, hc1, hc2, fun i u hu => ?_⟩
 obtain ⟨A, rfl, hA, hcl⟩ := ha i u hu
 exact ⟨A, rfl, hA, k.cell hcl (by dsimp only; omega)⟩
theorem EnJ.up (h : EnJ J w g C l dp av vs nx) (b : Below w.heap.size w w') : EnJ J w' g C l dp av vs nx := h.kept (.of_below b) (h.p.below b)
theorem EnJ.turn {J' : World → Prop} (h : EnJ J w g C l dp av vs nx) {P : Nat → Prop} (k : Kx P w w') (hP : ∀ k, P k → k < g) (j : J' w') (s : ∀ w w', J' w → Kx (fun k => k = g) w w' → J' w') : EnJ J' w' g C l dp av vs nx := by
 obtain ⟨p0, j0, s0, c, a, c', rfl, hc1, hc2, ha⟩ := h
 refine ⟨p0.kept k (fun hp => by have := hP _ hp; omega), j, s, c, a, c', rfl, hc1, hc2, fun i u hu => ?_⟩
 obtain ⟨A, rfl, hA, hcl⟩ := ha i u hu
 exact ⟨A, rfl, hA, k.cell hcl (fun hp => by have := hP _ hp; dsimp only at this; omega)⟩
end
set_option maxRecDepth 1000000 in
set_option maxHeartbeats 2000000 in
theorem take_J {w : World} {J : World → Prop} {g C : Nat} {l : List UInt8} {dp : Int} {av : Value} {vs : List Value} (i : Nat) (hE : EnJ J w g C l dp av vs ((i : Int) + 1)) (t : TypeId) (x : Value) (hi : vs[i]? = some (.iface t x)) (m : Int) (hlen : vs.length ≤ 1000) :
  Calls Tryz.prog 81 #[.pointer (some ⟨g, 0, none⟩), .agg #[.int .i64 0, .int .i64 m]] w fun e w' => e = .returned (.tuple #[.iface t x, .bool true]) ∧ EnJ J w' g C l dp av vs ((i : Int) + 2) ∧ Kx (fun k => k = g) w w' := by
 have hil : i < vs.length := (List.getElem?_eq_some_iff.1 hi).1
 obtain ⟨a, c, rfl, hc1, hc2, ha⟩ := hE.a
 obtain ⟨A, rfl, hA0, hcl⟩ := ha i _ hi
 have hA : A ≠ g := by omega
 obtain ⟨W1, hW1⟩ : ∃ W1, W1 = w.alloc (.cells #[.int .i64 0, .int .i64 m] 115) := ⟨_, rfl⟩
 have b1 : Below w.heap.size w W1 := by rw [hW1]; exact (Below.refl _ _).alloc (Nat.le_refl _) _
 have e1 := hE.up b1
 have q3 : W1.cell? ⟨g, 4100, none⟩ = some (.int .i64 ((i : Int) + 1)) := e1.p.tl (i := 3) rfl
 have q2 : W1.cell? ⟨g, 4099, none⟩ = some (.slice (some ⟨A, 0, none⟩) vs.length c) := e1.p.tl (i := 2) rfl
 have qf : W1.frozen? ⟨g, 4100, none⟩ = false := e1.p.mid.frozen 4100
 have qa := up_cell b1 hcl
 have c0 : W1.cell? ⟨w.heap.size, 0, none⟩ = some (.int .i64 0) := by rw [hW1]; simp [go_sem]
 have c1 : W1.cell? ⟨w.heap.size, 1, none⟩ = some (.int .i64 m) := by rw [hW1]; simp [go_sem]
 obtain ⟨W2, hW2⟩ : ∃ W2, W2 = W1.setCell ⟨g, 4100, none⟩ (.int .i64 ((i : Int) + 2)) := ⟨_, rfl⟩
 have k2 : Kx (fun k => k = g) w W2 := by rw [hW2]; exact (Kx.of_below (P := fun k => k = g) b1).setCell g 4100 (Or.inl rfl) _
 have p2 : IsPr W2 g l (prT C dp (.slice (some ⟨A, 0, none⟩) vs.length c) ((i : Int) + 2)) := by
  have := e1.p.put 3 (.int .i64 ((i : Int) + 2))
  rw [hW2]
  exact this
 have q4 : W2.cell? ⟨g, 4099, none⟩ = some (.slice (some ⟨A, 0, none⟩) vs.length c) := p2.tl (i := 2) rfl
 have q5 : W2.cell? ⟨A, i, none⟩ = some (.iface t x) := k2.cell hcl hA
 have hle : ¬ ((i : Int) + 1 > vs.length) := by omega
 have hlI : (i : Int) < vs.length := by omega
 have E2 := hE.kept k2 p2
 have hlenI : (vs.length : Int) ≤ 1000 := by omega
 clear e1 b1 hi ha hcl p2 hE
 go_enter Tryz.func81, Tryz.ntmps81
 go_upto_region 1 with fail
 rw [← hW1]
 clear hW1
 go_upto_region 10 with fail
 rw [show (i : Int) + 1 + 1 = (i : Int) + 2 by omega, ← hW2]
 clear hW2
 go_wp2
 go_ret2
 exact ⟨rfl, E2, k2⟩
set_option maxRecDepth 1000000 in
set_option maxHeartbeats 2000000 in
theorem lit_J (p : Pc) (t : ByteArray) (hk : p.kind = 0) {w : World} {J : World → Prop} {g C : Nat} {l : List UInt8} {dp : Int} {av : Value} {vs : List Value} {nx : Int} (hE : EnJ J w g C l dp av vs nx) (hl : l.length + t.size ≤ 1000000000) :
  Calls Tryz.prog 56 #[.pointer (some ⟨g, 0, none⟩), .agg (pcV p t).toArray] w fun e w' => e = .returned (.tuple #[]) ∧ EnJ J w' g C (l ++ t.data.toList) dp av vs nx ∧ Kx (fun k => k = g) w w' := by
 have c0 : (pcV p t)[0]? = some (.int .i64 0) := by unfold pcV pieceV; rw [hk]; rfl
 have c1 : (pcV p t)[1]? = some (.string t) := rfl
 generalize pcV p t = H at *
 obtain ⟨W1, hW1⟩ : ∃ W1, W1 = w.alloc (.cells H.toArray 119) := ⟨_, rfl⟩
 have hB : Blk W1 w.heap.size H := by rw [hW1]; exact Blk.new w H 119
 have b1 : Below w.heap.size w W1 := by rw [hW1]; exact (Below.refl _ _).alloc (Nat.le_refl _) _
 have d0 := hB.c _ _ c0
 have d1 := hB.c _ _ c1
 have hg := hE.lt
 have E1 := hE.up b1
 clear hB c0 c1 hk
 go_enter Tryz.func56, Tryz.ntmps56
 go_upto_region 1 with fail
 rw [← hW1]
 clear hW1
 go_upto_region 3 with fail
 obtain ⟨Yd, hYd⟩ : ∃ Yd, Yd = W1.drew := ⟨_, rfl⟩
 have bY : Below w.heap.size w Yd := by rw [hYd]; exact b1.drew
 have EY : EnJ J Yd g C l dp av vs nx := hE.up bY
 have sY : Yd.cell? ⟨w.heap.size, 1, none⟩ = some (.string t) := by rw [hYd]; exact d1
 refine wp_region_held_drew (S := fun w' : World => w'.cell? ⟨w.heap.size, 1, none⟩ = some (.string t)) (by kernel_rfl) (by exact d1) ?_
 rw [← hYd]
 clear hYd E1 d0 d1 b1
 intro hS
 refine tk 0 (.pointer (some ⟨g, 0, none⟩)) rfl (by kernel_rfl) (fun _ _ _ h => h) (by rfl) (by assumption) ?_ ?_
 ·intro w5 s0
  go_simp
 try simp only [Act.put, List.getElem_toArray, List.getElem_cons_zero, List.getElem_cons_succ, List.setIfInBounds_toArray, List.set_cons_zero, List.set_cons_succ, List.length_cons]
 refine tk 1 (.pointer (some ⟨g, 0, none⟩)) rfl (by kernel_rfl) (fun _ _ _ h => h) (by rfl) (by assumption) ?_ ?_
 ·intro w5 s0
  go_simp
 try simp only [Act.put, List.getElem_toArray, List.getElem_cons_zero, List.getElem_cons_succ, List.setIfInBounds_toArray, List.set_cons_zero, List.set_cons_succ, List.length_cons]
 refine tk 2 (.pointer (some ⟨g, 0, none⟩)) rfl (by kernel_rfl) (fun _ _ _ h => h) (by rfl) (by assumption) ?_ ?_
 ·intro w5 s0
  go_simp
 try simp only [Act.put, List.getElem_toArray, List.getElem_cons_zero, List.getElem_cons_succ, List.setIfInBounds_toArray, List.set_cons_zero, List.set_cons_succ, List.length_cons]
 refine tk 3 (.pointer (some ⟨w.heap.size, 1, none⟩)) rfl (by kernel_rfl) (fun _ _ _ h => h) (by rfl) (by assumption) ?_ ?_
 ·intro w5 s0
  go_simp
 try simp only [Act.put, List.getElem_toArray, List.getElem_cons_zero, List.getElem_cons_succ, List.setIfInBounds_toArray, List.set_cons_zero, List.set_cons_succ, List.length_cons]
 refine tk 4 (.string t) rfl (by kernel_rfl) (fun _ _ _ h => h) (by rfl) (by assumption) ?_ ?_
 ·intro w5 s0
  go_simp
 try simp only [Act.put, List.getElem_toArray, List.getElem_cons_zero, List.getElem_cons_succ, List.setIfInBounds_toArray, List.set_cons_zero, List.set_cons_succ, List.length_cons]
 refine rd1 5 (by kernel_rfl) rfl fun K5 hK5 => ?_
 go_simp
 refine (put_any g l _ t Yd EY.p hl).mono ?_
 rintro e W2 ⟨rfl, p2, k2⟩
 have s2 : W2.cell? ⟨w.heap.size, 1, none⟩ = some (.string t) := k2.cell sY (by dsimp only; omega)
 refine hK5.out _ _ s2 (fun _ => ?_)
 clear hK5
 try simp only [Act.put, List.getElem_toArray, List.getElem_cons_zero, List.getElem_cons_succ, List.setIfInBounds_toArray, List.set_cons_zero, List.set_cons_succ, List.length_cons]
 refine wpAnyH_done (by kernel_rfl) ?_ _
 have E2 := EY.kept k2 p2
 have kk : Kx (fun k => k = g) w W2 := (Kx.of_below bY).trans k2
 clear EY sY s2 p2 k2 hE
 go_wp2
 go_end0
 exact ⟨rfl, E2, kk⟩
set_option maxRecDepth 1000000 in
set_option maxHeartbeats 2000000 in
theorem dir_J (p : Pc) (t : ByteArray) (f : Sq) (i : Nat) (tt : TypeId) (x : Value) (T : ByteArray) (m : Int) {w : World} {J : World → Prop} {g C : Nat} {l : List UInt8} {dp : Int} {av : Value} {vs : List Value} {nx : Int} (hE : EnJ J w g C l dp av vs nx)
  (hS : ∀ W, EnJ J W g C l dp av vs nx → Calls Tryz.prog 79 #[.pointer (some ⟨g, 0, none⟩), .agg (pcV p t).toArray] W fun e w' => e = .returned (SV f) ∧ EnJ J w' g C l dp av vs ((i : Int) + 1) ∧ Kx (fun k => k = g) W w')
  (hv : ¬ f.verb = 37) (ha : (pcV p t)[18]? = some (.int .i64 0)) (ha1 : (pcV p t)[19]? = some (.int .i64 m)) (hi : vs[i]? = some (.iface tt x)) (hlen : vs.length ≤ 1000)
  {J' : World → Prop} {P : Nat → Prop} (hPg : P g) (hPl : ∀ k, P k → k ≤ g) (hSh : ∀ W, EnJ J W g C l dp av vs ((i : Int) + 2) → Calls Tryz.prog 69 #[.pointer (some ⟨g, 0, none⟩), .iface tt x, SV f] W fun e w' => e = .returned (.string T) ∧ EnJ J' w' g C l dp av vs ((i : Int) + 2) ∧ Kx P W w') (hl : l.length + T.size ≤ 1000000000) :
  Calls Tryz.prog 66 #[.pointer (some ⟨g, 0, none⟩), .agg (pcV p t).toArray] w fun e w' => e = .returned (.tuple #[]) ∧ EnJ J' w' g C (l ++ T.data.toList) dp av vs ((i : Int) + 2) ∧ Kx P w w' := by
 have hlp := pcV_len p t
 generalize pcV p t = H at *
 obtain ⟨W1, hW1⟩ : ∃ W1, W1 = w.alloc (.cells H.toArray 119) := ⟨_, rfl⟩
 have hB : Blk W1 w.heap.size H := by rw [hW1]; exact Blk.new w H 119
 have b1 : Below w.heap.size w W1 := by rw [hW1]; exact (Below.refl _ _).alloc (Nat.le_refl _) _
 have hg := hE.lt
 have E1 := hE.up b1
 have hS1 := hS _ E1
 clear hS
 go_enter Tryz.func66, Tryz.ntmps66
 go_upto_region 1 with fail
 rw [← hW1]
 clear hW1
 go_upto_region 2 with (first | (refine wpl_ld row_Piece rfl (.tmp 3) rfl rfl hB.range hlp ?_) | (go_at_call 79; refine hS1.mono ?_; rintro e V ⟨rfl, eV, kV⟩))
 have hBV := hB.kx kV (by omega)
 obtain ⟨W4, hW4⟩ : ∃ W4, W4 = V.alloc (.cells #[.bool f.p, .bool f.mi, .bool f.sh, .bool f.sp, .bool f.z, .int .i64 f.wid, .int .i64 f.prec, .int .i32 f.verb] 113) := ⟨_, rfl⟩
 have b4 : Below V.heap.size V W4 := by rw [hW4]; exact (Below.refl _ _).alloc (Nat.le_refl _) _
 have hB4 := hBV.up b4
 have E4 := eV.up b4
 have q4 : W4.cell? ⟨V.heap.size, 0, none⟩ = some (.bool f.p) ∧ W4.cell? ⟨V.heap.size, 1, none⟩ = some (.bool f.mi) ∧ W4.cell? ⟨V.heap.size, 2, none⟩ = some (.bool f.sh) ∧ W4.cell? ⟨V.heap.size, 3, none⟩ = some (.bool f.sp) ∧ W4.cell? ⟨V.heap.size, 4, none⟩ = some (.bool f.z) ∧ W4.cell? ⟨V.heap.size, 5, none⟩ = some (.int .i64 f.wid) ∧ W4.cell? ⟨V.heap.size, 6, none⟩ = some (.int .i64 f.prec) ∧ W4.cell? ⟨V.heap.size, 7, none⟩ = some (.int .i32 f.verb) := by
  rw [hW4]
  refine ⟨?_, ?_, ?_, ?_, ?_, ?_, ?_, ?_⟩
  all_goals simp [go_sem]
 have d0 := hB4.c _ _ ha
 have d1 := hB4.c _ _ ha1
 have hgV : g < V.heap.size := eV.lt
 have k4 : Kx (fun k => k = g) w W4 := ((Kx.of_below b1).trans kV).trans (.of_below b4)
 have hT := take_J i E4 _ _ hi m hlen
 have v7 := q4.2.2.2.2.2.2.2
 rw [← hW4]
 clear hW4 hB hBV hB4 hS1 b1 kV eV E1 ha ha1 hE
 go_upto_region 6 with (go_at_call 81; refine hT.mono ?_; rintro e V5 ⟨rfl, E5, k5⟩)
 clear d0 d1 v7 E4 hT
 have k5' : Kx (fun k => k = g) w V5 := k4.trans k5
 have s5 : V5.cell? ⟨V.heap.size, 0, none⟩ = some (.bool f.p) ∧ V5.cell? ⟨V.heap.size, 1, none⟩ = some (.bool f.mi) ∧ V5.cell? ⟨V.heap.size, 2, none⟩ = some (.bool f.sh) ∧ V5.cell? ⟨V.heap.size, 3, none⟩ = some (.bool f.sp) ∧ V5.cell? ⟨V.heap.size, 4, none⟩ = some (.bool f.z) ∧ V5.cell? ⟨V.heap.size, 5, none⟩ = some (.int .i64 f.wid) ∧ V5.cell? ⟨V.heap.size, 6, none⟩ = some (.int .i64 f.prec) ∧ V5.cell? ⟨V.heap.size, 7, none⟩ = some (.int .i32 f.verb) := by
  obtain ⟨a0, a1, a2, a3, a4, a5, a6, a7⟩ := q4
  exact ⟨k5.cell a0 (by dsimp only; omega), k5.cell a1 (by dsimp only; omega), k5.cell a2 (by dsimp only; omega), k5.cell a3 (by dsimp only; omega), k5.cell a4 (by dsimp only; omega), k5.cell a5 (by dsimp only; omega), k5.cell a6 (by dsimp only; omega), k5.cell a7 (by dsimp only; omega)⟩
 clear q4 k4 k5
 go_upto_region 7 with fail
 obtain ⟨Yd, hYd⟩ : ∃ Yd, Yd = V5.drew := ⟨_, rfl⟩
 have bY : Below V5.heap.size V5 Yd := by rw [hYd]; exact (Below.refl _ _).drew
 have EY : EnJ J Yd g C l dp av vs ((i : Int) + 2) := E5.up bY
 have kY : Kx (fun k => k = g) w Yd := k5'.trans (.of_below bY)
 have sY : Yd.cell? ⟨V.heap.size, 0, none⟩ = some (.bool f.p) ∧ Yd.cell? ⟨V.heap.size, 1, none⟩ = some (.bool f.mi) ∧ Yd.cell? ⟨V.heap.size, 2, none⟩ = some (.bool f.sh) ∧ Yd.cell? ⟨V.heap.size, 3, none⟩ = some (.bool f.sp) ∧ Yd.cell? ⟨V.heap.size, 4, none⟩ = some (.bool f.z) ∧ Yd.cell? ⟨V.heap.size, 5, none⟩ = some (.int .i64 f.wid) ∧ Yd.cell? ⟨V.heap.size, 6, none⟩ = some (.int .i64 f.prec) ∧ Yd.cell? ⟨V.heap.size, 7, none⟩ = some (.int .i32 f.verb) := by rw [hYd]; exact s5
 refine wp_region_held_drew (S := fun w' : World => w'.cell? ⟨V.heap.size, 0, none⟩ = some (.bool f.p) ∧ w'.cell? ⟨V.heap.size, 1, none⟩ = some (.bool f.mi) ∧ w'.cell? ⟨V.heap.size, 2, none⟩ = some (.bool f.sh) ∧ w'.cell? ⟨V.heap.size, 3, none⟩ = some (.bool f.sp) ∧ w'.cell? ⟨V.heap.size, 4, none⟩ = some (.bool f.z) ∧ w'.cell? ⟨V.heap.size, 5, none⟩ = some (.int .i64 f.wid) ∧ w'.cell? ⟨V.heap.size, 6, none⟩ = some (.int .i64 f.prec) ∧ w'.cell? ⟨V.heap.size, 7, none⟩ = some (.int .i32 f.verb)) (by kernel_rfl) (by exact s5) ?_
 rw [← hYd]
 clear hYd E5 s5 k5' bY
 intro hS
 refine tk 0 (.pointer (some ⟨g, 0, none⟩)) rfl (by kernel_rfl) (fun _ _ _ h => h) (by rfl) (by assumption) ?_ ?_
 ·intro w5 s0
  go_simp
 try simp only [Act.put, List.getElem_toArray, List.getElem_cons_zero, List.getElem_cons_succ, List.setIfInBounds_toArray, List.set_cons_zero, List.set_cons_succ, List.length_cons]
 refine tk 1 (.pointer (some ⟨g, 0, none⟩)) rfl (by kernel_rfl) (fun _ _ _ h => h) (by rfl) (by assumption) ?_ ?_
 ·intro w5 s0
  go_simp
 try simp only [Act.put, List.getElem_toArray, List.getElem_cons_zero, List.getElem_cons_succ, List.setIfInBounds_toArray, List.set_cons_zero, List.set_cons_succ, List.length_cons]
 refine tk 2 (.pointer (some ⟨g, 0, none⟩)) rfl (by kernel_rfl) (fun _ _ _ h => h) (by rfl) (by assumption) ?_ ?_
 ·intro w5 s0
  go_simp
 try simp only [Act.put, List.getElem_toArray, List.getElem_cons_zero, List.getElem_cons_succ, List.setIfInBounds_toArray, List.set_cons_zero, List.set_cons_succ, List.length_cons]
 refine tk 3 (.pointer (some ⟨g, 0, none⟩)) rfl (by kernel_rfl) (fun _ _ _ h => h) (by rfl) (by assumption) ?_ ?_
 ·intro w5 s0
  go_simp
 try simp only [Act.put, List.getElem_toArray, List.getElem_cons_zero, List.getElem_cons_succ, List.setIfInBounds_toArray, List.set_cons_zero, List.set_cons_succ, List.length_cons]
 refine tk 4 (.iface tt x) rfl (by kernel_rfl) (fun _ _ _ h => h) (by rfl) (by assumption) ?_ ?_
 ·intro w5 s0
  go_simp
 try simp only [Act.put, List.getElem_toArray, List.getElem_cons_zero, List.getElem_cons_succ, List.setIfInBounds_toArray, List.set_cons_zero, List.set_cons_succ, List.length_cons]
 refine tk 5 (SV f) rfl (by kernel_rfl) (fun _ _ _ h => h) (by rfl) (by assumption) ?_ ?_
 ·intro w5 s0
  obtain ⟨a0, a1, a2, a3, a4, a5, a6, a7⟩ := s0
  go_simp
 try simp only [Act.put, List.getElem_toArray, List.getElem_cons_zero, List.getElem_cons_succ, List.setIfInBounds_toArray, List.set_cons_zero, List.set_cons_succ, List.length_cons]
 refine rd1 6 (by kernel_rfl) rfl fun K6 hK6 => ?_
 go_simp
 refine (hSh Yd EY).mono ?_
 rintro e W6 ⟨rfl, E6, b6⟩
 have sW6 : W6.cell? ⟨V.heap.size, 0, none⟩ = some (.bool f.p) ∧ W6.cell? ⟨V.heap.size, 1, none⟩ = some (.bool f.mi) ∧ W6.cell? ⟨V.heap.size, 2, none⟩ = some (.bool f.sh) ∧ W6.cell? ⟨V.heap.size, 3, none⟩ = some (.bool f.sp) ∧ W6.cell? ⟨V.heap.size, 4, none⟩ = some (.bool f.z) ∧ W6.cell? ⟨V.heap.size, 5, none⟩ = some (.int .i64 f.wid) ∧ W6.cell? ⟨V.heap.size, 6, none⟩ = some (.int .i64 f.prec) ∧ W6.cell? ⟨V.heap.size, 7, none⟩ = some (.int .i32 f.verb) := by
  obtain ⟨a0, a1, a2, a3, a4, a5, a6, a7⟩ := sY
  exact ⟨b6.cell a0 (fun hp => by have := hPl _ hp; dsimp only at this; omega), b6.cell a1 (fun hp => by have := hPl _ hp; dsimp only at this; omega), b6.cell a2 (fun hp => by have := hPl _ hp; dsimp only at this; omega), b6.cell a3 (fun hp => by have := hPl _ hp; dsimp only at this; omega), b6.cell a4 (fun hp => by have := hPl _ hp; dsimp only at this; omega), b6.cell a5 (fun hp => by have := hPl _ hp; dsimp only at this; omega), b6.cell a6 (fun hp => by have := hPl _ hp; dsimp only at this; omega), b6.cell a7 (fun hp => by have := hPl _ hp; dsimp only at this; omega)⟩
 refine hK6.out _ _ sW6 (fun _ => ?_)
 clear hK6
 try simp only [Act.put, List.getElem_toArray, List.getElem_cons_zero, List.getElem_cons_succ, List.setIfInBounds_toArray, List.set_cons_zero, List.set_cons_succ, List.length_cons]
 have k6 : Kx P w W6 := (kY.mono (fun k _ h => h ▸ hPg)).trans b6
 clear EY sY b6 kY hSh
 refine rd1 7 (by kernel_rfl) rfl fun K7 hK7 => ?_
 go_simp
 refine (put_any g l _ T W6 E6.p hl).mono ?_
 rintro e W7 ⟨rfl, p7, k7⟩
 have sW7 : W7.cell? ⟨V.heap.size, 0, none⟩ = some (.bool f.p) ∧ W7.cell? ⟨V.heap.size, 1, none⟩ = some (.bool f.mi) ∧ W7.cell? ⟨V.heap.size, 2, none⟩ = some (.bool f.sh) ∧ W7.cell? ⟨V.heap.size, 3, none⟩ = some (.bool f.sp) ∧ W7.cell? ⟨V.heap.size, 4, none⟩ = some (.bool f.z) ∧ W7.cell? ⟨V.heap.size, 5, none⟩ = some (.int .i64 f.wid) ∧ W7.cell? ⟨V.heap.size, 6, none⟩ = some (.int .i64 f.prec) ∧ W7.cell? ⟨V.heap.size, 7, none⟩ = some (.int .i32 f.verb) := by
  obtain ⟨a0, a1, a2, a3, a4, a5, a6, a7⟩ := sW6
  exact ⟨k7.cell a0 (by dsimp only; omega), k7.cell a1 (by dsimp only; omega), k7.cell a2 (by dsimp only; omega), k7.cell a3 (by dsimp only; omega), k7.cell a4 (by dsimp only; omega), k7.cell a5 (by dsimp only; omega), k7.cell a6 (by dsimp only; omega), k7.cell a7 (by dsimp only; omega)⟩
 refine hK7.out _ _ sW7 (fun _ => ?_)
 clear hK7
 try simp only [Act.put, List.getElem_toArray, List.getElem_cons_zero, List.getElem_cons_succ, List.setIfInBounds_toArray, List.set_cons_zero, List.set_cons_succ, List.length_cons]
 refine wpAnyH_done (by kernel_rfl) ?_ _
 have E7 := E6.kept k7 p7
 have kk : Kx P w W7 := k6.trans (k7.mono (fun k _ h => h ▸ hPg))
 clear E6 sW6 sW7 p7 k7 k6
 go_wp2
 go_end0
 exact ⟨rfl, E7, kk⟩
set_option maxRecDepth 1000000 in
set_option maxHeartbeats 2000000 in
theorem piece_J (p : Pc) (t : ByteArray) (hk : p.kind = 1) (o : List UInt8) (nx' : Int) {w : World} {J : World → Prop} {g C : Nat} {l : List UInt8} {dp : Int} {av : Value} {vs : List Value} {nx : Int} (hE : EnJ J w g C l dp av vs nx)
  {J' : World → Prop} {P : Nat → Prop} (hD : ∀ W, EnJ J W g C l dp av vs nx → Calls Tryz.prog 66 #[.pointer (some ⟨g, 0, none⟩), .agg (pcV p t).toArray] W fun e w' => e = .returned (.tuple #[]) ∧ EnJ J' w' g C (l ++ o) dp av vs nx' ∧ Kx P W w') :
  Calls Tryz.prog 56 #[.pointer (some ⟨g, 0, none⟩), .agg (pcV p t).toArray] w fun e w' => e = .returned (.tuple #[]) ∧ EnJ J' w' g C (l ++ o) dp av vs nx' ∧ Kx P w w' := by
 have c0 : (pcV p t)[0]? = some (.int .i64 1) := by unfold pcV pieceV; rw [hk]; rfl
 have hlp := pcV_len p t
 generalize pcV p t = H at *
 obtain ⟨W1, hW1⟩ : ∃ W1, W1 = w.alloc (.cells H.toArray 119) := ⟨_, rfl⟩
 have hB : Blk W1 w.heap.size H := by rw [hW1]; exact Blk.new w H 119
 have b1 : Below w.heap.size w W1 := by rw [hW1]; exact (Below.refl _ _).alloc (Nat.le_refl _) _
 have hg := hE.lt
 have E1 := hE.up b1
 have d0 := hB.c _ _ c0
 have hD1 := hD _ E1
 clear hD c0 hk
 go_enter Tryz.func56, Tryz.ntmps56
 go_upto_region 1 with fail
 rw [← hW1]
 clear hW1
 go_wp2_with (first | (refine wpl_ld row_Piece rfl (.tmp 3) rfl rfl hB.range hlp ?_) | (go_at_call 66; refine hD1.mono ?_; rintro e V ⟨rfl, eV, kV⟩))
 go_end0
 exact ⟨rfl, eV, (Kx.of_below b1).trans kV⟩
def PcJ (P : Nat → Prop) (g C : Nat) (dp : Int) (av : Value) (vs : List Value) (p : Pc) (J J' : World → Prop) (nx nx' : Int) (o : List UInt8) : Prop :=
 ∀ (w : World) (l : List UInt8), EnJ J w g C l dp av vs nx → l.length + o.length ≤ 900000000 → Calls Tryz.prog 56 #[.pointer (some ⟨g, 0, none⟩), .agg (pcV p (ba p.text)).toArray] w fun e w' => e = .returned (.tuple #[]) ∧ EnJ J' w' g C (l ++ o) dp av vs nx' ∧ Kx P w w'
def PsJ (P : Nat → Prop) (g C : Nat) (dp : Int) (av : Value) (vs : List Value) : List Pc → (World → Prop) → (World → Prop) → Int → Int → List UInt8 → Prop
 | [], J, J', nx, nx', o => o = [] ∧ nx = nx' ∧ J = J'
 | p :: t, J, J', nx, nx', o => ∃ o1 o2 n1 J1, PcJ P g C dp av vs p J J1 nx n1 o1 ∧ PsJ P g C dp av vs t J1 J' n1 nx' o2 ∧ o = o1 ++ o2
theorem psJ_next {P : Nat → Prop} {g C : Nat} {dp : Int} {av : Value} {vs : List Value} {ps : List Pc} {j : Nat} {p : Pc} {J J' : World → Prop} {nx nx' : Int} {o : List UInt8} (hp : ps[j]? = some p) (h : PsJ P g C dp av vs (ps.drop j) J J' nx nx' o) :
  ∃ o1 o2 n1 J1, PcJ P g C dp av vs p J J1 nx n1 o1 ∧ PsJ P g C dp av vs (ps.drop (j + 1)) J1 J' n1 nx' o2 ∧ o = o1 ++ o2 := by
 obtain ⟨hj, rfl⟩ := List.getElem?_eq_some_iff.1 hp
 rw [List.drop_eq_getElem_cons hj] at h
 exact h
set_option maxRecDepth 1000000 in
set_option maxHeartbeats 2000000 in
theorem format_J (s : ByteArray) (hs : s.size ≤ 100000) (ps : List Pc) (hps : prs s.data.toList = ps) (hno : ∀ p ∈ ps, noIx p) (o ox : List UInt8) {w : World} {J : World → Prop} {g C : Nat} {dp : Int} {av : Value} {vs : List Value} {nx nx' : Int} {J' : World → Prop} {P : Nat → Prop} (hPg : P g) (hPl : ∀ k, P k → k ≤ g) (hE : EnJ J w g C [] dp av vs nx)
  (hP : PsJ P g C dp av vs ps J J' nx nx' o) (hov : ps.length ≤ 1 ∨ o.length ≤ 4096) (ho : o.length ≤ 100000) (hX : ∀ W, EnJ J' W g C o dp av vs nx' → Calls Tryz.prog 59 #[.pointer (some ⟨g, 0, none⟩)] W fun e w' => e = .returned (.tuple #[]) ∧ EnJ J' w' g C (o ++ ox) dp av vs nx' ∧ Below W.heap.size W w') :
  Calls Tryz.prog 51 #[.pointer (some ⟨g, 0, none⟩), .string s] w fun e w' => e = .returned (.tuple #[]) ∧ EnJ J' w' g C (o ++ ox) dp av vs nx' ∧ Kx P w w' := by
 have hPS := parse_any s (by omega) w
 have hlen : ps.length ≤ 100000 := by
  have := prs_len s.data.toList
  rw [hps] at this
  have e : s.size = s.data.toList.length := by rw [Array.length_toList]; rfl
  omega
 rw [hps] at hPS
 clear hps hs
 have hlI : (ps.length : Int) ≤ 100000 := by omega
 have hg := hE.lt
 have hz0 := zero_pc
 have hzl : (pieceV 0 ⟨#[]⟩ fl0 0 0 nb0 nb0 ix0).length = 20 := rfl
 generalize pieceV 0 ⟨#[]⟩ fl0 0 0 nb0 nb0 ix0 = ZV at *
 go_enter Tryz.func51, Tryz.ntmps51
 go_upto_region 1 with (go_at_call 54; refine hPS.mono ?_; rintro e W1 ⟨v, rfl, hrow, bW⟩)
 obtain ⟨a, c, rfl, hc1, hc2⟩ := own_slice9 hrow
 have hcI : (ps.length : Int) ≤ c := by omega
 have hra : 0 < ps.length → ∃ G, a = some ⟨G, 0, none⟩ ∧ w.heap.size ≤ G ∧ G < W1.heap.size ∧ RowAt W1 G ps := fun h => own_row hrow h
 have E1 := hE.up bW
 have k1 : Kx P w W1 := .of_below bW
 clear hrow hPS hE
 go_wp2
 go_loopg [6, 11] ps.length (fun gg z i wr => ∃ (j : Nat) (o1 o2 : List UInt8) (nj : Int) (Jj : World → Prop), i = .int .i64 j ∧ j + gg = ps.length ∧ Kx P W1 wr ∧ EnJ Jj wr g C o1 dp av vs nj ∧ PsJ P g C dp av vs (ps.drop j) Jj J' nj nx' o2 ∧ Hid (o1 ++ o2 = o) ∧ Hid (j = 0 → o1 = []))
 case atStart => exact ⟨0, [], o, nx, J, rfl, Nat.zero_add _, Kx.refl _ _, E1, hP, (rfl : _ = _), (fun _ => rfl : _ → _)⟩
 case round =>
  obtain ⟨j, o1, o2, nj, Jj, rfl, hjg, kj, Ej, hPj, hoo, hj0⟩ := hrel
  by_cases hlt : j < ps.length
  ·have hltI : (j : Int) < ps.length := by omega
   obtain ⟨G, rfl, hG0, hG, hR⟩ := hra (by omega)
   obtain ⟨p, hp⟩ : ∃ p, ps[j]? = some p := ⟨ps[j], List.getElem?_eq_getElem hlt⟩
   obtain ⟨q1, q2, n1, J1, hp1, hp2, rfl⟩ := psJ_next hp hPj
   have hR' := hR.kept (kj.block G hG (fun hp => by have := hPl _ hp; omega))
   have hr : wr.rangeAt G (j * 20) (pcV p (ba p.text)) := hR' j p hp
   have hsz : o1.length + (q1 ++ q2).length = o.length := by rw [← hoo.out]; simp only [List.length_append]
   rw [List.length_append] at hsz
   have ho1 : ¬ (4096 : Int) < o1.length := by
    rcases hov with h | h
    ·have : o1 = [] := hj0.out (by omega)
     rw [this]; decide
    ·omega
   have hl : (pcV p (ba p.text)).length = 20 := rfl
   have h1 := pcV_one p (ba p.text)
   unfold PcJ at hp1
   have hoo' : Hid (o1 ++ q1 ++ q2 = o) := by have := hoo.out; rw [← List.append_assoc] at this; exact this
   clear hR hR' hra hp hPj hoo hj0
   generalize pcV p (ba p.text) = H at *
   have k2 : Blk (wr.alloc (.cells ZV.toArray 119)) wr.heap.size ZV := Blk.new wr ZV 119
   have b3 : Below wr.heap.size wr ((wr.alloc (.cells ZV.toArray 119)).setCells wr.heap.size 0 H) := xbelow_sc ((Below.refl _ _).alloc (Nat.le_refl _) _) (Nat.le_refl _) _ _
   have k3 : Blk ((wr.alloc (.cells ZV.toArray 119)).setCells wr.heap.size 0 H) wr.heap.size H := k2.all _ (by rw [hl, hzl])
   go_upto_region 4 with (first | (refine wpl_ld row_Piece rfl (.tmp 13) rfl rfl hr hl ?_) | (refine wpl_allocz hz0 rfl rfl ?_) | (refine wpl_st row_Piece rfl (.tmp 6) (.tmp 14) rfl (us := H) rfl rfl k2 hzl hl h1 ?_; generalize (wr.alloc (.cells ZV.toArray 119)).setCells wr.heap.size 0 H = W3 at *))
   have E3 := Ej.up b3
   have hOv := over_any g o1 _ W3 E3.p
   have hC := hp1 W3 o1 E3 (by omega)
   clear Ej hr k2 hp1 E3
   go_wp2_with (first | (refine wpl_ld row_Piece rfl (.tmp 6) rfl rfl k3.range hl ?_) | (go_at_call 55; refine hOv.mono ?_; rintro e w9 ⟨rfl, q9⟩; subst q9) | (go_at_call 56; refine hC.mono ?_; rintro e W4 ⟨rfl, E4, k4⟩))
   go_roundg (gk - 1)
   case measure => omega
   case rel => exact ⟨j + 1, o1 ++ q1, q2, n1, J1, by go_num, by omega, (kj.trans (.of_below b3)).trans k4, E4, hp2, hoo', (fun h => by omega : _ → _)⟩
  ·have hltI : ¬ (j : Int) < ps.length := by omega
   have hd : ps.drop j = [] := List.drop_eq_nil_of_le (by omega)
   rw [hd] at hPj
   obtain ⟨rfl, rfl, rfl⟩ := hPj
   have hoo2 : o1 = o := by have := hoo.out; rwa [List.append_nil] at this
   subst hoo2
   have hC := contains_no ps a c wr hlen (fun h => by
    obtain ⟨G, h1, h2, h3, h4⟩ := hra h
    exact ⟨G, h1, Nat.lt_of_lt_of_le h3 kj.size, h4.kept (kj.block G h3 (fun hp => by have := hPl _ hp; omega))⟩) hno
   clear hra hno hj0 hoo
   go_wp2_with (first | (go_at_call 57; refine hC.mono ?_; rintro e W3 ⟨rfl, b3⟩; have hX3 := hX W3 (Ej.up b3)) | (go_at_call 59; refine hX3.mono ?_; rintro e W4 ⟨rfl, p4, k4⟩))
   go_end0
   exact ⟨rfl, p4, ((k1.trans kj).trans (.of_below b3)).trans (.of_below k4)⟩
set_option maxRecDepth 1000000 in
set_option maxHeartbeats 2000000 in
theorem extra_J {w : World} {J : World → Prop} {g C : Nat} {l : List UInt8} {dp : Int} {av : Value} {vs : List Value} {nx : Int} (hE : EnJ J w g C l dp av vs nx) (hn : (vs.length : Int) < nx) :
  Calls Tryz.prog 59 #[.pointer (some ⟨g, 0, none⟩)] w fun e w' => e = .returned (.tuple #[]) ∧ EnJ J w' g C (l ++ []) dp av vs nx ∧ Below w.heap.size w w' := by
 rw [List.append_nil]
 obtain ⟨a, c, rfl, hc1, hc2, ha⟩ := hE.a
 have q3 : w.cell? ⟨g, 4100, none⟩ = some (.int .i64 nx) := hE.p.tl (i := 3) rfl
 have q2 : w.cell? ⟨g, 4099, none⟩ = some (.slice a vs.length c) := hE.p.tl (i := 2) rfl
 clear ha
 go_enter Tryz.func59, Tryz.ntmps59
 go_wp2
 go_quiet (fail)
 all_goals go_wp2
 all_goals refine bodyPost_ret (results_none rfl _ _ _) rfl ?_
 all_goals exact ⟨rfl, hE.up (below_drewN (Below.refl _ _) _), below_drewN (Below.refl _ _) _⟩
end Go.Proofs.YtdlnmnipnkeabaaGreatDoor
namespace Go.Proofs.YtdlnmnipnkeabaaGreatDoor
open Go.RowKit
set_option linter.unusedVariables false
set_option linter.unusedSimpArgs false
def dH : Ds := ⟨6, ⟨#[]⟩, 0, 0, ⟨#[]⟩, .no, .no, 1⟩
structure Cx where
 C : Nat
 M : Nat
 AB : Nat
 B0 : Nat
 c : Nat
 f : ByteArray
abbrev Cx.l (X : Cx) : Sl := ⟨some ⟨X.AB, 0, none⟩, 1, X.c⟩
abbrev Cx.h (X : Cx) : Hk := hkP X.f X.l
structure CS (X : Cx) (b : Nat) (w : World) : Prop where
 c1 : w.cell? ⟨X.C, 1, none⟩ = some (.map (some X.M))
 c2 : ∃ n : Nat, n ≤ b ∧ w.cell? ⟨X.C, 2, none⟩ = some (.int .i64 n)
 z : w.frozen? ⟨X.C, 2, none⟩ = false
 m : w.heap[X.M]? = some (.map (oneE (.agg X.h.v.toArray)) 1)
 r : w.rangeAt X.AB 0 dH.v
 e : Esc w
 k : KN w
 o : X.C < X.B0 ∧ X.M < X.B0 ∧ X.AB < X.B0 ∧ 2 < X.B0 ∧ 1 < X.B0 ∧ X.B0 ≤ w.heap.size
 d : X.AB ≠ X.C ∧ X.M ≠ X.C ∧ 2 ≠ X.C ∧ 1 ≠ X.C
theorem CS.kx {X : Cx} {b : Nat} {w w' : World} (h : CS X b w) (k : Kx (fun k => X.B0 ≤ k) w w') : CS X b w' := by
 obtain ⟨c1, ⟨n, hn, c2⟩, z, m, r, e, kn, ⟨o1, o2, o3, o4, o5, o6⟩, d⟩ := h
 exact ⟨k.cell c1 (by dsimp only; omega), ⟨n, hn, k.cell c2 (by dsimp only; omega)⟩, (World.frozen?_of_block (w := w) (a := ⟨X.C, 2, none⟩) (k.block X.C (by omega) (by omega))).trans z, (k.block X.M (by omega) (by omega)).trans m, fun j v hv => k.cell (r j v hv) (by dsimp only; omega), ⟨Nat.lt_of_lt_of_le e.1 k.size, fun i hi => k.cell (e.2 i hi) (by dsimp only; omega)⟩, fun i s hs => k.cell (kn i s hs) (by dsimp only; omega), ⟨o1, o2, o3, o4, o5, Nat.le_trans o6 k.size⟩, d⟩
theorem CS.up {X : Cx} {b : Nat} {w w' : World} (h : CS X b w) (k : Below w.heap.size w w') : CS X b w' := h.kx (.of_below k)
theorem CS.mono {X : Cx} {b b' : Nat} {w : World} (h : CS X b w) (hb : b ≤ b') : CS X b' w := by
 obtain ⟨c1, ⟨n, hn, c2⟩, z, m, r, e, k, o, d⟩ := h
 exact ⟨c1, ⟨n, Nat.le_trans hn hb, c2⟩, z, m, r, e, k, o, d⟩
theorem CS.more {X : Cx} {b n : Nat} {w : World} (h : CS X b w) (hn : n ≤ b) (c2 : w.cell? ⟨X.C, 2, none⟩ = some (.int .i64 n)) : CS X (b + 1) (w.setCell ⟨X.C, 2, none⟩ (.int .i64 ((n : Int) + 1))) := by
 obtain ⟨c1, -, z, m, r, e, kn, ⟨o1, o2, o3, o4, o5, o6⟩, ⟨d1, d2, d3, d4⟩⟩ := h
 have k : Kx (fun k => k = X.C) w (w.setCell ⟨X.C, 2, none⟩ (.int .i64 ((n : Int) + 1))) := (Kx.refl (fun k => k = X.C) _).setCell _ _ (Or.inl rfl) _
 exact ⟨(World.cell?_setCell_other w ⟨X.C, 2, none⟩ ⟨X.C, 1, none⟩ _ (by simp)).trans c1, ⟨n + 1, by omega, by rw [World.cell?_setCell_same w ⟨X.C, 2, none⟩ _ c2]; simp⟩, by rw [World.frozen?_setCell]; exact z, (k.block X.M (by omega) d2).trans m, fun j v hv => k.cell (r j v hv) d1, ⟨by simpa using e.1, fun i hi => k.cell (e.2 i hi) d3⟩, fun i s hs => k.cell (kn i s hs) d4, ⟨o1, o2, o3, o4, o5, by simpa using o6⟩, ⟨d1, d2, d3, d4⟩⟩
theorem wrapD (x : Int) (h0 : -9223372036854775808 ≤ x) (h1 : x ≤ 9223372036854775807) : IntKind.i64.wrap x = x := by
 rw [IntKind.wrap_i64]
 omega
theorem Kx.drop {P : Nat → Prop} {a b c : World} {g : Nat} (h1 : Kx P a b) (h2 : Kx (fun k => k = g ∨ P k) b c) (hg : a.heap.size ≤ g) : Kx P a c :=
 ⟨h2.os.trans h1.os, h2.tape.trans h1.tape, h2.output.trans h1.output, Nat.le_trans h1.size h2.size, fun k hk hp => (h2.block k (Nat.lt_of_lt_of_le hk h1.size) (fun h => h.elim (fun e => by omega) hp)).trans (h1.block k hk hp)⟩
set_option maxRecDepth 1000000 in
set_option maxHeartbeats 4000000 in
theorem at_R (s : ByteArray) (args : Value) (R : Nat → World → Prop) (o : List UInt8) (C : Nat) (dp : Int) (h0 : 0 ≤ dp) (h3 : dp ≤ 3) {J' : World → Prop} {P : Nat → Prop} (w : World) (ho : o.length ≤ 1000000) (hJ : ∀ W W', J' W → Below W.heap.size W W' → J' W')
  (hBg : Calls Tryz.prog 50 #[.pointer (some ⟨C, 0, none⟩), .int .i64 dp, args] w fun e w' => ∃ g, e = .returned (.pointer (some ⟨g, 0, none⟩)) ∧ w.heap.size ≤ g ∧ R g w' ∧ Below w.heap.size w w')
  (hF : ∀ g W, w.heap.size ≤ g → Below w.heap.size w W → R g W → Calls Tryz.prog 51 #[.pointer (some ⟨g, 0, none⟩), .string s] W fun e w' => e = .returned (.tuple #[]) ∧ (∃ tl, IsPr w' g o tl) ∧ J' w' ∧ Kx (fun k => k = g ∨ P k) W w') :
  Calls Tryz.prog 44 #[.pointer (some ⟨C, 0, none⟩), .int .i64 dp, .string s, args] w fun e w' => e = .returned (.string (txt o)) ∧ J' w' ∧ Kx P w w' := by
 have h3' : ¬ 3 < dp := by omega
 go_enter Tryz.func44, Tryz.ntmps44
 go_upto_region 4 with (go_at_call 50; refine hBg.mono ?_; rintro e W ⟨g, rfl, hg, hR, bW⟩; have hF1 := hF g W hg bW hR)
 go_upto_region 5 with (go_at_call 51; refine hF1.mono ?_; rintro e W2 ⟨rfl, ⟨tl, p2⟩, j2, k2⟩; have hT := text_any g o tl W2 p2 (by omega))
 go_wp2_with (go_at_call 52; refine hT.mono ?_; rintro e W3 ⟨rfl, b3⟩)
 go_ret
 exact ⟨rfl, hJ _ _ j2 b3, ((Kx.of_below bW).drop k2 hg).trans (.of_below b3)⟩
theorem at_J (s : ByteArray) (args : Value) (vs : List Value) (o : List UInt8) (C : Nat) (dp : Int) (h0 : 0 ≤ dp) (h3 : dp ≤ 3) {J' : World → Prop} {P : Nat → Prop} (w : World) (ho : o.length ≤ 1000000) (hJ : ∀ W W', J' W → Below W.heap.size W W' → J' W')
  (hBg : Calls Tryz.prog 50 #[.pointer (some ⟨C, 0, none⟩), .int .i64 dp, args] w fun e w' => ∃ g, e = .returned (.pointer (some ⟨g, 0, none⟩)) ∧ w.heap.size ≤ g ∧ BgR w' C g dp vs ∧ Below w.heap.size w w')
  (hF : ∀ g W, w.heap.size ≤ g → Below w.heap.size w W → BgR W C g dp vs → Calls Tryz.prog 51 #[.pointer (some ⟨g, 0, none⟩), .string s] W fun e w' => e = .returned (.tuple #[]) ∧ (∃ tl, IsPr w' g o tl) ∧ J' w' ∧ Kx (fun k => k = g ∨ P k) W w') :
  Calls Tryz.prog 44 #[.pointer (some ⟨C, 0, none⟩), .int .i64 dp, .string s, args] w fun e w' => e = .returned (.string (txt o)) ∧ J' w' ∧ Kx P w w' :=
 at_R s args (fun g W => BgR W C g dp vs) o C dp h0 h3 w ho hJ hBg hF
end Go.Proofs.YtdlnmnipnkeabaaGreatDoor
