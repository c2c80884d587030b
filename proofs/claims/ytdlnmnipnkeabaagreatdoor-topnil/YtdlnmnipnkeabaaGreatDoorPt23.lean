/- TPress, UTop: these texts in one. -/
import Derived.Test.YtdlnmnipnkeabaaGreatDoorPt22
import Derived.Deep.RegionHeld
import Derived.Test.YtdlnmnipnkeabaaGreatDoorPt21
import Derived.Test.YtdlnmnipnkeabaaGreatDoorUNum
namespace Go.Proofs.YtdlnmnipnkeabaaGreatDoor
open Go.RowKit Go.Conc
set_option linter.unusedVariables false
set_option linter.unusedSimpArgs false
theorem eqP1 (c : Nat) (w : World) : (binOp BinOp.eql 49 (.pointer (some ⟨c, 0, none⟩)) (.pointer none)).run Tryz.prog w = .ok (.bool false) w := by kernel_rfl
theorem eqP2 (c : Nat) (w : World) : (binOp BinOp.eql 54 (.pointer (some ⟨c, 0, none⟩)) (.pointer none)).run Tryz.prog w = .ok (.bool false) w := by kernel_rfl
theorem new_any (tv : Value) (R : Option Addr → Nat → Nat → Nat → World → Prop) (w : World)
  (hR : ∀ a n k hi W W', R a n k hi W → Kx (fun b => hi ≤ b) W W' → R a n k hi W')
  (hC : ∀ W, Below w.heap.size w W → Calls Tryz.prog 19 #[tv] W fun e W' => ∃ a n k, e = .returned (.slice a n k) ∧ Hid (R a n k W'.heap.size W') ∧ Below W.heap.size W W') :
  Calls Tryz.prog 16 #[tv, .bool false] w fun e w' => ∃ p B c RB hi a n k, e = .returned (.pointer (some ⟨p, 0, none⟩)) ∧ Hid (w.heap.size ≤ hi ∧ hi ≤ p ∧ hi ≤ B ∧ hi ≤ c ∧ hi ≤ RB ∧ p ≠ B ∧ p ≠ c ∧ RB ≠ p ∧ RB ≠ B ∧ RB ≠ c ∧ Blk w' p [.pointer (some ⟨B, 0, none⟩), .int .i64 0] ∧ StoM w' B c 1 [] (.func (.func 21) #[] #[.pointer (some ⟨RB, 0, none⟩)]) 0 ∧ Blk w' RB [.slice a n k] ∧ R a n k hi w') ∧ Below w.heap.size w w' := by
 have hC1 := hC w (Below.refl _ _)
 have hmf : ∀ (fn : Fn) (first cap : Array Value) (w : World), (Instr.makeFunc fn first cap).run Tryz.prog w = .ok (.func fn first cap) w := fun _ _ _ _ => rfl
 have hN := fun RB W => newm_1 (.func 21) #[] #[.pointer (some ⟨RB, 0, none⟩)] W
 go_enter Tryz.func16, Tryz.ntmps16
 go_upto_region 2 with (first | (go_at_call 19; refine hC1.mono ?_; rintro e W1 ⟨a, n, k, rfl, hR1, b1⟩; have hs1 := b1.size))
 obtain ⟨W2, hW2⟩ : ∃ W2, W2 = W1.alloc (.cells #[.slice a n k] 35) := ⟨_, rfl⟩
 have b2 : Below W1.heap.size W1 W2 := by rw [hW2]; exact (Below.refl _ _).alloc (Nat.le_refl _) _
 have x2 : Blk W2 W1.heap.size [.slice a n k] := by rw [hW2]; exact Blk.new _ [_] _
 rw [← hW2]
 clear hW2
 have hs2 := x2.b
 go_wp2_with (go_at_call 20; refine (hN _ _).mono ?_; rintro e W3 ⟨B, c, rfl, hh, b3⟩)
 obtain ⟨hB, hc, s3⟩ := hh.out
 have hs3 := b3.size
 have b4 : Below W3.heap.size W3 (W3.alloc (.cells #[.pointer (some ⟨B, 0, none⟩), .int .i64 0] 60)) := (Below.refl _ _).alloc (Nat.le_refl _) _
 have hBl := s3.bx.b
 have hcl := s3.cb
 go_ret
 refine ⟨W3.heap.size, B, c, W1.heap.size, W1.heap.size, a, n, k, rfl, ⟨hs1, by omega, by omega, by omega, Nat.le_refl _, by omega, by omega, by omega, by omega, by omega, Blk.new _ [_, _] _, s3.up b4, (x2.up b3).up b4, ?_⟩, ?_⟩
 ·exact hR _ _ _ _ _ _ hR1.out (((Kx.of_below b2).trans (.of_below b3)).trans (.of_below b4))
 ·exact ((b1.trans (b2.mono hs1)).trans (b3.mono (by omega))).trans (b4.mono (by omega))
theorem leaves_tmps {P : Program} {fn : Func} {t t' : Array Value} {R : Ending → World → Prop} (h : results fn t = results fn t') : ∀ (ds : List Deferred) (u : FrameMode) (w : World), Leaves P fn t R ds u w → Leaves P fn t' R ds u w
 | [], .returning, w, ⟨v, h1, h2⟩ => ⟨v, by rw [← h]; exact h1, h2⟩
 | [], .panicking _, _, h1 => h1
 | [], .run, _, h1 => h1
 | d :: ds, u, w, ⟨h1, fv, cap, f, args, h2, h3, h4⟩ => ⟨h1, fv, cap, f, args, h2, h3, h4.mono fun e u' w' => by
     cases e with
     | returned v => exact leaves_tmps h ds _ _
     | panicked chain => exact leaves_tmps h ds _ _
     | outgrown => exact id⟩
theorem pan_put {R : Ending → World → Prop} {d : Nat} (hd : d ≠ 4) {x : List PanicEntry} {a : Act} {v : Value} {w : World} (h : bodyPostD Tryz.prog Tryz.f27 R (.panic x) (a.put (some d) v) w) : bodyPostD Tryz.prog Tryz.f27 R (.panic x) a w := by
 refine leaves_tmps ?_ _ _ _ h
 simp [results, Tryz.results27, Act.put, Array.getElem?_setIfInBounds, hd]
set_option maxRecDepth 100000 in
theorem call_any (p B c RB fb ab : Nat) (m : Int) (h0 : 0 ≤ m) (h1 : m < 4611686018427387904) (a : Option Addr) (n k : Nat) (T : ByteArray) (w : World) (x : Blk w p [.pointer (some ⟨B, 0, none⟩), .int .i64 m]) (s : StoM w B c 1 [] (.func (.func 21) #[] #[.pointer (some ⟨RB, 0, none⟩)]) m) (r : Blk w RB [.slice a n k])
  (hpB : p ≠ B) (hpc : p ≠ c) (hRp : RB ≠ p)
  (hF : ∀ W, Kx (fun b => b = p ∨ b = B) w W → Calls Tryz.prog 28 #[mkV a n k, .pointer (some ⟨fb, 0, none⟩), .pointer (some ⟨ab, 0, none⟩)] W fun e W' => e = .returned (.string T) ∧ Below W.heap.size W W') :
  Calls Tryz.prog 27 #[.pointer (some ⟨p, 0, none⟩), .func (.func 28) #[] #[.pointer (some ⟨fb, 0, none⟩), .pointer (some ⟨ab, 0, none⟩)]] w fun e w' => e = .returned (.string T) ∧ Kx (fun b => b = p ∨ b = B ∨ b = c) w w' := by
 have c0 := x.c 0 _ rfl
 have c1 := x.c 1 _ rfl
 have z1 := x.z 1
 have hn1 := fun w => eqP1 p w
 have hn2 := fun w => eqP2 B w
 have hp := x.b
 have hB := s.bx.b
 have hc := s.cb
 have hR := r.b
 have x1 := x.one 1 (.int .i64 (m + 1)) (by simp)
 have k1 : Kx (fun b => b = p) w (w.setCell ⟨p, 1, none⟩ (.int .i64 (m + 1))) := (Kx.refl (fun b => b = p) _).setCell _ _ (.inl rfl) _
 have s1 := s.kx k1 (fun e => hpB e.symm) (fun e => hpc e.symm)
 have r1 := r.kx k1 hRp
 have hG := fun W h => getm_any (w := W) (B := B) (c := c) (cap := 1) (m := m) (RB := RB) h h0 (by omega) a n k
 go_enter_defers Tryz.func27, Tryz.ntmps27
 go_upto_region 4 with fail
 generalize w.setCell ⟨p, 1, none⟩ (.int .i64 (m + 1)) = W1 at *
 have d0 := x1.c 0 _ rfl
 have hG1 := hG W1 s1 (r1.c 0 _ rfl)
 have hs1 := k1.size
 go_upto_region 5 with (go_at_call 35; refine hG1.mono ?_; rintro e W2 ⟨rfl, s2, k2⟩)
 obtain ⟨W3, hW3⟩ : ∃ W3, W3 = W2.alloc (.cells #[.slice a n k] 57) := ⟨_, rfl⟩
 have k3 : Below W2.heap.size W2 W3 := by rw [hW3]; exact (Below.refl _ _).alloc (Nat.le_refl _) _
 have y3 : Blk W3 W2.heap.size [.slice a n k] := by rw [hW3]; exact Blk.new _ [_] _
 rw [← hW3]
 clear hW3
 have x2 := x1.kx k2 hpB
 have x3 := x2.up k3
 have g0 := x3.c 0 _ rfl
 have g1 := y3.c 0 _ rfl
 have s3 := s2.up k3
 have k03 : Kx (fun b => b = p ∨ b = B) w W3 := ((k1.mono fun _ _ h => Or.inl h).trans (k2.mono fun _ _ h => Or.inr h)).trans (.of_below k3)
 clear c0 c1 z1 d0 hG hG1 x1 x2 s1 s2 r1 s r x k1
 obtain ⟨Yd, hYd⟩ : ∃ Yd, Yd = W3.drew := ⟨_, rfl⟩
 have bY : Below W3.heap.size W3 Yd := by rw [hYd]; exact (Below.refl _ _).drew
 refine wp_region_held_drew (S := fun w' : World => w'.cell? ⟨p, 0, none⟩ = some (.pointer (some ⟨B, 0, none⟩)) ∧ w'.cell? ⟨W2.heap.size, 0, none⟩ = some (.slice a n k)) (by kernel_rfl) (by exact ⟨g0, g1⟩) ?_
 have sY : Yd.cell? ⟨p, 0, none⟩ = some (.pointer (some ⟨B, 0, none⟩)) ∧ Yd.cell? ⟨W2.heap.size, 0, none⟩ = some (.slice a n k) := by rw [hYd]; exact ⟨g0, g1⟩
 rw [← hYd]
 clear hYd g0 g1
 intro hS
 refine wpAnyH_take (i := 0) (v := .pointer (some ⟨p, 0, none⟩)) rfl (by kernel_rfl) (by kernel_rfl) (by kernel_rfl) (fun _ _ _ h => pan_put (by decide) h) (Or.inl ⟨by rfl, ?_⟩) (by assumption) ?_
 ·intro w5 s0
  obtain ⟨s1, s2⟩ := s0
  go_simp
 try simp only [Act.put, List.getElem_toArray, List.getElem_cons_zero, List.getElem_cons_succ, List.setIfInBounds_toArray, List.set_cons_zero, List.set_cons_succ, List.length_cons]
 refine wpAnyH_take (i := 1) (v := .pointer (some ⟨p, 0, none⟩)) rfl (by kernel_rfl) (by kernel_rfl) (by kernel_rfl) (fun _ _ _ h => pan_put (by decide) h) (Or.inl ⟨by rfl, ?_⟩) (by assumption) ?_
 ·intro w5 s0
  obtain ⟨s1, s2⟩ := s0
  go_simp
 try simp only [Act.put, List.getElem_toArray, List.getElem_cons_zero, List.getElem_cons_succ, List.setIfInBounds_toArray, List.set_cons_zero, List.set_cons_succ, List.length_cons]
 refine wpAnyH_take (i := 2) (v := .pointer (some ⟨p, 0, none⟩)) rfl (by kernel_rfl) (by kernel_rfl) (by kernel_rfl) (fun _ _ _ h => pan_put (by decide) h) (Or.inl ⟨by rfl, ?_⟩) (by assumption) ?_
 ·intro w5 s0
  obtain ⟨s1, s2⟩ := s0
  go_simp
 try simp only [Act.put, List.getElem_toArray, List.getElem_cons_zero, List.getElem_cons_succ, List.setIfInBounds_toArray, List.set_cons_zero, List.set_cons_succ, List.length_cons]
 refine wpAnyH_take (i := 3) (v := .pointer (some ⟨B, 0, none⟩)) rfl (by kernel_rfl) (by kernel_rfl) (by kernel_rfl) (fun _ _ _ h => pan_put (by decide) h) (Or.inl ⟨by rfl, ?_⟩) (by assumption) ?_
 ·intro w5 s0
  obtain ⟨s1, s2⟩ := s0
  go_simp
 try simp only [Act.put, List.getElem_toArray, List.getElem_cons_zero, List.getElem_cons_succ, List.setIfInBounds_toArray, List.set_cons_zero, List.set_cons_succ, List.length_cons]
 refine wpAnyH_take (i := 4) (v := mkV a n k) rfl (by kernel_rfl) (by kernel_rfl) (by kernel_rfl) (fun _ _ _ h => pan_put (by decide) h) (Or.inl ⟨by rfl, ?_⟩) (by assumption) ?_
 ·intro w5 s0
  obtain ⟨s1, s2⟩ := s0
  go_simp
 try simp only [Act.put, List.getElem_toArray, List.getElem_cons_zero, List.getElem_cons_succ, List.setIfInBounds_toArray, List.set_cons_zero, List.set_cons_succ, List.length_cons]
 refine rd1 5 (by kernel_rfl) rfl fun K hK => ?_
 go_simp
 refine hK.out _ _ sY (fun _ => ?_)
 clear hK
 try simp only [Act.put, List.getElem_toArray, List.getElem_cons_zero, List.getElem_cons_succ, List.setIfInBounds_toArray, List.set_cons_zero, List.set_cons_succ, List.length_cons]
 refine wpAnyH_done (by kernel_rfl) ?_ _
 have hY := hF Yd (k03.trans (.of_below bY))
 have g1 := sY.2
 go_wp2_with (go_at_call 28; refine hY.mono ?_; rintro e W6 ⟨rfl, b6⟩)
 have s6 := (s3.up bY).up b6
 refine leaves_cons (f := 36) (args := #[.pointer (some ⟨B, 0, none⟩), mkV a n k]) (by simp) (by simp [go_sem]) ?_
 refine (putm_room s6 a n k _ (by simp)).mono ?_
 rintro e u' w7 ⟨rfl, rfl, s7, k7⟩
 refine ⟨.string T, ?_, rfl, ?_⟩
 ·simp [results, Tryz.results27, go_sem]
 ·exact (((k03.trans (.of_below bY)).trans (.of_below b6)).mono fun _ _ h => h.elim Or.inl fun h => Or.inr (Or.inl h)).trans (k7.mono fun _ _ h => Or.inr (Or.inr h))
theorem render1_any (a : Option Addr) (n k fb ab : Nat) (f : ByteArray) (av : Value) (T : ByteArray) (w : World) (h1 : w.cell? ⟨fb, 0, none⟩ = some (.string f)) (h2 : w.cell? ⟨ab, 0, none⟩ = some av) (h3 : ∃ x y z, av = .slice x y z)
  (hS : ∀ W, Below w.heap.size w W → Calls Tryz.prog 29 #[.slice a n k, .string f, av] W fun e W' => e = .returned (.string T) ∧ Below W.heap.size W W') :
  Calls Tryz.prog 28 #[mkV a n k, .pointer (some ⟨fb, 0, none⟩), .pointer (some ⟨ab, 0, none⟩)] w fun e w' => e = .returned (.string T) ∧ Below w.heap.size w w' := by
 obtain ⟨x, y, z, rfl⟩ := h3
 obtain ⟨W1, hW1⟩ : ∃ W1, W1 = w.alloc (.cells #[.slice a n k] 57) := ⟨_, rfl⟩
 have k1 : Below w.heap.size w W1 := by rw [hW1]; exact (Below.refl _ _).alloc (Nat.le_refl _) _
 have x1 : Blk W1 w.heap.size [.slice a n k] := by rw [hW1]; exact Blk.new _ [_] _
 have d0 := x1.c 0 _ rfl
 have d1 := up_cell k1 h1
 have d2 := up_cell k1 h2
 have hS1 := hS W1 k1
 go_enter Tryz.func28, Tryz.ntmps28
 go_upto_region 1 with fail
 rw [← hW1]
 clear hW1 hS h1 h2
 go_wp2_with (go_at_call 29; refine hS1.mono ?_; rintro e W2 ⟨rfl, b2⟩)
 go_ret
 exact ⟨rfl, k1.trans (b2.mono k1.size)⟩
theorem sprintf_q (p B c RB : Nat) (a : Option Addr) (n k : Nat) (f : ByteArray) (av : Value) (T : ByteArray) (w : World) (h3 : ∃ x y z, av = .slice x y z)
  (x1 : Blk w p [.pointer (some ⟨B, 0, none⟩), .int .i64 0]) (s1 : StoM w B c 1 [] (.func (.func 21) #[] #[.pointer (some ⟨RB, 0, none⟩)]) 0) (r1 : Blk w RB [.slice a n k]) (a6 : p ≠ B) (a7 : p ≠ c) (a8 : RB ≠ p)
  (hS : ∀ W, Kx (fun b => b = p ∨ b = B) w W → Calls Tryz.prog 29 #[.slice a n k, .string f, av] W fun e W' => e = .returned (.string T) ∧ Below W.heap.size W W') :
  Calls Tryz.prog 17 #[.pointer (some ⟨p, 0, none⟩), .string f, av] w fun e w' => e = .returned (.string T) ∧ Kx (fun b => b = p ∨ b = B ∨ b = c) w w' := by
 obtain ⟨W2, hW2⟩ : ∃ W2, W2 = (w.alloc (.cells #[.string f] 9)).alloc (.cells #[av] 25) := ⟨_, rfl⟩
 have b2 : Below w.heap.size w W2 := by rw [hW2]; exact ((Below.refl _ _).alloc (Nat.le_refl _) _).alloc (by simp) _
 have d1 : Blk W2 w.heap.size [.string f] := by rw [hW2]; exact (Blk.new w [_] _).alloc _
 have d2 : Blk W2 (w.heap.size + 1) [av] := by
  rw [hW2]
  have := Blk.new (w.alloc (.cells #[.string f] 9)) [av] 25
  simpa using this
 have hp := x1.b
 have hB := s1.bx.b
 have hc := call_any p B c RB w.heap.size (w.heap.size + 1) 0 (by decide) (by decide) a n k T W2 (x1.up b2) (s1.up b2) (r1.up b2) a6 a7 a8 (fun W kW => by
  have e1 := (d1.kx kW (by omega)).c 0 _ rfl
  have e2 := (d2.kx kW (by omega)).c 0 _ rfl
  exact render1_any a n k w.heap.size (w.heap.size + 1) f av T W e1 e2 h3 fun W' bW' => hS W' (((Kx.of_below b2).trans kW).trans (.of_below bW')))
 have hRe : Calls Tryz.prog 22 #[.pointer (some ⟨p, 0, none⟩), .string f, av] w fun e w' => e = .returned (.string T) ∧ Kx (fun b => b = p ∨ b = B ∨ b = c) w w' := by
  obtain ⟨x, y, z, rfl⟩ := h3
  have hmf : ∀ (fn : Fn) (first cap : Array Value) (w : World), (Instr.makeFunc fn first cap).run Tryz.prog w = .ok (.func fn first cap) w := fun _ _ _ _ => rfl
  go_enter Tryz.func22, Tryz.ntmps22
  go_upto_region 1 with fail
  rw [← hW2]
  clear hW2
  go_wp2_with (go_at_call 27; refine hc.mono ?_; rintro e W3 ⟨rfl, k3⟩)
  go_ret
  exact ⟨rfl, (Kx.of_below b2).trans k3⟩
 clear hc hS
 obtain ⟨x, y, z, rfl⟩ := h3
 go_enter Tryz.func17, Tryz.ntmps17
 go_wp2_with (go_at_call 22; refine hRe.mono ?_; rintro e W3 ⟨rfl, b3⟩)
 go_ret
 exact ⟨rfl, b3⟩
theorem print_any (tv : Value) (R : Option Addr → Nat → Nat → Nat → World → Prop) (f : ByteArray) (av : Value) (T : ByteArray) (w : World) (h3 : ∃ x y z, av = .slice x y z)
  (hR : ∀ a n k hi W W', R a n k hi W → Kx (fun b => hi ≤ b) W W' → R a n k hi W')
  (hC : ∀ W, Below w.heap.size w W → Calls Tryz.prog 19 #[tv] W fun e W' => ∃ a n k, e = .returned (.slice a n k) ∧ Hid (R a n k W'.heap.size W') ∧ Below W.heap.size W W')
  (hS : ∀ a n k hi W, R a n k hi W → w.heap.size ≤ hi → hi ≤ W.heap.size → Below w.heap.size w W → Calls Tryz.prog 29 #[.slice a n k, .string f, av] W fun e W' => e = .returned (.string T) ∧ Below W.heap.size W W') :
  Calls Tryz.prog 9 #[tv, .string f, av] w fun e w' => e = .returned (.string T) ∧ Below w.heap.size w w' := by
 have hN := new_any tv R w hR hC
 have hn := fun p w => eqP1 p w
 have hSp : ∀ p B c RB hi a n k W1, (w.heap.size ≤ hi ∧ hi ≤ p ∧ hi ≤ B ∧ hi ≤ c ∧ hi ≤ RB ∧ p ≠ B ∧ p ≠ c ∧ RB ≠ p ∧ RB ≠ B ∧ RB ≠ c ∧ Blk W1 p [.pointer (some ⟨B, 0, none⟩), .int .i64 0] ∧ StoM W1 B c 1 [] (.func (.func 21) #[] #[.pointer (some ⟨RB, 0, none⟩)]) 0 ∧ Blk W1 RB [.slice a n k] ∧ R a n k hi W1) → Below w.heap.size w W1 →
   Calls Tryz.prog 17 #[.pointer (some ⟨p, 0, none⟩), .string f, av] W1 fun e w' => e = .returned (.string T) ∧ Below w.heap.size w w' := by
  rintro p B c RB hi a n k W1 ⟨a1, a2, a3, a4, a5, a6, a7, a8, a9, a10, x1, s1, r1, R1⟩ b1
  have hs1 := b1.size
  have hp := x1.b
  refine (sprintf_q p B c RB a n k f av T W1 h3 x1 s1 r1 a6 a7 a8 (fun W kW => hS a n k hi W (hR _ _ _ _ _ _ R1 (kW.mono fun b _ h => by rcases h with rfl | rfl <;> omega)) a1 (by have := kW.size; omega) (b1.trans (kW.below (fun b h => by rcases h with rfl | rfl <;> omega) hs1)))).mono ?_
  rintro e w' ⟨rfl, k3⟩
  exact ⟨rfl, b1.trans (k3.below (fun b h => by rcases h with rfl | rfl | rfl <;> omega) hs1)⟩
 clear hC hR hS
 obtain ⟨x, y, z, rfl⟩ := h3
 go_enter Tryz.func9, Tryz.ntmps9
 go_upto_region 2 with (go_at_call 16; refine hN.mono ?_; rintro e W1 ⟨p, B, c, RB, hi, a, n, k, rfl, hh, b1⟩; have hS1 := hSp p B c RB hi a n k W1 hh.out b1)
 go_wp2_with (go_at_call 17; refine hS1.mono ?_; rintro e W3 ⟨rfl, b3⟩)
 go_ret
 exact ⟨rfl, b3⟩
end Go.Proofs.YtdlnmnipnkeabaaGreatDoor
namespace Go.Proofs.YtdlnmnipnkeabaaGreatDoor
open Go.RowKit
set_option linter.unusedVariables false
set_option linter.unusedSimpArgs false
def JN (C M : Nat) (W : World) : Prop := IsCall W C M 0 ∧ Esc W ∧ KN W
theorem JN.kx {C M g : Nat} (hC : C < g) (hM : M < g) (hE : 2 < g) (hK : 1 < g) {W W' : World} (h : JN C M W) (k : Kx (fun k => g ≤ k) W W') : JN C M W' :=
 ⟨h.1.kept k (by omega) (by omega), ⟨Nat.lt_of_lt_of_le h.2.1.1 k.size, fun i hi => k.cell (h.2.1.2 i hi) (by dsimp only; omega)⟩, fun i s hs => k.cell (h.2.2 i s hs) (by dsimp only; omega)⟩
theorem JN.env {C M g : Nat} {l : List UInt8} {dp : Int} {av : Value} {vs : List Value} {nx : Int} {W : World} (h : EnJ (JN C M) W g C l dp av vs nx) : Env W g C M l 0 dp av nx := ⟨h.p, h.j.1, h.j.2.1, h.j.2.2, by decide⟩
theorem sprintf_N (s : ByteArray) (args : Value) (vs : List Value) (o : List UInt8) (w : World) (he : Esc w) (hk : KN w) (ho : o.length ≤ 1000000)
  (hBg : ∀ W C, Below w.heap.size w W → Calls Tryz.prog 50 #[.pointer (some ⟨C, 0, none⟩), .int .i64 0, args] W fun e w' => ∃ g, e = .returned (.pointer (some ⟨g, 0, none⟩)) ∧ W.heap.size ≤ g ∧ BgR w' C g 0 vs ∧ Below W.heap.size W w')
  (hF : ∀ g C M av W, EnJ (JN C M) W g C [] 0 av vs 1 → Calls Tryz.prog 51 #[.pointer (some ⟨g, 0, none⟩), .string s] W fun e w' => e = .returned (.tuple #[]) ∧ (∃ tl, IsPr w' g o tl) ∧ Kx (fun k => k = g) W w') :
  Calls Tryz.prog 29 #[.slice none 0 0, .string s, args] w fun e w' => e = .returned (.string (txt o)) ∧ Below w.heap.size w w' := by
 refine sprintf_of s args (txt o) w fun W C M bW hc hC hM => ?_
 refine (at_J s args vs o C 0 (by decide) (by decide) (J' := fun _ => True) (P := fun _ => False) W ho (fun _ _ _ _ => trivial) (hBg W C bW) (fun g V hg bV hR => ?_)).mono fun e w' h => ⟨h.1, h.2.2.below (fun _ h => h.elim) (Nat.le_refl _)⟩
 obtain ⟨ao, cc, hp, hc1, hc2, ha⟩ := hR
 have eE := he.below bW
 have eK := hk.up bW
 have h1 := eE.1
 have h2 := kn_lt eK
 have hE : EnJ (JN C M) V g C [] 0 (.slice ao vs.length cc) vs 1 := ⟨hp, ⟨hc.up bV, eE.below bV, eK.up bV⟩, fun w w' h k => h.kx (by omega) (by omega) (by omega) (by omega) (kxg k), by omega, ao, cc, rfl, hc1, hc2, ha⟩
 refine (hF g C M _ V hE).mono ?_
 rintro e w' ⟨h3, h4, h5⟩
 exact ⟨h3, h4, trivial, h5.mono fun _ _ h => Or.inl h⟩
theorem copiedTable_nil (w : World) (hcl : ∀ W, Calls Tryz.prog 24 #[.slice none 0 0] W fun e w' => e = .returned (.slice none 0 0) ∧ w' = W) : Calls Tryz.prog 19 #[.slice none 0 0] w fun e w' => ∃ a n k, e = .returned (.slice a n k) ∧ Hid (a = none ∧ n = 0 ∧ k = 0) ∧ Below w.heap.size w w' := by
 have hm : min (0 : Int) 16 = 0 := by decide
 go_enter Tryz.func19, Tryz.ntmps19
 go_wp2_with (go_at_call 24; refine (hcl _).mono ?_; rintro e w2 ⟨rfl, q2⟩; subst q2)
 refine wp_loop_rounds 1 ?_
 rw [rounds_succ]
 go_wp2
 go_ret
 exact ⟨_, _, _, rfl, ⟨rfl, rfl, rfl⟩, by first | exact Below.refl _ _ | go_grown⟩
theorem cloneH_nil (w : World) : Calls Tryz.prog 24 #[.slice none 0 0] w fun e w' => e = .returned (.slice none 0 0) ∧ w' = w := by
 have he : ∀ w, (binOp BinOp.eql 35 (.slice none 0 0) (.slice none 0 0)).run Tryz.prog w = .ok (.bool true) w := fun w => by kernel_rfl
 go_enter Tryz.func24, Tryz.ntmps24
 go_wp2
 go_ret
 exact ⟨rfl, rfl⟩
theorem print_N (f : ByteArray) (av : Value) (T : ByteArray) (w : World) (h3 : ∃ x y z, av = .slice x y z) (hS : ∀ W, Below w.heap.size w W → Calls Tryz.prog 29 #[.slice none 0 0, .string f, av] W fun e W' => e = .returned (.string T) ∧ Below W.heap.size W W') :
  Calls Tryz.prog 9 #[.slice none 0 0, .string f, av] w fun e w' => e = .returned (.string T) ∧ Below w.heap.size w w' :=
 print_any _ (fun a n k _ _ => a = none ∧ n = 0 ∧ k = 0) f av T w h3 (fun _ _ _ _ _ _ h _ => h) (fun W _ => copiedTable_nil W cloneH_nil) (fun a n k hi W h _ _ bW => by obtain ⟨rfl, rfl, rfl⟩ := h; exact hS W bW)
theorem print_1 (s : ByteArray) (p : Pc) (hps : prs s.data.toList = [p]) (hs : s.size ≤ 1000) (hk : p.kind = 1) (hw : p.wid.k = 0) (hp : p.prec.k = 0) (hx : p.arg.k = 0) (hx2 : p.wid.a.k = 0) (hx3 : p.prec.a.k = 0) (hv : ¬ p.verb = 37)
  (A c : Nat) (hc1 : 1 ≤ c) (hc2 : c ≤ maxLen) (kk bt im hk' : Int) (ty tx : ByteArray) (tt : TypeId) (x : Value) (T : ByteArray) (hT : T.size ≤ 100000) (w : World) (he : Esc w) (hkn : KN w) (hA : A < w.heap.size)
  (hd : w.rangeAt A 0 [.int .i64 kk, .string ty, .int .u64 bt, .int .u64 im, .string tx, .slice none 0 0, .slice none 0 0, .int .i64 hk'])
  (hvo : ∀ W, Calls Tryz.prog 53 #[.agg #[.int .i64 kk, .string ty, .int .u64 bt, .int .u64 im, .string tx, .slice none 0 0, .slice none 0 0, .int .i64 hk']] W fun e w' => e = .returned (.iface tt x) ∧ Below W.heap.size W w')
  (hSh : ∀ {W : World} {g C M : Nat} {l : List UInt8} {m dp : Int} {av : Value} {nx : Int}, Env W g C M l m dp av nx → Calls Tryz.prog 69 #[.pointer (some ⟨g, 0, none⟩), .iface tt x, SV (spQ p)] W fun e w' => e = .returned (.string T) ∧ Below W.heap.size W w') :
  Calls Tryz.prog 9 #[.slice none 0 0, .string s, .slice (some ⟨A, 0, none⟩) 1 c] w fun e w' => e = .returned (.string (txt T.data.toList)) ∧ Below w.heap.size w w' := by
 have hTl : T.data.toList.length ≤ 100000 := by rw [← Lib.size_eq]; exact hT
 refine print_N s _ _ w ⟨_, _, _, rfl⟩ fun W bW => ?_
 refine sprintf_N s _ [.iface tt x] T.data.toList W (he.below bW) (hkn.up bW) (by omega) (fun W1 C b1 => ?_) (fun g C M av W1 hE => ?_)
 ·have bw1 := bW.trans (b1.mono bW.size)
  refine begun_raw W1 C 0 A c [[.int .i64 kk, .string ty, .int .u64 bt, .int .u64 im, .string tx, .slice none 0 0, .slice none 0 0, .int .i64 hk']] [.iface tt x] (Nat.lt_of_lt_of_le hA bw1.size) rfl (by show 1 ≤ 16; decide) hc1 hc2 (fun i d hi => ?_) (fun i d u hi hu => ?_)
  ·match i, hi with
   | 0, hi =>
     simp at hi
     subst hi
     exact ⟨⟨_, _, _, _, _, _, rfl⟩, fun j u hu => by have := (bw1.cell (p := ⟨A, 0 + j, none⟩) hA).trans (hd j u hu); simpa using this⟩
  ·match i, hi, hu with
   | 0, hi, hu =>
     simp at hi hu
     subst hi hu
     exact ⟨⟨_, _, rfl⟩, fun V => hvo V⟩
 ·have ha1 : p.arg.k = 0 := hx
  refine (format_J s (by omega) [p] hps (by
   intro q hq
   simp only [List.mem_cons, List.not_mem_nil, or_false] at hq
   subst hq
   exact ⟨hx, hx2, hx3⟩) T.data.toList [] (J' := JN C M) (P := fun k => k = g) rfl (fun k hk => by omega) hE (nx' := 2) ⟨T.data.toList, [], 2, JN C M, ?_, ⟨rfl, rfl, rfl⟩, by simp⟩ (Or.inl (by show 1 ≤ 1; decide)) (by omega) (fun V E => extra_J E (by show ((1 : Nat) : Int) < 2; decide))).mono ?_
  ·intro V l E hl
   refine piece_J p (ba p.text) hk _ 2 E fun V1 E1 => ?_
   refine dir_J p (ba p.text) (spQ p) 0 tt x T p.arg.n E1 (fun V2 E2 => ?_) (by show ¬ (p.verb : Int) = 37; omega) (by show some (Value.int .i64 (p.arg.k : Int)) = _; rw [ha1]; rfl) rfl rfl (by show 1 ≤ 1000; decide) rfl (fun k hk => by omega) (fun V2 E2 => ?_) (by rw [Lib.size_eq]; exact Nat.le_trans hl (by decide))
   ·refine (sized_none p (ba p.text) hw hp g V2).mono ?_
    rintro e V' ⟨h1, h2⟩
    exact ⟨h1, E2.up h2, .of_below h2⟩
   ·refine (hSh (JN.env E2)).mono ?_
    rintro e V' ⟨h1, h2⟩
    exact ⟨h1, E2.up h2, .of_below h2⟩
  ·rintro e w' ⟨h1, h2, h3⟩
   rw [List.append_nil] at h2
   exact ⟨h1, ⟨_, h2.p⟩, h3⟩
end Go.Proofs.YtdlnmnipnkeabaaGreatDoor
