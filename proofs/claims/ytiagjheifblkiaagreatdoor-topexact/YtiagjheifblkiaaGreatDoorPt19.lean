/- TPress, UTop, BNum: these texts in one. -/
import Derived.Test.YtiagjheifblkiaaGreatDoorPt18
import Derived.Deep.RegionHeld
import Derived.Test.YtiagjheifblkiaaGreatDoorPt17
import Derived.Test.YtiagjheifblkiaaGreatDoorUNum
import Derived.WalkKit
import Derived.Lib.TrimByte
namespace Go.Proofs.YtiagjheifblkiaaGreatDoor
open Go.RowKit Go.Conc
set_option linter.unusedVariables false
set_option linter.unusedSimpArgs false
theorem eqP1 (c : Nat) (w : World) : (binOp BinOp.eql 60 (.pointer (some ⟨c, 0, none⟩)) (.pointer none)).run Tryz.prog w = .ok (.bool false) w := by kernel_rfl
theorem eqP2 (c : Nat) (w : World) : (binOp BinOp.eql 93 (.pointer (some ⟨c, 0, none⟩)) (.pointer none)).run Tryz.prog w = .ok (.bool false) w := by kernel_rfl
theorem new_any (tv : Value) (R : Option Addr → Nat → Nat → Nat → World → Prop) (w : World)
  (hR : ∀ a n k hi W W', R a n k hi W → Kx (fun b => hi ≤ b) W W' → R a n k hi W')
  (hC : ∀ W, Below w.heap.size w W → Calls Tryz.prog 45 #[tv] W fun e W' => ∃ a n k, e = .returned (.slice a n k) ∧ Hid (R a n k W'.heap.size W') ∧ Below W.heap.size W W') :
  Calls Tryz.prog 21 #[tv, .bool false] w fun e w' => ∃ p B c RB hi a n k, e = .returned (.pointer (some ⟨p, 0, none⟩)) ∧ Hid (w.heap.size ≤ hi ∧ hi ≤ p ∧ hi ≤ B ∧ hi ≤ c ∧ hi ≤ RB ∧ p ≠ B ∧ p ≠ c ∧ RB ≠ p ∧ RB ≠ B ∧ RB ≠ c ∧ Blk w' p [.pointer (some ⟨B, 0, none⟩), .int .i64 0] ∧ StoM w' B c 1 [] (.func (.func 47) #[] #[.pointer (some ⟨RB, 0, none⟩)]) 0 ∧ Blk w' RB [.slice a n k] ∧ R a n k hi w') ∧ Below w.heap.size w w' := by
 have hC1 := hC w (Below.refl _ _)
 have hmf : ∀ (fn : Fn) (first cap : Array Value) (w : World), (Instr.makeFunc fn first cap).run Tryz.prog w = .ok (.func fn first cap) w := fun _ _ _ _ => rfl
 have hN := fun RB W => newm_1 (.func 47) #[] #[.pointer (some ⟨RB, 0, none⟩)] W
 go_enter Tryz.func21, Tryz.ntmps21
 go_upto_region 2 with (first | (go_at_call 45; refine hC1.mono ?_; rintro e W1 ⟨a, n, k, rfl, hR1, b1⟩; have hs1 := b1.size))
 obtain ⟨W2, hW2⟩ : ∃ W2, W2 = W1.alloc (.cells #[.slice a n k] 59) := ⟨_, rfl⟩
 have b2 : Below W1.heap.size W1 W2 := by rw [hW2]; exact (Below.refl _ _).alloc (Nat.le_refl _) _
 have x2 : Blk W2 W1.heap.size [.slice a n k] := by rw [hW2]; exact Blk.new _ [_] _
 rw [← hW2]
 clear hW2
 have hs2 := x2.b
 go_wp2_with (go_at_call 46; refine (hN _ _).mono ?_; rintro e W3 ⟨B, c, rfl, hh, b3⟩)
 obtain ⟨hB, hc, s3⟩ := hh.out
 have hs3 := b3.size
 have b4 : Below W3.heap.size W3 (W3.alloc (.cells #[.pointer (some ⟨B, 0, none⟩), .int .i64 0] 99)) := (Below.refl _ _).alloc (Nat.le_refl _) _
 have hBl := s3.bx.b
 have hcl := s3.cb
 go_ret
 refine ⟨W3.heap.size, B, c, W1.heap.size, W1.heap.size, a, n, k, rfl, ⟨hs1, by omega, by omega, by omega, Nat.le_refl _, by omega, by omega, by omega, by omega, by omega, Blk.new _ [_, _] _, s3.up b4, (x2.up b3).up b4, ?_⟩, ?_⟩
 ·exact hR _ _ _ _ _ _ hR1.out (((Kx.of_below b2).trans (.of_below b3)).trans (.of_below b4))
 ·exact ((b1.trans (b2.mono hs1)).trans (b3.mono (by omega))).trans (b4.mono (by omega))
theorem leaves_tmps {P : Program} {fn : Func} {t t' : Array Value} {R : Ending → World → Prop} (h : results fn t = results fn t') : ∀ (ds : List Deferred) (u : FrameMode) (w : World), Leaves P fn t R ds u w → Leaves P fn t' R ds u w
 | [], .returning, w, ⟨v, h1, h2⟩ => ⟨v, by rw [← h]; exact h1, h2⟩
 | [], .panicking _, _, h1 => h1
 | [], .run, _, h1 => h1
 | d :: ds, u, w, ⟨h1, fv, cap, f, args, h2, h3, h4⟩ => ⟨h1, fv, cap, f, args, h2, h3, h4.mono fun e u' w' => by
     cases e with
     | returned v => exact leaves_tmps h ds _ _
     | panicked chain => exact leaves_tmps h ds _ _
     | outgrown => exact id⟩
theorem pan_put {R : Ending → World → Prop} {d : Nat} (hd : d ≠ 4) {x : List PanicEntry} {a : Act} {v : Value} {w : World} (h : bodyPostD Tryz.prog Tryz.f64 R (.panic x) (a.put (some d) v) w) : bodyPostD Tryz.prog Tryz.f64 R (.panic x) a w := by
 refine leaves_tmps ?_ _ _ _ h
 simp [results, Tryz.results64, Act.put, Array.getElem?_setIfInBounds, hd]
set_option maxRecDepth 100000 in
theorem call_any (p B c RB fb ab : Nat) (m : Int) (h0 : 0 ≤ m) (h1 : m < 4611686018427387904) (a : Option Addr) (n k : Nat) (T : ByteArray) (w : World) (x : Blk w p [.pointer (some ⟨B, 0, none⟩), .int .i64 m]) (s : StoM w B c 1 [] (.func (.func 47) #[] #[.pointer (some ⟨RB, 0, none⟩)]) m) (r : Blk w RB [.slice a n k])
  (hpB : p ≠ B) (hpc : p ≠ c) (hRp : RB ≠ p)
  (hF : ∀ W, Kx (fun b => b = p ∨ b = B) w W → Calls Tryz.prog 65 #[mkV a n k, .pointer (some ⟨fb, 0, none⟩), .pointer (some ⟨ab, 0, none⟩)] W fun e W' => e = .returned (.string T) ∧ Below W.heap.size W W') :
  Calls Tryz.prog 64 #[.pointer (some ⟨p, 0, none⟩), .func (.func 65) #[] #[.pointer (some ⟨fb, 0, none⟩), .pointer (some ⟨ab, 0, none⟩)]] w fun e w' => e = .returned (.string T) ∧ Kx (fun b => b = p ∨ b = B ∨ b = c) w w' := by
 have c0 := x.c 0 _ rfl
 have c1 := x.c 1 _ rfl
 have z1 := x.z 1
 have hn1 := fun w => eqP1 p w
 have hn2 := fun w => eqP2 B w
 have hp := x.b
 have hB := s.bx.b
 have hc := s.cb
 have hR := r.b
 have x1 := x.one 1 (.int .i64 (m + 1)) (by simp)
 have k1 : Kx (fun b => b = p) w (w.setCell ⟨p, 1, none⟩ (.int .i64 (m + 1))) := (Kx.refl (fun b => b = p) _).setCell _ _ (.inl rfl) _
 have s1 := s.kx k1 (fun e => hpB e.symm) (fun e => hpc e.symm)
 have r1 := r.kx k1 hRp
 have hG := fun W h => getm_any (w := W) (B := B) (c := c) (cap := 1) (m := m) (RB := RB) h h0 (by omega) a n k
 go_enter_defers Tryz.func64, Tryz.ntmps64
 go_upto_region 4 with fail
 generalize w.setCell ⟨p, 1, none⟩ (.int .i64 (m + 1)) = W1 at *
 have d0 := x1.c 0 _ rfl
 have hG1 := hG W1 s1 (r1.c 0 _ rfl)
 have hs1 := k1.size
 go_upto_region 5 with (go_at_call 83; refine hG1.mono ?_; rintro e W2 ⟨rfl, s2, k2⟩)
 obtain ⟨W3, hW3⟩ : ∃ W3, W3 = W2.alloc (.cells #[.slice a n k] 96) := ⟨_, rfl⟩
 have k3 : Below W2.heap.size W2 W3 := by rw [hW3]; exact (Below.refl _ _).alloc (Nat.le_refl _) _
 have y3 : Blk W3 W2.heap.size [.slice a n k] := by rw [hW3]; exact Blk.new _ [_] _
 rw [← hW3]
 clear hW3
 have x2 := x1.kx k2 hpB
 have x3 := x2.up k3
 have g0 := x3.c 0 _ rfl
 have g1 := y3.c 0 _ rfl
 have s3 := s2.up k3
 have k03 : Kx (fun b => b = p ∨ b = B) w W3 := ((k1.mono fun _ _ h => Or.inl h).trans (k2.mono fun _ _ h => Or.inr h)).trans (.of_below k3)
 clear c0 c1 z1 d0 hG hG1 x1 x2 s1 s2 r1 s r x k1
 obtain ⟨Yd, hYd⟩ : ∃ Yd, Yd = W3.drew := ⟨_, rfl⟩
 have bY : Below W3.heap.size W3 Yd := by rw [hYd]; exact (Below.refl _ _).drew
 refine wp_region_held_drew (S := fun w' : World => w'.cell? ⟨p, 0, none⟩ = some (.pointer (some ⟨B, 0, none⟩)) ∧ w'.cell? ⟨W2.heap.size, 0, none⟩ = some (.slice a n k)) (by kernel_rfl) (by exact ⟨g0, g1⟩) ?_
 have sY : Yd.cell? ⟨p, 0, none⟩ = some (.pointer (some ⟨B, 0, none⟩)) ∧ Yd.cell? ⟨W2.heap.size, 0, none⟩ = some (.slice a n k) := by rw [hYd]; exact ⟨g0, g1⟩
 rw [← hYd]
 clear hYd g0 g1
 intro hS
 refine wpAnyH_take (i := 0) (v := .pointer (some ⟨p, 0, none⟩)) rfl (by kernel_rfl) (by kernel_rfl) (by kernel_rfl) (fun _ _ _ h => pan_put (by decide) h) (Or.inl ⟨by rfl, ?_⟩) (by assumption) ?_
 ·intro w5 s0
  obtain ⟨s1, s2⟩ := s0
  go_simp
 try simp only [Act.put, List.getElem_toArray, List.getElem_cons_zero, List.getElem_cons_succ, List.setIfInBounds_toArray, List.set_cons_zero, List.set_cons_succ, List.length_cons]
 refine wpAnyH_take (i := 1) (v := .pointer (some ⟨p, 0, none⟩)) rfl (by kernel_rfl) (by kernel_rfl) (by kernel_rfl) (fun _ _ _ h => pan_put (by decide) h) (Or.inl ⟨by rfl, ?_⟩) (by assumption) ?_
 ·intro w5 s0
  obtain ⟨s1, s2⟩ := s0
  go_simp
 try simp only [Act.put, List.getElem_toArray, List.getElem_cons_zero, List.getElem_cons_succ, List.setIfInBounds_toArray, List.set_cons_zero, List.set_cons_succ, List.length_cons]
 refine wpAnyH_take (i := 2) (v := .pointer (some ⟨p, 0, none⟩)) rfl (by kernel_rfl) (by kernel_rfl) (by kernel_rfl) (fun _ _ _ h => pan_put (by decide) h) (Or.inl ⟨by rfl, ?_⟩) (by assumption) ?_
 ·intro w5 s0
  obtain ⟨s1, s2⟩ := s0
  go_simp
 try simp only [Act.put, List.getElem_toArray, List.getElem_cons_zero, List.getElem_cons_succ, List.setIfInBounds_toArray, List.set_cons_zero, List.set_cons_succ, List.length_cons]
 refine wpAnyH_take (i := 3) (v := .pointer (some ⟨B, 0, none⟩)) rfl (by kernel_rfl) (by kernel_rfl) (by kernel_rfl) (fun _ _ _ h => pan_put (by decide) h) (Or.inl ⟨by rfl, ?_⟩) (by assumption) ?_
 ·intro w5 s0
  obtain ⟨s1, s2⟩ := s0
  go_simp
 try simp only [Act.put, List.getElem_toArray, List.getElem_cons_zero, List.getElem_cons_succ, List.setIfInBounds_toArray, List.set_cons_zero, List.set_cons_succ, List.length_cons]
 refine wpAnyH_take (i := 4) (v := mkV a n k) rfl (by kernel_rfl) (by kernel_rfl) (by kernel_rfl) (fun _ _ _ h => pan_put (by decide) h) (Or.inl ⟨by rfl, ?_⟩) (by assumption) ?_
 ·intro w5 s0
  obtain ⟨s1, s2⟩ := s0
  go_simp
 try simp only [Act.put, List.getElem_toArray, List.getElem_cons_zero, List.getElem_cons_succ, List.setIfInBounds_toArray, List.set_cons_zero, List.set_cons_succ, List.length_cons]
 refine rd1 5 (by kernel_rfl) rfl fun K hK => ?_
 go_simp
 refine hK.out _ _ sY (fun _ => ?_)
 clear hK
 try simp only [Act.put, List.getElem_toArray, List.getElem_cons_zero, List.getElem_cons_succ, List.setIfInBounds_toArray, List.set_cons_zero, List.set_cons_succ, List.length_cons]
 refine wpAnyH_done (by kernel_rfl) ?_ _
 have hY := hF Yd (k03.trans (.of_below bY))
 have g1 := sY.2
 go_wp2_with (go_at_call 65; refine hY.mono ?_; rintro e W6 ⟨rfl, b6⟩)
 have s6 := (s3.up bY).up b6
 refine leaves_cons (f := 84) (args := #[.pointer (some ⟨B, 0, none⟩), mkV a n k]) (by simp) (by simp [go_sem]) ?_
 refine (putm_room s6 a n k _ (by simp)).mono ?_
 rintro e u' w7 ⟨rfl, rfl, s7, k7⟩
 refine ⟨.string T, ?_, rfl, ?_⟩
 ·simp [results, Tryz.results64, go_sem]
 ·exact (((k03.trans (.of_below bY)).trans (.of_below b6)).mono fun _ _ h => h.elim Or.inl fun h => Or.inr (Or.inl h)).trans (k7.mono fun _ _ h => Or.inr (Or.inr h))
theorem render1_any (a : Option Addr) (n k fb ab : Nat) (f : ByteArray) (av : Value) (T : ByteArray) (w : World) (h1 : w.cell? ⟨fb, 0, none⟩ = some (.string f)) (h2 : w.cell? ⟨ab, 0, none⟩ = some av) (h3 : ∃ x y z, av = .slice x y z)
  (hS : ∀ W, Below w.heap.size w W → Calls Tryz.prog 66 #[.slice a n k, .string f, av] W fun e W' => e = .returned (.string T) ∧ Below W.heap.size W W') :
  Calls Tryz.prog 65 #[mkV a n k, .pointer (some ⟨fb, 0, none⟩), .pointer (some ⟨ab, 0, none⟩)] w fun e w' => e = .returned (.string T) ∧ Below w.heap.size w w' := by
 obtain ⟨x, y, z, rfl⟩ := h3
 obtain ⟨W1, hW1⟩ : ∃ W1, W1 = w.alloc (.cells #[.slice a n k] 96) := ⟨_, rfl⟩
 have k1 : Below w.heap.size w W1 := by rw [hW1]; exact (Below.refl _ _).alloc (Nat.le_refl _) _
 have x1 : Blk W1 w.heap.size [.slice a n k] := by rw [hW1]; exact Blk.new _ [_] _
 have d0 := x1.c 0 _ rfl
 have d1 := up_cell k1 h1
 have d2 := up_cell k1 h2
 have hS1 := hS W1 k1
 go_enter Tryz.func65, Tryz.ntmps65
 go_upto_region 1 with fail
 rw [← hW1]
 clear hW1 hS h1 h2
 go_wp2_with (go_at_call 66; refine hS1.mono ?_; rintro e W2 ⟨rfl, b2⟩)
 go_ret
 exact ⟨rfl, k1.trans (b2.mono k1.size)⟩
theorem sprintf_q (p B c RB : Nat) (a : Option Addr) (n k : Nat) (f : ByteArray) (av : Value) (T : ByteArray) (w : World) (h3 : ∃ x y z, av = .slice x y z)
  (x1 : Blk w p [.pointer (some ⟨B, 0, none⟩), .int .i64 0]) (s1 : StoM w B c 1 [] (.func (.func 47) #[] #[.pointer (some ⟨RB, 0, none⟩)]) 0) (r1 : Blk w RB [.slice a n k]) (a6 : p ≠ B) (a7 : p ≠ c) (a8 : RB ≠ p)
  (hS : ∀ W, Kx (fun b => b = p ∨ b = B) w W → Calls Tryz.prog 66 #[.slice a n k, .string f, av] W fun e W' => e = .returned (.string T) ∧ Below W.heap.size W W') :
  Calls Tryz.prog 22 #[.pointer (some ⟨p, 0, none⟩), .string f, av] w fun e w' => e = .returned (.string T) ∧ Kx (fun b => b = p ∨ b = B ∨ b = c) w w' := by
 obtain ⟨W2, hW2⟩ : ∃ W2, W2 = (w.alloc (.cells #[.string f] 9)).alloc (.cells #[av] 27) := ⟨_, rfl⟩
 have b2 : Below w.heap.size w W2 := by rw [hW2]; exact ((Below.refl _ _).alloc (Nat.le_refl _) _).alloc (by simp) _
 have d1 : Blk W2 w.heap.size [.string f] := by rw [hW2]; exact (Blk.new w [_] _).alloc _
 have d2 : Blk W2 (w.heap.size + 1) [av] := by
  rw [hW2]
  have := Blk.new (w.alloc (.cells #[.string f] 9)) [av] 27
  simpa using this
 have hp := x1.b
 have hB := s1.bx.b
 have hc := call_any p B c RB w.heap.size (w.heap.size + 1) 0 (by decide) (by decide) a n k T W2 (x1.up b2) (s1.up b2) (r1.up b2) a6 a7 a8 (fun W kW => by
  have e1 := (d1.kx kW (by omega)).c 0 _ rfl
  have e2 := (d2.kx kW (by omega)).c 0 _ rfl
  exact render1_any a n k w.heap.size (w.heap.size + 1) f av T W e1 e2 h3 fun W' bW' => hS W' (((Kx.of_below b2).trans kW).trans (.of_below bW')))
 have hRe : Calls Tryz.prog 48 #[.pointer (some ⟨p, 0, none⟩), .string f, av] w fun e w' => e = .returned (.string T) ∧ Kx (fun b => b = p ∨ b = B ∨ b = c) w w' := by
  obtain ⟨x, y, z, rfl⟩ := h3
  have hmf : ∀ (fn : Fn) (first cap : Array Value) (w : World), (Instr.makeFunc fn first cap).run Tryz.prog w = .ok (.func fn first cap) w := fun _ _ _ _ => rfl
  go_enter Tryz.func48, Tryz.ntmps48
  go_upto_region 1 with fail
  rw [← hW2]
  clear hW2
  go_wp2_with (go_at_call 64; refine hc.mono ?_; rintro e W3 ⟨rfl, k3⟩)
  go_ret
  exact ⟨rfl, (Kx.of_below b2).trans k3⟩
 clear hc hS
 obtain ⟨x, y, z, rfl⟩ := h3
 go_enter Tryz.func22, Tryz.ntmps22
 go_wp2_with (go_at_call 48; refine hRe.mono ?_; rintro e W3 ⟨rfl, b3⟩)
 go_ret
 exact ⟨rfl, b3⟩
theorem print_any (tv : Value) (R : Option Addr → Nat → Nat → Nat → World → Prop) (f : ByteArray) (av : Value) (T : ByteArray) (w : World) (h3 : ∃ x y z, av = .slice x y z)
  (hR : ∀ a n k hi W W', R a n k hi W → Kx (fun b => hi ≤ b) W W' → R a n k hi W')
  (hC : ∀ W, Below w.heap.size w W → Calls Tryz.prog 45 #[tv] W fun e W' => ∃ a n k, e = .returned (.slice a n k) ∧ Hid (R a n k W'.heap.size W') ∧ Below W.heap.size W W')
  (hS : ∀ a n k hi W, R a n k hi W → w.heap.size ≤ hi → hi ≤ W.heap.size → Below w.heap.size w W → Calls Tryz.prog 66 #[.slice a n k, .string f, av] W fun e W' => e = .returned (.string T) ∧ Below W.heap.size W W') :
  Calls Tryz.prog 9 #[tv, .string f, av] w fun e w' => e = .returned (.string T) ∧ Below w.heap.size w w' := by
 have hN := new_any tv R w hR hC
 have hn := fun p w => eqP1 p w
 have hSp : ∀ p B c RB hi a n k W1, (w.heap.size ≤ hi ∧ hi ≤ p ∧ hi ≤ B ∧ hi ≤ c ∧ hi ≤ RB ∧ p ≠ B ∧ p ≠ c ∧ RB ≠ p ∧ RB ≠ B ∧ RB ≠ c ∧ Blk W1 p [.pointer (some ⟨B, 0, none⟩), .int .i64 0] ∧ StoM W1 B c 1 [] (.func (.func 47) #[] #[.pointer (some ⟨RB, 0, none⟩)]) 0 ∧ Blk W1 RB [.slice a n k] ∧ R a n k hi W1) → Below w.heap.size w W1 →
   Calls Tryz.prog 22 #[.pointer (some ⟨p, 0, none⟩), .string f, av] W1 fun e w' => e = .returned (.string T) ∧ Below w.heap.size w w' := by
  rintro p B c RB hi a n k W1 ⟨a1, a2, a3, a4, a5, a6, a7, a8, a9, a10, x1, s1, r1, R1⟩ b1
  have hs1 := b1.size
  have hp := x1.b
  refine (sprintf_q p B c RB a n k f av T W1 h3 x1 s1 r1 a6 a7 a8 (fun W kW => hS a n k hi W (hR _ _ _ _ _ _ R1 (kW.mono fun b _ h => by rcases h with rfl | rfl <;> omega)) a1 (by have := kW.size; omega) (b1.trans (kW.below (fun b h => by rcases h with rfl | rfl <;> omega) hs1)))).mono ?_
  rintro e w' ⟨rfl, k3⟩
  exact ⟨rfl, b1.trans (k3.below (fun b h => by rcases h with rfl | rfl | rfl <;> omega) hs1)⟩
 clear hC hR hS
 obtain ⟨x, y, z, rfl⟩ := h3
 go_enter Tryz.func9, Tryz.ntmps9
 go_upto_region 2 with (go_at_call 21; refine hN.mono ?_; rintro e W1 ⟨p, B, c, RB, hi, a, n, k, rfl, hh, b1⟩; have hS1 := hSp p B c RB hi a n k W1 hh.out b1)
 go_wp2_with (go_at_call 22; refine hS1.mono ?_; rintro e W3 ⟨rfl, b3⟩)
 go_ret
 exact ⟨rfl, b3⟩
end Go.Proofs.YtiagjheifblkiaaGreatDoor
namespace Go.Proofs.YtiagjheifblkiaaGreatDoor
open Go.RowKit
set_option linter.unusedVariables false
set_option linter.unusedSimpArgs false
def JN (C M : Nat) (W : World) : Prop := IsCall W C M 0 ∧ Esc W ∧ KN W
theorem JN.kx {C M g : Nat} (hC : C < g) (hM : M < g) (hE : 4 < g) (hK : 3 < g) {W W' : World} (h : JN C M W) (k : Kx (fun k => g ≤ k) W W') : JN C M W' :=
 ⟨h.1.kept k (by omega) (by omega), ⟨Nat.lt_of_lt_of_le h.2.1.1 k.size, fun i hi => k.cell (h.2.1.2 i hi) (by dsimp only; omega)⟩, fun i s hs => k.cell (h.2.2 i s hs) (by dsimp only; omega)⟩
theorem JN.env {C M g : Nat} {l : List UInt8} {dp : Int} {av : Value} {vs : List Value} {nx : Int} {W : World} (h : EnJ (JN C M) W g C l dp av vs nx) : Env W g C M l 0 dp av nx := ⟨h.p, h.j.1, h.j.2.1, h.j.2.2, by decide⟩
theorem sprintf_N (s : ByteArray) (args : Value) (vs : List Value) (o : List UInt8) (w : World) (he : Esc w) (hk : KN w) (ho : o.length ≤ 1000000)
  (hBg : ∀ W C, Below w.heap.size w W → Calls Tryz.prog 114 #[.pointer (some ⟨C, 0, none⟩), .int .i64 0, args] W fun e w' => ∃ g, e = .returned (.pointer (some ⟨g, 0, none⟩)) ∧ W.heap.size ≤ g ∧ BgR w' C g 0 vs ∧ Below W.heap.size W w')
  (hF : ∀ g C M av W, EnJ (JN C M) W g C [] 0 av vs 1 → Calls Tryz.prog 115 #[.pointer (some ⟨g, 0, none⟩), .string s] W fun e w' => e = .returned (.tuple #[]) ∧ (∃ tl, IsPr w' g o tl) ∧ Kx (fun k => k = g) W w') :
  Calls Tryz.prog 66 #[.slice none 0 0, .string s, args] w fun e w' => e = .returned (.string (txt o)) ∧ Below w.heap.size w w' := by
 refine sprintf_of s args (txt o) w fun W C M bW hc hC hM => ?_
 refine (at_J s args vs o C 0 (by decide) (by decide) (J' := fun _ => True) (P := fun _ => False) W ho (fun _ _ _ _ => trivial) (hBg W C bW) (fun g V hg bV hR => ?_)).mono fun e w' h => ⟨h.1, h.2.2.below (fun _ h => h.elim) (Nat.le_refl _)⟩
 obtain ⟨ao, cc, hp, hc1, hc2, ha⟩ := hR
 have eE := he.below bW
 have eK := hk.up bW
 have h1 := eE.1
 have h2 := kn_lt eK
 have hE : EnJ (JN C M) V g C [] 0 (.slice ao vs.length cc) vs 1 := ⟨hp, ⟨hc.up bV, eE.below bV, eK.up bV⟩, fun w w' h k => h.kx (by omega) (by omega) (by omega) (by omega) k, by omega, ao, cc, rfl, hc1, hc2, ha⟩
 refine (hF g C M _ V hE).mono ?_
 rintro e w' ⟨h3, h4, h5⟩
 exact ⟨h3, h4, trivial, h5.mono fun _ _ h => Or.inl h⟩
theorem copiedTable_nil (w : World) (hcl : ∀ W, Calls Tryz.prog 61 #[.slice none 0 0] W fun e w' => e = .returned (.slice none 0 0) ∧ w' = W) : Calls Tryz.prog 45 #[.slice none 0 0] w fun e w' => ∃ a n k, e = .returned (.slice a n k) ∧ Hid (a = none ∧ n = 0 ∧ k = 0) ∧ Below w.heap.size w w' := by
 have hm : min (0 : Int) 16 = 0 := by decide
 go_enter Tryz.func45, Tryz.ntmps45
 go_wp2_with (go_at_call 61; refine (hcl _).mono ?_; rintro e w2 ⟨rfl, q2⟩; subst q2)
 refine wp_loop_rounds 1 ?_
 rw [rounds_succ]
 go_wp2
 go_ret
 exact ⟨_, _, _, rfl, ⟨rfl, rfl, rfl⟩, by first | exact Below.refl _ _ | go_grown⟩
theorem cloneH_nil (w : World) : Calls Tryz.prog 61 #[.slice none 0 0] w fun e w' => e = .returned (.slice none 0 0) ∧ w' = w := by
 have he : ∀ w, (binOp BinOp.eql 59 (.slice none 0 0) (.slice none 0 0)).run Tryz.prog w = .ok (.bool true) w := fun w => by kernel_rfl
 go_enter Tryz.func61, Tryz.ntmps61
 go_wp2
 go_ret
 exact ⟨rfl, rfl⟩
theorem print_N (f : ByteArray) (av : Value) (T : ByteArray) (w : World) (h3 : ∃ x y z, av = .slice x y z) (hS : ∀ W, Below w.heap.size w W → Calls Tryz.prog 66 #[.slice none 0 0, .string f, av] W fun e W' => e = .returned (.string T) ∧ Below W.heap.size W W') :
  Calls Tryz.prog 9 #[.slice none 0 0, .string f, av] w fun e w' => e = .returned (.string T) ∧ Below w.heap.size w w' :=
 print_any _ (fun a n k _ _ => a = none ∧ n = 0 ∧ k = 0) f av T w h3 (fun _ _ _ _ _ _ h _ => h) (fun W _ => copiedTable_nil W cloneH_nil) (fun a n k hi W h _ _ bW => by obtain ⟨rfl, rfl, rfl⟩ := h; exact hS W bW)
end Go.Proofs.YtiagjheifblkiaaGreatDoor
namespace Go.Proofs.YtiagjheifblkiaaGreatDoor
open Go.RowKit
def dgD (x : UInt8) : Nat := x.toNat - 48
def isD (x : UInt8) : Bool := decide (48 ≤ x.toNat) && decide (x.toNat ≤ 57)
def allD (l : List UInt8) : Bool := l.all isD
def db (d : Nat) : UInt8 := UInt8.ofNat (48 + d)
def num (l : List UInt8) : Nat := l.foldl (fun n x => n * 10 + dgD x) 0
theorem isD_iff (x : UInt8) : isD x = true ↔ 48 ≤ x.toNat ∧ x.toNat ≤ 57 := by simp [isD]
theorem dg_lt {x : UInt8} (h : isD x = true) : dgD x < 10 := by have := (isD_iff x).1 h; unfold dgD; omega
theorem db_nat {d : Nat} (h : d < 10) : (db d).toNat = 48 + d := by unfold db; simp; omega
theorem dg_db {d : Nat} (h : d < 10) : dgD (db d) = d := by unfold dgD; rw [db_nat h]; omega
theorem isD_db {d : Nat} (h : d < 10) : isD (db d) = true := by rw [isD_iff, db_nat h]; omega
theorem dg_inj {x y : UInt8} (hx : isD x = true) (hy : isD y = true) (h : dgD x = dgD y) : x = y := by
 have a := (isD_iff x).1 hx
 have b := (isD_iff y).1 hy
 unfold dgD at h
 exact UInt8.toNat_inj.1 (by omega)
theorem allD_cons (x : UInt8) (l : List UInt8) : allD (x :: l) = (isD x && allD l) := rfl
theorem allD_append (a b : List UInt8) : allD (a ++ b) = (allD a && allD b) := by simp [allD]
theorem allD_mem {l : List UInt8} (h : allD l = true) {x : UInt8} (hx : x ∈ l) : isD x = true := by
 unfold allD at h; exact List.all_eq_true.1 h x hx
theorem allD_of {l : List UInt8} (h : ∀ x ∈ l, isD x = true) : allD l = true := List.all_eq_true.2 h
theorem num_foldl (l : List UInt8) : ∀ n, l.foldl (fun n x => n * 10 + dgD x) n = n * 10 ^ l.length + num l := by
 induction l with
 | nil => intro n; simp [num]
 | cons x l ih =>
   intro n
   have h1 := ih (n * 10 + dgD x)
   have h2 := ih (0 * 10 + dgD x)
   simp only [List.foldl_cons, num, List.length_cons, Nat.pow_succ] at h1 h2 ⊢
   rw [h1, h2, Nat.add_mul, Nat.zero_mul, Nat.zero_add, Nat.add_assoc]
   congr 1
   rw [Nat.mul_assoc, Nat.mul_comm 10]
theorem num_nil : num [] = 0 := rfl
theorem num_append (a b : List UInt8) : num (a ++ b) = num a * 10 ^ b.length + num b := by
 show (a ++ b).foldl _ 0 = _
 rw [List.foldl_append, num_foldl b]; rfl
theorem num_cons (x : UInt8) (l : List UInt8) : num (x :: l) = dgD x * 10 ^ l.length + num l := by
 have := num_append [x] l
 rw [List.singleton_append] at this
 rw [this]; simp [num]
theorem num_snoc (a : List UInt8) (x : UInt8) : num (a ++ [x]) = num a * 10 + dgD x := by
 rw [num_append]; simp [num]
theorem pow_pos10 (n : Nat) : 0 < 10 ^ n := Nat.pow_pos (by decide)
theorem num_lt : ∀ (l : List UInt8), allD l = true → num l < 10 ^ l.length
 | [], _ => by simp [num]
 | x :: l, h => by
   rw [allD_cons, Bool.and_eq_true] at h
   have h1 := num_lt l h.2
   have h2 := dg_lt h.1
   rw [num_cons, List.length_cons, Nat.pow_succ]
   have h3 : dgD x * 10 ^ l.length ≤ 9 * 10 ^ l.length := Nat.mul_le_mul_right _ (by omega)
   omega
theorem div_parts {a b r s m : Nat} (hr : r < m) (hs : s < m) (h : a * m + r = b * m + s) : a = b ∧ r = s := by
 have hm : 0 < m := by omega
 have h1 : (a * m + r) / m = a := by rw [Nat.mul_comm, Nat.mul_add_div hm, Nat.div_eq_of_lt hr, Nat.add_zero]
 have h2 : (b * m + s) / m = b := by rw [Nat.mul_comm, Nat.mul_add_div hm, Nat.div_eq_of_lt hs, Nat.add_zero]
 have : a = b := by rw [← h1, ← h2, h]
 subst this
 exact ⟨rfl, by omega⟩
theorem num_inj : ∀ (a b : List UInt8), allD a = true → allD b = true → a.length = b.length → num a = num b → a = b
 | [], [], _, _, _, _ => rfl
 | [], _ :: _, _, _, h, _ => by simp at h
 | _ :: _, [], _, _, h, _ => by simp at h
 | x :: a, y :: b, ha, hb, hl, hn => by
   rw [allD_cons, Bool.and_eq_true] at ha hb
   simp only [List.length_cons, Nat.add_right_cancel_iff] at hl
   rw [num_cons, num_cons, hl] at hn
   obtain ⟨h1, h2⟩ := div_parts (by rw [← hl]; exact num_lt a ha.2) (num_lt b hb.2) hn
   rw [dg_inj ha.1 hb.1 h1, num_inj a b ha.2 hb.2 hl h2]
def hdB (l : List UInt8) : Bool := l.head? != some 48
def lst (l : List UInt8) : Bool := l.getLast? != some 48
theorem dg_ne {x : UInt8} (hx : isD x = true) (h : x ≠ 48) : 0 < dgD x := by
 have a := (isD_iff x).1 hx
 have : x.toNat ≠ 48 := fun e => h (UInt8.toNat_inj.1 (by rw [e]; rfl))
 unfold dgD; omega
theorem num_head {x : UInt8} {l : List UInt8} (h : allD (x :: l) = true) (hh : hdB (x :: l) = true) : 10 ^ l.length ≤ num (x :: l) := by
 rw [allD_cons, Bool.and_eq_true] at h
 have : x ≠ 48 := by intro e; subst e; simp [hdB] at hh
 have := dg_ne h.1 this
 rw [num_cons]
 have : 1 * 10 ^ l.length ≤ dgD x * 10 ^ l.length := Nat.mul_le_mul_right _ this
 omega
theorem num_pos {l : List UInt8} (h : allD l = true) (hh : hdB l = true) (hne : l ≠ []) : 0 < num l := by
 cases l with
 | nil => exact absurd rfl hne
 | cons x l =>
   have := num_head h hh
   have := pow_pos10 l.length
   omega
theorem num_last {l : List UInt8} (h : allD l = true) (hh : lst l = true) (hne : l ≠ []) : ¬ num l % 10 = 0 := by
 obtain ⟨a, x, rfl⟩ : ∃ a x, l = a ++ [x] := ⟨l.dropLast, l.getLast hne, (List.dropLast_concat_getLast hne).symm⟩
 rw [allD_append, Bool.and_eq_true] at h
 have hx : isD x = true := allD_mem h.2 (by simp)
 have : x ≠ 48 := by intro e; subst e; simp [lst] at hh
 have := dg_ne hx this
 have := dg_lt hx
 rw [num_snoc]; omega
theorem num_pos' {l : List UInt8} (h : allD l = true) (hh : lst l = true) (hne : l ≠ []) : 0 < num l := by
 have := num_last h hh hne
 omega
structure IsDec (l : List UInt8) (p : Int) (v : Nat) : Prop where
 dig : allD l = true
 hdB : hdB l = true
 lst : lst l = true
 nil : l = [] → p = 0
 low : -10000 ≤ p - l.length
 val : num l * 10 ^ (p - l.length + 10000).toNat = v
def V (l : List UInt8) (p : Int) : Nat := num l * 10 ^ (p - l.length + 10000).toNat
theorem IsDec.ne {l : List UInt8} {p : Int} {v : Nat} (h : IsDec l p v) (hv : v ≠ 0) : l ≠ [] := by
 intro e; subst e
 have := h.val
 simp [num] at this; omega
theorem IsDec.zero {l : List UInt8} {p : Int} (h : IsDec l p 0) : l = [] ∧ p = 0 := by
 by_cases hl : l = []
 ·exact ⟨hl, h.nil hl⟩
 ·exfalso
  have h1 := num_pos h.dig h.hdB hl
  have h2 := Nat.mul_pos h1 (pow_pos10 (p - l.length + 10000).toNat)
  have := h.val
  omega
theorem pow_split {a b x y : Nat} (hx : ¬ x % 10 = 0) (hlt : a < b) (h : x * 10 ^ a = y * 10 ^ b) : False := by
 obtain ⟨c, rfl⟩ : ∃ c, b = a + (c + 1) := ⟨b - a - 1, by omega⟩
 rw [Nat.pow_add, Nat.mul_comm (10 ^ a), ← Nat.mul_assoc] at h
 have := Nat.eq_of_mul_eq_mul_right (pow_pos10 a) h
 rw [Nat.pow_succ, ← Nat.mul_assoc] at this
 omega
theorem IsDec.uniq {l l' : List UInt8} {p p' : Int} {v : Nat} (h : IsDec l p v) (k : IsDec l' p' v) : l = l' ∧ p = p' := by
 by_cases hv : v = 0
 ·subst hv
  obtain ⟨rfl, rfl⟩ := h.zero
  obtain ⟨rfl, rfl⟩ := k.zero
  exact ⟨rfl, rfl⟩
 have hl := h.ne hv
 have kl := k.ne hv
 have e := h.val.trans k.val.symm
 have hx := num_last h.dig h.lst hl
 have kx := num_last k.dig k.lst kl
 have eab : (p - l.length + 10000).toNat = (p' - l'.length + 10000).toNat := by
  rcases Nat.lt_trichotomy (p - l.length + 10000).toNat (p' - l'.length + 10000).toNat with hh | hh | hh
  ·exact (pow_split hx hh e).elim
  ·exact hh
  ·exact (pow_split kx hh e.symm).elim
 rw [eab] at e
 have en := Nat.eq_of_mul_eq_mul_right (pow_pos10 _) e
 have hlow := h.low
 have klow := k.low
 have elen : l.length = l'.length := by
  obtain ⟨x, a, rfl⟩ := List.exists_cons_of_ne_nil hl
  obtain ⟨y, b, rfl⟩ := List.exists_cons_of_ne_nil kl
  have h1 := num_head h.dig h.hdB
  have h2 := num_lt _ h.dig
  have k1 := num_head k.dig k.hdB
  have k2 := num_lt _ k.dig
  rw [en] at h1 h2
  simp only [List.length_cons] at h2 k2 ⊢
  have a1 : a.length < b.length + 1 := (Nat.pow_lt_pow_iff_right (by decide)).1 (Nat.lt_of_le_of_lt h1 k2)
  have a2 : b.length < a.length + 1 := (Nat.pow_lt_pow_iff_right (by decide)).1 (Nat.lt_of_le_of_lt k1 h2)
  omega
 exact ⟨num_inj l l' h.dig k.dig elen en, by omega⟩
def ltr (l : List UInt8) : List UInt8 := Lib.trimLeftB l 48
def rtr (l : List UInt8) : List UInt8 := Lib.trimRightB l 48
theorem ltr_split (l : List UInt8) : ∃ k, l = List.replicate k 48 ++ ltr l ∧ hdB (ltr l) = true := by
 induction l with
 | nil => exact ⟨0, rfl, rfl⟩
 | cons x l ih =>
   obtain ⟨k, h1, h2⟩ := ih
   by_cases hx : x = 48
   ·subst hx
    have e : ltr (48 :: l) = ltr l := by simp [ltr, Lib.trimLeftB]
    refine ⟨k + 1, ?_, by rw [e]; exact h2⟩
    rw [e, List.replicate_succ, List.cons_append, ← h1]
   ·have e : ltr (x :: l) = x :: l := by simp [ltr, Lib.trimLeftB, hx]
    exact ⟨0, by rw [e]; rfl, by rw [e]; simp [hdB, hx]⟩
theorem rtr_split (l : List UInt8) : ∃ k, l = rtr l ++ List.replicate k 48 ∧ lst (rtr l) = true := by
 obtain ⟨k, h1, h2⟩ := ltr_split l.reverse
 have e : rtr l = (ltr l.reverse).reverse := rfl
 refine ⟨k, ?_, ?_⟩
 ·have := congrArg List.reverse h1
  rw [List.reverse_reverse, List.reverse_append, List.reverse_replicate] at this
  rw [e]; exact this
 ·rw [e]; unfold lst; rw [List.getLast?_reverse]; exact h2
theorem num_zeros (k : Nat) : num (List.replicate k 48) = 0 := by
 induction k with
 | zero => rfl
 | succ k ih => rw [List.replicate_succ, num_cons, ih]; simp [dgD]
theorem hd_app {a b : List UInt8} (h : hdB (a ++ b) = true) (hne : a ≠ []) : hdB a = true := by
 cases a with
 | nil => exact absurd rfl hne
 | cons x a => exact h
theorem form_dec (l : List UInt8) (p : Int) (h : allD l = true) (hp : -10000 ≤ p - l.length) :
  IsDec (rtr (ltr l)) (if rtr (ltr l) = [] then 0 else p - ((l.length : Int) - (ltr l).length)) (V l p) := by
 obtain ⟨k, h1, h2⟩ := ltr_split l
 obtain ⟨j, h3, h4⟩ := rtr_split (ltr l)
 have hv : num l = num (ltr l) := by
  have : num l = num (List.replicate k 48 ++ ltr l) := congrArg num h1
  rw [this, num_append, num_zeros]; simp
 have hv2 : num (ltr l) = num (rtr (ltr l)) * 10 ^ j := by
  have : num (ltr l) = num (rtr (ltr l) ++ List.replicate j 48) := congrArg num h3
  rw [this, num_append, num_zeros, List.length_replicate]; simp
 have hlen : l.length = k + (ltr l).length := by
  have := congrArg List.length h1
  rw [List.length_append, List.length_replicate] at this; exact this
 have hlen2 : (ltr l).length = (rtr (ltr l)).length + j := by
  have := congrArg List.length h3
  rw [List.length_append, List.length_replicate] at this; exact this
 have hd1 : allD (ltr l) = true := by
  rw [h1, allD_append, Bool.and_eq_true] at h; exact h.2
 have hd2 : allD (rtr (ltr l)) = true := by
  rw [h3, allD_append, Bool.and_eq_true] at hd1; exact hd1.1
 generalize rtr (ltr l) = r at *
 by_cases hr : r = []
 ·subst hr
  refine ⟨rfl, rfl, rfl, fun _ => by simp, by simp, ?_⟩
  unfold V
  rw [hv, hv2, num_nil, Nat.zero_mul, Nat.zero_mul, Nat.zero_mul]
 ·rw [if_neg hr]
  refine ⟨hd2, hd_app (by rw [← h3]; exact h2) hr, h4, fun e => absurd e hr, by omega, ?_⟩
  unfold V
  rw [hv, hv2, Nat.mul_assoc, ← Nat.pow_add]
  congr 2
  omega
def dgsF : Nat → Nat → List UInt8
 | 0, _ => []
 | f + 1, n => if n = 0 then [] else dgsF f (n / 10) ++ [db (n % 10)]
def dgsB (n : Nat) : List UInt8 := dgsF n n
theorem dgsF_num : ∀ (f n : Nat), n ≤ f → num (dgsF f n) = n ∧ allD (dgsF f n) = true
 | 0, n, h => by
   have : n = 0 := by omega
   subst this; exact ⟨rfl, rfl⟩
 | f + 1, n, h => by
   unfold dgsF
   split
   ·rename_i h0; subst h0; exact ⟨rfl, rfl⟩
   ·obtain ⟨h1, h2⟩ := dgsF_num f (n / 10) (by omega)
    rw [num_snoc, h1, dg_db (by omega), allD_append, h2, allD_cons, isD_db (by omega)]
    exact ⟨by omega, rfl⟩
def oL (v : Nat) : List UInt8 := rtr (ltr (dgsB v))
def oP (v : Nat) : Int := if rtr (ltr (dgsB v)) = [] then 0 else ((dgsB v).length : Int) - 10000 - (((dgsB v).length : Int) - (ltr (dgsB v)).length)
theorem o_dec (v : Nat) : IsDec (oL v) (oP v) v := by
 obtain ⟨h1, h2⟩ := dgsF_num v v (Nat.le_refl _)
 have h := form_dec (dgsB v) ((dgsB v).length - 10000) h2 (by omega)
 have e : V (dgsB v) ((dgsB v).length - 10000) = v := by
  unfold V
  rw [show ((dgsB v).length : Int) - 10000 - (dgsB v).length + 10000 = 0 by omega]
  show num (dgsF v v) * 10 ^ 0 = v
  rw [h1]; simp
 rw [e] at h
 exact h
theorem o_of {l : List UInt8} {p : Int} {v : Nat} (h : IsDec l p v) : l = oL v ∧ p = oP v := h.uniq (o_dec v)
def oS (v : Nat) : ByteArray := ⟨(oL v).toArray⟩
theorem oS_size (v : Nat) : (oS v).size = (oL v).length := by simp [oS, ByteArray.size]
theorem form_o (l : List UInt8) (p : Int) (h : allD l = true) (hp : -10000 ≤ p - l.length) : rtr (ltr l) = oL (V l p) ∧ (if rtr (ltr l) = [] then 0 else p - ((l.length : Int) - (ltr l).length)) = oP (V l p) := o_of (form_dec l p h hp)
theorem IsDec.lt {l : List UInt8} {p : Int} {v : Nat} (h : IsDec l p v) {q : Nat} (hq : p + 10000 ≤ q) : v < 10 ^ q := by
 rw [← h.val]
 have h1 := num_lt l h.dig
 have h2 := Nat.mul_lt_mul_of_pos_right h1 (pow_pos10 (p - l.length + 10000).toNat)
 rw [← Nat.pow_add] at h2
 have hlow := h.low
 exact Nat.lt_of_lt_of_le h2 (Nat.pow_le_pow_right (by decide) (by omega))
theorem IsDec.ge {l : List UInt8} {p : Int} {v : Nat} (h : IsDec l p v) (hv : v ≠ 0) {q : Nat} (hq : (q : Int) + 1 ≤ p + 10000) : 10 ^ q ≤ v := by
 obtain ⟨x, a, rfl⟩ := List.exists_cons_of_ne_nil (h.ne hv)
 rw [← h.val]
 have h1 := num_head h.dig h.hdB
 have h2 := Nat.mul_le_mul_right (10 ^ (p - (x :: a).length + 10000).toNat) h1
 rw [← Nat.pow_add] at h2
 have hlow := h.low
 simp only [List.length_cons] at h2 hlow ⊢
 exact Nat.le_trans (Nat.pow_le_pow_right (by decide) (by omega)) h2
theorem oP_le {v : Nat} {q : Nat} (h : v < 10 ^ q) : oP v ≤ (q : Int) - 10000 ∨ v = 0 := by
 by_cases hv : v = 0
 ·exact .inr hv
 ·refine .inl ?_
  rcases Int.lt_or_le ((q : Int) - 10000) (oP v) with hh | hh
  ·have := (o_dec v).ge hv (q := q) (by omega)
   omega
  ·exact hh
theorem oP_gt {v : Nat} {q : Nat} (h : 10 ^ q ≤ v) : (q : Int) - 10000 < oP v := by
 rcases Int.lt_or_le ((q : Int) - 10000) (oP v) with hh | hh
 ·exact hh
 ·have := (o_dec v).lt (q := q) (by omega)
  omega
theorem o_zero : oL 0 = [] ∧ oP 0 = 0 := (o_dec 0).zero
theorem oL_nil {v : Nat} : oL v = [] ↔ v = 0 := by
 constructor
 ·intro h
  have := (o_dec v).val
  rw [h] at this
  simp [num] at this; exact this.symm
 ·rintro rfl; exact o_zero.1
end Go.Proofs.YtiagjheifblkiaaGreatDoor
