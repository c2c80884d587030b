/- PWalkG, PRow: these texts in one. -/
import Derived.Test.YtdlnmnipnkeabaaGreatDoorPt14
import Derived.Deep.MidRow
import Derived.Deep.Upon
namespace Go.Proofs.YtdlnmnipnkeabaaGreatDoor
open Go.RowKit
set_option linter.unusedVariables false
set_option linter.unusedSimpArgs false
theorem StW.setc {w0 : World} {s : ByteArray} {R F B : Nat} {x : Ix} {P : Nat} {l : Bs} {w : World} (h : StW w0 s R F B x P l w) (x' : Ix) : StW w0 s R F B x' P l ((w.setCell ⟨B, 0, none⟩ (.int .i64 (x'.k : Nat))).setCell ⟨B, 1, none⟩ (.int .i64 (x'.n : Nat))) := by
 have h1 := h.nR
 have h2 := h.nF
 have h3 := h.nB
 exact ⟨(h.r.grown (by omega) (by omega) _).grown (by omega) (by omega) _, (h.a.other (by omega) _).other (by omega) _, (h.b.other (by omega) _).other (by omega) _, (h.c.set 0 (by simp) _).set 1 (by simp) _, gr_own (gr_own h.g (by omega) _) (by omega) _, h1, h2, h3⟩
abbrev PrC (s : ByteArray) (R F P : Nat) (l : Bs) (a : Nb) (x : Ix) (l' : Bs) : Prop := ∀ w, RdW s R F P l w → Calls Tryz.prog 104 #[.pointer (some ⟨R, 0, none⟩)] w fun e w' => e = .returned (.tuple #[nbV a, ixV x]) ∧ (∃ P', RdW s R F P' l' w') ∧ w.grownBy w' (some R)
set_option maxRecDepth 1000000 in
set_option maxHeartbeats 4000000 in
theorem prec_star {s : ByteArray} {R F P : Nat} {l l1 : Bs} {x : Ix} (hI : IdC s R F P l x l1) (hh : hd l1 = 42) : PrC s R F P l ⟨2, 0, x⟩ ix0 l1.tail := fun w h => by
 have hT := fun P1 => take_yes (s := s) (R := R) (F := F) (P := P1) (l := l1) (c := 42) (by omega) (by omega) hh
 obtain ⟨W1, hW1⟩ : ∃ W1, W1 = w.alloc (.cells #[.int .i64 0, .int .i64 0, .int .i64 0, .int .i64 0] 117) := ⟨_, rfl⟩
 obtain ⟨W2, hW2⟩ : ∃ W2, W2 = W1.alloc (.cells #[.int .i64 0, .int .i64 0] 115) := ⟨_, rfl⟩
 have h1 : RdW s R F P l W1 := h.up (by rw [hW1]; exact (Below.refl _ _).alloc (Nat.le_refl _) _)
 have h2 : RdW s R F P l W2 := h1.up (by rw [hW2]; exact (Below.refl _ _).alloc (Nat.le_refl _) _)
 have beg := fun (P1 : Nat) (w3 : World) (hr : RdW s R F P1 l1 w3) (hg : W2.grownBy w3 (some R)) => StW.begin (x := x) h hW1 hW2 hr hg
 clear h1
 unfold nbV ixV ix0
 dsimp only
 go_enter Tryz.func104, Tryz.ntmps104
 go_upto_region 1 with fail
 rw [← hW1, ← hW2]
 clear hW1 hW2
 go_upto_region 2 with (go_at_call 106; refine (hI _ h2).mono ?_; rintro e w3 ⟨rfl, ⟨P1, h3⟩, g3⟩; have s4 := beg P1 w3 h3 g3)
 generalize w3.alloc (.cells #[.int .i64 (x.k : Nat), .int .i64 (x.n : Nat)] 115) = W4 at *
 generalize w3.heap.size = B at *
 go_wp2_with (go_at_call 76; refine (hT _ _ s4.r).mono ?_; rintro e w5 ⟨rfl, h5, g5⟩; have s5 := s4.go h5 g5; obtain ⟨⟨k0, k1, k2, k3⟩, ⟨j0, j1⟩, ⟨i0, i1⟩, ⟨z0, z1, z2⟩, ⟨d0, d1, d2⟩⟩ := s5.cells)
 refine bodyPost_ret (by simp [results, Tryz.results104, go_sem, cs_same9, k0, k1, k2, k3, j0, j1]; rfl) rfl ?_
 exact ⟨rfl, s5.fin (by omega) (by omega) (by omega) (by omega) (by omega) (by omega)⟩
set_option maxRecDepth 1000000 in
set_option maxHeartbeats 4000000 in
theorem prec_none {s : ByteArray} {R F P : Nat} {l l1 : Bs} {x : Ix} (hI : IdC s R F P l x l1) (hh : hd l1 ≠ 42) (hz : dgs l1 = []) : PrC s R F P l ⟨1, wN (dgs l1), ix0⟩ x (aft l1) := fun w h => by
 have hT := fun P1 => take_no (s := s) (R := R) (F := F) (P := P1) (l := l1) (c := 42) (by omega) (by omega) hh
 have hG : ∀ P1 (w : World), RdW s R F P1 l1 w → Calls Tryz.prog 126 #[.pointer (some ⟨R, 0, none⟩)] w fun e w' => e = .returned (.agg #[.int .i64 1, .int .i64 (wN (dgs l1)), .int .i64 0, .int .i64 0]) ∧ RdW s R F (P1 + (dgs l1).length) (aft l1) w' ∧ w.grownBy w' (some R) := fun P1 => given_any s R F P1 l1
 unfold nbV ixV ix0
 dsimp only
 generalize wN (dgs l1) = D at *
 obtain ⟨W1, hW1⟩ : ∃ W1, W1 = w.alloc (.cells #[.int .i64 0, .int .i64 0, .int .i64 0, .int .i64 0] 117) := ⟨_, rfl⟩
 obtain ⟨W2, hW2⟩ : ∃ W2, W2 = W1.alloc (.cells #[.int .i64 0, .int .i64 0] 115) := ⟨_, rfl⟩
 have h1 : RdW s R F P l W1 := h.up (by rw [hW1]; exact (Below.refl _ _).alloc (Nat.le_refl _) _)
 have h2 : RdW s R F P l W2 := h1.up (by rw [hW2]; exact (Below.refl _ _).alloc (Nat.le_refl _) _)
 have beg := fun (P1 : Nat) (w3 : World) (hr : RdW s R F P1 l1 w3) (hg : W2.grownBy w3 (some R)) => StW.begin (x := x) h hW1 hW2 hr hg
 clear h1
 go_enter Tryz.func104, Tryz.ntmps104
 go_upto_region 1 with fail
 rw [← hW1, ← hW2]
 clear hW1 hW2
 go_upto_region 2 with (go_at_call 106; refine (hI _ h2).mono ?_; rintro e w3 ⟨rfl, ⟨P1, h3⟩, g3⟩; have s4 := beg P1 w3 h3 g3)
 generalize w3.alloc (.cells #[.int .i64 (x.k : Nat), .int .i64 (x.n : Nat)] 115) = W4 at *
 generalize w3.heap.size = B at *
 go_upto_region 4 with (go_at_call 76; refine (hT _ _ s4.r).mono ?_; rintro e w5 ⟨rfl, h5, g5⟩; have s5 := s4.go h5 g5; obtain ⟨⟨k0, k1, k2, k3⟩, ⟨j0, j1⟩, ⟨i0, i1⟩, ⟨z0, z1, z2⟩, ⟨d0, d1, d2⟩⟩ := s5.cells)
 have hm : P1 + (dgs l1).length ≤ 1000000000000 := by have a1 := (aft_at h5.d h5.e).2; have a2 := h5.m; omega
 have hGv := hG P1 w5 h5
 rw [show P1 + (dgs l1).length = P1 by rw [hz]; rfl] at hGv hm
 go_upto_region 6 with (go_at_call 126; refine hGv.mono ?_; rintro e w6 ⟨rfl, h6, g6⟩; have s6 := s5.go h6 g6; have s7 := s6.up ((Below.refl w6.heap.size w6).alloc (Nat.le_refl _) (.cells #[.int .i64 1, .int .i64 D, .int .i64 0, .int .i64 0] 117)); have bx : Bx (w6.alloc (.cells #[.int .i64 1, .int .i64 D, .int .i64 0, .int .i64 0] 117)) w6.heap.size [.int .i64 1, .int .i64 D, .int .i64 0, .int .i64 0] := Bx.new _ _ _)
 have l6 : B < w6.heap.size := s6.c.b
 generalize w6.alloc (.cells #[.int .i64 1, .int .i64 D, .int .i64 0, .int .i64 0] 117) = W7 at *
 generalize w6.heap.size = B6 at *
 obtain ⟨⟨u0, u1, u2, u3⟩, ⟨t0, t1⟩, ⟨v0, v1⟩, ⟨f0, f1, f2⟩, ⟨e0, e1, e2⟩⟩ := s7.cells
 obtain ⟨y0, y1, y2, y3⟩ := bx.four
 have n1 := s7.nB
 clear s4 s5 s6 hGv hG hT beg hI h6 g6 h5 g5 k0 k1 k2 k3 j0 j1 i0 i1 z0 z1 z2 d0 d1 d2
 go_wp2
 go_region
 all_goals go_wp2
 all_goals refine bodyPost_ret (by simp [results, Tryz.results104, go_sem, cs_same9, u0, u1, u2, u3, t0, t1]; rfl) rfl ?_
 all_goals refine ⟨rfl, ?_⟩
 all_goals exact StW.finD (s7.fin (by omega) (by omega) (by omega) (by omega) (by omega) (by omega))
set_option maxRecDepth 1000000 in
set_option maxHeartbeats 4000000 in
theorem prec_some {s : ByteArray} {R F P : Nat} {l l1 : Bs} {x : Ix} (hI : IdC s R F P l x l1) (hh : hd l1 ≠ 42) (hz : dgs l1 ≠ []) : PrC s R F P l ⟨1, wN (dgs l1), ix0⟩ (spl x) (aft l1) := fun w h => by
 have hT := fun P1 => take_no (s := s) (R := R) (F := F) (P := P1) (l := l1) (c := 42) (by omega) (by omega) hh
 have hS : ∀ w : World, Calls Tryz.prog 103 #[.agg #[.int .i64 (x.k : Nat), .int .i64 (x.n : Nat)]] w fun e w' => e = .returned (.agg #[.int .i64 ((spl x).k : Nat), .int .i64 ((spl x).n : Nat)]) ∧ Below w.heap.size w w' := spoilt_any x
 have hlen : 0 < (dgs l1).length := List.length_pos_iff.2 hz
 have hG : ∀ P1 (w : World), RdW s R F P1 l1 w → Calls Tryz.prog 126 #[.pointer (some ⟨R, 0, none⟩)] w fun e w' => e = .returned (.agg #[.int .i64 1, .int .i64 (wN (dgs l1)), .int .i64 0, .int .i64 0]) ∧ RdW s R F (P1 + (dgs l1).length) (aft l1) w' ∧ w.grownBy w' (some R) := fun P1 => given_any s R F P1 l1
 unfold nbV ixV ix0
 dsimp only
 generalize wN (dgs l1) = D at *
 generalize spl x = sx at *
 obtain ⟨W1, hW1⟩ : ∃ W1, W1 = w.alloc (.cells #[.int .i64 0, .int .i64 0, .int .i64 0, .int .i64 0] 117) := ⟨_, rfl⟩
 obtain ⟨W2, hW2⟩ : ∃ W2, W2 = W1.alloc (.cells #[.int .i64 0, .int .i64 0] 115) := ⟨_, rfl⟩
 have h1 : RdW s R F P l W1 := h.up (by rw [hW1]; exact (Below.refl _ _).alloc (Nat.le_refl _) _)
 have h2 : RdW s R F P l W2 := h1.up (by rw [hW2]; exact (Below.refl _ _).alloc (Nat.le_refl _) _)
 have beg := fun (P1 : Nat) (w3 : World) (hr : RdW s R F P1 l1 w3) (hg : W2.grownBy w3 (some R)) => StW.begin (x := x) h hW1 hW2 hr hg
 clear h1
 go_enter Tryz.func104, Tryz.ntmps104
 go_upto_region 1 with fail
 rw [← hW1, ← hW2]
 clear hW1 hW2
 go_upto_region 2 with (go_at_call 106; refine (hI _ h2).mono ?_; rintro e w3 ⟨rfl, ⟨P1, h3⟩, g3⟩; have s4 := beg P1 w3 h3 g3)
 generalize w3.alloc (.cells #[.int .i64 (x.k : Nat), .int .i64 (x.n : Nat)] 115) = W4 at *
 generalize w3.heap.size = B at *
 go_upto_region 4 with (go_at_call 76; refine (hT _ _ s4.r).mono ?_; rintro e w5 ⟨rfl, h5, g5⟩; have s5 := s4.go h5 g5; obtain ⟨⟨k0, k1, k2, k3⟩, ⟨j0, j1⟩, ⟨i0, i1⟩, ⟨z0, z1, z2⟩, ⟨d0, d1, d2⟩⟩ := s5.cells)
 have hm : P1 + (dgs l1).length ≤ 1000000000000 := by have a1 := (aft_at h5.d h5.e).2; have a2 := h5.m; omega
 have hGv := hG P1 w5 h5
 have hP2 : P1 < P1 + (dgs l1).length := by omega
 generalize P1 + (dgs l1).length = P2 at *
 have hP2I : (P1 : Int) < P2 := by omega
 go_upto_region 6 with (go_at_call 126; refine hGv.mono ?_; rintro e w6 ⟨rfl, h6, g6⟩; have s6 := s5.go h6 g6; have s7 := s6.up ((Below.refl w6.heap.size w6).alloc (Nat.le_refl _) (.cells #[.int .i64 1, .int .i64 D, .int .i64 0, .int .i64 0] 117)); have bx : Bx (w6.alloc (.cells #[.int .i64 1, .int .i64 D, .int .i64 0, .int .i64 0] 117)) w6.heap.size [.int .i64 1, .int .i64 D, .int .i64 0, .int .i64 0] := Bx.new _ _ _)
 have l6 : B < w6.heap.size := s6.c.b
 generalize w6.alloc (.cells #[.int .i64 1, .int .i64 D, .int .i64 0, .int .i64 0] 117) = W7 at *
 generalize w6.heap.size = B6 at *
 obtain ⟨⟨u0, u1, u2, u3⟩, ⟨t0, t1⟩, ⟨v0, v1⟩, ⟨f0, f1, f2⟩, ⟨e0, e1, e2⟩⟩ := s7.cells
 clear s4 s5 s6 hGv hG hT beg hI h6 g6 h5 g5 k0 k1 k2 k3 j0 j1 i0 i1 z0 z1 z2 d0 d1 d2
 go_upto_region 8 with (go_at_call 103; refine (hS _).mono ?_; rintro e w8 ⟨rfl, hb8⟩; have s8 := s7.up hb8; have bx8 := bx.up hb8; obtain ⟨⟨p0, p1, p2, p3⟩, ⟨q0, q1⟩, ⟨r0, r1⟩, ⟨g0, g1, g2⟩, -⟩ := s8.cells)
 have s9 := s8.setc sx
 have bx9 := (bx8.other (B' := B) (o := 0) (by omega) (.int .i64 (sx.k : Nat))).other (B' := B) (o := 1) (by omega) (.int .i64 (sx.n : Nat))
 generalize (w8.setCell ⟨B, 0, none⟩ (.int .i64 (sx.k : Nat))).setCell ⟨B, 1, none⟩ (.int .i64 (sx.n : Nat)) = W9 at *
 clear u0 u1 u2 u3 t0 t1 v0 v1 f0 f1 f2 e0 e1 e2 p0 p1 p2 p3 q0 q1 r0 r1 g0 g1 g2 s8 s7
 obtain ⟨⟨u0, u1, u2, u3⟩, ⟨t0, t1⟩, ⟨v0, v1⟩, ⟨f0, f1, f2⟩, ⟨e0, e1, e2⟩⟩ := s9.cells
 obtain ⟨y0, y1, y2, y3⟩ := bx9.four
 have n1 := s9.nB
 go_region
 all_goals go_wp2
 all_goals refine bodyPost_ret (by simp [results, Tryz.results104, go_sem, cs_same9, u0, u1, u2, u3, t0, t1]; rfl) rfl ?_
 all_goals refine ⟨rfl, ?_⟩
 all_goals exact StW.finD (s9.fin (by omega) (by omega) (by omega) (by omega) (by omega) (by omega))
theorem pwidth_any (s : ByteArray) (R F P : Nat) (l : Bs) : WdC s R F P l (wdh l).1 (wdh l).2.1 (wdh l).2.2 := by
 have hI : IdC s R F P l (idx l).1 (idx l).2 := index_any s R F P l
 unfold wdh
 obtain ⟨q, n, hx⟩ : ∃ q n, nxt (idx l).2 = (q, n) := ⟨_, _, rfl⟩
 by_cases h1 : hd (idx l).2 = 42
 ·rw [if_pos h1]
  exact width_star hI h1
 ·rw [if_neg h1]
  by_cases h2 : 49 ≤ hd (idx l).2 ∧ hd (idx l).2 ≤ 57
  ·rw [if_pos h2]
   have hq : q = hd (idx l).2 := by have := (nxt_is (l := (idx l).2) (c := hd (idx l).2) (by omega) (by omega)).2 rfl; rw [hx] at this; exact this
   exact width_given hI h1 hx (by omega) (by omega)
  ·rw [if_neg h2]
   have hq : ¬ (49 ≤ q ∧ q ≤ 57) := fun k => h2 (by
    have := (nxt_is (l := (idx l).2) (c := q) (by omega) (by omega)).1 (by rw [hx])
    omega)
   by_cases h3 : q < 49
   ·exact width_low hI h1 hx h3
   ·exact width_high hI h1 hx (by omega)
theorem pprec_any (s : ByteArray) (R F P : Nat) (l : Bs) : PrC s R F P l (prc l).1 (prc l).2.1 (prc l).2.2 := by
 have hI : IdC s R F P l (idx l).1 (idx l).2 := index_any s R F P l
 unfold prc
 by_cases h1 : hd (idx l).2 = 42
 ·rw [if_pos h1]
  exact prec_star hI h1
 ·rw [if_neg h1]
  dsimp only
  by_cases h2 : dgs (idx l).2 = []
  ·rw [if_pos h2]
   exact prec_none hI h1 h2
  ·rw [if_neg h2]
   exact prec_some hI h1 h2
end Go.Proofs.YtdlnmnipnkeabaaGreatDoor
namespace Go.Proofs.YtdlnmnipnkeabaaGreatDoor
open Go.RowKit
set_option linter.unusedVariables false
set_option linter.unusedSimpArgs false
theorem sc_size (w : World) (b : Nat) : ∀ (vs : List Value) (o : Nat), (w.setCells b o vs).heap.size = w.heap.size := by
 intro vs
 induction vs generalizing w with
 | nil => intro o; rfl
 | cons v r ih => intro o; rw [World.setCells, ih]; simp [World.setCell]
theorem sc_heap (b k : Nat) (hk : k ≠ b) : ∀ (vs : List Value) (w : World) (o : Nat), (w.setCells b o vs).heap[k]? = w.heap[k]?
 | [], _, _ => rfl
 | v :: r, w, o => by rw [World.setCells, sc_heap b k hk r, Below.heap_setCell _ _ _ _ hk]
theorem sc_rest (b : Nat) : ∀ (vs : List Value) (w : World) (o : Nat), (w.setCells b o vs).os = w.os ∧ (w.setCells b o vs).tape = w.tape ∧ (w.setCells b o vs).output = w.output
 | [], _, _ => ⟨rfl, rfl, rfl⟩
 | v :: r, w, o => by
   rw [World.setCells]
   obtain ⟨h1, h2, h3⟩ := sc_rest b r (w.setCell ⟨b, o, none⟩ v) (o + 1)
   exact ⟨h1, h2, h3⟩
theorem gr_sc {w w' : World} {row : Option Nat} {B : Nat} (h : w.grownBy w' row) (hB : w.heap.size ≤ B) (o : Nat) (vs : List Value) : w.grownBy (w'.setCells B o vs) row := by
 obtain ⟨h1, h2, h3⟩ := sc_rest B vs w' o
 exact ⟨h1.trans h.os, h2.trans h.tape, h3.trans h.output, by rw [sc_size]; exact h.size, fun k hk hne => by rw [sc_heap B k (by omega)]; exact h.block k hk hne⟩
theorem below_sc {N : Nat} {w w' : World} {B : Nat} (h : Below N w w') (hB : N ≤ B) (o : Nat) (vs : List Value) : Below N w (w'.setCells B o vs) := by
 obtain ⟨h1, h2, h3⟩ := sc_rest B vs w' o
 exact ⟨h1.trans h.os, h2.trans h.tape, h3.trans h.output, by rw [sc_size]; exact h.size, fun k hk => by rw [sc_heap B k (by omega)]; exact h.block k hk⟩
theorem Bx.there {w : World} {B : Nat} {vs : List Value} (h : Bx w B vs) : w.there B 0 vs.length := fun j hj => by
 rw [Nat.zero_add]
 exact ⟨by rw [h.c j _ (List.getElem?_eq_getElem hj)]; rfl, h.z j⟩
theorem Bx.range {w : World} {B : Nat} {vs : List Value} (h : Bx w B vs) : w.rangeAt B 0 vs := fun j v hv => by rw [Nat.zero_add]; exact h.c j v hv
theorem Bx.all {w : World} {B : Nat} {vs : List Value} (h : Bx w B vs) (us : List Value) (hl : us.length = vs.length) : Bx (w.setCells B 0 us) B us := by
 refine ⟨fun i v hv => ?_, fun i => (World.frozen?_setCells _ _ _ _ _).trans (h.z i), by rw [sc_size]; exact h.b⟩
 have := World.rangeAt_setCells_same w B 0 us (by rw [hl]; exact h.there) i v hv
 rwa [Nat.zero_add] at this
theorem Bx.oth {w : World} {B B' : Nat} {vs : List Value} (h : Bx w B vs) (hne : B' ≠ B) (o : Nat) (us : List Value) : Bx (w.setCells B' o us) B vs := by
 have hB := sc_heap B' B hne.symm us w o
 exact ⟨fun i u hu => (World.cell?_of_block (w := w) (a := ⟨B, i, none⟩) hB).trans (h.c i u hu), fun i => (World.frozen?_of_block (w := w) (a := ⟨B, i, none⟩) hB).trans (h.z i), by rw [sc_size]; exact h.b⟩
theorem RdW.sc {s : ByteArray} {R F P : Nat} {l : Bs} {w : World} (h : RdW s R F P l w) {B : Nat} (hR : B ≠ R) (hF : B ≠ F) (o : Nat) (us : List Value) : RdW s R F P l (w.setCells B o us) := by
 have a := sc_heap B R hR.symm us w o
 have b := sc_heap B F hF.symm us w o
 exact ⟨(World.cell?_of_block (w := w) (a := ⟨R, 0, none⟩) a).trans h.a, (World.cell?_of_block (w := w) (a := ⟨R, 1, none⟩) a).trans h.n, (World.cell?_of_block (w := w) (a := ⟨F, 0, none⟩) b).trans h.f, (World.frozen?_of_block (w := w) (a := ⟨R, 0, none⟩) a).trans h.z, h.d, h.e, h.ne, h.m⟩
theorem info20 : (Tryz.prog.info? 119).map (·.size) = some 20 := by kernel_rfl
theorem isrow20 : ∃ d, Tryz.prog.underlying 119 = some d ∧ d.isRow = true := ⟨_, Tryz.underlying119, rfl⟩
theorem res20 {f : Func} (hr : f.results = #[.cell 2 119]) {tmps : Array Value} {w : World} {B : Nat} {vs : List Value} (ht : tmps.getD 2 undef = .pointer (some ⟨B, 0, none⟩)) (h : Bx w B vs) (hl : vs.length = 20) : (results f tmps).run Tryz.prog w = .ok (.agg vs.toArray) w := by
 obtain ⟨d, h1, h2⟩ := isrow20
 have hL := run_loadVar_mid (P := Tryz.prog) w B 0 119 vs d h.range h1 h2 (by rw [hl]; exact info20)
 have ht' : tmps[2]?.getD undef = .pointer (some ⟨B, 0, none⟩) := by simpa using ht
 simp [results, hr, ht', hL, asAddr]
theorem wpl_store20 {ops : Array Oper} {rest : List Oper} {op : Oper} {a : Act} {w : World} {Q : Exit → Act → World → Prop} (hgd : op.guard = none) (x y : Operand) (ho : op.op = .store 119 x y) {B : Nat} {vs us : List Value}
  (hx : a.eval x = .pointer (some ⟨B, 0, none⟩)) (hy : a.eval y = .agg us.toArray) (hB : Bx w B vs) (hl : vs.length = 20) (hu : us.length = 20) (h1 : ∀ v ∈ us, v.oneCell' = true)
  (h : wpList Tryz.prog ops Q rest (a.put op.dst undef) (w.setCells B 0 us)) : wpList Tryz.prog ops Q (op :: rest) a w := by
 refine wpList_store_mid hgd 119 x y ho B 0 us.toArray hx hy (by have := hB.there; rw [hl] at this; simpa [hu] using this) (by simp [hu, info20]) (all_oneCell_toArray h1) ?_
 simpa using h
theorem wpl_load20 {ops : Array Oper} {rest : List Oper} {op : Oper} {a : Act} {w : World} {Q : Exit → Act → World → Prop} (hgd : op.guard = none) (x : Operand) (ho : op.op = .load 119 x) {B : Nat} {vs : List Value}
  (hx : a.eval x = .pointer (some ⟨B, 0, none⟩)) (hB : Bx w B vs) (hl : vs.length = 20)
  (h : wpList Tryz.prog ops Q rest (a.put op.dst (.agg vs.toArray)) w) : wpList Tryz.prog ops Q (op :: rest) a w := by
 obtain ⟨d, h1, h2⟩ := isrow20
 exact wpList_load_mid hgd 119 x ho B 0 hx vs d hB.range h1 h2 (by rw [hl]; exact info20) h
end Go.Proofs.YtdlnmnipnkeabaaGreatDoor
