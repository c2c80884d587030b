/- PWalkD, PWalkE, PWalkF: these texts in one. -/
import Derived.Test.YtdlnmnipnkeabaaGreatDoorPt13
namespace Go.Proofs.YtdlnmnipnkeabaaGreatDoor
open Go.RowKit
set_option linter.unusedVariables false
set_option linter.unusedSimpArgs false
def spV (f : Fl) (sz : Int) (verb : Nat) : List Value := [.bool f.p, .bool f.m, .bool f.s, .bool f.b, .bool f.z, .int .i64 sz, .int .i64 sz, .int .i32 (verb : Nat)]
theorem flg_cons (x : UInt8) (t : Bs) (f : Fl) : flg (x :: t) f =
  if x.toNat = 43 then flg t ⟨true, f.m, f.s, f.b, f.z⟩
  else if x.toNat = 45 then flg t ⟨f.p, true, f.s, f.b, f.z⟩
  else if x.toNat = 35 then flg t ⟨f.p, f.m, true, f.b, f.z⟩
  else if x.toNat = 32 then flg t ⟨f.p, f.m, f.s, true, f.z⟩
  else if x.toNat = 48 then flg t ⟨f.p, f.m, f.s, f.b, true⟩
  else (f, x :: t) := rfl
theorem flg_no {l : Bs} {f : Fl} (h : hd l ≠ 43 ∧ hd l ≠ 45 ∧ hd l ≠ 35 ∧ hd l ≠ 32 ∧ hd l ≠ 48) : flg l f = (f, l) := by
 cases l with
 | nil => rfl
 | cons x t =>
   unfold hd at h
   dsimp only at h
   unfold flg
   rw [if_neg h.1, if_neg h.2.1, if_neg h.2.2.1, if_neg h.2.2.2.1, if_neg h.2.2.2.2]
abbrev FlC (s : ByteArray) (R F P : Nat) (l : Bs) : Prop := ∀ w, RdW s R F P l w → Calls Tryz.prog 101 #[.pointer (some ⟨R, 0, none⟩)] w fun e w' => e = .returned (.agg (spV (flg l fl0).1 (-1) 0).toArray) ∧ (∃ P', RdW s R F P' (flg l fl0).2 w') ∧ w.grownBy w' (some R)
set_option maxRecDepth 1000000 in
set_option maxHeartbeats 4000000 in
theorem flags_any (s : ByteArray) (R F P : Nat) (l : Bs) : FlC s R F P l := fun w h0 => by
 obtain ⟨W1, hW1⟩ : ∃ W1, W1 = (w.alloc (.cells #[.bool false, .bool false, .bool false, .bool false, .bool false, .int .i64 0, .int .i64 0, .int .i32 0] 113)) := ⟨_, rfl⟩
 obtain ⟨W2, hW2⟩ : ∃ W2, W2 = (W1.alloc (.cells #[.bool false, .bool false, .bool false, .bool false, .bool false, .int .i64 (-1), .int .i64 (-1), .int .i32 0] 113)) := ⟨_, rfl⟩
 have hRw : R < w.heap.size := lt_of_cell9 h0.a
 have hFw : F < w.heap.size := lt_of_cell9 h0.f
 have hs1 : W1.heap.size = w.heap.size + 1 := by rw [hW1]; simp
 have hb1 : Below w.heap.size w W1 := by rw [hW1]; exact (Below.refl _ _).alloc (Nat.le_refl _) _
 have hb2 : Below W1.heap.size W1 W2 := by rw [hW2]; exact (Below.refl _ _).alloc (Nat.le_refl _) _
 have hx1 : Bx W2 w.heap.size [.bool false, .bool false, .bool false, .bool false, .bool false, .int .i64 0, .int .i64 0, .int .i32 0] := Bx.up (by rw [hW1]; exact Bx.new _ _ _) hb2
 have hx2 : Bx W2 (w.heap.size + 1) (spV fl0 (-1) 0) := by rw [← hs1, hW2]; exact Bx.new _ _ _
 have hr2 : RdW s R F P l W2 := (h0.up hb1).up hb2
 have hg2 : w.grownBy W2 (some R) := (gr_below hb1 _).trans (gr_below hb2 _)
 have n1 : w.heap.size ≠ R := by omega
 have n2 : w.heap.size ≠ F := by omega
 have n3 : w.heap.size + 1 ≠ R := by omega
 have n4 : w.heap.size + 1 ≠ F := by omega
 have n5 : ¬ R = w.heap.size + 1 := by omega
 have n6 : w.heap.size ≠ w.heap.size + 1 := by omega
 have n7 : w.heap.size + 1 ≠ w.heap.size := by omega
 go_enter Tryz.func101, Tryz.ntmps101
 go_wp2
 go_step3
 go_wp2
 go_step3
 go_wp2
 rw [← hW1, ← hW2]
 clear hW1 hW2 hb1 hb2 h0
 go_loopg [4, 5] l.length (fun g a b wr => ∃ (P' : Nat) (l' : Bs) (f : Fl), RdW s R F P' l' wr ∧ l'.length ≤ g ∧ Hid (flg l' f = flg l fl0) ∧ w.grownBy wr (some R) ∧ Bx wr w.heap.size [.bool false, .bool false, .bool false, .bool false, .bool false, .int .i64 0, .int .i64 0, .int .i32 0] ∧ Bx wr (w.heap.size + 1) (spV f (-1) 0))
 case atStart => exact ⟨P, l, fl0, hr2, Nat.le_refl _, rfl, hg2, hx1, hx2⟩
 case round =>
  obtain ⟨P', l', f, h, hg, HL, hgr, hy1, hy2⟩ := hrel
  clear hr2 hg2 hx1 hx2
  obtain ⟨q, n, hx⟩ : ∃ q n, nxt l' = (q, n) := ⟨_, _, rfl⟩
  have hN := h.next hx
  have hm := h.m
  have he := h.e
  have c0 : ∀ x : Cl wr, x.w.cell? ⟨R, 0, none⟩ = some (.int .i64 (P' : Nat)) := fun x => x.cell h.a
  have c1 : ∀ x : Cl wr, x.w.cell? ⟨R, 1, none⟩ = some (.func (.func 61) #[] #[.pointer (some ⟨F, 0, none⟩)]) := fun x => x.cell h.n
  have HX : Hid (nxt l' = (q, n)) := hx
  clear hx
  go_wp2
  refine wp_region_above wr (Below.refl _ _) (by kernel_rfl) (by kernel_rfl) ?_
  intro hCl
  repeat (go_big_quiet_step ((go_at_call 61; exact Cl.call (hN _))))
  refine wpQuiet_nil ?_
  intro _ hw'
  obtain ⟨y, hy⟩ := hw'
  subst hy
  have hY := h.up y.below
  have hgY := hgr.trans (gr_below y.below (some R))
  have z1 := hy1.up y.below
  have z2 := hy2.up y.below
  obtain ⟨p, m, sh, b, z⟩ := f
  have g0 := z2.c 0 _ rfl
  have g1 := z2.c 1 _ rfl
  have g2 := z2.c 2 _ rfl
  have g3 := z2.c 3 _ rfl
  have g4 := z2.c 4 _ rfl
  have g5 := z2.c 5 _ rfl
  have g6 := z2.c 6 _ rfl
  have g7 := z2.c 7 _ rfl
  have gz := z2.z
  have e0 := z1.c 0 _ rfl
  have e1 := z1.c 1 _ rfl
  have e2 := z1.c 2 _ rfl
  have e3 := z1.c 3 _ rfl
  have e4 := z1.c 4 _ rfl
  have e5 := z1.c 5 _ rfl
  have e6 := z1.c 6 _ rfl
  have e7 := z1.c 7 _ rfl
  have ez := z1.z
  have d0 := hY.a
  have d1 := hY.z
  clear c0 c1 hN hCl hy1 hy2
  have key : ∀ c, 1 ≤ c → c < 128 → (q = c ↔ hd l' = c) := fun c k1 k2 => by have := nxt_is (l := l') k1 k2; rw [HX.out] at this; exact this
  have put : ∀ (c : Nat), q = c → 1 ≤ c → c < 128 → n = 1 ∧ ∃ x, l' = x :: l'.tail ∧ x.toNat = c ∧ s.data.toList.drop (P' + 1) = l'.tail ∧ P' + 1 + l'.tail.length = s.size := fun c hc k1 k2 => by
   have hh := (key c k1 k2).1 hc
   obtain ⟨x, e, hx⟩ := hd_lt hh (by omega)
   refine ⟨by have := nxt_one hh k2; rw [HX.out] at this; exact this, x, e, hx, (drop_more h.d).trans (by simp), ?_⟩
   rw [e] at he
   simp at he ⊢
   omega
  by_cases q43 : q = 43
  ·obtain ⟨rfl, x, ex, hxc, hd', he'⟩ := put 43 q43 (by omega) (by omega)
   have HL' : Hid (flg l'.tail ⟨true, m, sh, b, z⟩ = flg l fl0) := by
    show _ = _
    rw [← HL.out]
    conv => rhs; rw [ex]
    rw [flg_cons]
    simp [hxc]
   have hlen : l'.tail.length ≤ gk - 1 ∧ 0 < gk := by
    have := congrArg List.length ex
    simp at this ⊢
    omega
   subst q43
   have hr : RdW s R F (P' + 1) l'.tail ((y.w.setCell ⟨w.heap.size + 1, 0, none⟩ (.bool true)).setCell ⟨R, 0, none⟩ (.int .i64 ((P' + 1 : Nat)))) := (hY.grown n3 n4 _).put hd' he'
   have hgg : w.grownBy ((y.w.setCell ⟨w.heap.size + 1, 0, none⟩ (.bool true)).setCell ⟨R, 0, none⟩ (.int .i64 ((P' + 1 : Nat)))) (some R) := gr_put (gr_own hgY (by omega) _) _
   have hz1 : Bx ((y.w.setCell ⟨w.heap.size + 1, 0, none⟩ (.bool true)).setCell ⟨R, 0, none⟩ (.int .i64 ((P' + 1 : Nat)))) w.heap.size _ := (z1.other n7 _).other n1.symm _
   have hz2 : Bx ((y.w.setCell ⟨w.heap.size + 1, 0, none⟩ (.bool true)).setCell ⟨R, 0, none⟩ (.int .i64 ((P' + 1 : Nat)))) (w.heap.size + 1) (spV ⟨true, m, sh, b, z⟩ (-1) 0) := (z2.set 0 (by simp [spV]) _).other n3.symm _
   have hPI : (P' : Int) + 1 ≤ 1000000000000 := by omega
   clear put key HX HL
   go_wp2
   go_roundg (gk - 1)
   case measure => omega
   case rel => exact ⟨P' + 1, l'.tail, ⟨true, m, sh, b, z⟩, hr, hlen.1, HL', hgg, hz1, hz2⟩
  by_cases q45 : q = 45
  ·obtain ⟨rfl, x, ex, hxc, hd', he'⟩ := put 45 q45 (by omega) (by omega)
   have HL' : Hid (flg l'.tail ⟨p, true, sh, b, z⟩ = flg l fl0) := by
    show _ = _
    rw [← HL.out]
    conv => rhs; rw [ex]
    rw [flg_cons]
    simp [hxc]
   have hlen : l'.tail.length ≤ gk - 1 ∧ 0 < gk := by
    have := congrArg List.length ex
    simp at this ⊢
    omega
   subst q45
   have hr : RdW s R F (P' + 1) l'.tail ((y.w.setCell ⟨w.heap.size + 1, 1, none⟩ (.bool true)).setCell ⟨R, 0, none⟩ (.int .i64 ((P' + 1 : Nat)))) := (hY.grown n3 n4 _).put hd' he'
   have hgg : w.grownBy ((y.w.setCell ⟨w.heap.size + 1, 1, none⟩ (.bool true)).setCell ⟨R, 0, none⟩ (.int .i64 ((P' + 1 : Nat)))) (some R) := gr_put (gr_own hgY (by omega) _) _
   have hz1 : Bx ((y.w.setCell ⟨w.heap.size + 1, 1, none⟩ (.bool true)).setCell ⟨R, 0, none⟩ (.int .i64 ((P' + 1 : Nat)))) w.heap.size _ := (z1.other n7 _).other n1.symm _
   have hz2 : Bx ((y.w.setCell ⟨w.heap.size + 1, 1, none⟩ (.bool true)).setCell ⟨R, 0, none⟩ (.int .i64 ((P' + 1 : Nat)))) (w.heap.size + 1) (spV ⟨p, true, sh, b, z⟩ (-1) 0) := (z2.set 1 (by simp [spV]) _).other n3.symm _
   have hPI : (P' : Int) + 1 ≤ 1000000000000 := by omega
   clear put key HX HL
   go_wp2
   go_roundg (gk - 1)
   case measure => omega
   case rel => exact ⟨P' + 1, l'.tail, ⟨p, true, sh, b, z⟩, hr, hlen.1, HL', hgg, hz1, hz2⟩
  by_cases q35 : q = 35
  ·obtain ⟨rfl, x, ex, hxc, hd', he'⟩ := put 35 q35 (by omega) (by omega)
   have HL' : Hid (flg l'.tail ⟨p, m, true, b, z⟩ = flg l fl0) := by
    show _ = _
    rw [← HL.out]
    conv => rhs; rw [ex]
    rw [flg_cons]
    simp [hxc]
   have hlen : l'.tail.length ≤ gk - 1 ∧ 0 < gk := by
    have := congrArg List.length ex
    simp at this ⊢
    omega
   subst q35
   have hr : RdW s R F (P' + 1) l'.tail ((y.w.setCell ⟨w.heap.size + 1, 2, none⟩ (.bool true)).setCell ⟨R, 0, none⟩ (.int .i64 ((P' + 1 : Nat)))) := (hY.grown n3 n4 _).put hd' he'
   have hgg : w.grownBy ((y.w.setCell ⟨w.heap.size + 1, 2, none⟩ (.bool true)).setCell ⟨R, 0, none⟩ (.int .i64 ((P' + 1 : Nat)))) (some R) := gr_put (gr_own hgY (by omega) _) _
   have hz1 : Bx ((y.w.setCell ⟨w.heap.size + 1, 2, none⟩ (.bool true)).setCell ⟨R, 0, none⟩ (.int .i64 ((P' + 1 : Nat)))) w.heap.size _ := (z1.other n7 _).other n1.symm _
   have hz2 : Bx ((y.w.setCell ⟨w.heap.size + 1, 2, none⟩ (.bool true)).setCell ⟨R, 0, none⟩ (.int .i64 ((P' + 1 : Nat)))) (w.heap.size + 1) (spV ⟨p, m, true, b, z⟩ (-1) 0) := (z2.set 2 (by simp [spV]) _).other n3.symm _
   have hPI : (P' : Int) + 1 ≤ 1000000000000 := by omega
   clear put key HX HL
   go_wp2
   go_roundg (gk - 1)
   case measure => omega
   case rel => exact ⟨P' + 1, l'.tail, ⟨p, m, true, b, z⟩, hr, hlen.1, HL', hgg, hz1, hz2⟩
  by_cases q32 : q = 32
  ·obtain ⟨rfl, x, ex, hxc, hd', he'⟩ := put 32 q32 (by omega) (by omega)
   have HL' : Hid (flg l'.tail ⟨p, m, sh, true, z⟩ = flg l fl0) := by
    show _ = _
    rw [← HL.out]
    conv => rhs; rw [ex]
    rw [flg_cons]
    simp [hxc]
   have hlen : l'.tail.length ≤ gk - 1 ∧ 0 < gk := by
    have := congrArg List.length ex
    simp at this ⊢
    omega
   subst q32
   have hr : RdW s R F (P' + 1) l'.tail ((y.w.setCell ⟨w.heap.size + 1, 3, none⟩ (.bool true)).setCell ⟨R, 0, none⟩ (.int .i64 ((P' + 1 : Nat)))) := (hY.grown n3 n4 _).put hd' he'
   have hgg : w.grownBy ((y.w.setCell ⟨w.heap.size + 1, 3, none⟩ (.bool true)).setCell ⟨R, 0, none⟩ (.int .i64 ((P' + 1 : Nat)))) (some R) := gr_put (gr_own hgY (by omega) _) _
   have hz1 : Bx ((y.w.setCell ⟨w.heap.size + 1, 3, none⟩ (.bool true)).setCell ⟨R, 0, none⟩ (.int .i64 ((P' + 1 : Nat)))) w.heap.size _ := (z1.other n7 _).other n1.symm _
   have hz2 : Bx ((y.w.setCell ⟨w.heap.size + 1, 3, none⟩ (.bool true)).setCell ⟨R, 0, none⟩ (.int .i64 ((P' + 1 : Nat)))) (w.heap.size + 1) (spV ⟨p, m, sh, true, z⟩ (-1) 0) := (z2.set 3 (by simp [spV]) _).other n3.symm _
   have hPI : (P' : Int) + 1 ≤ 1000000000000 := by omega
   clear put key HX HL
   go_wp2
   go_roundg (gk - 1)
   case measure => omega
   case rel => exact ⟨P' + 1, l'.tail, ⟨p, m, sh, true, z⟩, hr, hlen.1, HL', hgg, hz1, hz2⟩
  by_cases q48 : q = 48
  ·obtain ⟨rfl, x, ex, hxc, hd', he'⟩ := put 48 q48 (by omega) (by omega)
   have HL' : Hid (flg l'.tail ⟨p, m, sh, b, true⟩ = flg l fl0) := by
    show _ = _
    rw [← HL.out]
    conv => rhs; rw [ex]
    rw [flg_cons]
    simp [hxc]
   have hlen : l'.tail.length ≤ gk - 1 ∧ 0 < gk := by
    have := congrArg List.length ex
    simp at this ⊢
    omega
   subst q48
   have hr : RdW s R F (P' + 1) l'.tail ((y.w.setCell ⟨w.heap.size + 1, 4, none⟩ (.bool true)).setCell ⟨R, 0, none⟩ (.int .i64 ((P' + 1 : Nat)))) := (hY.grown n3 n4 _).put hd' he'
   have hgg : w.grownBy ((y.w.setCell ⟨w.heap.size + 1, 4, none⟩ (.bool true)).setCell ⟨R, 0, none⟩ (.int .i64 ((P' + 1 : Nat)))) (some R) := gr_put (gr_own hgY (by omega) _) _
   have hz1 : Bx ((y.w.setCell ⟨w.heap.size + 1, 4, none⟩ (.bool true)).setCell ⟨R, 0, none⟩ (.int .i64 ((P' + 1 : Nat)))) w.heap.size _ := (z1.other n7 _).other n1.symm _
   have hz2 : Bx ((y.w.setCell ⟨w.heap.size + 1, 4, none⟩ (.bool true)).setCell ⟨R, 0, none⟩ (.int .i64 ((P' + 1 : Nat)))) (w.heap.size + 1) (spV ⟨p, m, sh, b, true⟩ (-1) 0) := (z2.set 4 (by simp [spV]) _).other n3.symm _
   have hPI : (P' : Int) + 1 ≤ 1000000000000 := by omega
   clear put key HX HL
   go_wp2
   go_roundg (gk - 1)
   case measure => omega
   case rel => exact ⟨P' + 1, l'.tail, ⟨p, m, sh, b, true⟩, hr, hlen.1, HL', hgg, hz1, hz2⟩
  have HF : Hid (flg l fl0 = (⟨p, m, sh, b, z⟩, l')) := by
   show _ = _
   rw [← HL.out]
   exact flg_no ⟨fun e => q43 ((key 43 (by omega) (by omega)).2 e), fun e => q45 ((key 45 (by omega) (by omega)).2 e), fun e => q35 ((key 35 (by omega) (by omega)).2 e), fun e => q32 ((key 32 (by omega) (by omega)).2 e), fun e => q48 ((key 48 (by omega) (by omega)).2 e)⟩
  have i43 : ¬ (q : Int) = 43 := by omega
  have i45 : ¬ (q : Int) = 45 := by omega
  have i35 : ¬ (q : Int) = 35 := by omega
  have i32 : ¬ (q : Int) = 32 := by omega
  have i48 : ¬ (q : Int) = 48 := by omega
  clear put key HX HL q43 q45 q35 q32 q48
  go_wp2
  refine bodyPost_ret (by simp [results, Tryz.results101, go_sem, cs_same9, e0, e1, e2, e3, e4, e5, e6, e7]; rfl) rfl ?_
  rw [HF.out]
  refine ⟨rfl, ⟨P', ?_⟩, ?_⟩
  ·iterate 8 (refine RdW.grown ?_ n1 n2 _)
   exact hY
  ·iterate 8 (refine gr_own ?_ (Nat.le_refl _) _)
   exact hgY
end Go.Proofs.YtdlnmnipnkeabaaGreatDoor
namespace Go.Proofs.YtdlnmnipnkeabaaGreatDoor
open Go.RowKit
set_option linter.unusedVariables false
set_option linter.unusedSimpArgs false
abbrev SgC (a b c : Ix) : Prop := ∀ (w : World) (B cp : Nat), Bx w B [.int .i64 (a.k : Nat), .int .i64 (a.n : Nat), .int .i64 (b.k : Nat), .int .i64 (b.n : Nat), .int .i64 (c.k : Nat), .int .i64 (c.n : Nat)] → Calls Tryz.prog 105 #[.slice (some ⟨B, 0, none⟩) 3 cp] w fun e w' => e = .returned (ixV (sgl a b c)) ∧ Below w.heap.size w w'
def sgR : Ix → List Ix → Ix
 | o, [] => o
 | o, x :: t => if x.k = 0 then sgR o t else if o.k ≠ 0 then ix2 else sgR x t
theorem sgl_R (a b c : Ix) : sgl a b c = sgR ix0 [a, b, c] := by
 unfold sgl
 simp only [sgR, ix0]
 by_cases h1 : a.k = 0 <;> by_cases h2 : b.k = 0 <;> by_cases h3 : c.k = 0 <;> simp [h1, h2, h3]
set_option maxRecDepth 1000000 in
set_option maxHeartbeats 4000000 in
theorem single_any (a b c : Ix) : SgC a b c := fun w B cp hB => by
 have HS : Hid (sgl a b c = sgR ix0 [a, b, c]) := sgl_R a b c
 generalize sgl a b c = T at *
 obtain ⟨W1, hW1⟩ : ∃ W1, W1 = (w.alloc (.cells #[.int .i64 0, .int .i64 0] 115)) := ⟨_, rfl⟩
 obtain ⟨W2, hW2⟩ : ∃ W2, W2 = (W1.alloc (.cells #[.int .i64 0, .int .i64 0] 115)) := ⟨_, rfl⟩
 have hs1 : W1.heap.size = w.heap.size + 1 := by rw [hW1]; simp
 have hb1 : Below w.heap.size w W1 := by rw [hW1]; exact (Below.refl _ _).alloc (Nat.le_refl _) _
 have hb2 : Below W1.heap.size W1 W2 := by rw [hW2]; exact (Below.refl _ _).alloc (Nat.le_refl _) _
 have hx1 : Bx W2 w.heap.size [.int .i64 0, .int .i64 0] := Bx.up (by rw [hW1]; exact Bx.new _ _ _) hb2
 have hx2 : Bx W2 (w.heap.size + 1) [.int .i64 (ix0.k : Nat), .int .i64 (ix0.n : Nat)] := by rw [← hs1, hW2]; exact Bx.new _ _ _
 have hbl : Below w.heap.size w W2 := hb1.trans (hb2.mono hb1.size)
 have n6 : w.heap.size ≠ w.heap.size + 1 := by omega
 have n7 : w.heap.size + 1 ≠ w.heap.size := by omega
 unfold ixV
 go_enter Tryz.func105, Tryz.ntmps105
 go_wp2
 rw [← hW1, ← hW2]
 clear hW1 hW2 hb1 hb2
 go_loopg [5, 8] 3 (fun g xv iv wr => ∃ (j : Nat) (o : Ix), iv = .int .i64 (j : Nat) ∧ j + g = 3 ∧ Below w.heap.size w wr ∧ Bx wr w.heap.size [.int .i64 0, .int .i64 0] ∧ Bx wr (w.heap.size + 1) [.int .i64 (o.k : Nat), .int .i64 (o.n : Nat)] ∧ Hid (T = sgR o ([a, b, c].drop j)))
 case atStart => exact ⟨0, ix0, rfl, rfl, hbl, hx1, hx2, HS.out⟩
 case round =>
  obtain ⟨j, o, rfl, hjg, hb, hy1, hy2, HT⟩ := hrel
  clear hbl hx1 hx2
  obtain ⟨k0, k1⟩ := hy1.two
  have kz := hy1.z
  obtain ⟨g0, g1⟩ := hy2.two
  have gz := hy2.z
  have l1 := hy1.b
  have l2 := hy2.b
  have m1 : ¬ w.heap.size = wr.heap.size := by omega
  have m2 : ¬ w.heap.size + 1 = wr.heap.size := by omega
  by_cases hj : j < 3
  ·have hX : ∃ x : Ix, ([a, b, c].drop j = x :: [a, b, c].drop (j + 1)) ∧ wr.cell? ⟨B, j * 2, none⟩ = some (.int .i64 (x.k : Nat)) ∧ wr.cell? ⟨B, j * 2 + 1, none⟩ = some (.int .i64 (x.n : Nat)) := by
    rcases (by omega : j = 0 ∨ j = 1 ∨ j = 2) with rfl | rfl | rfl
    ·exact ⟨a, rfl, (hb.cell hB.b).trans (hB.c 0 _ rfl), (hb.cell hB.b).trans (hB.c 1 _ rfl)⟩
    ·exact ⟨b, rfl, (hb.cell hB.b).trans (hB.c 2 _ rfl), (hb.cell hB.b).trans (hB.c 3 _ rfl)⟩
    ·exact ⟨c, rfl, (hb.cell hB.b).trans (hB.c 4 _ rfl), (hb.cell hB.b).trans (hB.c 5 _ rfl)⟩
   obtain ⟨x, hdx, f0, f1⟩ := hX
   have hT := HT.out
   rw [hdx] at hT
   unfold sgR at hT
   have H1 : Hid (x.k = 0 → T = sgR o ([a, b, c].drop (j + 1))) := fun h => by rw [if_pos h] at hT; exact hT
   have H2 : Hid (x.k ≠ 0 → o.k = 0 → T = sgR x ([a, b, c].drop (j + 1))) := fun h h' => by rw [if_neg h, if_neg (by omega)] at hT; exact hT
   have H3 : Hid (x.k ≠ 0 → o.k ≠ 0 → T = ix2) := fun h h' => by rw [if_neg h, if_pos h'] at hT; exact hT
   clear hdx HT HS hT
   have al : ∀ V o, Below (World.heap V).size V (V.alloc o) := fun V o => (Below.refl _ _).alloc (Nat.le_refl _) _
   rcases (by omega : j = 0 ∨ j = 1 ∨ j = 2) with rfl | rfl | rfl
   all_goals
    by_cases hk : x.k = 0
    ·have HT : Hid (T = sgR o _) := H1.out hk
     rw [hk] at f0
     clear H1 H2 H3 hk
     go_wp2
     go_roundg (gk - 1)
     case measure => omega
     case rel => exact ⟨_, o, by go_num, by omega, hb.alloc hb.size _, hy1.up (al _ _), hy2.up (al _ _), HT⟩
    ·have hkI : ¬ (x.k : Int) = 0 := by omega
     by_cases ho : o.k = 0
     ·have HT : Hid (T = sgR x _) := H2.out hk ho
      rw [ho] at g0
      clear H1 H2 H3 hk ho
      go_wp2
      go_roundg (gk - 1)
      case measure => omega
      case rel => exact ⟨_, x, by go_num, by omega, ((hb.setCell (by dsimp only; omega) _).setCell (by dsimp only; omega) _).alloc (by have := hb.size; simpa [World.setCell] using this) _, ((hy1.other n7 _).other n7 _).up (al _ _), ((hy2.set 0 (by simp) _).set 1 (by simp) _).up (al _ _), HT⟩
     ·have hoI : ¬ (o.k : Int) = 0 := by omega
      have HT : Hid (T = ix2) := H3.out hk ho
      clear H1 H2 H3 hk ho
      go_wp2
      obtain ⟨r0, r1⟩ := (((hy1.set 0 (by simp) (.int .i64 2)).set 1 (by simp) (.int .i64 0)).up (al _ (.cells #[.int .i64 (x.k : Nat), .int .i64 (x.n : Nat)] 115))).two
      refine bodyPost_ret (by simp only [results, Tryz.results105]; simp [go_sem, r0, r1]; rfl) rfl ?_
      rw [HT.out]
      exact ⟨rfl, ((hb.setCell (Nat.le_refl _) _).setCell (Nat.le_refl _) _).alloc (by have := hb.size; simpa [World.setCell] using this) _⟩
  ·have hjI : ¬ (j : Int) < 3 := by omega
   have hT := HT.out
   rw [List.drop_eq_nil_of_le (by simp; omega)] at hT
   have HT : Hid (T = o) := hT
   clear hT
   go_wp2
   refine bodyPost_ret (by simp [results, Tryz.results105, go_sem, cs_same9, k0, k1]; rfl) rfl ?_
   rw [HT.out]
   exact ⟨rfl, (hb.setCell (Nat.le_refl _) _).setCell (Nat.le_refl _) _⟩
end Go.Proofs.YtdlnmnipnkeabaaGreatDoor
namespace Go.Proofs.YtdlnmnipnkeabaaGreatDoor
open Go.RowKit
set_option linter.unusedVariables false
set_option linter.unusedSimpArgs false
structure StW (w0 : World) (s : ByteArray) (R F B : Nat) (x : Ix) (P : Nat) (l : Bs) (w : World) : Prop where
 r : RdW s R F P l w
 a : Bx w w0.heap.size [.int .i64 0, .int .i64 0, .int .i64 0, .int .i64 0]
 b : Bx w (w0.heap.size + 1) [.int .i64 0, .int .i64 0]
 c : Bx w B [.int .i64 (x.k : Nat), .int .i64 (x.n : Nat)]
 g : w0.grownBy w (some R)
 nR : R < w0.heap.size
 nF : F < w0.heap.size
 nB : w0.heap.size + 1 < B
theorem StW.up {w0 : World} {s : ByteArray} {R F B : Nat} {x : Ix} {P : Nat} {l : Bs} {w w' : World} (h : StW w0 s R F B x P l w) (hb : Below w.heap.size w w') : StW w0 s R F B x P l w' :=
 ⟨h.r.up hb, h.a.up hb, h.b.up hb, h.c.up hb, h.g.trans (gr_below hb _), h.nR, h.nF, h.nB⟩
theorem StW.go {w0 : World} {s : ByteArray} {R F B : Nat} {x : Ix} {P P' : Nat} {l l' : Bs} {w w' : World} (h : StW w0 s R F B x P l w) (hr : RdW s R F P' l' w') (hg : w.grownBy w' (some R)) : StW w0 s R F B x P' l' w' :=
 ⟨hr, h.a.grown hg (by have := h.nR; omega), h.b.grown hg (by have := h.nR; omega), h.c.grown hg (by have := h.nR; have := h.nB; omega), h.g.trans hg, h.nR, h.nF, h.nB⟩
theorem StW.cells {w0 : World} {s : ByteArray} {R F B : Nat} {x : Ix} {P : Nat} {l : Bs} {w : World} (h : StW w0 s R F B x P l w) :
  (w.cell? ⟨w0.heap.size, 0, none⟩ = some (.int .i64 0) ∧ w.cell? ⟨w0.heap.size, 1, none⟩ = some (.int .i64 0) ∧ w.cell? ⟨w0.heap.size, 2, none⟩ = some (.int .i64 0) ∧ w.cell? ⟨w0.heap.size, 3, none⟩ = some (.int .i64 0)) ∧
  (w.cell? ⟨w0.heap.size + 1, 0, none⟩ = some (.int .i64 0) ∧ w.cell? ⟨w0.heap.size + 1, 1, none⟩ = some (.int .i64 0)) ∧
  (w.cell? ⟨B, 0, none⟩ = some (.int .i64 (x.k : Nat)) ∧ w.cell? ⟨B, 1, none⟩ = some (.int .i64 (x.n : Nat))) ∧
  ((∀ i, w.frozen? ⟨w0.heap.size, i, none⟩ = false) ∧ (∀ i, w.frozen? ⟨w0.heap.size + 1, i, none⟩ = false) ∧ (∀ i, w.frozen? ⟨B, i, none⟩ = false)) ∧
  (w.cell? ⟨R, 0, none⟩ = some (.int .i64 (P : Nat)) ∧ w.cell? ⟨R, 1, none⟩ = some (.func (.func 61) #[] #[.pointer (some ⟨F, 0, none⟩)]) ∧ w.cell? ⟨F, 0, none⟩ = some (.string s)) :=
 ⟨h.a.four, h.b.two, h.c.two, ⟨h.a.z, h.b.z, h.c.z⟩, h.r.a, h.r.n, h.r.f⟩
theorem StW.fin {w0 : World} {s : ByteArray} {R F B : Nat} {x : Ix} {P : Nat} {l : Bs} {w : World} (h : StW w0 s R F B x P l w) {b1 b2 b3 b4 b5 b6 o1 o2 o3 o4 o5 o6 : Nat} {v1 v2 v3 v4 v5 v6 : Value}
  (c1 : w0.heap.size ≤ b1) (c2 : w0.heap.size ≤ b2) (c3 : w0.heap.size ≤ b3) (c4 : w0.heap.size ≤ b4) (c5 : w0.heap.size ≤ b5) (c6 : w0.heap.size ≤ b6) :
  (∃ P', RdW s R F P' l ((((((w.setCell ⟨b1, o1, none⟩ v1).setCell ⟨b2, o2, none⟩ v2).setCell ⟨b3, o3, none⟩ v3).setCell ⟨b4, o4, none⟩ v4).setCell ⟨b5, o5, none⟩ v5).setCell ⟨b6, o6, none⟩ v6)) ∧
  w0.grownBy ((((((w.setCell ⟨b1, o1, none⟩ v1).setCell ⟨b2, o2, none⟩ v2).setCell ⟨b3, o3, none⟩ v3).setCell ⟨b4, o4, none⟩ v4).setCell ⟨b5, o5, none⟩ v5).setCell ⟨b6, o6, none⟩ v6) (some R) := by
 have := h.nR
 have := h.nF
 exact ⟨⟨P, (((((h.r.grown (by omega) (by omega) _).grown (by omega) (by omega) _).grown (by omega) (by omega) _).grown (by omega) (by omega) _).grown (by omega) (by omega) _).grown (by omega) (by omega) _⟩,
  gr_own (gr_own (gr_own (gr_own (gr_own (gr_own h.g c1 _) c2 _) c3 _) c4 _) c5 _) c6 _⟩
theorem StW.begin {w : World} {s : ByteArray} {R F P P' : Nat} {l l' : Bs} {x : Ix} {w3 W1 W2 : World} (h : RdW s R F P l w) (e1 : W1 = w.alloc (.cells #[.int .i64 0, .int .i64 0, .int .i64 0, .int .i64 0] 117)) (e2 : W2 = W1.alloc (.cells #[.int .i64 0, .int .i64 0] 115))
  (hr : RdW s R F P' l' w3) (hg : W2.grownBy w3 (some R)) : StW w s R F w3.heap.size x P' l' (w3.alloc (.cells #[.int .i64 (x.k : Nat), .int .i64 (x.n : Nat)] 115)) := by
 have hs1 : W1.heap.size = w.heap.size + 1 := by rw [e1]; simp
 have hs2 : W2.heap.size = w.heap.size + 2 := by rw [e2]; simp [hs1]
 have hb1 : Below w.heap.size w W1 := by rw [e1]; exact (Below.refl _ _).alloc (Nat.le_refl _) _
 have hb2 : Below W1.heap.size W1 W2 := by rw [e2]; exact (Below.refl _ _).alloc (Nat.le_refl _) _
 have hx1 : Bx W2 w.heap.size [.int .i64 0, .int .i64 0, .int .i64 0, .int .i64 0] := Bx.up (by rw [e1]; exact Bx.new _ _ _) hb2
 have hx2 : Bx W2 (w.heap.size + 1) [.int .i64 0, .int .i64 0] := by rw [← hs1, e2]; exact Bx.new _ _ _
 have hRw : R < w.heap.size := lt_of_cell9 h.a
 have hFw : F < w.heap.size := lt_of_cell9 h.f
 have al : Below w3.heap.size w3 (w3.alloc (.cells #[.int .i64 (x.k : Nat), .int .i64 (x.n : Nat)] 115)) := (Below.refl _ _).alloc (Nat.le_refl _) _
 have hsz := hg.size
 exact ⟨hr.up al, (hx1.grown hg (by omega)).up al, (hx2.grown hg (by omega)).up al, Bx.new _ _ _, ((gr_below hb1 _).trans (gr_below hb2 _)).trans (hg.trans (gr_below al _)), hRw, hFw, by omega⟩
abbrev IdC (s : ByteArray) (R F P : Nat) (l : Bs) (x : Ix) (l' : Bs) : Prop := ∀ w, RdW s R F P l w → Calls Tryz.prog 106 #[.pointer (some ⟨R, 0, none⟩)] w fun e w' => e = .returned (.agg #[.int .i64 (x.k : Nat), .int .i64 (x.n : Nat)]) ∧ (∃ P', RdW s R F P' l' w') ∧ w.grownBy w' (some R)
abbrev WdC (s : ByteArray) (R F P : Nat) (l : Bs) (a : Nb) (x : Ix) (l' : Bs) : Prop := ∀ w, RdW s R F P l w → Calls Tryz.prog 102 #[.pointer (some ⟨R, 0, none⟩)] w fun e w' => e = .returned (.tuple #[nbV a, ixV x]) ∧ (∃ P', RdW s R F P' l' w') ∧ w.grownBy w' (some R)
theorem StW.finD {w0 : World} {s : ByteArray} {R F : Nat} {l : Bs} {w : World} (h : (∃ P', RdW s R F P' l w) ∧ w0.grownBy w (some R)) : (∃ P', RdW s R F P' l w.drew) ∧ w0.grownBy w.drew (some R) := by
 obtain ⟨⟨P', a⟩, b⟩ := h
 exact ⟨⟨P', a.up ((Below.refl _ _).drew)⟩, b.trans (gr_below ((Below.refl _ _).drew) _)⟩
set_option maxRecDepth 1000000 in
set_option maxHeartbeats 4000000 in
theorem width_star {s : ByteArray} {R F P : Nat} {l l1 : Bs} {x : Ix} (hI : IdC s R F P l x l1) (hh : hd l1 = 42) : WdC s R F P l ⟨2, 0, x⟩ ix0 l1.tail := fun w h => by
 have hT := fun P1 => take_yes (s := s) (R := R) (F := F) (P := P1) (l := l1) (c := 42) (by omega) (by omega) hh
 obtain ⟨W1, hW1⟩ : ∃ W1, W1 = w.alloc (.cells #[.int .i64 0, .int .i64 0, .int .i64 0, .int .i64 0] 117) := ⟨_, rfl⟩
 obtain ⟨W2, hW2⟩ : ∃ W2, W2 = W1.alloc (.cells #[.int .i64 0, .int .i64 0] 115) := ⟨_, rfl⟩
 have h1 : RdW s R F P l W1 := h.up (by rw [hW1]; exact (Below.refl _ _).alloc (Nat.le_refl _) _)
 have h2 : RdW s R F P l W2 := h1.up (by rw [hW2]; exact (Below.refl _ _).alloc (Nat.le_refl _) _)
 have beg := fun (P1 : Nat) (w3 : World) (hr : RdW s R F P1 l1 w3) (hg : W2.grownBy w3 (some R)) => StW.begin (x := x) h hW1 hW2 hr hg
 clear h1
 unfold nbV ixV ix0
 dsimp only
 go_enter Tryz.func102, Tryz.ntmps102
 go_upto_region 1 with fail
 rw [← hW1, ← hW2]
 clear hW1 hW2
 go_upto_region 2 with (go_at_call 106; refine (hI _ h2).mono ?_; rintro e w3 ⟨rfl, ⟨P1, h3⟩, g3⟩; have s4 := beg P1 w3 h3 g3)
 generalize w3.alloc (.cells #[.int .i64 (x.k : Nat), .int .i64 (x.n : Nat)] 115) = W4 at *
 generalize w3.heap.size = B at *
 go_wp2_with (go_at_call 76; refine (hT _ _ s4.r).mono ?_; rintro e w5 ⟨rfl, h5, g5⟩; have s5 := s4.go h5 g5; obtain ⟨⟨k0, k1, k2, k3⟩, ⟨j0, j1⟩, ⟨i0, i1⟩, ⟨z0, z1, z2⟩, ⟨d0, d1, d2⟩⟩ := s5.cells)
 refine bodyPost_ret (by simp [results, Tryz.results102, go_sem, cs_same9, k0, k1, k2, k3, j0, j1]; rfl) rfl ?_
 exact ⟨rfl, s5.fin (by omega) (by omega) (by omega) (by omega) (by omega) (by omega)⟩
set_option maxRecDepth 1000000 in
set_option maxHeartbeats 4000000 in
theorem width_low {s : ByteArray} {R F P : Nat} {l l1 : Bs} {x : Ix} {q n : Nat} (hI : IdC s R F P l x l1) (hh : hd l1 ≠ 42) (hx : nxt l1 = (q, n)) (hq : q < 49) : WdC s R F P l nb0 x l1 := fun w h => by
 have hT := fun P1 => take_no (s := s) (R := R) (F := F) (P := P1) (l := l1) (c := 42) (by omega) (by omega) hh
 obtain ⟨W1, hW1⟩ : ∃ W1, W1 = w.alloc (.cells #[.int .i64 0, .int .i64 0, .int .i64 0, .int .i64 0] 117) := ⟨_, rfl⟩
 obtain ⟨W2, hW2⟩ : ∃ W2, W2 = W1.alloc (.cells #[.int .i64 0, .int .i64 0] 115) := ⟨_, rfl⟩
 have h1 : RdW s R F P l W1 := h.up (by rw [hW1]; exact (Below.refl _ _).alloc (Nat.le_refl _) _)
 have h2 : RdW s R F P l W2 := h1.up (by rw [hW2]; exact (Below.refl _ _).alloc (Nat.le_refl _) _)
 have beg := fun (P1 : Nat) (w3 : World) (hr : RdW s R F P1 l1 w3) (hg : W2.grownBy w3 (some R)) => StW.begin (x := x) h hW1 hW2 hr hg
 clear h1
 unfold nbV ixV nb0 ix0
 dsimp only
 have b1 : (q : Int) < 49 := by omega
 go_enter Tryz.func102, Tryz.ntmps102
 go_upto_region 1 with fail
 rw [← hW1, ← hW2]
 clear hW1 hW2
 go_upto_region 2 with (go_at_call 106; refine (hI _ h2).mono ?_; rintro e w3 ⟨rfl, ⟨P1, h3⟩, g3⟩; have s4 := beg P1 w3 h3 g3)
 generalize w3.alloc (.cells #[.int .i64 (x.k : Nat), .int .i64 (x.n : Nat)] 115) = W4 at *
 generalize w3.heap.size = B at *
 go_upto_region 4 with (go_at_call 76; refine (hT _ _ s4.r).mono ?_; rintro e w5 ⟨rfl, h5, g5⟩; have s4' := s4.go h5 g5)
 have c0 : ∀ x : Cl w5, x.w.cell? ⟨R, 0, none⟩ = some (.int .i64 (P1 : Nat)) := fun x => x.cell h5.a
 have c1 : ∀ x : Cl w5, x.w.cell? ⟨R, 1, none⟩ = some (.func (.func 61) #[] #[.pointer (some ⟨F, 0, none⟩)]) := fun x => x.cell h5.n
 have hN := h5.next hx
 refine wp_region_above w5 (Below.refl _ _) (by kernel_rfl) (by kernel_rfl) ?_
 intro hCl
 repeat (go_big_quiet_step ((go_at_call 61; exact Cl.call (hN _))))
 refine wpQuiet_nil ?_
 intro _ hw'
 obtain ⟨y, hy⟩ := hw'
 subst hy
 have s5 := s4'.up y.below
 obtain ⟨⟨k0, k1, k2, k3⟩, ⟨j0, j1⟩, ⟨i0, i1⟩, ⟨z0, z1, z2⟩, ⟨d0, d1, d2⟩⟩ := s5.cells
 clear c0 c1 hN hCl
 have n1 := s5.nB
 go_wp2
 go_region
 all_goals go_wp2
 all_goals refine bodyPost_ret (by simp [results, Tryz.results102, go_sem, cs_same9, k0, k1, k2, k3, j0, j1]; rfl) rfl ?_
 all_goals refine ⟨rfl, ?_⟩
 all_goals exact StW.finD (s5.fin (by omega) (by omega) (by omega) (by omega) (by omega) (by omega))
set_option maxRecDepth 1000000 in
set_option maxHeartbeats 4000000 in
theorem width_high {s : ByteArray} {R F P : Nat} {l l1 : Bs} {x : Ix} {q n : Nat} (hI : IdC s R F P l x l1) (hh : hd l1 ≠ 42) (hx : nxt l1 = (q, n)) (hq : 57 < q) : WdC s R F P l nb0 x l1 := fun w h => by
 have hT := fun P1 => take_no (s := s) (R := R) (F := F) (P := P1) (l := l1) (c := 42) (by omega) (by omega) hh
 obtain ⟨W1, hW1⟩ : ∃ W1, W1 = w.alloc (.cells #[.int .i64 0, .int .i64 0, .int .i64 0, .int .i64 0] 117) := ⟨_, rfl⟩
 obtain ⟨W2, hW2⟩ : ∃ W2, W2 = W1.alloc (.cells #[.int .i64 0, .int .i64 0] 115) := ⟨_, rfl⟩
 have h1 : RdW s R F P l W1 := h.up (by rw [hW1]; exact (Below.refl _ _).alloc (Nat.le_refl _) _)
 have h2 : RdW s R F P l W2 := h1.up (by rw [hW2]; exact (Below.refl _ _).alloc (Nat.le_refl _) _)
 have beg := fun (P1 : Nat) (w3 : World) (hr : RdW s R F P1 l1 w3) (hg : W2.grownBy w3 (some R)) => StW.begin (x := x) h hW1 hW2 hr hg
 clear h1
 unfold nbV ixV nb0 ix0
 dsimp only
 have b1 : ¬ (q : Int) < 49 := by omega
 have b2 : 57 < (q : Int) := by omega
 go_enter Tryz.func102, Tryz.ntmps102
 go_upto_region 1 with fail
 rw [← hW1, ← hW2]
 clear hW1 hW2
 go_upto_region 2 with (go_at_call 106; refine (hI _ h2).mono ?_; rintro e w3 ⟨rfl, ⟨P1, h3⟩, g3⟩; have s4 := beg P1 w3 h3 g3)
 generalize w3.alloc (.cells #[.int .i64 (x.k : Nat), .int .i64 (x.n : Nat)] 115) = W4 at *
 generalize w3.heap.size = B at *
 go_upto_region 4 with (go_at_call 76; refine (hT _ _ s4.r).mono ?_; rintro e w5 ⟨rfl, h5, g5⟩; have s4' := s4.go h5 g5)
 have c0 : ∀ x : Cl w5, x.w.cell? ⟨R, 0, none⟩ = some (.int .i64 (P1 : Nat)) := fun x => x.cell h5.a
 have c1 : ∀ x : Cl w5, x.w.cell? ⟨R, 1, none⟩ = some (.func (.func 61) #[] #[.pointer (some ⟨F, 0, none⟩)]) := fun x => x.cell h5.n
 have hN := h5.next hx
 refine wp_region_above w5 (Below.refl _ _) (by kernel_rfl) (by kernel_rfl) ?_
 intro hCl
 repeat (go_big_quiet_step ((go_at_call 61; exact Cl.call (hN _))))
 refine wpQuiet_nil ?_
 intro _ hw'
 obtain ⟨y, hy⟩ := hw'
 subst hy
 have s5 := s4'.up y.below
 obtain ⟨⟨k0, k1, k2, k3⟩, ⟨j0, j1⟩, ⟨i0, i1⟩, ⟨z0, z1, z2⟩, ⟨d0, d1, d2⟩⟩ := s5.cells
 clear c0 c1 hN hCl
 have n1 := s5.nB
 go_wp2
 go_region
 all_goals go_wp2
 all_goals refine bodyPost_ret (by simp [results, Tryz.results102, go_sem, cs_same9, k0, k1, k2, k3, j0, j1]; rfl) rfl ?_
 all_goals refine ⟨rfl, ?_⟩
 all_goals exact StW.finD (s5.fin (by omega) (by omega) (by omega) (by omega) (by omega) (by omega))
set_option maxRecDepth 1000000 in
set_option maxHeartbeats 4000000 in
theorem width_given {s : ByteArray} {R F P : Nat} {l l1 : Bs} {x : Ix} {q n : Nat} (hI : IdC s R F P l x l1) (hh : hd l1 ≠ 42) (hx : nxt l1 = (q, n)) (hq : 49 ≤ q) (hq' : q ≤ 57) : WdC s R F P l ⟨1, wN (dgs l1), ix0⟩ (spl x) (aft l1) := fun w h => by
 have hT := fun P1 => take_no (s := s) (R := R) (F := F) (P := P1) (l := l1) (c := 42) (by omega) (by omega) hh
 have hG : ∀ P1 (w : World), RdW s R F P1 l1 w → Calls Tryz.prog 126 #[.pointer (some ⟨R, 0, none⟩)] w fun e w' => e = .returned (.agg #[.int .i64 1, .int .i64 (wN (dgs l1)), .int .i64 0, .int .i64 0]) ∧ RdW s R F (P1 + (dgs l1).length) (aft l1) w' ∧ w.grownBy w' (some R) := fun P1 => given_any s R F P1 l1
 have hS : ∀ w : World, Calls Tryz.prog 103 #[.agg #[.int .i64 (x.k : Nat), .int .i64 (x.n : Nat)]] w fun e w' => e = .returned (.agg #[.int .i64 ((spl x).k : Nat), .int .i64 ((spl x).n : Nat)]) ∧ Below w.heap.size w w' := spoilt_any x
 unfold nbV ixV ix0 at *
 dsimp only at *
 generalize wN (dgs l1) = D at *
 generalize spl x = sx at *
 obtain ⟨W1, hW1⟩ : ∃ W1, W1 = w.alloc (.cells #[.int .i64 0, .int .i64 0, .int .i64 0, .int .i64 0] 117) := ⟨_, rfl⟩
 obtain ⟨W2, hW2⟩ : ∃ W2, W2 = W1.alloc (.cells #[.int .i64 0, .int .i64 0] 115) := ⟨_, rfl⟩
 have h1 : RdW s R F P l W1 := h.up (by rw [hW1]; exact (Below.refl _ _).alloc (Nat.le_refl _) _)
 have h2 : RdW s R F P l W2 := h1.up (by rw [hW2]; exact (Below.refl _ _).alloc (Nat.le_refl _) _)
 have beg := fun (P1 : Nat) (w3 : World) (hr : RdW s R F P1 l1 w3) (hg : W2.grownBy w3 (some R)) => StW.begin (x := x) h hW1 hW2 hr hg
 clear h1
 have b1 : ¬ (q : Int) < 49 := by omega
 have b2 : ¬ 57 < (q : Int) := by omega
 go_enter Tryz.func102, Tryz.ntmps102
 go_upto_region 1 with fail
 rw [← hW1, ← hW2]
 clear hW1 hW2
 go_upto_region 2 with (go_at_call 106; refine (hI _ h2).mono ?_; rintro e w3 ⟨rfl, ⟨P1, h3⟩, g3⟩; have s4 := beg P1 w3 h3 g3)
 generalize w3.alloc (.cells #[.int .i64 (x.k : Nat), .int .i64 (x.n : Nat)] 115) = W4 at *
 generalize w3.heap.size = B at *
 go_upto_region 4 with (go_at_call 76; refine (hT _ _ s4.r).mono ?_; rintro e w5 ⟨rfl, h5, g5⟩; have s4' := s4.go h5 g5)
 have c0 : ∀ x : Cl w5, x.w.cell? ⟨R, 0, none⟩ = some (.int .i64 (P1 : Nat)) := fun x => x.cell h5.a
 have c1 : ∀ x : Cl w5, x.w.cell? ⟨R, 1, none⟩ = some (.func (.func 61) #[] #[.pointer (some ⟨F, 0, none⟩)]) := fun x => x.cell h5.n
 have hN := h5.next hx
 refine wp_region_above w5 (Below.refl _ _) (by kernel_rfl) (by kernel_rfl) ?_
 intro hCl
 repeat (go_big_quiet_step ((go_at_call 61; exact Cl.call (hN _))))
 refine wpQuiet_nil ?_
 intro _ hw'
 obtain ⟨y, hy⟩ := hw'
 subst hy
 have s5 := s4'.up y.below
 obtain ⟨⟨k0, k1, k2, k3⟩, ⟨j0, j1⟩, ⟨i0, i1⟩, ⟨z0, z1, z2⟩, ⟨d0, d1, d2⟩⟩ := s5.cells
 clear c0 c1 hN hCl
 have hGv : ∀ V, StW w s R F B x P1 l1 V → Calls Tryz.prog 126 #[.pointer (some ⟨R, 0, none⟩)] V fun e w' => e = .returned (.agg #[.int .i64 1, .int .i64 D, .int .i64 0, .int .i64 0]) ∧ StW w s R F B x (P1 + (dgs l1).length) (aft l1) w' := fun V hV => (hG P1 V hV.r).mono fun e w' ⟨e1, e2, e3⟩ => ⟨e1, hV.go e2 e3⟩
 have hSv : ∀ V (P2 : Nat) (l2 : Bs), StW w s R F B x P2 l2 V → Calls Tryz.prog 103 #[.agg #[.int .i64 (x.k : Nat), .int .i64 (x.n : Nat)]] V fun e w' => e = .returned (.agg #[.int .i64 (sx.k : Nat), .int .i64 (sx.n : Nat)]) ∧ StW w s R F B x P2 l2 w' := fun V P2 l2 hV => (hS V).mono fun e w' ⟨e1, e2⟩ => ⟨e1, hV.up e2⟩
 clear hG hS hT beg hI
 have s6 : StW w s R F B x P1 l1 y.w.drew := s5.up ((Below.refl _ _).drew)
 have n1 := s5.nB
 go_wp2
 go_region_with (first
  | (go_at_call 126; refine (hGv _ (by assumption)).mono ?_; rintro e w6 ⟨rfl, s7⟩; obtain ⟨⟨u0, u1, u2, u3⟩, ⟨t0, t1⟩, ⟨v0, v1⟩, ⟨f0, f1, f2⟩, ⟨e0, e1, e2⟩⟩ := s7.cells)
  | (go_at_call 103; refine (hSv _ _ _ (by assumption)).mono ?_; rintro e w7 ⟨rfl, s8⟩; obtain ⟨⟨u0, u1, u2, u3⟩, ⟨t0, t1⟩, ⟨v0, v1⟩, ⟨f0, f1, f2⟩, ⟨e0, e1, e2⟩⟩ := s8.cells))
 all_goals go_wp2
 all_goals refine bodyPost_ret (by simp [results, Tryz.results102, go_sem, cs_same9, u0, u1, u2, u3, t0, t1]; rfl) rfl ?_
 all_goals refine ⟨rfl, StW.fin (by assumption) (by omega) (by omega) (by omega) (by omega) (by omega) (by omega)⟩
end Go.Proofs.YtdlnmnipnkeabaaGreatDoor
