/- Package parse: the flags; single. -/
import Derived.Test.YtpknjcdodnoibaaPWalkC
namespace Go.Proofs.Ytpknjcdodnoibaa
open Go.RowKit
set_option linter.unusedVariables false
set_option linter.unusedSimpArgs false

/-- A spec with these flags. -/
def spV (f : Fl) (sz : Int) (verb : Nat) : List Value := [.bool f.p, .bool f.m, .bool f.s, .bool f.b, .bool f.z, .int .i64 sz, .int .i64 sz, .int .i32 (verb : Nat)]
theorem flg_cons (x : UInt8) (t : Bs) (f : Fl) : flg (x :: t) f =
    if x.toNat = 43 then flg t ⟨true, f.m, f.s, f.b, f.z⟩
    else if x.toNat = 45 then flg t ⟨f.p, true, f.s, f.b, f.z⟩
    else if x.toNat = 35 then flg t ⟨f.p, f.m, true, f.b, f.z⟩
    else if x.toNat = 32 then flg t ⟨f.p, f.m, f.s, true, f.z⟩
    else if x.toNat = 48 then flg t ⟨f.p, f.m, f.s, f.b, true⟩
    else (f, x :: t) := rfl
theorem flg_no {l : Bs} {f : Fl} (h : hd l ≠ 43 ∧ hd l ≠ 45 ∧ hd l ≠ 35 ∧ hd l ≠ 32 ∧ hd l ≠ 48) : flg l f = (f, l) := by
  cases l with
  | nil => rfl
  | cons x t =>
    unfold hd at h
    dsimp only at h
    unfold flg
    rw [if_neg h.1, if_neg h.2.1, if_neg h.2.2.1, if_neg h.2.2.2.1, if_neg h.2.2.2.2]
abbrev FlC (s : ByteArray) (R F P : Nat) (l : Bs) : Prop := ∀ w, RdW s R F P l w → Calls Try.prog 23 #[.pointer (some ⟨R, 0, none⟩)] w fun e w' => e = .returned (.agg (spV (flg l fl0).1 (-1) 0).toArray) ∧ (∃ P', RdW s R F P' (flg l fl0).2 w') ∧ w.grownBy w' (some R)
set_option maxRecDepth 1000000 in
set_option maxHeartbeats 4000000 in
theorem flags_any (s : ByteArray) (R F P : Nat) (l : Bs) : FlC s R F P l := fun w h0 => by
  obtain ⟨W1, hW1⟩ : ∃ W1, W1 = (w.alloc (.cells #[.bool false, .bool false, .bool false, .bool false, .bool false, .int .i64 0, .int .i64 0, .int .i32 0] 28)) := ⟨_, rfl⟩
  obtain ⟨W2, hW2⟩ : ∃ W2, W2 = (W1.alloc (.cells #[.bool false, .bool false, .bool false, .bool false, .bool false, .int .i64 (-1), .int .i64 (-1), .int .i32 0] 28)) := ⟨_, rfl⟩
  have hRw : R < w.heap.size := lt_of_cell9 h0.a
  have hFw : F < w.heap.size := lt_of_cell9 h0.f
  have hs1 : W1.heap.size = w.heap.size + 1 := by rw [hW1]; simp
  have hb1 : Below w.heap.size w W1 := by rw [hW1]; exact (Below.refl _ _).alloc (Nat.le_refl _) _
  have hb2 : Below W1.heap.size W1 W2 := by rw [hW2]; exact (Below.refl _ _).alloc (Nat.le_refl _) _
  have hx1 : Bx W2 w.heap.size [.bool false, .bool false, .bool false, .bool false, .bool false, .int .i64 0, .int .i64 0, .int .i32 0] := Bx.up (by rw [hW1]; exact Bx.new _ _ _) hb2
  have hx2 : Bx W2 (w.heap.size + 1) (spV fl0 (-1) 0) := by rw [← hs1, hW2]; exact Bx.new _ _ _
  have hr2 : RdW s R F P l W2 := (h0.up hb1).up hb2
  have hg2 : w.grownBy W2 (some R) := (gr_below hb1 _).trans (gr_below hb2 _)
  have n1 : w.heap.size ≠ R := by omega
  have n2 : w.heap.size ≠ F := by omega
  have n3 : w.heap.size + 1 ≠ R := by omega
  have n4 : w.heap.size + 1 ≠ F := by omega
  have n5 : ¬ R = w.heap.size + 1 := by omega
  have n6 : w.heap.size ≠ w.heap.size + 1 := by omega
  have n7 : w.heap.size + 1 ≠ w.heap.size := by omega
  go_enter Try.func23, Try.ntmps23
  go_wp2
  go_step3
  go_wp2
  go_step3
  go_wp2
  rw [← hW1, ← hW2]
  clear hW1 hW2 hb1 hb2 h0
  go_loopg [4, 5] l.length (fun g a b wr => ∃ (P' : Nat) (l' : Bs) (f : Fl), RdW s R F P' l' wr ∧ l'.length ≤ g ∧ Hid (flg l' f = flg l fl0) ∧ w.grownBy wr (some R) ∧ Bx wr w.heap.size [.bool false, .bool false, .bool false, .bool false, .bool false, .int .i64 0, .int .i64 0, .int .i32 0] ∧ Bx wr (w.heap.size + 1) (spV f (-1) 0))
  case atStart => exact ⟨P, l, fl0, hr2, Nat.le_refl _, rfl, hg2, hx1, hx2⟩
  case round =>
    obtain ⟨P', l', f, h, hg, HL, hgr, hy1, hy2⟩ := hrel
    clear hr2 hg2 hx1 hx2
    obtain ⟨q, n, hx⟩ : ∃ q n, nxt l' = (q, n) := ⟨_, _, rfl⟩
    have hN := h.next hx
    have hm := h.m
    have he := h.e
    have c0 : ∀ x : Cl wr, x.w.cell? ⟨R, 0, none⟩ = some (.int .i64 (P' : Nat)) := fun x => x.cell h.a
    have c1 : ∀ x : Cl wr, x.w.cell? ⟨R, 1, none⟩ = some (.func (.func 9) #[] #[.pointer (some ⟨F, 0, none⟩)]) := fun x => x.cell h.n
    have HX : Hid (nxt l' = (q, n)) := hx
    clear hx
    go_wp2
    refine wp_region_above wr (Below.refl _ _) (by kernel_rfl) (by kernel_rfl) ?_
    intro hCl
    repeat (go_big_quiet_step ((go_at_call 9; exact Cl.call (hN _))))
    refine wpQuiet_nil ?_
    intro _ hw'
    obtain ⟨y, hy⟩ := hw'
    subst hy
    have hY := h.up y.below
    have hgY := hgr.trans (gr_below y.below (some R))
    have z1 := hy1.up y.below
    have z2 := hy2.up y.below
    obtain ⟨p, m, sh, b, z⟩ := f
    have g0 := z2.c 0 _ rfl
    have g1 := z2.c 1 _ rfl
    have g2 := z2.c 2 _ rfl
    have g3 := z2.c 3 _ rfl
    have g4 := z2.c 4 _ rfl
    have g5 := z2.c 5 _ rfl
    have g6 := z2.c 6 _ rfl
    have g7 := z2.c 7 _ rfl
    have gz := z2.z
    have e0 := z1.c 0 _ rfl
    have e1 := z1.c 1 _ rfl
    have e2 := z1.c 2 _ rfl
    have e3 := z1.c 3 _ rfl
    have e4 := z1.c 4 _ rfl
    have e5 := z1.c 5 _ rfl
    have e6 := z1.c 6 _ rfl
    have e7 := z1.c 7 _ rfl
    have ez := z1.z
    have d0 := hY.a
    have d1 := hY.z
    clear c0 c1 hN hCl hy1 hy2
    have key : ∀ c, 1 ≤ c → c < 128 → (q = c ↔ hd l' = c) := fun c k1 k2 => by have := nxt_is (l := l') k1 k2; rw [HX.out] at this; exact this
    have put : ∀ (c : Nat), q = c → 1 ≤ c → c < 128 → n = 1 ∧ ∃ x, l' = x :: l'.tail ∧ x.toNat = c ∧ s.data.toList.drop (P' + 1) = l'.tail ∧ P' + 1 + l'.tail.length = s.size := fun c hc k1 k2 => by
      have hh := (key c k1 k2).1 hc
      obtain ⟨x, e, hx⟩ := hd_lt hh (by omega)
      refine ⟨by have := nxt_one hh k2; rw [HX.out] at this; exact this, x, e, hx, (drop_more h.d).trans (by simp), ?_⟩
      rw [e] at he
      simp at he ⊢
      omega
    by_cases q43 : q = 43
    · obtain ⟨rfl, x, ex, hxc, hd', he'⟩ := put 43 q43 (by omega) (by omega)
      have HL' : Hid (flg l'.tail ⟨true, m, sh, b, z⟩ = flg l fl0) := by
        show _ = _
        rw [← HL.out]
        conv => rhs; rw [ex]
        rw [flg_cons]
        simp [hxc]
      have hlen : l'.tail.length ≤ gk - 1 ∧ 0 < gk := by
        have := congrArg List.length ex
        simp at this ⊢
        omega
      subst q43
      have hr : RdW s R F (P' + 1) l'.tail ((y.w.setCell ⟨w.heap.size + 1, 0, none⟩ (.bool true)).setCell ⟨R, 0, none⟩ (.int .i64 ((P' + 1 : Nat)))) := (hY.grown n3 n4 _).put hd' he'
      have hgg : w.grownBy ((y.w.setCell ⟨w.heap.size + 1, 0, none⟩ (.bool true)).setCell ⟨R, 0, none⟩ (.int .i64 ((P' + 1 : Nat)))) (some R) := gr_put (gr_own hgY (by omega) _) _
      have hz1 : Bx ((y.w.setCell ⟨w.heap.size + 1, 0, none⟩ (.bool true)).setCell ⟨R, 0, none⟩ (.int .i64 ((P' + 1 : Nat)))) w.heap.size _ := (z1.other n7 _).other n1.symm _
      have hz2 : Bx ((y.w.setCell ⟨w.heap.size + 1, 0, none⟩ (.bool true)).setCell ⟨R, 0, none⟩ (.int .i64 ((P' + 1 : Nat)))) (w.heap.size + 1) (spV ⟨true, m, sh, b, z⟩ (-1) 0) := (z2.set 0 (by simp [spV]) _).other n3.symm _
      have hPI : (P' : Int) + 1 ≤ 1000000000000 := by omega
      clear put key HX HL
      go_wp2
      go_roundg (gk - 1)
      case measure => omega
      case rel => exact ⟨P' + 1, l'.tail, ⟨true, m, sh, b, z⟩, hr, hlen.1, HL', hgg, hz1, hz2⟩
    by_cases q45 : q = 45
    · obtain ⟨rfl, x, ex, hxc, hd', he'⟩ := put 45 q45 (by omega) (by omega)
      have HL' : Hid (flg l'.tail ⟨p, true, sh, b, z⟩ = flg l fl0) := by
        show _ = _
        rw [← HL.out]
        conv => rhs; rw [ex]
        rw [flg_cons]
        simp [hxc]
      have hlen : l'.tail.length ≤ gk - 1 ∧ 0 < gk := by
        have := congrArg List.length ex
        simp at this ⊢
        omega
      subst q45
      have hr : RdW s R F (P' + 1) l'.tail ((y.w.setCell ⟨w.heap.size + 1, 1, none⟩ (.bool true)).setCell ⟨R, 0, none⟩ (.int .i64 ((P' + 1 : Nat)))) := (hY.grown n3 n4 _).put hd' he'
      have hgg : w.grownBy ((y.w.setCell ⟨w.heap.size + 1, 1, none⟩ (.bool true)).setCell ⟨R, 0, none⟩ (.int .i64 ((P' + 1 : Nat)))) (some R) := gr_put (gr_own hgY (by omega) _) _
      have hz1 : Bx ((y.w.setCell ⟨w.heap.size + 1, 1, none⟩ (.bool true)).setCell ⟨R, 0, none⟩ (.int .i64 ((P' + 1 : Nat)))) w.heap.size _ := (z1.other n7 _).other n1.symm _
      have hz2 : Bx ((y.w.setCell ⟨w.heap.size + 1, 1, none⟩ (.bool true)).setCell ⟨R, 0, none⟩ (.int .i64 ((P' + 1 : Nat)))) (w.heap.size + 1) (spV ⟨p, true, sh, b, z⟩ (-1) 0) := (z2.set 1 (by simp [spV]) _).other n3.symm _
      have hPI : (P' : Int) + 1 ≤ 1000000000000 := by omega
      clear put key HX HL
      go_wp2
      go_roundg (gk - 1)
      case measure => omega
      case rel => exact ⟨P' + 1, l'.tail, ⟨p, true, sh, b, z⟩, hr, hlen.1, HL', hgg, hz1, hz2⟩
    by_cases q35 : q = 35
    · obtain ⟨rfl, x, ex, hxc, hd', he'⟩ := put 35 q35 (by omega) (by omega)
      have HL' : Hid (flg l'.tail ⟨p, m, true, b, z⟩ = flg l fl0) := by
        show _ = _
        rw [← HL.out]
        conv => rhs; rw [ex]
        rw [flg_cons]
        simp [hxc]
      have hlen : l'.tail.length ≤ gk - 1 ∧ 0 < gk := by
        have := congrArg List.length ex
        simp at this ⊢
        omega
      subst q35
      have hr : RdW s R F (P' + 1) l'.tail ((y.w.setCell ⟨w.heap.size + 1, 2, none⟩ (.bool true)).setCell ⟨R, 0, none⟩ (.int .i64 ((P' + 1 : Nat)))) := (hY.grown n3 n4 _).put hd' he'
      have hgg : w.grownBy ((y.w.setCell ⟨w.heap.size + 1, 2, none⟩ (.bool true)).setCell ⟨R, 0, none⟩ (.int .i64 ((P' + 1 : Nat)))) (some R) := gr_put (gr_own hgY (by omega) _) _
      have hz1 : Bx ((y.w.setCell ⟨w.heap.size + 1, 2, none⟩ (.bool true)).setCell ⟨R, 0, none⟩ (.int .i64 ((P' + 1 : Nat)))) w.heap.size _ := (z1.other n7 _).other n1.symm _
      have hz2 : Bx ((y.w.setCell ⟨w.heap.size + 1, 2, none⟩ (.bool true)).setCell ⟨R, 0, none⟩ (.int .i64 ((P' + 1 : Nat)))) (w.heap.size + 1) (spV ⟨p, m, true, b, z⟩ (-1) 0) := (z2.set 2 (by simp [spV]) _).other n3.symm _
      have hPI : (P' : Int) + 1 ≤ 1000000000000 := by omega
      clear put key HX HL
      go_wp2
      go_roundg (gk - 1)
      case measure => omega
      case rel => exact ⟨P' + 1, l'.tail, ⟨p, m, true, b, z⟩, hr, hlen.1, HL', hgg, hz1, hz2⟩
    by_cases q32 : q = 32
    · obtain ⟨rfl, x, ex, hxc, hd', he'⟩ := put 32 q32 (by omega) (by omega)
      have HL' : Hid (flg l'.tail ⟨p, m, sh, true, z⟩ = flg l fl0) := by
        show _ = _
        rw [← HL.out]
        conv => rhs; rw [ex]
        rw [flg_cons]
        simp [hxc]
      have hlen : l'.tail.length ≤ gk - 1 ∧ 0 < gk := by
        have := congrArg List.length ex
        simp at this ⊢
        omega
      subst q32
      have hr : RdW s R F (P' + 1) l'.tail ((y.w.setCell ⟨w.heap.size + 1, 3, none⟩ (.bool true)).setCell ⟨R, 0, none⟩ (.int .i64 ((P' + 1 : Nat)))) := (hY.grown n3 n4 _).put hd' he'
      have hgg : w.grownBy ((y.w.setCell ⟨w.heap.size + 1, 3, none⟩ (.bool true)).setCell ⟨R, 0, none⟩ (.int .i64 ((P' + 1 : Nat)))) (some R) := gr_put (gr_own hgY (by omega) _) _
      have hz1 : Bx ((y.w.setCell ⟨w.heap.size + 1, 3, none⟩ (.bool true)).setCell ⟨R, 0, none⟩ (.int .i64 ((P' + 1 : Nat)))) w.heap.size _ := (z1.other n7 _).other n1.symm _
      have hz2 : Bx ((y.w.setCell ⟨w.heap.size + 1, 3, none⟩ (.bool true)).setCell ⟨R, 0, none⟩ (.int .i64 ((P' + 1 : Nat)))) (w.heap.size + 1) (spV ⟨p, m, sh, true, z⟩ (-1) 0) := (z2.set 3 (by simp [spV]) _).other n3.symm _
      have hPI : (P' : Int) + 1 ≤ 1000000000000 := by omega
      clear put key HX HL
      go_wp2
      go_roundg (gk - 1)
      case measure => omega
      case rel => exact ⟨P' + 1, l'.tail, ⟨p, m, sh, true, z⟩, hr, hlen.1, HL', hgg, hz1, hz2⟩
    by_cases q48 : q = 48
    · obtain ⟨rfl, x, ex, hxc, hd', he'⟩ := put 48 q48 (by omega) (by omega)
      have HL' : Hid (flg l'.tail ⟨p, m, sh, b, true⟩ = flg l fl0) := by
        show _ = _
        rw [← HL.out]
        conv => rhs; rw [ex]
        rw [flg_cons]
        simp [hxc]
      have hlen : l'.tail.length ≤ gk - 1 ∧ 0 < gk := by
        have := congrArg List.length ex
        simp at this ⊢
        omega
      subst q48
      have hr : RdW s R F (P' + 1) l'.tail ((y.w.setCell ⟨w.heap.size + 1, 4, none⟩ (.bool true)).setCell ⟨R, 0, none⟩ (.int .i64 ((P' + 1 : Nat)))) := (hY.grown n3 n4 _).put hd' he'
      have hgg : w.grownBy ((y.w.setCell ⟨w.heap.size + 1, 4, none⟩ (.bool true)).setCell ⟨R, 0, none⟩ (.int .i64 ((P' + 1 : Nat)))) (some R) := gr_put (gr_own hgY (by omega) _) _
      have hz1 : Bx ((y.w.setCell ⟨w.heap.size + 1, 4, none⟩ (.bool true)).setCell ⟨R, 0, none⟩ (.int .i64 ((P' + 1 : Nat)))) w.heap.size _ := (z1.other n7 _).other n1.symm _
      have hz2 : Bx ((y.w.setCell ⟨w.heap.size + 1, 4, none⟩ (.bool true)).setCell ⟨R, 0, none⟩ (.int .i64 ((P' + 1 : Nat)))) (w.heap.size + 1) (spV ⟨p, m, sh, b, true⟩ (-1) 0) := (z2.set 4 (by simp [spV]) _).other n3.symm _
      have hPI : (P' : Int) + 1 ≤ 1000000000000 := by omega
      clear put key HX HL
      go_wp2
      go_roundg (gk - 1)
      case measure => omega
      case rel => exact ⟨P' + 1, l'.tail, ⟨p, m, sh, b, true⟩, hr, hlen.1, HL', hgg, hz1, hz2⟩
    have HF : Hid (flg l fl0 = (⟨p, m, sh, b, z⟩, l')) := by
      show _ = _
      rw [← HL.out]
      exact flg_no ⟨fun e => q43 ((key 43 (by omega) (by omega)).2 e), fun e => q45 ((key 45 (by omega) (by omega)).2 e), fun e => q35 ((key 35 (by omega) (by omega)).2 e), fun e => q32 ((key 32 (by omega) (by omega)).2 e), fun e => q48 ((key 48 (by omega) (by omega)).2 e)⟩
    have i43 : ¬ (q : Int) = 43 := by omega
    have i45 : ¬ (q : Int) = 45 := by omega
    have i35 : ¬ (q : Int) = 35 := by omega
    have i32 : ¬ (q : Int) = 32 := by omega
    have i48 : ¬ (q : Int) = 48 := by omega
    clear put key HX HL q43 q45 q35 q32 q48
    go_wp2
    refine bodyPost_ret (by simp [results, Try.results23, go_sem, cs_same9, e0, e1, e2, e3, e4, e5, e6, e7]; rfl) rfl ?_
    rw [HF.out]
    refine ⟨rfl, ⟨P', ?_⟩, ?_⟩
    · iterate 8 (refine RdW.grown ?_ n1 n2 _)
      exact hY
    · iterate 8 (refine gr_own ?_ (Nat.le_refl _) _)
      exact hgY
end Go.Proofs.Ytpknjcdodnoibaa
