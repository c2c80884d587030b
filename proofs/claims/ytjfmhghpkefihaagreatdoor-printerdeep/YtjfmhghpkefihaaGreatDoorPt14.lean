/- PWalkA, PWalkB: these texts in one. -/
import Derived.Test.YtjfmhghpkefihaaGreatDoorPt13
import Derived.Test.YtjfmhghpkefihaaGreatDoorPt5
import Derived.Test.YtjfmhghpkefihaaGreatDoorPt1
import Derived.Deep.LoopGhost
import Derived.Deep.RegionWith
import Derived.Maps.AppendAt
import Derived.Deep.DeepCutAuto
import Derived.Deep.CutBlock
import Derived.Handy
namespace Go.Proofs.YtjfmhghpkefihaaGreatDoor
open Go.RowKit
set_option linter.unusedVariables false
set_option linter.unusedSimpArgs false
structure RdW (s : ByteArray) (R F P : Nat) (l : Bs) (w : World) : Prop where
 a : w.cell? ⟨R, 0, none⟩ = some (.int .i64 (P : Nat))
 n : w.cell? ⟨R, 1, none⟩ = some (.func (.func 41) #[] #[.pointer (some ⟨F, 0, none⟩)])
 f : w.cell? ⟨F, 0, none⟩ = some (.string s)
 z : w.frozen? ⟨R, 0, none⟩ = false
 d : s.data.toList.drop P = l
 e : P + l.length = s.size
 ne : F ≠ R
 m : s.size ≤ 1000000000000
theorem lt_of_cell9 {W : World} {p : Addr} {v : Value} (h : W.cell? p = some v) : p.block < W.heap.size := by
 rcases Nat.lt_or_ge p.block W.heap.size with h1 | h1
 ·exact h1
 ·simp [World.cell?, Array.getElem?_eq_none h1] at h
theorem RdW.up {s : ByteArray} {R F P : Nat} {l : Bs} {w w' : World} (h : RdW s R F P l w) (hb : Below w.heap.size w w') : RdW s R F P l w' :=
 ⟨(hb.cell (lt_of_cell9 h.a)).trans h.a, (hb.cell (lt_of_cell9 h.n)).trans h.n, (hb.cell (lt_of_cell9 h.f)).trans h.f, (hb.frozen (p := ⟨R, 0, none⟩) (lt_of_cell9 h.a)).trans h.z, h.d, h.e, h.ne, h.m⟩
theorem RdW.put {s : ByteArray} {R F P P' : Nat} {l l' : Bs} {w : World} (h : RdW s R F P l w) (hd : s.data.toList.drop P' = l') (he : P' + l'.length = s.size) : RdW s R F P' l' (w.setCell ⟨R, 0, none⟩ (.int .i64 (P' : Nat))) := by
 refine ⟨World.cell?_setCell_same _ _ _ h.a, ?_, ?_, (World.frozen?_setCell _ _ _ _).trans h.z, hd, he, h.ne, h.m⟩
 ·rw [World.cell?_setCell_other _ _ _ _ (by simp)]; exact h.n
 ·rw [World.cell?_setCell_other _ _ _ _ (by intro e; exact h.ne (congrArg Addr.block e).symm)]; exact h.f
theorem gr_below {w w' : World} (hb : Below w.heap.size w w') (row : Option Nat) : w.grownBy w' row := ⟨hb.os, hb.tape, hb.output, hb.size, fun k hk _ => hb.block k hk⟩
theorem gr_refl (w : World) (row : Option Nat) : w.grownBy w row := ⟨rfl, rfl, rfl, Nat.le_refl _, fun _ _ _ => rfl⟩
theorem gr_put {w w' : World} {R o : Nat} (h : w.grownBy w' (some R)) (v : Value) : w.grownBy (w'.setCell ⟨R, o, none⟩ v) (some R) :=
 ⟨h.os, h.tape, h.output, by simpa [World.setCell] using h.size, fun k hk hne => by rw [Below.heap_setCell _ _ _ _ (fun e => hne (by rw [e]))]; exact h.block k hk hne⟩
theorem drop_more {s : ByteArray} {P k : Nat} {l : Bs} (hd : s.data.toList.drop P = l) : s.data.toList.drop (P + k) = l.drop k := by rw [← hd, List.drop_drop]
theorem dec_nxt {s : ByteArray} {P : Nat} {l : Bs} (hd : s.data.toList.drop P = l) (he : P + l.length = s.size) : dec (s.extract P s.size) = nxt l := by
 cases l with
 | nil =>
   rw [dec_nil _ (by rw [tail_size]; simp at he; omega)]; rfl
 | cons x t =>
   rw [dec_tail s P (by simp at he; omega), ← Lib.decodeL_drop, hd]; rfl
set_option maxRecDepth 1000000 in
set_option maxHeartbeats 1600000 in
theorem next_walk {s : ByteArray} {F P : Nat} {l : Bs} {c n : Nat} (hd : s.data.toList.drop P = l) (he : P + l.length = s.size) (hx : nxt l = (c, n)) (w : World) (hf : w.cell? ⟨F, 0, none⟩ = some (.string s)) :
  Calls Tryz.prog 41 #[.int .i64 (P : Nat), .pointer (some ⟨F, 0, none⟩)] w fun e w' => e = .returned (.tuple #[.int .i32 (c : Nat), .int .i64 (n : Nat)]) ∧ Below w.heap.size w w' := by
 have hC := fun w => decode_any (s.extract P s.size) w
 rw [dec_nxt hd he, hx] at hC
 have hP : (P : Int) ≤ s.size := by omega
 clear hx hd he
 go_enter Tryz.func41, Tryz.ntmps41
 go_wp2_with (go_at_call 42; refine (hC _).mono ?_; rintro x w2 ⟨rfl, hb2⟩)
 go_ret2
 exact ⟨rfl, hb2⟩
abbrev NxC (w : World) (F P c n : Nat) : Prop := ∀ x : Cl w, Calls Tryz.prog 41 #[.int .i64 (P : Nat), .pointer (some ⟨F, 0, none⟩)] x.w fun e w' => e = .returned (.tuple #[.int .i32 (c : Nat), .int .i64 (n : Nat)]) ∧ Below x.w.heap.size x.w w'
theorem RdW.next {s : ByteArray} {R F P : Nat} {l : Bs} {w : World} (h : RdW s R F P l w) {c n : Nat} (hx : nxt l = (c, n)) : NxC w F P c n := fun x => next_walk h.d h.e hx x.w (x.cell h.f)
abbrev TkC (s : ByteArray) (R F P : Nat) (l : Bs) (c : Nat) (b : Bool) (P' : Nat) (l' : Bs) : Prop := ∀ w, RdW s R F P l w → Calls Tryz.prog 63 #[.pointer (some ⟨R, 0, none⟩), .int .i32 (c : Nat)] w fun e w' => e = .returned (.bool b) ∧ RdW s R F P' l' w' ∧ w.grownBy w' (some R)
set_option maxRecDepth 1000000 in
set_option maxHeartbeats 1600000 in
theorem take_no {s : ByteArray} {R F P : Nat} {l : Bs} {c : Nat} (h1 : 1 ≤ c) (hc : c < 128) (hh : hd l ≠ c) : TkC s R F P l c false P l := fun w h => by
 obtain ⟨q, n, hx⟩ : ∃ q n, nxt l = (q, n) := ⟨_, _, rfl⟩
 have hq : ¬ (q : Int) = c := by
  have k := (nxt_is (l := l) h1 hc).1
  rw [hx] at k
  exact fun e => hh (k (by dsimp only; omega))
 have hN := h.next hx
 have c0 : ∀ x : Cl w, x.w.cell? ⟨R, 0, none⟩ = some (.int .i64 (P : Nat)) := fun x => x.cell h.a
 have c1 : ∀ x : Cl w, x.w.cell? ⟨R, 1, none⟩ = some (.func (.func 41) #[] #[.pointer (some ⟨F, 0, none⟩)]) := fun x => x.cell h.n
 go_enter Tryz.func63, Tryz.ntmps63
 go_wp2
 refine wp_region_above w (Below.refl _ _) (by kernel_rfl) (by kernel_rfl) ?_
 intro hCl
 repeat (go_big_quiet_step ((go_at_call 41; exact Cl.call (hN _))))
 refine wpQuiet_nil ?_
 intro _ hw'
 obtain ⟨y, hy⟩ := hw'
 subst hy
 go_wp2
 go_ret
 exact ⟨rfl, h.up y.below, gr_below y.below _⟩
set_option maxRecDepth 1000000 in
set_option maxHeartbeats 1600000 in
theorem take_yes {s : ByteArray} {R F P : Nat} {l : Bs} {c : Nat} (h1 : 1 ≤ c) (hc : c < 128) (hh : hd l = c) : TkC s R F P l c true (P + 1) l.tail := fun w h => by
 have hx : nxt l = (c, 1) := by
  have a := (nxt_is (l := l) h1 hc).2 hh
  have b := nxt_one hh hc
  rw [← a, ← b]
 have hN := h.next hx
 have hle : P + 1 ≤ s.size := by
  obtain ⟨x, e, -⟩ := hd_lt hh (by omega)
  have := h.e
  rw [e] at this
  simp at this
  omega
 have hm := h.m
 have c0 : ∀ x : Cl w, x.w.cell? ⟨R, 0, none⟩ = some (.int .i64 (P : Nat)) := fun x => x.cell h.a
 have c1 : ∀ x : Cl w, x.w.cell? ⟨R, 1, none⟩ = some (.func (.func 41) #[] #[.pointer (some ⟨F, 0, none⟩)]) := fun x => x.cell h.n
 have c2 : ∀ x : Cl w, x.w.frozen? ⟨R, 0, none⟩ = false := fun x => (x.below.frozen (p := ⟨R, 0, none⟩) (lt_of_cell9 h.a)).trans h.z
 go_enter Tryz.func63, Tryz.ntmps63
 go_wp2
 refine wp_region_above w (Below.refl _ _) (by kernel_rfl) (by kernel_rfl) ?_
 intro hCl
 repeat (go_big_quiet_step ((go_at_call 41; exact Cl.call (hN _))))
 refine wpQuiet_nil ?_
 intro _ hw'
 obtain ⟨y, hy⟩ := hw'
 subst hy
 go_wp2
 go_ret
 have hr : RdW s R F (P + 1) l.tail (y.w.setCell ⟨R, 0, none⟩ (.int .i64 ((P + 1 : Nat)))) := (h.up y.below).put ((drop_more h.d).trans (by simp)) (by
  obtain ⟨x, e, -⟩ := hd_lt hh (by omega)
  have := h.e
  rw [e] at this
  simp at this ⊢
  omega)
 exact ⟨rfl, hr, gr_put (gr_below y.below _) _⟩
abbrev LtC (s : ByteArray) (R F P : Nat) (l : Bs) : Prop := ∀ w, RdW s R F P l w → Calls Tryz.prog 65 #[.pointer (some ⟨R, 0, none⟩)] w fun e w' => e = .returned (.tuple #[]) ∧ (∃ P', RdW s R F P' (l.dropWhile noPc) w') ∧ w.grownBy w' (some R)
theorem dw_more {l : Bs} (hl : hd l ≠ 37) : (l.drop (nxt l).2).dropWhile noPc = l.dropWhile noPc := by
 cases l with
 | nil => rfl
 | cons x t =>
   have hx : noPc x = true := by unfold noPc; simpa [hd] using hl
   have key : ∀ (k : Nat) (m : Bs), (∀ i, i < k → noPc (m.getD i 0) = true) → k ≤ m.length → (m.drop k).dropWhile noPc = m.dropWhile noPc := by
    intro k
    induction k with
    | zero => intro m _ _; rfl
    | succ k ih =>
      intro m hm hk
      cases m with
      | nil => simp at hk
      | cons y u =>
        have hy : noPc y = true := hm 0 (by omega)
        rw [List.drop_succ_cons, List.dropWhile_cons, if_pos hy]
        exact ih u (fun i hi => by have := hm (i + 1) (by omega); simpa using this) (by simpa using hk)
   refine key _ _ (fun i hi => ?_) (nxt_le _)
   by_cases h : x.toNat < 128
   ·rw [nxt_ascii x t h] at hi
    obtain rfl : i = 0 := by omega
    exact hx
   ·have := (dl_high x t (by omega)).2.2.2 i hi
    unfold noPc
    simp only [decide_eq_true_eq]
    omega
set_option maxRecDepth 1000000 in
set_option maxHeartbeats 1600000 in
theorem literal_any (s : ByteArray) (R F P : Nat) (l : Bs) : LtC s R F P l := fun w h0 => by
 go_enter Tryz.func65, Tryz.ntmps65
 go_wp2
 go_loopg [2, 3] l.length (fun g a b wr => ∃ P' l', RdW s R F P' l' wr ∧ l'.length ≤ g ∧ Hid (l'.dropWhile noPc = l.dropWhile noPc) ∧ w.grownBy wr (some R))
 case atStart => exact ⟨P, l, h0, Nat.le_refl _, rfl, gr_refl _ _⟩
 case round =>
  obtain ⟨P', l', h, hg, HL, hgr⟩ := hrel
  obtain ⟨q, n, hx⟩ : ∃ q n, nxt l' = (q, n) := ⟨_, _, rfl⟩
  have hN := h.next hx
  have hm := h.m
  have he := h.e
  have c0 : ∀ x : Cl wr, x.w.cell? ⟨R, 0, none⟩ = some (.int .i64 (P' : Nat)) := fun x => x.cell h.a
  have c1 : ∀ x : Cl wr, x.w.cell? ⟨R, 1, none⟩ = some (.func (.func 41) #[] #[.pointer (some ⟨F, 0, none⟩)]) := fun x => x.cell h.n
  have c2 : ∀ x : Cl wr, x.w.frozen? ⟨R, 0, none⟩ = false := fun x => (x.below.frozen (p := ⟨R, 0, none⟩) (lt_of_cell9 h.a)).trans h.z
  have hn : n ≤ l'.length := by have := nxt_le l'; rw [hx] at this; exact this
  have HX : Hid (nxt l' = (q, n)) := hx
  clear hx
  go_wp2
  refine wp_region_above wr (Below.refl _ _) (by kernel_rfl) (by kernel_rfl) ?_
  intro hCl
  repeat (go_big_quiet_step ((go_at_call 41; exact Cl.call (hN _))))
  refine wpQuiet_nil ?_
  intro _ hw'
  obtain ⟨y, hy⟩ := hw'
  subst hy
  have fin : n = 0 ∨ q = 37 → (∃ P', RdW s R F P' (l.dropWhile noPc) y.w) ∧ w.grownBy y.w (some R) := fun hq => by
   have e : l' = l.dropWhile noPc := by
    rw [← HL.out]
    rcases hq with hq | hq
    ·have : l' = [] := (nxt_none l').1 (by rw [HX.out]; exact hq)
     rw [this]; rfl
    ·have : hd l' = 37 := (nxt_is (by omega) (by omega)).1 (by rw [HX.out]; exact hq)
     obtain ⟨x, e, hx⟩ := hd_lt this (by omega)
     rw [e, List.dropWhile_cons, if_neg (by unfold noPc; simp [hx])]
   rw [← e]
   exact ⟨⟨P', h.up y.below⟩, hgr.trans (gr_below y.below _)⟩
  by_cases hn0 : n = 0
  ·have hnI : (n : Int) = 0 := by omega
   have := fin (.inl hn0)
   clear hn0
   go_wp2
   refine bodyPost_ret (results_none rfl _ _ _) rfl ?_
   exact ⟨rfl, this⟩
  ·have hnI : ¬ (n : Int) = 0 := by omega
   by_cases hq : q = 37
   ·have hqI : (q : Int) = 37 := by omega
    have := fin (.inr hq)
    clear hq
    have b1 : ((n : Int) == 0) = false := beq_eq_false_iff_ne.2 hnI
    go_wp2
    refine bodyPost_ret (results_none rfl _ _ _) rfl ?_
    exact ⟨rfl, this⟩
   ·have hqI : ¬ (q : Int) = 37 := by omega
    have hr : RdW s R F (P' + n) (l'.drop n) (y.w.setCell ⟨R, 0, none⟩ (.int .i64 ((P' + n : Nat)))) := (h.up y.below).put (drop_more h.d) (by rw [List.length_drop]; omega)
    have HL' : Hid ((l'.drop n).dropWhile noPc = l.dropWhile noPc) := by
     show _ = _
     rw [← HL.out, ← dw_more (l := l') (fun e => hq (by have := (nxt_is (l := l') (c := 37) (by omega) (by omega)).2 e; rw [HX.out] at this; exact this)), HX.out]
    have hlen : (l'.drop n).length ≤ gk - 1 := by rw [List.length_drop]; omega
    clear fin
    have b1 : ((n : Int) == 0) = false := beq_eq_false_iff_ne.2 hnI
    have b2 : ((q : Int) == 37) = false := beq_eq_false_iff_ne.2 hqI
    go_wp2
    go_roundg (gk - 1)
    case measure => omega
    case rel => exact ⟨P' + n, l'.drop n, hr, hlen, HL', gr_put (hgr.trans (gr_below y.below _)) _⟩
abbrev NuC (s : ByteArray) (R F P : Nat) (l : Bs) : Prop := ∀ w, RdW s R F P l w → ∀ P0 l0, s.data.toList.drop P0 = l0 → P0 + l0.length = s.size → Calls Tryz.prog 154 #[.pointer (some ⟨R, 0, none⟩), .int .i64 (P0 : Nat)] w fun e w' => e = .returned (.tuple #[.int .i64 (capD (dgs l0) : Nat), .int .i64 (P0 + (dgs l0).length : Nat)]) ∧ Below w.heap.size w w'
set_option maxRecDepth 1000000 in
set_option maxHeartbeats 1600000 in
theorem pnumber_any (s : ByteArray) (R F P : Nat) (l : Bs) : NuC s R F P l := fun w h P0 l0 hd0 he0 => by
 have hm := h.m
 have c1 : w.cell? ⟨R, 1, none⟩ = some (.func (.func 41) #[] #[.pointer (some ⟨F, 0, none⟩)]) := h.n
 have hR := lt_of_cell9 h.n
 have hF := h.f
 go_enter Tryz.func154, Tryz.ntmps154
 go_wp2
 go_loopg [1, 4, 6, 7] l0.length (fun g av nv x y wr => ∃ (P' n : Nat) (l' : Bs), av = .int .i64 (P' : Nat) ∧ nv = .int .i64 (n : Nat) ∧ Hid (s.data.toList.drop P' = l') ∧ P' + l'.length = s.size ∧ l'.length ≤ g ∧ n < 1000000000 ∧ Hid ((dgs l').foldl stepC n = capD (dgs l0)) ∧ Hid (P' + (dgs l').length = P0 + (dgs l0).length) ∧ Below w.heap.size w wr)
 case atStart => exact ⟨P0, 0, l0, rfl, rfl, hd0, he0, Nat.le_refl _, by omega, rfl, rfl, Below.refl _ _⟩
 case round =>
  obtain ⟨P', n, l', rfl, rfl, HD, he, hg, hn, HC, HP, hb⟩ := hrel
  obtain ⟨q, k, hx⟩ : ∃ q k, nxt l' = (q, k) := ⟨_, _, rfl⟩
  have f1 := (hb.cell hR).trans c1
  have hN := next_walk HD.out he hx wr ((hb.cell (lt_of_cell9 hF)).trans hF)
  have hdg := nxt_dg l'
  rw [hx] at hdg
  dsimp only at hdg
  by_cases hq : 48 ≤ q ∧ q ≤ 57
  ·have hh := hdg.1 hq
   obtain ⟨x, e, hxq⟩ := hd_lt (l := l') rfl (by unfold dg at hh; omega)
   have hxx : nxt l' = (q, 1) := by
    have := nxt_one (l := l') rfl (by unfold dg at hh; omega)
    rw [hx] at this
    dsimp only at this
    rw [hx, this]
   obtain rfl : k = 1 := by rw [hx] at hxx; injection hxx
   have hqx : x.toNat = q := by
    have := (nxt_is (l := l') (c := q) (by omega) (by omega)).1 (by rw [hx])
    omega
   have hlen : l'.length = l'.tail.length + 1 := by rw [e]; rfl
   have hdx : dg x.toNat := by rw [hqx]; exact hq
   obtain ⟨e1, e2⟩ := dgs_yes (t := l'.tail) hdx
   rw [← e] at e1 e2
   have HD' : Hid (s.data.toList.drop (P' + 1) = l'.tail) := (drop_more HD.out).trans (by simp)
   have HP' : Hid (P' + 1 + (dgs l'.tail).length = P0 + (dgs l0).length) := by
    show _ = _
    rw [← HP.out, e1, List.length_cons]; omega
   have q1 : ¬ (q : Int) < 48 := by omega
   have q2 : ¬ 57 < (q : Int) := by omega
   have hC2 := HC.out
   rw [e1, List.foldl_cons] at hC2
   by_cases hn8 : n < 100000000
   ·have HN8 : Hid (n < 100000000) := hn8
    have hs : stepC n x = 10 * n + (q - 48) := by unfold stepC; rw [if_pos hn8, hqx]
    rw [hs] at hC2
    have HC' : Hid ((dgs l'.tail).foldl stepC (10 * n + (q - 48)) = capD (dgs l0)) := hC2
    clear hs hC2 e1 e2 hxx hx hdg e hn8
    go_upto_region 4 with (go_at_call 41; refine hN.mono ?_; rintro e w2 ⟨rfl, hb2⟩)
    generalize hJ : (100000000 : Int) = J
    have hn8I : (n : Int) < J := by have := HN8.out; omega
    clear hJ
    go_wp2
    go_roundg (gk - 1)
    case measure => omega
    case rel => exact ⟨P' + 1, 10 * n + (q - 48), l'.tail, by go_num, by go_num, HD', by omega, by omega, by have := HN8.out; omega, HC', HP', hb.trans (hb2.mono hb.size)⟩
   ·have HN8 : Hid (¬ n < 100000000) := hn8
    have hs : stepC n x = n := by unfold stepC; rw [if_neg hn8]
    rw [hs] at hC2
    have HC' : Hid ((dgs l'.tail).foldl stepC n = capD (dgs l0)) := hC2
    clear hs hC2 e1 e2 hxx hx hdg e hn8
    go_upto_region 4 with (go_at_call 41; refine hN.mono ?_; rintro e w2 ⟨rfl, hb2⟩)
    generalize hJ : (100000000 : Int) = J
    have hn8I : ¬ (n : Int) < J := by have := HN8.out; omega
    clear hJ
    go_wp2
    go_roundg (gk - 1)
    case measure => omega
    case rel => exact ⟨P' + 1, n, l'.tail, by go_num, rfl, HD', by omega, by omega, hn, HC', HP', hb.trans (hb2.mono hb.size)⟩
  ·have hh : ¬ dg (hd l') := fun h => hq (hdg.2 h)
   obtain ⟨e1, e2⟩ := dgs_no hh
   have HF : Hid (n = capD (dgs l0) ∧ P' = P0 + (dgs l0).length) := by
    have a := HC.out
    have b := HP.out
    rw [e1] at a b
    exact ⟨a, b⟩
   clear hdg e1 e2 hx
   by_cases q1 : q < 48
   ·have q1I : (q : Int) < 48 := by omega
    clear hq
    go_wp2_with (go_at_call 41; refine hN.mono ?_; rintro e w2 ⟨rfl, hb2⟩)
    go_ret2
    obtain ⟨a, b⟩ := HF.out
    rw [← a, ← b]
    exact ⟨rfl, hb.trans (hb2.mono hb.size)⟩
   ·have q1I : ¬ (q : Int) < 48 := by omega
    have q2I : 57 < (q : Int) := by omega
    clear hq
    go_wp2_with (go_at_call 41; refine hN.mono ?_; rintro e w2 ⟨rfl, hb2⟩)
    go_ret2
    obtain ⟨a, b⟩ := HF.out
    rw [← a, ← b]
    exact ⟨rfl, hb.trans (hb2.mono hb.size)⟩
end Go.Proofs.YtjfmhghpkefihaaGreatDoor
namespace Go.Proofs.YtjfmhghpkefihaaGreatDoor
open Go.RowKit
set_option linter.unusedVariables false
set_option linter.unusedSimpArgs false
def ixV (x : Ix) : Value := .agg #[.int .i64 (x.k : Nat), .int .i64 (x.n : Nat)]
def nbV (x : Nb) : Value := .agg #[.int .i64 (x.k : Nat), .int .i64 x.n, .int .i64 (x.a.k : Nat), .int .i64 (x.a.n : Nat)]
theorem cs_same9 (W : World) (a : Addr) (v : Value) (h : (W.cell? a).isSome = true) : (W.setCell a v).cell? a = some v := by
 obtain ⟨u, hu⟩ := Option.isSome_iff_exists.1 h
 exact World.cell?_setCell_same _ _ _ hu
structure Bx (w : World) (B : Nat) (vs : List Value) : Prop where
 c : ∀ i v, vs[i]? = some v → w.cell? ⟨B, i, none⟩ = some v
 z : ∀ i, w.frozen? ⟨B, i, none⟩ = false
 b : B < w.heap.size
theorem Bx.up {w w' : World} {B : Nat} {vs : List Value} (h : Bx w B vs) (hb : Below w.heap.size w w') : Bx w' B vs :=
 ⟨fun i v hv => (hb.cell (p := ⟨B, i, none⟩) h.b).trans (h.c i v hv), fun i => (hb.frozen (p := ⟨B, i, none⟩) h.b).trans (h.z i), Nat.lt_of_lt_of_le h.b hb.size⟩
theorem Bx.grown {w w' : World} {B : Nat} {vs : List Value} {R : Nat} (h : Bx w B vs) (hg : w.grownBy w' (some R)) (hne : B ≠ R) : Bx w' B vs := by
 have hB := hg.block B h.b (by simpa using hne)
 exact ⟨fun i v hv => (World.cell?_of_block (w := w) (a := ⟨B, i, none⟩) hB).trans (h.c i v hv), fun i => (World.frozen?_of_block (w := w) (a := ⟨B, i, none⟩) hB).trans (h.z i), Nat.lt_of_lt_of_le h.b hg.size⟩
theorem Bx.new (w : World) (vs : List Value) (t : TypeId) : Bx (w.alloc (.cells vs.toArray t)) w.heap.size vs :=
 ⟨fun i v hv => by simp [hv], fun i => by simp, by simp⟩
theorem Bx.set {w : World} {B : Nat} {vs : List Value} (h : Bx w B vs) (i : Nat) (hi : i < vs.length) (v : Value) : Bx (w.setCell ⟨B, i, none⟩ v) B (vs.set i v) := by
 refine ⟨fun j u hu => ?_, fun j => (World.frozen?_setCell _ _ _ _).trans (h.z j), by simpa [World.setCell] using h.b⟩
 by_cases e : i = j
 ·subst e
  rw [List.getElem?_set_self hi] at hu
  obtain rfl := Option.some.inj hu
  exact World.cell?_setCell_same _ _ _ (h.c i _ (List.getElem?_eq_getElem hi))
 ·rw [List.getElem?_set_ne e] at hu
  rw [World.cell?_setCell_other _ _ _ _ (fun k => e (congrArg Addr.off k))]
  exact h.c j u hu
theorem Bx.other {w : World} {B B' o : Nat} {vs : List Value} (h : Bx w B vs) (hne : B' ≠ B) (v : Value) : Bx (w.setCell ⟨B', o, none⟩ v) B vs := by
 have hB : (w.setCell ⟨B', o, none⟩ v).heap[B]? = w.heap[B]? := Below.heap_setCell _ _ _ _ hne.symm
 exact ⟨fun i u hu => (World.cell?_of_block (w := w) (a := ⟨B, i, none⟩) hB).trans (h.c i u hu), fun i => (World.frozen?_of_block (w := w) (a := ⟨B, i, none⟩) hB).trans (h.z i), by simpa [World.setCell] using h.b⟩
theorem Bx.two {w : World} {B : Nat} {a b : Value} (h : Bx w B [a, b]) : w.cell? ⟨B, 0, none⟩ = some a ∧ w.cell? ⟨B, 1, none⟩ = some b := ⟨h.c 0 _ rfl, h.c 1 _ rfl⟩
theorem Bx.four {w : World} {B : Nat} {a b c d : Value} (h : Bx w B [a, b, c, d]) : w.cell? ⟨B, 0, none⟩ = some a ∧ w.cell? ⟨B, 1, none⟩ = some b ∧ w.cell? ⟨B, 2, none⟩ = some c ∧ w.cell? ⟨B, 3, none⟩ = some d := ⟨h.c 0 _ rfl, h.c 1 _ rfl, h.c 2 _ rfl, h.c 3 _ rfl⟩
theorem RdW.grown {s : ByteArray} {R F P : Nat} {l : Bs} {w : World} (h : RdW s R F P l w) {B o : Nat} (hR : B ≠ R) (hF : B ≠ F) (v : Value) : RdW s R F P l (w.setCell ⟨B, o, none⟩ v) := by
 have a : (w.setCell ⟨B, o, none⟩ v).heap[R]? = w.heap[R]? := Below.heap_setCell _ _ _ _ hR.symm
 have b : (w.setCell ⟨B, o, none⟩ v).heap[F]? = w.heap[F]? := Below.heap_setCell _ _ _ _ hF.symm
 exact ⟨(World.cell?_of_block (w := w) (a := ⟨R, 0, none⟩) a).trans h.a, (World.cell?_of_block (w := w) (a := ⟨R, 1, none⟩) a).trans h.n, (World.cell?_of_block (w := w) (a := ⟨F, 0, none⟩) b).trans h.f, (World.frozen?_of_block (w := w) (a := ⟨R, 0, none⟩) a).trans h.z, h.d, h.e, h.ne, h.m⟩
theorem gr_own {w w' : World} {R B o : Nat} (h : w.grownBy w' (some R)) (hB : w.heap.size ≤ B) (v : Value) : w.grownBy (w'.setCell ⟨B, o, none⟩ v) (some R) :=
 ⟨h.os, h.tape, h.output, by simpa [World.setCell] using h.size, fun k hk hne => by rw [Below.heap_setCell _ _ _ _ (by dsimp only; omega)]; exact h.block k hk hne⟩
theorem gr_alloc {w w' : World} {row : Option Nat} (h : w.grownBy w' row) (o : Obj) : w.grownBy (w'.alloc o) row := h.trans (World.grownBy_alloc _ _ _)
theorem drop_app {a b l : Bs} (h : a ++ b = l) : l.drop a.length = b := by subst h; simp
theorem aft_at {s : ByteArray} {P : Nat} {l : Bs} (hd : s.data.toList.drop P = l) (he : P + l.length = s.size) : s.data.toList.drop (P + (dgs l).length) = aft l ∧ (P + (dgs l).length) + (aft l).length = s.size := by
 have e := dgs_aft l
 constructor
 ·rw [drop_more hd]
  exact drop_app e
 ·have := congrArg List.length e
  rw [List.length_append] at this
  omega
abbrev SpC9 (x : Ix) : Prop := ∀ w, Calls Tryz.prog 105 #[ixV x] w fun e w' => e = .returned (ixV (spl x)) ∧ Below w.heap.size w w'
set_option maxRecDepth 1000000 in
set_option maxHeartbeats 1600000 in
theorem spoilt_any (x : Ix) : SpC9 x := fun w => by
 obtain ⟨k, n⟩ := x
 unfold ixV
 by_cases h : k = 0
 ·subst h
  rw [show spl ⟨0, n⟩ = ⟨0, n⟩ from rfl]
  dsimp only
  go_enter Tryz.func105, Tryz.ntmps105
  go_wp2
  go_returns
  refine ⟨rfl, ?_⟩
  go_grown
 ·have hI : ¬ (k : Int) = 0 := by omega
  rw [show spl ⟨k, n⟩ = ix2 from if_neg h]
  unfold ix2
  dsimp only
  go_enter Tryz.func105, Tryz.ntmps105
  go_wp2
  go_returns
  refine ⟨rfl, ?_⟩
  go_grown
abbrev GvC (s : ByteArray) (R F P : Nat) (l : Bs) : Prop := ∀ w, RdW s R F P l w → Calls Tryz.prog 153 #[.pointer (some ⟨R, 0, none⟩)] w fun e w' => e = .returned (nbV ⟨1, wN (dgs l), ix0⟩) ∧ RdW s R F (P + (dgs l).length) (aft l) w' ∧ w.grownBy w' (some R)
set_option maxRecDepth 1000000 in
set_option maxHeartbeats 1600000 in
theorem given_any (s : ByteArray) (R F P : Nat) (l : Bs) : GvC s R F P l := fun w h => by
 obtain ⟨W1, hW1⟩ : ∃ W1, W1 = w.alloc (.cells #[.int .i64 0, .int .i64 0, .int .i64 0, .int .i64 0] 84) := ⟨_, rfl⟩
 have hb1 : Below w.heap.size w W1 := by rw [hW1]; exact (Below.refl _ _).alloc (Nat.le_refl _) _
 have h1 := h.up hb1
 have hC := pnumber_any s R F P l W1 h1 P l h.d h.e
 have hcap : Hid ((if 1000 < capD (dgs l) then (-1 : Int) else (capD (dgs l) : Int)) = wN (dgs l)) := cap_wide (dgs l)
 obtain ⟨ea, eb⟩ := aft_at h.d h.e
 generalize capD (dgs l) = C at *
 generalize hP2 : P + (dgs l).length = P2 at *
 clear hP2
 have hRw : R < w.heap.size := lt_of_cell9 h.a
 have hFw : F < w.heap.size := lt_of_cell9 h.f
 have hx1 : Bx W1 w.heap.size [.int .i64 0, .int .i64 0, .int .i64 0, .int .i64 0] := by rw [hW1]; exact Bx.new _ _ _
 have a0 := h1.a
 have z0 := h1.z
 have fin : ∀ w2 (a : Int), Below W1.heap.size W1 w2 → RdW s R F P2 (aft l) (((((w2.setCell ⟨R, 0, none⟩ (.int .i64 (P2 : Nat))).setCell ⟨w.heap.size, 0, none⟩ (.int .i64 1)).setCell ⟨w.heap.size, 1, none⟩ (.int .i64 a)).setCell ⟨w.heap.size, 2, none⟩ (.int .i64 0)).setCell ⟨w.heap.size, 3, none⟩ (.int .i64 0)) ∧ w.grownBy (((((w2.setCell ⟨R, 0, none⟩ (.int .i64 (P2 : Nat))).setCell ⟨w.heap.size, 0, none⟩ (.int .i64 1)).setCell ⟨w.heap.size, 1, none⟩ (.int .i64 a)).setCell ⟨w.heap.size, 2, none⟩ (.int .i64 0)).setCell ⟨w.heap.size, 3, none⟩ (.int .i64 0)) (some R) := fun w2 a hb2 => by
  have n1 : w.heap.size ≠ R := by omega
  have n2 : w.heap.size ≠ F := by omega
  exact ⟨((((((h1.up hb2).put ea eb).grown n1 n2 _).grown n1 n2 _).grown n1 n2 _).grown n1 n2 _), gr_own (gr_own (gr_own (gr_own (gr_put ((gr_below hb1 _).trans (gr_below hb2 _)) _) (Nat.le_refl _) _) (Nat.le_refl _) _) (Nat.le_refl _) _) (Nat.le_refl _) _⟩
 have q0 : ∀ w2, Below W1.heap.size W1 w2 → (w2.frozen? ⟨R, 0, none⟩ = false ∧ (w2.cell? ⟨R, 0, none⟩ = some (.int .i64 (P : Nat)))) := fun w2 hb2 => ⟨(h1.up hb2).z, (h1.up hb2).a⟩
 have hBR : ¬ w.heap.size = R := by omega
 have hRB : ¬ R = w.heap.size := by omega
 unfold nbV ix0
 dsimp only
 by_cases hc : 1000 < C
 ·have hcI : 1000 < (C : Int) := by omega
  rw [if_pos hc] at hcap
  go_enter Tryz.func153, Tryz.ntmps153
  go_upto_region 1 with fail
  rw [← hW1]
  clear hW1
  go_wp2_with (go_at_call 154; refine hC.mono ?_; rintro e w2 ⟨rfl, hb2⟩; obtain ⟨k0, k1⟩ := q0 w2 hb2; obtain ⟨k2, k3, k4, k5⟩ := (hx1.up hb2).four; have k6 := (hx1.up hb2).z)
  refine bodyPost_ret (by simp [results, Tryz.results153, go_sem, cs_same9, k0, k1, k2, k3, k4, k5, hBR, hRB]; rfl) rfl ?_
  rw [← hcap.out]
  exact ⟨rfl, fin _ _ hb2⟩
 ·have hcI : ¬ 1000 < (C : Int) := by omega
  rw [if_neg hc] at hcap
  go_enter Tryz.func153, Tryz.ntmps153
  go_upto_region 1 with fail
  rw [← hW1]
  clear hW1
  go_wp2_with (go_at_call 154; refine hC.mono ?_; rintro e w2 ⟨rfl, hb2⟩; obtain ⟨k0, k1⟩ := q0 w2 hb2; obtain ⟨k2, k3, k4, k5⟩ := (hx1.up hb2).four; have k6 := (hx1.up hb2).z)
  refine bodyPost_ret (by simp [results, Tryz.results153, go_sem, cs_same9, k0, k1, k2, k3, k4, k5, hBR, hRB]; rfl) rfl ?_
  rw [← hcap.out]
  exact ⟨rfl, fin _ _ hb2⟩
end Go.Proofs.YtjfmhghpkefihaaGreatDoor
