/- FRead, FReadE, FReadM, FVerb6, FExact: these texts in one. -/
import Derived.Test.YtiagjheifblkiaaGreatDoorPt34
import Derived.Lib.ConvBytes
import Derived.Lib.AtoiErrMem
import Derived.Deep.LoopGhost
import Derived.Deep.RegionHeld
import Derived.Test.YtiagjheifblkiaaGreatDoorPt1
namespace Go.Proofs.YtiagjheifblkiaaGreatDoor
open Go.RowKit
set_option linter.unusedVariables false
set_option linter.unusedSimpArgs false
def rdS (a : List UInt8 × Nat × Bool) (c : UInt8) : List UInt8 × Nat × Bool := if isD c = true then (a.1 ++ [c], if a.2.2 then a.2.1 else a.2.1 + 1, a.2.2) else (a.1, a.2.1, true)
def rdL (l : List UInt8) : List UInt8 × Nat × Bool := l.foldl rdS ([], 0, false)
theorem rdL_snoc (l : List UInt8) (c : UInt8) : rdL (l ++ [c]) = rdS (rdL l) c := by simp [rdL]
theorem rdL_dig (l b : List UInt8) (h : allD b = true) : rdL (l ++ b) = ((rdL l).1 ++ b, if (rdL l).2.2 then (rdL l).2.1 else (rdL l).2.1 + b.length, (rdL l).2.2) := by
 induction b generalizing l with
 | nil => simp
 | cons c b ih =>
   rw [allD_cons, Bool.and_eq_true] at h
   have e : l ++ c :: b = (l ++ [c]) ++ b := by simp
   rw [e, ih _ h.2, rdL_snoc]
   unfold rdS
   rw [if_pos h.1]
   cases hdB : (rdL l).2.2 <;> simp [hdB] <;> omega
theorem rdL_all (a : List UInt8) (h : allD a = true) : rdL a = (a, a.length, false) := by
 have := rdL_dig [] a h
 simpa [rdL] using this
theorem rdL_dot (a b : List UInt8) (ha : allD a = true) (hb : allD b = true) : rdL (a ++ (46 :: b)) = (a ++ b, a.length, true) := by
 have e : a ++ 46 :: b = (a ++ [46]) ++ b := by simp
 have h1 : rdL (a ++ [46]) = (a, a.length, true) := by
  rw [rdL_snoc, rdL_all a ha]
  unfold rdS
  rw [if_neg (by decide)]
 rw [e, rdL_dig _ _ hb, h1]
 simp
def Plain10 (l : List UInt8) : Prop := ∀ k (h : k < l.length), isD l[k] = true ∨ (l[k] = 46 ∧ (rdL (l.take k)).2.2 = false)
theorem plain_all {a : List UInt8} (h : allD a = true) : Plain10 a := fun k hk => .inl (allD_mem h (List.getElem_mem hk))
theorem plain_dot {a b : List UInt8} (ha : allD a = true) (hb : allD b = true) : Plain10 (a ++ (46 :: b)) := fun k hk => by
 rcases Nat.lt_trichotomy k a.length with h | h | h
 ·left
  rw [List.getElem_append_left h]
  exact allD_mem ha (List.getElem_mem h)
 ·right
  subst h
  refine ⟨by simp, ?_⟩
  rw [List.take_left', rdL_all a ha]; rfl
 ·left
  rw [List.getElem_append_right (by omega)]
  obtain ⟨j, hj⟩ : ∃ j, k - a.length = j + 1 := ⟨k - a.length - 1, by omega⟩
  simp only [hj, List.getElem_cons_succ]
  exact allD_mem hb (List.getElem_mem _)
theorem BoxDe.put0 {W : World} {B : Nat} {x y : Value} (h : BoxDe W B x y) (u : Value) : BoxDe (W.setCell ⟨B, 0, none⟩ u) B u y :=
 ⟨World.cell?_setCell_same W ⟨B, 0, none⟩ u h.1, (World.cell?_setCell_other W ⟨B, 0, none⟩ ⟨B, 1, none⟩ u (fun e => by have := congrArg Addr.off e; simp at this)).trans h.2.1, by rw [World.frozen?_setCell]; exact h.2.2.1, by rw [World.frozen?_setCell]; exact h.2.2.2⟩
theorem BoxDe.put1 {W : World} {B : Nat} {x y : Value} (h : BoxDe W B x y) (u : Value) : BoxDe (W.setCell ⟨B, 1, none⟩ u) B x u :=
 ⟨(World.cell?_setCell_other W ⟨B, 1, none⟩ ⟨B, 0, none⟩ u (fun e => by have := congrArg Addr.off e; simp at this)).trans h.1, World.cell?_setCell_same W ⟨B, 1, none⟩ u h.2.1, by rw [World.frozen?_setCell]; exact h.2.2.1, by rw [World.frozen?_setCell]; exact h.2.2.2⟩
theorem BoxDe.pastA {W : World} {B : Nat} {x y : Value} (h : BoxDe W B x y) {C : Nat} (hne : C ≠ B) (o : Nat) (u : Value) : BoxDe (W.setCell ⟨C, o, none⟩ u) B x y :=
 ⟨(World.cell?_setCell_other W ⟨C, o, none⟩ ⟨B, 0, none⟩ u (fun e => by have := congrArg Addr.block e; simp at this; omega)).trans h.1, (World.cell?_setCell_other W ⟨C, o, none⟩ ⟨B, 1, none⟩ u (fun e => by have := congrArg Addr.block e; simp at this; omega)).trans h.2.1, by rw [World.frozen?_setCell]; exact h.2.2.1, by rw [World.frozen?_setCell]; exact h.2.2.2⟩
abbrev R6C (s S : ByteArray) (Q : Int) : Prop := ∀ w, Calls Tryz.prog 8 #[.string s] w fun e w' => e = .returned (.tuple #[.agg #[.string S, .int .i64 Q], .bool true]) ∧ Below w.heap.size w w'
set_option maxRecDepth 1000000 in
set_option maxHeartbeats 8000000 in
theorem read_all {s D0 S : ByteArray} {p0 N : Nat} {dot0 : Bool} {Q : Int} (hs : s.size ≤ 100000) (h1 : 1 ≤ D0.size) (hNs : N ≤ s.size) (HG : Hid (∀ k (h : k < s.size), k < N → isD (s[k]'h) = true ∨ ((s[k]'h) = 46 ∧ (rdL (s.data.toList.take k)).2.2 = false))) (HE : Hid (rdL (s.data.toList.take N) = (D0.data.toList, p0, dot0)))
  (hT : (N = s.size ∧ NormC D0 p0 S Q 0) ∨ ∃ (X : ByteArray) (cc cs : Nat) (P : Int) (g0 : N < s.size) (g1 : N + 1 < s.size), N + 4 ≤ s.size ∧ s.size ≤ N + 6 ∧ (s[N]'g0).toNat = cc ∧ (cc = 101 ∨ cc = 69) ∧ (s[N + 1]'g1).toNat = cs ∧ (cs = 43 ∧ P = (p0 : Int) + (num X.data.toList : Nat) ∨ cs = 45 ∧ P = (p0 : Int) - (num X.data.toList : Nat)) ∧ s.extract (N + 2) s.size = X ∧ Hid (allD X.data.toList = true) ∧ Hid (num X.data.toList ≤ 1000) ∧ NormC D0 P S Q 0) : R6C s S Q := fun w => by
 have HC : Hid (∀ k (h : k < s.size), s.extract k (k + 1) = ⟨#[s[k]'h]⟩) := fun k h => by
  apply ByteArray.ext; apply Array.ext'
  rw [ext_li, List.take_succ_eq_append_getElem (by rw [list_len]; exact h), List.drop_append_of_le_length (by rw [List.length_take, list_len]; omega), List.drop_of_length_le (by rw [List.length_take]; omega)]
  rfl
 have HT : Hid (∀ k (h : k < s.size), rdL (s.data.toList.take (k + 1)) = rdS (rdL (s.data.toList.take k)) (s[k]'h)) := fun k h => by
  rw [List.take_succ_eq_append_getElem (by rw [list_len]; exact h), rdL_snoc]
  rfl
 obtain ⟨W0, hW0⟩ : ∃ W0, W0 = (w.alloc (.cells #[.string ⟨#[]⟩, .int .i64 0] 31)).alloc (.cells #[.string ⟨#[]⟩, .int .i64 0] 31) := ⟨_, rfl⟩
 have b0 : Below w.heap.size w W0 := by rw [hW0]; exact ((Below.refl _ _).alloc (Nat.le_refl _) _).alloc (by simp) _
 have hR0 : BoxDe W0 w.heap.size (.string ⟨#[]⟩) (.int .i64 0) := by rw [hW0]; simp [BoxDe, go_sem]
 have hB0 : BoxDe W0 (w.heap.size + 1) (.string ⟨#[]⟩) (.int .i64 0) := by rw [hW0]; simp [BoxDe, go_sem]
 have HTT := fun (_ : Unit) => hT
 clear hT
 go_enter Tryz.func8, Tryz.ntmps8
 go_upto_region 2 with fail
 rw [← hW0]
 clear hW0
 go_wp2
 go_loopg [5, 6, 7] N (fun g xv tv iv wr => ∃ (k pt : Nat) (D : ByteArray) (dot : Bool), xv = .int .i64 0 ∧ tv = .bool dot ∧ iv = .int .i64 k ∧ k + g = N ∧ D.size ≤ k ∧ pt ≤ k ∧ Below w.heap.size w wr ∧ BoxDe wr w.heap.size (.string ⟨#[]⟩) (.int .i64 0) ∧ BoxDe wr (w.heap.size + 1) (.string D) (.int .i64 pt) ∧ Hid (rdL (s.data.toList.take k) = (D.data.toList, pt, dot)))
 case atStart => exact ⟨0, 0, ⟨#[]⟩, false, rfl, rfl, rfl, by omega, Nat.le_refl _, Nat.le_refl _, b0, hR0, hB0, rfl⟩
 case round =>
  obtain ⟨k, pt, D, dot, rfl, rfl, rfl, hkg, hDk, hpk, bR, hR, hB, HX⟩ := hrel
  clear b0 hR0 hB0 W0
  obtain ⟨d0, d1, d2, d3⟩ := id hB
  by_cases hkN : k < N
  ·have hk : k < s.size := by omega
   have hkI : (k : Int) < s.size := by omega
   have hkI2 : (k : Int) + 1 ≤ s.size := by omega
   have hc := HC.out k hk
   have ht := HT.out k hk
   have hdB := HG.out k hk hkN
   rw [HX.out] at ht hdB
   have hb : (s[k]'hk).toNat < 256 := (s[k]'hk).toNat_lt
   rcases hdB with hdB | ⟨hdB, hdot⟩
   ·obtain ⟨c0, c1⟩ := (isD_iff _).1 hdB
    have c0I : 48 ≤ ((s[k]'hk).toNat : Int) := by omega
    have c1I : ((s[k]'hk).toNat : Int) ≤ 57 := by omega
    obtain ⟨D2, hD2, HD2⟩ : ∃ D2, D ++ (⟨#[s[k]'hk]⟩ : ByteArray) = D2 ∧ Hid (D2.data.toList = D.data.toList ++ [s[k]'hk]) := ⟨_, rfl, by show _ = _; rw [app_list]⟩
    have hz2 : D2.size = D.size + 1 := by rw [← hD2, app_size]; rfl
    have hsum : ¬ 9223372036854775807 < D.size + (⟨#[s[k]'hk]⟩ : ByteArray).size := by rw [show (⟨#[s[k]'hk]⟩ : ByteArray).size = 1 from rfl]; omega
    have HX2 : Hid (rdL (s.data.toList.take (k + 1)) = (D2.data.toList, if dot then pt else pt + 1, dot)) := by
     show _ = _
     rw [ht, HD2.out]
     unfold rdS
     rw [if_pos hdB]
    have hptI : (pt : Int) ≤ 100000 := by omega
    have hDI : (D.size : Int) ≤ 100000 := by omega
    have hw1 : IntKind.i64.wrap ((k : Int) + 1) = (k : Int) + 1 := by rw [IntKind.wrap_i64]; omega
    have hsl : ∀ W, (Instr.slice 9 (.string s) (some (.int .i64 k)) (some (.int .i64 ((k : Int) + 1))) none).run Tryz.prog W = .ok (.string ⟨#[s[k]'hk]⟩) W := fun W => by
     rw [run_slice_string W 9 s .i64 .i64 k ((k : Int) + 1) Tryz.underlying9 (by omega) (by omega) (by omega)]
     rw [← hc]
     congr 3 <;> omega
    clear HC HT HG HX HE ht hdB HD2 HTT
    go_upto_region 8 with fail
    obtain ⟨Y, hY⟩ : ∃ Y, Y = wr.drew := ⟨_, rfl⟩
    have bY : Below w.heap.size w Y := by rw [hY]; exact bR.drew
    have rY : BoxDe Y w.heap.size (.string ⟨#[]⟩) (.int .i64 0) := by rw [hY]; exact hR
    have yY : BoxDe Y (w.heap.size + 1) (.string D) (.int .i64 pt) := by rw [hY]; exact hB
    refine wp_region_held_drew (S := fun _ : World => True) (by kernel_rfl) trivial ?_
    rw [← hY]
    clear hY d0 d1 d2 d3 hR hB bR
    intro hS
    obtain ⟨d0, d1, d2, d3⟩ := id yY
    refine wpAnyH_take (i := 0) (v := .pointer (some ⟨w.heap.size + 1, 0, none⟩)) rfl (by kernel_rfl) (by kernel_rfl) (by kernel_rfl) (fun _ _ _ h => h) (Or.inl ⟨by rfl, ?_⟩) (by assumption) ?_
    ·intro w5 s0
     go_simp
    try simp only [Act.put, List.getElem_toArray, List.getElem_cons_zero, List.getElem_cons_succ, List.setIfInBounds_toArray, List.set_cons_zero, List.set_cons_succ]
    refine wpAnyH_take (i := 2) (v := .string s) rfl (by kernel_rfl) (by kernel_rfl) (by kernel_rfl) (fun _ _ _ h => h) (Or.inl ⟨by rfl, ?_⟩) (by assumption) ?_
    ·intro w5 s0
     go_simp
    try simp only [Act.put, List.getElem_toArray, List.getElem_cons_zero, List.getElem_cons_succ, List.setIfInBounds_toArray, List.set_cons_zero, List.set_cons_succ]
    refine wpAnyH_take (i := 3) (v := .int .i64 k) rfl (by kernel_rfl) (by kernel_rfl) (by kernel_rfl) (fun _ _ _ h => h) (Or.inl ⟨by rfl, ?_⟩) (by assumption) ?_
    ·intro w5 s0
     go_simp
    try simp only [Act.put, List.getElem_toArray, List.getElem_cons_zero, List.getElem_cons_succ, List.setIfInBounds_toArray, List.set_cons_zero, List.set_cons_succ]
    refine wpAnyH_take (i := 4) (v := .int .i64 k) rfl (by kernel_rfl) (by kernel_rfl) (by kernel_rfl) (fun _ _ _ h => h) (Or.inl ⟨by rfl, ?_⟩) (by assumption) ?_
    ·intro w5 s0
     go_simp
    try simp only [Act.put, List.getElem_toArray, List.getElem_cons_zero, List.getElem_cons_succ, List.setIfInBounds_toArray, List.set_cons_zero, List.set_cons_succ]
    refine wpAnyH_take (i := 5) (v := .int .i64 ((k : Int) + 1)) rfl (by kernel_rfl) (by kernel_rfl) (by kernel_rfl) (fun _ _ _ h => h) (Or.inl ⟨by rfl, ?_⟩) (by assumption) ?_
    ·intro w5 s0
     go_simp
    try simp only [Act.put, List.getElem_toArray, List.getElem_cons_zero, List.getElem_cons_succ, List.setIfInBounds_toArray, List.set_cons_zero, List.set_cons_succ]
    refine wpAnyH_take (i := 6) (v := .string ⟨#[s[k]'hk]⟩) rfl (by kernel_rfl) (by kernel_rfl) (by kernel_rfl) (fun _ _ _ h => h) (Or.inl ⟨by rfl, ?_⟩) (by assumption) ?_
    ·intro w5 s0
     go_simp
    try simp only [Act.put, List.getElem_toArray, List.getElem_cons_zero, List.getElem_cons_succ, List.setIfInBounds_toArray, List.set_cons_zero, List.set_cons_succ]
    refine wpAnyH_ready (rs := [1]) (by kernel_rfl) (by simp) ?_
    refine AllReadyH.cons rfl (fun K1 hK1 => ?_) AllReadyH.nil
    go_simp
    refine hK1.out _ _ trivial (fun _ => ?_)
    clear hK1
    try simp only [Act.put, List.getElem_toArray, List.getElem_cons_zero, List.getElem_cons_succ, List.setIfInBounds_toArray, List.set_cons_zero, List.set_cons_succ]
    refine wpAnyH_take (i := 7) (v := .string D2) rfl (by kernel_rfl) (by kernel_rfl) (by kernel_rfl) (fun _ _ _ h => h) (Or.inl ⟨by rfl, ?_⟩) (by assumption) ?_
    ·intro w5 s0
     go_simp
     try omega
    try simp only [Act.put, List.getElem_toArray, List.getElem_cons_zero, List.getElem_cons_succ, List.setIfInBounds_toArray, List.set_cons_zero, List.set_cons_succ]
    refine wpAnyH_take (i := 8) (v := .pointer (some ⟨w.heap.size + 1, 0, none⟩)) rfl (by kernel_rfl) (by kernel_rfl) (by kernel_rfl) (fun _ _ _ h => h) (Or.inl ⟨by rfl, ?_⟩) (by assumption) ?_
    ·intro w5 s0
     go_simp
    try simp only [Act.put, List.getElem_toArray, List.getElem_cons_zero, List.getElem_cons_succ, List.setIfInBounds_toArray, List.set_cons_zero, List.set_cons_succ]
    refine wpAnyH_ready (rs := [9]) (by kernel_rfl) (by simp) ?_
    refine AllReadyH.cons rfl (fun K9 hK9 => ?_) AllReadyH.nil
    go_simp
    refine hK9.out _ _ trivial (fun _ => ?_)
    clear hK9
    try simp only [Act.put, List.getElem_toArray, List.getElem_cons_zero, List.getElem_cons_succ, List.setIfInBounds_toArray, List.set_cons_zero, List.set_cons_succ]
    refine wpAnyH_done (by kernel_rfl) ?_ _
    obtain ⟨W9, hW9⟩ : ∃ W9, W9 = Y.setCell ⟨w.heap.size + 1, 0, none⟩ (.string D2) := ⟨_, rfl⟩
    have b9 : Below w.heap.size w W9 := by rw [hW9]; exact bY.setCell (p := ⟨w.heap.size + 1, 0, none⟩) (by dsimp only; omega) _
    have x9 : BoxDe W9 (w.heap.size + 1) (.string D2) (.int .i64 pt) := by rw [hW9]; exact yY.put0 _
    have r9 : BoxDe W9 w.heap.size (.string ⟨#[]⟩) (.int .i64 0) := by rw [hW9]; exact rY.pastA (by omega) _ _
    rw [← hW9]
    clear hW9 bY rY yY d0 d1 d2 d3
    obtain ⟨d0, d1, d2, d3⟩ := id x9
    cases dot with
    | true =>
      go_wp2
      go_roundg (gk - 1)
      case measure => omega
      case rel => exact ⟨k + 1, pt, D2, true, rfl, rfl, by go_num, by omega, by omega, by omega, b9, r9, x9, HX2⟩
    | false =>
      go_wp2
      go_roundg (gk - 1)
      case measure => omega
      case rel => exact ⟨k + 1, pt + 1, D2, false, rfl, rfl, by go_num, by omega, by omega, by omega, b9.setCell (p := ⟨w.heap.size + 1, 1, none⟩) (by dsimp only; omega) _, r9.pastA (by omega) _ _, by have := x9.put1 (.int .i64 ((pt : Int) + 1)); simpa using this, HX2⟩
   ·have hdot : dot = false := hdot
    subst hdot
    have hc6 : (s[k]'hk).toNat = 46 := by rw [hdB]; rfl
    have HX2 : Hid (rdL (s.data.toList.take (k + 1)) = (D.data.toList, pt, true)) := by
     show _ = _
     rw [ht]
     unfold rdS
     rw [hdB, if_neg (by decide)]
    clear HC HT HG HX HE ht hdB hc HTT
    go_wp2
    go_roundg (gk - 1)
    case measure => omega
    case rel => exact ⟨k + 1, pt, D, true, rfl, rfl, by go_num, by omega, by omega, by omega, bR, hR, hB, HX2⟩
  ·obtain rfl : k = N := by omega
   have e := HX.out
   rw [HE.out] at e
   obtain rfl : D0 = D := by
    apply ByteArray.ext; apply Array.ext'
    exact congrArg (·.1) e
   obtain rfl : p0 = pt := congrArg (·.2.1) e
   have hne : ¬ D0 = ⟨#[]⟩ := fun h => by rw [h] at h1; exact absurd h1 (by decide)
   have hue : D0.toList.isEmpty = false := empty_no D0 (by omega)
   have hT := HTT ()
   clear HC HT HG HX HE e HTT
   rcases hT with ⟨hN, hNo⟩ | ⟨X, cc, cs, P, g0, g1, hN4, hN6, hcc, hc2, hcs, hs2, hX, HXd, HXn, hNo⟩
   ·have hkI : ¬ (k : Int) < s.size := by omega
    go_upto_region 27 with (go_at_call 20; refine (hNo _).mono ?_; rintro x w3 ⟨rfl, hb3⟩)
    obtain ⟨W4, hW4⟩ : ∃ W4, W4 = w3.alloc (.cells #[.string S, .int .i64 Q] 31) := ⟨_, rfl⟩
    have b34 : Below w3.heap.size w3 W4 := by rw [hW4]; exact (Below.refl _ _).alloc (Nat.le_refl _) _
    have bW4 : Below w.heap.size w W4 := bel_call bR (hb3.trans (b34.mono hb3.size)) (Nat.le_refl _)
    have e4 : BoxDe W4 w3.heap.size (.string S) (.int .i64 Q) := by rw [hW4]; simp [BoxDe, go_sem]
    have r4 := keepb b34 (keepb hb3 hR)
    have x4 := keepb b34 (keepb hb3 hB)
    have hlt : w.heap.size + 1 < w3.heap.size := World.block_lt_of_cell? w3 _ (keepb hb3 hB).1
    rw [← hW4]
    clear hW4 hb3 b34 d0 d1 d2 d3
    generalize w3.heap.size = E at *
    obtain ⟨e0, e1, e2, e3⟩ := id e4
    obtain ⟨f0, f1, f2, f3⟩ := id r4
    obtain ⟨d0, d1, d2, d3⟩ := id x4
    go_region
    obtain ⟨W5, hW5⟩ : ∃ W5, W5 = ((W4.setCell ⟨w.heap.size, 0, none⟩ (.string S)).setCell ⟨w.heap.size, 1, none⟩ (.int .i64 Q)).drew := ⟨_, rfl⟩
    have r5 : BoxDe W5 w.heap.size (.string S) (.int .i64 Q) := by rw [hW5]; exact (r4.put0 _).put1 _
    have b5 : Below w.heap.size w W5 := by rw [hW5]; exact ((bW4.setCell (p := ⟨w.heap.size, 0, none⟩) (Nat.le_refl _) _).setCell (p := ⟨w.heap.size, 1, none⟩) (Nat.le_refl _) _).drew
    rw [← hW5]
    clear hW5
    obtain ⟨k0, k1, k2, k3⟩ := id r5
    go_wp2
    refine bodyPost_ret (v := .tuple #[.agg #[.string S, .int .i64 Q], .bool true]) (by simp [results, Tryz.results8, go_sem, k0, k1]) rfl ⟨rfl, b5⟩
   ·have hkI : (k : Int) < s.size := by omega
    have hk1I : (k : Int) + 1 < s.size := by omega
    have hk2I : (k : Int) + 2 ≤ s.size := by omega
    have hk4I : (k : Int) + 4 ≤ s.size := by omega
    have hk6I : (s.size : Int) ≤ (k : Int) + 6 := by omega
    have hXz : X.size + k + 2 = s.size := by rw [← hX, ByteArray.size_extract]; omega
    have HXc : Hid (∀ j, j < X.size → (X.data.toList.getD j 0).toNat < 256 ∧ 48 ≤ (X.data.toList.getD j 0).toNat ∧ (X.data.toList.getD j 0).toNat ≤ 57 ∧ num (X.data.toList.take (j + 1)) = num (X.data.toList.take j) * 10 + ((X.data.toList.getD j 0).toNat - 48)) := fun j hj => by
     have hl : j < X.data.toList.length := by rw [list_len]; exact hj
     have e : X.data.toList.getD j 0 = X.data.toList[j] := by rw [List.getD_eq_getElem?_getD, List.getElem?_eq_getElem hl, Option.getD_some]
     have hm := (isD_iff _).1 (allD_mem HXd.out (List.getElem_mem hl))
     rw [e]
     refine ⟨UInt8.toNat_lt _, hm.1, hm.2, ?_⟩
     rw [List.take_succ_eq_append_getElem hl, num_snoc]; rfl
    have HXp : Hid (∀ j, num (X.data.toList.take j) ≤ 1000) := fun j => by
     have h := HXn.out
     have e : num X.data.toList = num (X.data.toList.take j) * 10 ^ (X.data.toList.drop j).length + num (X.data.toList.drop j) := by rw [← num_append, List.take_append_drop]
     have := pow_pos10 (X.data.toList.drop j).length
     have h2 := Nat.mul_le_mul_left (num (X.data.toList.take j)) this
     omega
    have HXf : Hid (num X.data.toList = num (X.data.toList.take X.size)) := by show _ = _; rw [List.take_of_length_le (by rw [list_len]; exact Nat.le_refl _)]
    have hcv := Lib.run_convert_string_bytes wr 9 57 5 X Tryz.underlying9 Tryz.underlying57 Tryz.underlying5
    have hcell : ∀ j, j < X.size → (Lib.bytesWorld wr 5 X).cell? ⟨wr.heap.size, j, none⟩ = some (.int .u8 ((X.data.toList.getD j 0).toNat : Nat)) := fun j hj => by
     have := Lib.bytesWorld_cell wr 5 X j hj
     simpa using this
    have hbB : Below wr.heap.size wr (Lib.bytesWorld wr 5 X) := Lib.bytesWorld_below _ _ _
    have bWB : Below w.heap.size w (Lib.bytesWorld wr 5 X) := bel_call bR hbB (Nat.le_refl _)
    have rB := keepb hbB hR
    have xB := keepb hbB hB
    have HS2 : Hid (cs = 43 ∧ P = (p0 : Int) + (num X.data.toList : Nat) ∨ cs = 45 ∧ P = (p0 : Int) + -((num X.data.toList : Nat) : Int)) := hs2.elim .inl fun h => .inr ⟨h.1, by omega⟩
    have hp0I : (p0 : Int) ≤ 100000 := by omega
    clear hs2 HXd HXn hR hB bR d0 d1 d2 d3
    generalize Lib.bytesWorld wr 5 X = WB at *
    generalize wr.heap.size = RB at *
    obtain ⟨d0, d1, d2, d3⟩ := id xB
    rcases hc2 with rfl | rfl
    all_goals
     go_wp2
     rw [hX]
     clear hX
     go_loopg [5, 82] X.size (fun g xv iv wr' => WB = wr' ∧ ∃ j : Nat, xv = .int .i64 (num (X.data.toList.take j) : Nat) ∧ iv = .int .i64 j ∧ j + g = X.size)
     case atStart => exact ⟨rfl, 0, rfl, rfl, by omega⟩
     case round =>
      obtain ⟨rfl, j, rfl, rfl, hjg⟩ := hrel
      by_cases hj : j < X.size
      ·have hjI : (j : Int) < X.size := by omega
       obtain ⟨x0, x1, x2, x3⟩ := HXc.out j hj
       have hcl := hcell j hj
       have hp := HXp.out j
       have hp2 := HXp.out (j + 1)
       rw [x3] at hp2
       have HX3 : Hid (num (X.data.toList.take (j + 1)) = num (X.data.toList.take j) * 10 + ((X.data.toList.getD j 0).toNat - 48)) := x3
       clear HXc HXp HXf hNo hcv x3 hcell
       generalize (X.data.toList.getD j 0).toNat = c at *
       generalize hM : num (X.data.toList.take j) = M at *
       have HM : Hid (num (X.data.toList.take j) = M) := hM
       clear hM
       have x1I : ¬ (c : Int) < 48 := by omega
       have x2I : (c : Int) ≤ 57 := by omega
       have hpI : (M : Int) ≤ 1000 := by omega
       go_wp2
       go_roundg (gk - 1)
       case measure => omega
       case rel => exact ⟨rfl, j + 1, by rw [HX3.out]; congr 1; omega, by go_num, by omega⟩
      ·have hjI : ¬ (j : Int) < X.size := by omega
       obtain rfl : j = X.size := by omega
       have e2 := HXf.out
       have hp := HXp.out X.size
       have hs2 := HS2.out
       rw [← e2] at hp
       rw [← e2]
       clear HXc HXp HXf hcv hcell e2 HS2
       generalize num X.data.toList = M at *
       have hMI : (M : Int) ≤ 1000 := by omega
       have hs3 : ∃ y : Int, P = (p0 : Int) + y ∧ (cs = 43 ∧ y = M ∨ cs = 45 ∧ y = -(M : Int)) := hs2.elim (fun h => ⟨M, h.2, .inl ⟨h.1, rfl⟩⟩) fun h => ⟨-(M : Int), h.2, .inr ⟨h.1, rfl⟩⟩
       clear hs2
       obtain ⟨y, rfl, hs3⟩ := hs3
       obtain ⟨pq, hpq⟩ : ∃ pq : Int, (p0 : Int) + y = pq := ⟨_, rfl⟩
       rcases hs3 with ⟨rfl, rfl⟩ | ⟨rfl, rfl⟩
       all_goals
        rw [hpq] at hNo
        obtain ⟨V2, hV2⟩ : ∃ V2, V2 = WB.setCell ⟨w.heap.size + 1, 1, none⟩ (.int .i64 pq) := ⟨_, rfl⟩
        have xV : BoxDe V2 (w.heap.size + 1) (.string D0) (.int .i64 pq) := by rw [hV2]; exact xB.put1 _
        have rV : BoxDe V2 w.heap.size (.string ⟨#[]⟩) (.int .i64 0) := by rw [hV2]; exact rB.pastA (by omega) _ _
        have bV : Below w.heap.size w V2 := by rw [hV2]; exact bWB.setCell (p := ⟨w.heap.size + 1, 1, none⟩) (by dsimp only; omega) _
        go_upto_region 24 with fail
        rw [← hV2]
        clear hV2 xB rB bWB d0 d1 d2 d3
        obtain ⟨d0, d1, d2, d3⟩ := id xV
        go_upto_region 25 with (go_at_call 20; refine (hNo _).mono ?_; rintro x w3 ⟨rfl, hb3⟩)
        obtain ⟨W4, hW4⟩ : ∃ W4, W4 = w3.alloc (.cells #[.string S, .int .i64 Q] 31) := ⟨_, rfl⟩
        have b34 : Below w3.heap.size w3 W4 := by rw [hW4]; exact (Below.refl _ _).alloc (Nat.le_refl _) _
        have bW4 : Below w.heap.size w W4 := bel_call bV (hb3.trans (b34.mono hb3.size)) (Nat.le_refl _)
        have e4 : BoxDe W4 w3.heap.size (.string S) (.int .i64 Q) := by rw [hW4]; simp [BoxDe, go_sem]
        have r4 := keepb b34 (keepb hb3 rV)
        have x4 := keepb b34 (keepb hb3 xV)
        have hlt : w.heap.size + 1 < w3.heap.size := World.block_lt_of_cell? w3 _ (keepb hb3 xV).1
        rw [← hW4]
        clear hW4 hb3 b34 d0 d1 d2 d3 xV rV bV
        generalize w3.heap.size = E at *
        obtain ⟨e0, e1, e2, e3⟩ := id e4
        obtain ⟨f0, f1, f2, f3⟩ := id r4
        obtain ⟨d0, d1, d2, d3⟩ := id x4
        go_region
        obtain ⟨W5, hW5⟩ : ∃ W5, W5 = ((W4.setCell ⟨w.heap.size, 0, none⟩ (.string S)).setCell ⟨w.heap.size, 1, none⟩ (.int .i64 Q)).drew := ⟨_, rfl⟩
        have r5 : BoxDe W5 w.heap.size (.string S) (.int .i64 Q) := by rw [hW5]; exact (r4.put0 _).put1 _
        have b5 : Below w.heap.size w W5 := by rw [hW5]; exact ((bW4.setCell (p := ⟨w.heap.size, 0, none⟩) (Nat.le_refl _) _).setCell (p := ⟨w.heap.size, 1, none⟩) (Nat.le_refl _) _).drew
        rw [← hW5]
        clear hW5
        obtain ⟨k0, k1, k2, k3⟩ := id r5
        go_wp2
        refine bodyPost_ret (v := .tuple #[.agg #[.string S, .int .i64 Q], .bool true]) (by simp [results, Tryz.results8, go_sem, k0, k1]) rfl ⟨rfl, b5⟩
theorem read_plain {s D0 S : ByteArray} {p0 : Nat} {dot0 : Bool} {Q : Int} (hs : s.size ≤ 100000) (h1 : 1 ≤ D0.size) (HG : Hid (Plain10 s.data.toList)) (HE : Hid (rdL s.data.toList = (D0.data.toList, p0, dot0))) (hN : NormC D0 p0 S Q 0) : R6C s S Q :=
 read_all hs h1 (Nat.le_refl _) (fun k h _ => HG.out k (by rw [list_len]; exact h)) (by
  show rdL (s.data.toList.take s.size) = _
  rw [List.take_of_length_le (by rw [list_len]; exact Nat.le_refl _)]
  exact HE.out) (.inl ⟨rfl, hN⟩)
end Go.Proofs.YtiagjheifblkiaaGreatDoor
namespace Go.Proofs.YtiagjheifblkiaaGreatDoor
open Go.RowKit
set_option linter.unusedVariables false
end Go.Proofs.YtiagjheifblkiaaGreatDoor
namespace Go.Proofs.YtiagjheifblkiaaGreatDoor
open Go.RowKit
set_option linter.unusedVariables false
set_option linter.unusedSimpArgs false
theorem normC_of {s : ByteArray} {p : Int} {u : Nat} (hz : s.size ≤ 2000) (hdB : allD s.data.toList = true) (h0 : -5000 ≤ p) (h1 : p ≤ 5000) (hu : V s.data.toList p = u) : NormC s p (oS u) (oP u) 0 := fun w => by
 have := norm_any s p w (by omega)
 have e := normE_ok (s := s) (p := p) (by omega) hdB (by omega) (by omega)
 rw [e, normV_ok e, hu] at this
 exact this
theorem posRead {A B : ByteArray} {u : Nat} (sh : Bool) (hA : allD A.data.toList = true) (hB : allD B.data.toList = true) (hA1 : 1 ≤ A.size) (hz : A.size + B.size ≤ 2000) (hu : V (A.data.toList ++ B.data.toList) A.size = u) : R6C (ptd sh A B) (oS u) (oP u) := by
 have hAB : allD (A ++ B).data.toList = true := by rw [app_list, allD_append, hA, hB]; rfl
 have hN : NormC (A ++ B) (A.size : Nat) (oS u) (oP u) 0 := normC_of (by rw [app_size]; omega) hAB (by omega) (by omega) (by rw [app_list]; exact hu)
 have hp := ptd_size sh A B
 have hl : A.data.toList.length = A.size := list_len A
 have hsz : (A ++ B).size = A.size + B.size := app_size A B
 by_cases h : B.size = 0 ∧ sh = false
 ·have e : ptd sh A B = A := by unfold ptd; rw [if_pos h]
  have eB : B.data.toList = [] := List.eq_nil_of_length_eq_zero (by rw [list_len]; exact h.1)
  rw [e]
  exact read_plain (D0 := A ++ B) (p0 := A.size) (dot0 := false) (by omega) (by omega) (plain_all hA) (by show _ = _; rw [rdL_all _ hA, app_list, eB, List.append_nil, hl]) hN
 ·have e : (ptd sh A B).data.toList = A.data.toList ++ (46 :: B.data.toList) := by
   unfold ptd
   rw [if_neg h, app_list, app_list]
   simp
  exact read_plain (D0 := A ++ B) (p0 := A.size) (dot0 := true) (by omega) (by omega) (by show Plain10 _; rw [e]; exact plain_dot hA hB) (by show _ = _; rw [e, rdL_dot _ _ hA hB, app_list, hl]) hN
theorem num_lead (k : Nat) (l : List UInt8) : num (List.replicate k 48 ++ l) = num l := by rw [num_append, num_zeros]; simp
theorem dig_num (n : Nat) (hn : n < 18446744073709551616) : num (digT false 10 n).data.toList = n := by
 have h : num (digT false 10 n).data.toList = valL 10 dgD (digS false 10 n) := rfl
 rw [h]
 refine valL_digS false 10 n dgD (by decide) (fun d hdB => ?_) (by rw [show (2 : Nat) ^ 64 = 18446744073709551616 by decide]; exact hn)
 have : ∀ d : Fin 10, dgD (hexB false d.val) = d.val := by decide
 exact this ⟨d, hdB⟩
theorem allD_dig10 (n : Nat) : allD (digT false 10 n).data.toList = true := allD_of fun x hx => by
 obtain ⟨d, hdB, rfl⟩ := digS_mem false 10 n (by decide) x hx
 have : ∀ d : Fin 10, isD (hexB false d.val) = true := by decide
 exact this ⟨d, hdB⟩
theorem allD_rep (k : Nat) : allD (List.replicate k 48) = true := allD_of fun x hx => by rw [List.eq_of_mem_replicate hx]; decide
end Go.Proofs.YtiagjheifblkiaaGreatDoor
namespace Go.Proofs.YtiagjheifblkiaaGreatDoor
open Go.RowKit
set_option linter.unusedVariables false
set_option linter.unusedSimpArgs false
end Go.Proofs.YtiagjheifblkiaaGreatDoor
namespace Go.Proofs.YtiagjheifblkiaaGreatDoor
open Go.RowKit
set_option linter.unusedVariables false
set_option linter.unusedSimpArgs false
end Go.Proofs.YtiagjheifblkiaaGreatDoor
