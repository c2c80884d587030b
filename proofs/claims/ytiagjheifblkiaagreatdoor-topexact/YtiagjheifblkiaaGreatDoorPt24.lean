/- BPlus, BRnd, BTopB, BTopC: these texts in one. -/
import Derived.Test.YtiagjheifblkiaaGreatDoorPt23
import Derived.Test.YtiagjheifblkiaaGreatDoorPt20
import Derived.Test.YtiagjheifblkiaaGreatDoorPt21
namespace Go.Proofs.YtiagjheifblkiaaGreatDoor
open Go.RowKit
set_option linter.unusedVariables false
theorem sum_any (Ba Bb na nb ca cb : Nat) (a b : Option Addr) (xs ys : List Nat) (w : World) (ha : Lm w Ba a na ca xs) (hb : Lm w Bb b nb cb ys) (hna : na ≤ 5000) (hnb : nb ≤ 5000) :
  Calls Tryz.prog 53 #[.slice a na ca, .slice b nb cb] w fun e w' => (∃ ao n c, e = .returned (.slice ao n c) ∧ n ≤ 5001 ∧ ∃ zs, Lm w' w.heap.size ao n c zs ∧ lv zs = lv xs + lv ys) ∧ Below w.heap.size w w' := by
 rcases Nat.lt_or_ge na nb with h | h
 ·refine (sum_lt Bb Ba nb na cb ca b a ys xs w hb ha (by omega) h).mono ?_
  rintro e w' ⟨⟨ao, n, c, he, hn, zs, hz, hv⟩, hbl⟩
  exact ⟨⟨ao, n, c, he, by omega, zs, hz, by omega⟩, hbl⟩
 ·refine (sum_ge Ba Bb na nb ca cb a b xs ys w ha hb (by omega) h).mono ?_
  rintro e w' ⟨⟨ao, n, c, he, hn, zs, hz, hv⟩, hbl⟩
  exact ⟨⟨ao, n, c, he, by omega, zs, hz, hv⟩, hbl⟩
theorem plus_val {n1 n2 z1 z2 L : Nat} {l1 l2 last : Int} (h1 : l1 - last = z1) (h2 : l2 - last = z2) (hL : last + 10000 = L) : (n1 * 10 ^ z1 + n2 * 10 ^ z2) * 10 ^ L = n1 * 10 ^ (l1 + 10000).toNat + n2 * 10 ^ (l2 + 10000).toNat := by
 rw [Nat.add_mul, Nat.mul_assoc, Nat.mul_assoc, ← Nat.pow_add, ← Nat.pow_add, show (l1 + 10000).toNat = z1 + L by omega, show (l2 + 10000).toNat = z2 + L by omega]
theorem keepg {W w2 : World} (hb : Below W.heap.size W w2) {p : Addr} {v : Value} (h : W.cell? p = some v ∧ W.frozen? p = false) : w2.cell? p = some v ∧ w2.frozen? p = false := by
 refine ⟨keep hb h.1, ?_⟩
 have hp : p.block < W.heap.size := by
  rcases Nat.lt_or_ge p.block W.heap.size with h1 | h1
  ·exact h1
  ·have := h.1; simp [World.cell?, Array.getElem?_eq_none h1] at this
 exact (hb.frozen hp).trans h.2
def UpTo (s : ByteArray) (p last : Int) (w : World) (N : Nat) : Prop := Calls Tryz.prog 54 #[.agg #[.string s, .int .i64 p], .int .i64 last] w fun e w' => (∃ ao n c, e = .returned (.slice ao n c) ∧ n ≤ 5000 ∧ ∃ xs, Lm w' w.heap.size ao n c xs ∧ lv xs = N) ∧ Below w.heap.size w w'
set_option maxRecDepth 1000000 in
set_option maxHeartbeats 1600000 in
theorem plus_any (s1 s2 : ByteArray) (p1 p2 : Int) (w : World) (hd1 : allD s1.data.toList = true) (hd2 : allD s2.data.toList = true) (hs1 : s1.size ≤ 16000) (hs2 : s2.size ≤ 16000) (hl1 : -10000 ≤ p1 - s1.size) (hl2 : -10000 ≤ p2 - s2.size) (hp1 : p1 ≤ 6000) (hp2 : p2 ≤ 6000) :
  Calls Tryz.prog 33 #[.agg #[.string s1, .int .i64 p1], .agg #[.string s2, .int .i64 p2]] w fun e w' => e = .returned (.agg #[.string (oS (V s1.data.toList p1 + V s2.data.toList p2)), .int .i64 (oP (V s1.data.toList p1 + V s2.data.toList p2))]) ∧ Below w.heap.size w w' := by
 obtain ⟨last, hmin⟩ : ∃ last : Int, min (p1 - s1.size) (p2 - s2.size) = last := ⟨_, rfl⟩
 have hm1 : last ≤ p1 - s1.size := by omega
 have hm2 : last ≤ p2 - s2.size := by omega
 have hm0 : -10000 ≤ last := by omega
 have hm3 : last ≤ 6000 := by omega
 have hLP1 : ∀ w, Calls Tryz.prog 52 #[.agg #[.string s1, .int .i64 p1]] w fun e w' => e = .returned (.int .i64 (p1 - s1.size)) ∧ Below w.heap.size w w' := fun w => lastplace_any s1 p1 w (by omega) (by omega) (by omega)
 have hLP2 : ∀ w, Calls Tryz.prog 52 #[.agg #[.string s2, .int .i64 p2]] w fun e w' => e = .returned (.int .i64 (p2 - s2.size)) ∧ Below w.heap.size w w' := fun w => lastplace_any s2 p2 w (by omega) (by omega) (by omega)
 have hU1 : ∀ w, UpTo s1 p1 last w (num s1.data.toList * 10 ^ (p1 - s1.size - last).toNat) := fun w => by
  refine (limbsupto_any s1 p1 last w hd1 (by omega) (by omega) (by omega) (by omega) (by omega)).mono ?_
  rintro e w' ⟨⟨ao, n, c, he, hn, xs, hx, hv⟩, hbl⟩
  exact ⟨⟨ao, n, c, he, by omega, xs, hx, hv⟩, hbl⟩
 have hU2 : ∀ w, UpTo s2 p2 last w (num s2.data.toList * 10 ^ (p2 - s2.size - last).toNat) := fun w => by
  refine (limbsupto_any s2 p2 last w hd2 (by omega) (by omega) (by omega) (by omega) (by omega)).mono ?_
  rintro e w' ⟨⟨ao, n, c, he, hn, xs, hx, hv⟩, hbl⟩
  exact ⟨⟨ao, n, c, he, by omega, xs, hx, hv⟩, hbl⟩
 have HV : Hid ((num s1.data.toList * 10 ^ (p1 - s1.size - last).toNat + num s2.data.toList * 10 ^ (p2 - s2.size - last).toNat) * 10 ^ (last + 10000).toNat = V s1.data.toList p1 + V s2.data.toList p2) := by
  unfold V
  rw [list_len, list_len]
  exact plus_val (last := last) (l1 := p1 - s1.size) (l2 := p2 - s2.size) (L := (last + 10000).toNat) (by omega) (by omega) (by omega)
 generalize num s1.data.toList * 10 ^ (p1 - s1.size - last).toNat = N1 at *
 generalize num s2.data.toList * 10 ^ (p2 - s2.size - last).toNat = N2 at *
 generalize V s1.data.toList p1 + V s2.data.toList p2 = v at *
 clear hd1 hd2
 obtain ⟨W3, hW3⟩ : ∃ W3, ((w.alloc (.cells #[.string s1, .int .i64 p1] 31)).alloc (.cells #[.string s2, .int .i64 p2] 31)).alloc (.cells #[.string ⟨#[]⟩, .int .i64 0] 31) = W3 := ⟨_, rfl⟩
 have f0 : W3.cell? ⟨w.heap.size, 0, none⟩ = some (.string s1) := by rw [← hW3]; simp [go_sem]
 have f1 : W3.cell? ⟨w.heap.size, 1, none⟩ = some (.int .i64 p1) := by rw [← hW3]; simp [go_sem]
 have f2 : W3.cell? ⟨w.heap.size + 1, 0, none⟩ = some (.string s2) := by rw [← hW3]; simp [go_sem]
 have f3 : W3.cell? ⟨w.heap.size + 1, 1, none⟩ = some (.int .i64 p2) := by rw [← hW3]; simp [go_sem]
 have f4 : W3.cell? ⟨w.heap.size + 2, 0, none⟩ = some (.string ⟨#[]⟩) := by rw [← hW3]; simp [go_sem]
 have f5 : W3.cell? ⟨w.heap.size + 2, 1, none⟩ = some (.int .i64 0) := by rw [← hW3]; simp [go_sem]
 have f6 : W3.frozen? ⟨w.heap.size + 2, 0, none⟩ = false := by rw [← hW3]; simp [go_sem]
 have f7 : W3.frozen? ⟨w.heap.size + 2, 1, none⟩ = false := by rw [← hW3]; simp [go_sem]
 have hsW : W3.heap.size = w.heap.size + 3 := by rw [← hW3]; simp [go_sem]
 have hbW : Below w.heap.size w W3 := by rw [← hW3]; go_grown
 go_enter Tryz.func33, Tryz.ntmps33
 go_wp2
 refine wp_region_above W3 (Below.refl _ _) (by kernel_rfl) (by kernel_rfl) ?_
 intro hCl
 have c0 : ∀ x : Cl W3, x.w.cell? ⟨w.heap.size, 0, none⟩ = some (.string s1) := fun x => x.cell f0
 have c1 : ∀ x : Cl W3, x.w.cell? ⟨w.heap.size, 1, none⟩ = some (.int .i64 p1) := fun x => x.cell f1
 have c2 : ∀ x : Cl W3, x.w.cell? ⟨w.heap.size + 1, 0, none⟩ = some (.string s2) := fun x => x.cell f2
 have c3 : ∀ x : Cl W3, x.w.cell? ⟨w.heap.size + 1, 1, none⟩ = some (.int .i64 p2) := fun x => x.cell f3
 repeat (go_big_quiet_step ((first | (go_at_call_of 52 s1; exact Cl.call (hLP1 _)) | (go_at_call_of 52 s2; exact Cl.call (hLP2 _)))))
 refine wpQuiet_nil ?_
 intro _ hw'
 obtain ⟨y, hx⟩ := hw'
 subst hx
 have k0 := c0 y
 have k1 := c1 y
 have k2 := c2 y
 have k3 := c3 y
 have k4 := y.cell f4
 have k5 := y.cell f5
 have k6 := keepf y.below (p := ⟨w.heap.size + 2, 0, none⟩) (by rw [hsW]; simp) f6
 have k7 := keepf y.below (p := ⟨w.heap.size + 2, 1, none⟩) (by rw [hsW]; simp) f7
 have hby : Below w.heap.size w y.w := bel_call hbW y.below (Nat.le_refl _)
 have hsy : w.heap.size + 3 ≤ y.w.heap.size := by have := y.below.size; omega
 clear c0 c1 c2 c3 hCl hLP1 hLP2 hmin
 generalize y.w = w1 at *
 clear y f0 f1 f2 f3 f4 f5 f6 f7 hW3 hbW hsW
 go_wp2
 go_region_with (first
  | (go_at_call_of 54 s1; refine (hU1 _).mono ?_; rintro e wA ⟨⟨aA, nA, cA, rfl, hnA, xs, hA, hvA⟩, hbA⟩; have a2 := keep hbA (p := ⟨w.heap.size + 1, 0, none⟩) k2; have a3 := keep hbA (p := ⟨w.heap.size + 1, 1, none⟩) k3)
  | (go_at_call_of 54 s2; refine (hU2 _).mono ?_; rintro e wB ⟨⟨aB, nB, cB, rfl, hnB, ys, hB, hvB⟩, hbB⟩)
  | (go_at_call 53; refine (sum_any _ _ _ _ _ _ _ _ xs ys _ (hA.below hbB) hB hnA hnB).mono ?_; rintro e wC ⟨⟨aC, nC, cC, rfl, hnC, zs, hC, hvC⟩, hbC⟩)
  | (go_at_call 38; refine (whole_any _ _ _ _ zs last _ hC (by omega) hm0 hm3).mono ?_; rintro e wD ⟨rfl, hbD⟩; obtain ⟨q0, q2⟩ := keepg hbD (keepg hbC (keepg hbB (keepg hbA (p := ⟨w.heap.size + 2, 0, none⟩) ⟨k4, k6⟩))); obtain ⟨q1, q3⟩ := keepg hbD (keepg hbC (keepg hbB (keepg hbA (p := ⟨w.heap.size + 2, 1, none⟩) ⟨k5, k7⟩)))))
 all_goals go_wp2
 all_goals refine bodyPost_ret (by simp [results, Tryz.results33, go_sem, put0 q0, put1 q1]; rfl) rfl ?_
 all_goals
  rw [HV.out]
  refine ⟨rfl, ?_⟩
  have h0 : Below w.heap.size w w1.drew := hby.drew
  have h0 := bel_call h0 hbA (Nat.le_refl _)
  have h0 := bel_call h0 hbB (Nat.le_refl _)
  have h0 := bel_call h0 hbC (Nat.le_refl _)
  have h0 := bel_call h0 hbD (Nat.le_refl _)
  exact (h0.setCell (by dsimp only; omega) _).setCell (by dsimp only; omega) _
end Go.Proofs.YtiagjheifblkiaaGreatDoor
namespace Go.Proofs.YtiagjheifblkiaaGreatDoor
open Go.RowKit
structure Nrm (v : Nat) : Prop where
 len : (oL v).length ≤ 2000
 pt : oP v ≤ 5000
 low : -7000 ≤ oP v - (oL v).length
theorem nrm_zero : Nrm 0 := ⟨by rw [o_zero.1]; simp, by rw [o_zero.2]; decide, by rw [o_zero.1, o_zero.2]; simp⟩
theorem nrm_norm (s : ByteArray) (p : Int) : Nrm (normV s p) := by
 unfold normV
 split
 ·rename_i h
  obtain ⟨h1, h2, h3, h4⟩ := normE_zero h
  obtain ⟨f1, f2⟩ := form_o s.data.toList p h2 (by rw [list_len]; omega)
  have l1 := ltr_len s.data.toList
  have l2 := rtr_len (ltr s.data.toList)
  rw [list_len] at l1 f2
  rw [f1] at l2 f2
  refine ⟨by omega, ?_, ?_⟩
  ·by_cases he : oL (V s.data.toList p) = []
   ·rw [if_pos he] at f2; omega
   ·rw [if_neg he] at f2; omega
  ·by_cases he : oL (V s.data.toList p) = []
   ·rw [if_pos he] at f2; rw [← f2, he]; simp
   ·rw [if_neg he] at f2; omega
 ·exact nrm_zero
theorem o_val (v : Nat) : V (oL v) (oP v) = v := (o_dec v).val
theorem o_low (v : Nat) : -10000 ≤ oP v - (oL v).length := (o_dec v).low
theorem o_dig (v : Nat) : allD (oS v).data.toList = true := (o_dec v).dig
def rnd (v : Nat) (n : Int) : Nat := if n < 0 then 0 else if ((oL v).length : Int) ≤ n then v else near v (oP v - n + 10000).toNat
def plc (v : Nat) (k : Int) : Nat := rnd v (oP v + min (max k (-14000)) 14000)
def exU (m : Nat) (e : Int) : Nat := if 0 ≤ e then m * 2 ^ e.toNat * 10 ^ ((0 : Int) + 10000).toNat else m * 5 ^ (-e).toNat * 10 ^ (e + 10000).toNat
def aE (e : Int) (n : Nat) : Int := if e = 0 then (if 2000 < (oL n).length then 2 else 0) else e
def aV (e : Int) (n : Nat) : Nat := if aE e n = 0 then n else 0
end Go.Proofs.YtiagjheifblkiaaGreatDoor
namespace Go.Proofs.YtiagjheifblkiaaGreatDoor
open Go.RowKit
set_option linter.unusedVariables false
def PlusC (S1 : ByteArray) (P1 : Int) (S2 : ByteArray) (P2 : Int) (S : ByteArray) (P : Int) : Prop := ∀ w, Calls Tryz.prog 33 #[.agg #[.string S1, .int .i64 P1], .agg #[.string S2, .int .i64 P2]] w fun e w' => e = .returned (.agg #[.string S, .int .i64 P]) ∧ Below w.heap.size w w'
theorem plusC {v u : Nat} (h1 : (oL v).length ≤ 16000) (h2 : (oL u).length ≤ 16000) (h3 : oP v ≤ 6000) (h4 : oP u ≤ 6000) : PlusC (oS v) (oP v) (oS u) (oP u) (oS (v + u)) (oP (v + u)) := fun w => by
 have k1 := o_low v
 have k2 := o_low u
 have z1 := oS_size v
 have z2 := oS_size u
 have := plus_any (oS v) (oS u) (oP v) (oP u) w (o_dig v) (o_dig u) (by omega) (by omega) (by omega) (by omega) h3 h4
 have e1 : V (oS v).data.toList (oP v) = v := o_val v
 have e2 : V (oS u).data.toList (oP u) = u := o_val u
 rw [e1, e2] at this
 exact this
set_option maxRecDepth 1000000 in
set_option maxHeartbeats 800000 in
theorem add_err {s1 s2 S1 S2 : ByteArray} {p1 p2 P1 P2 E : Int} (hB : BothC s1 p1 s2 p2 S1 P1 S2 P2 E) (hE : ¬ E = 0) (w : World) :
  Calls Tryz.prog 15 #[.agg #[.string s1, .int .i64 p1], .agg #[.string s2, .int .i64 p2]] w fun e w' => e = .returned (.tuple #[.agg #[.string ⟨#[]⟩, .int .i64 0], .int .i64 E]) ∧ Below w.heap.size w w' := by
 have hEb : (E != 0) = true := by simp [hE]
 go_enter Tryz.func15, Tryz.ntmps15
 go_wp2_with (go_at_call 32; refine (hB _).mono ?_; rintro e w2 ⟨rfl, hb2⟩; have bA := keepb hb2 (B := w.heap.size) (x := .string s1) (y := .int .i64 p1) (by simp [BoxDe, go_sem]); have bB := keepb hb2 (B := w.heap.size + 1) (x := .string s2) (y := .int .i64 p2) (by simp [BoxDe, go_sem]); obtain ⟨r0, r1, r2, r3⟩ := keepb hb2 (B := w.heap.size + 2) (x := .string ⟨#[]⟩) (y := .int .i64 0) (by simp [BoxDe, go_sem]); obtain ⟨a0, a1, a2, a3⟩ := id bA; obtain ⟨b0, b1, b2, b3⟩ := id bB)
 refine bodyPost_ret (by simp [results, Tryz.results15, go_sem, cs_same, r0, r1]; rfl) rfl ?_
 refine ⟨rfl, ?_⟩
 have h0 := bel_call (B := w.heap.size) (w := w) (by go_grown) hb2 (Nat.le_refl _)
 iterate 6 (refine Below.setCell ?_ (by dsimp only; omega) _)
 exact h0
set_option maxRecDepth 1000000 in
set_option maxHeartbeats 1600000 in
theorem add_ok {s1 s2 S1 S2 S : ByteArray} {p1 p2 P1 P2 P : Int} (hB : BothC s1 p1 s2 p2 S1 P1 S2 P2 0) (hP : PlusC S1 P1 S2 P2 S P) (hS : S.size ≤ 2000) (w : World) :
  Calls Tryz.prog 15 #[.agg #[.string s1, .int .i64 p1], .agg #[.string s2, .int .i64 p2]] w fun e w' => e = .returned (.tuple #[.agg #[.string S, .int .i64 P], .int .i64 0]) ∧ Below w.heap.size w w' := by
 have hSI : ¬ 2000 < (S.size : Int) := by omega
 go_enter Tryz.func15, Tryz.ntmps15
 go_wp2_with (first
  | (go_at_call 32; refine (hB _).mono ?_; rintro e w2 ⟨rfl, hb2⟩; have bA := keepb hb2 (B := w.heap.size) (x := .string s1) (y := .int .i64 p1) (by simp [BoxDe, go_sem]); have bB := keepb hb2 (B := w.heap.size + 1) (x := .string s2) (y := .int .i64 p2) (by simp [BoxDe, go_sem]); have bR := keepb hb2 (B := w.heap.size + 2) (x := .string ⟨#[]⟩) (y := .int .i64 0) (by simp [BoxDe, go_sem]); obtain ⟨a0, a1, a2, a3⟩ := id bA; obtain ⟨b0, b1, b2, b3⟩ := id bB; obtain ⟨y0, y1⟩ := bA.reads; obtain ⟨z0, z1⟩ := (bB.past (C := w.heap.size) (by omega) (.string S1) (.int .i64 P1)).reads)
  | (go_at_call 33; refine (hP _).mono ?_; rintro e w3 ⟨rfl, hb3⟩; have bR' := keepb hb3 ((bR.past (C := w.heap.size) (by omega) (.string S1) (.int .i64 P1)).past (C := w.heap.size + 1) (by omega) (.string S2) (.int .i64 P2)); have hsz : w.heap.size + 2 < w3.heap.size := World.block_lt_of_cell? w3 _ bR'.1; have hne : ¬ w3.heap.size = w.heap.size + 2 := (by omega); have hne2 : ¬ w.heap.size + 2 = w3.heap.size := (by omega); obtain ⟨r0, r1, r2, r3⟩ := id bR'))
 refine bodyPost_ret (by simp [results, Tryz.results15, go_sem, cs_same, r0, r1, hsz]; rfl) rfl ?_
 refine ⟨rfl, ?_⟩
 have h0 := bel_call (B := w.heap.size) (w := w) (by go_grown) hb2 (Nat.le_refl _)
 have h1 := (h0.setCell (p := ⟨w.heap.size, 0, none⟩) (Nat.le_refl _) (.string S1)).setCell (p := ⟨w.heap.size, 1, none⟩) (Nat.le_refl _) (.int .i64 P1)
 have h2 := (h1.setCell (p := ⟨w.heap.size + 1, 0, none⟩) (Nat.le_succ _) (.string S2)).setCell (p := ⟨w.heap.size + 1, 1, none⟩) (Nat.le_succ _) (.int .i64 P2)
 have h3 := bel_call h2 hb3 (Nat.le_refl _)
 refine Below.alloc ?_ (by simp; omega) _
 iterate 2 (refine Below.setCell ?_ (by dsimp only; omega) _)
 exact h3
set_option maxRecDepth 1000000 in
set_option maxHeartbeats 1600000 in
theorem add_big {s1 s2 S1 S2 S : ByteArray} {p1 p2 P1 P2 P : Int} (hB : BothC s1 p1 s2 p2 S1 P1 S2 P2 0) (hP : PlusC S1 P1 S2 P2 S P) (hS : 2000 < S.size) (w : World) :
  Calls Tryz.prog 15 #[.agg #[.string s1, .int .i64 p1], .agg #[.string s2, .int .i64 p2]] w fun e w' => e = .returned (.tuple #[.agg #[.string ⟨#[]⟩, .int .i64 0], .int .i64 2]) ∧ Below w.heap.size w w' := by
 have hSI : 2000 < (S.size : Int) := by omega
 go_enter Tryz.func15, Tryz.ntmps15
 go_wp2_with (first
  | (go_at_call 32; refine (hB _).mono ?_; rintro e w2 ⟨rfl, hb2⟩; have bA := keepb hb2 (B := w.heap.size) (x := .string s1) (y := .int .i64 p1) (by simp [BoxDe, go_sem]); have bB := keepb hb2 (B := w.heap.size + 1) (x := .string s2) (y := .int .i64 p2) (by simp [BoxDe, go_sem]); have bR := keepb hb2 (B := w.heap.size + 2) (x := .string ⟨#[]⟩) (y := .int .i64 0) (by simp [BoxDe, go_sem]); obtain ⟨a0, a1, a2, a3⟩ := id bA; obtain ⟨b0, b1, b2, b3⟩ := id bB; obtain ⟨y0, y1⟩ := bA.reads; obtain ⟨z0, z1⟩ := (bB.past (C := w.heap.size) (by omega) (.string S1) (.int .i64 P1)).reads)
  | (go_at_call 33; refine (hP _).mono ?_; rintro e w3 ⟨rfl, hb3⟩; have bR' := keepb hb3 ((bR.past (C := w.heap.size) (by omega) (.string S1) (.int .i64 P1)).past (C := w.heap.size + 1) (by omega) (.string S2) (.int .i64 P2)); have hsz : w.heap.size + 2 < w3.heap.size := World.block_lt_of_cell? w3 _ bR'.1; have hne : ¬ w3.heap.size = w.heap.size + 2 := (by omega); have hne2 : ¬ w.heap.size + 2 = w3.heap.size := (by omega); obtain ⟨r0, r1, r2, r3⟩ := id bR'))
 refine bodyPost_ret (by simp [results, Tryz.results15, go_sem, cs_same, r0, r1, hsz]; rfl) rfl ?_
 refine ⟨rfl, ?_⟩
 have h0 := bel_call (B := w.heap.size) (w := w) (by go_grown) hb2 (Nat.le_refl _)
 have h1 := (h0.setCell (p := ⟨w.heap.size, 0, none⟩) (Nat.le_refl _) (.string S1)).setCell (p := ⟨w.heap.size, 1, none⟩) (Nat.le_refl _) (.int .i64 P1)
 have h2 := (h1.setCell (p := ⟨w.heap.size + 1, 0, none⟩) (Nat.le_succ _) (.string S2)).setCell (p := ⟨w.heap.size + 1, 1, none⟩) (Nat.le_succ _) (.int .i64 P2)
 have h3 := bel_call h2 hb3 (Nat.le_refl _)
 refine Below.alloc ?_ (by simp; omega) _
 iterate 2 (refine Below.setCell ?_ (by dsimp only; omega) _)
 exact h3
theorem add_any (s1 s2 : ByteArray) (p1 p2 : Int) (w : World) (hs1 : s1.size ≤ 9223372036854775807) (hs2 : s2.size ≤ 9223372036854775807) :
  Calls Tryz.prog 15 #[.agg #[.string s1, .int .i64 p1], .agg #[.string s2, .int .i64 p2]] w fun e w' => e = .returned (.tuple #[.agg #[.string (oS (aV (bE (normE s1 p1) (normE s2 p2)) (normV s1 p1 + normV s2 p2))), .int .i64 (oP (aV (bE (normE s1 p1) (normE s2 p2)) (normV s1 p1 + normV s2 p2)))], .int .i64 (aE (bE (normE s1 p1) (normE s2 p2)) (normV s1 p1 + normV s2 p2))]) ∧ Below w.heap.size w w' := by
 have hB := bothC s1 s2 p1 p2 hs1 hs2
 have n1 := nrm_norm s1 p1
 have n2 := nrm_norm s2 p2
 have hP := plusC (v := normV s1 p1) (u := normV s2 p2) (by have := n1.len; omega) (by have := n2.len; omega) (by have := n1.pt; omega) (by have := n2.pt; omega)
 have hz := oS_size (normV s1 p1 + normV s2 p2)
 by_cases hE : bE (normE s1 p1) (normE s2 p2) = 0
 ·rw [hE] at hB ⊢
  simp only [bV, if_true] at hB
  by_cases hl : 2000 < (oL (normV s1 p1 + normV s2 p2)).length
  ·have e1 : aE 0 (normV s1 p1 + normV s2 p2) = 2 := by unfold aE; rw [if_pos rfl, if_pos hl]
   have e2 : aV 0 (normV s1 p1 + normV s2 p2) = 0 := by unfold aV; rw [e1]; rfl
   rw [e1, e2, zero_S, o_zero.2]
   exact add_big hB hP (by omega) w
  ·have e1 : aE 0 (normV s1 p1 + normV s2 p2) = 0 := by unfold aE; rw [if_pos rfl, if_neg hl]
   have e2 : aV 0 (normV s1 p1 + normV s2 p2) = normV s1 p1 + normV s2 p2 := by unfold aV; rw [e1]; rfl
   rw [e1, e2]
   exact add_ok hB hP (by omega) w
 ·have e1 : aE (bE (normE s1 p1) (normE s2 p2)) (normV s1 p1 + normV s2 p2) = bE (normE s1 p1) (normE s2 p2) := by unfold aE; rw [if_neg hE]
  have e2 : aV (bE (normE s1 p1) (normE s2 p2)) (normV s1 p1 + normV s2 p2) = 0 := by unfold aV; rw [e1, if_neg hE]
  rw [e1, e2, zero_S, o_zero.2]
  exact add_err hB hE w
end Go.Proofs.YtiagjheifblkiaaGreatDoor
namespace Go.Proofs.YtiagjheifblkiaaGreatDoor
open Go.RowKit
set_option linter.unusedVariables false
theorem getL (s : ByteArray) (i : Nat) (h : i < s.size) : s.data.toList.getD i 0 = s[i]'h := by
 have hl : i < s.data.toList.length := by rw [list_len]; exact h
 rw [List.getD_eq_getElem?_getD, List.getElem?_eq_getElem hl, Option.getD_some]; rfl
set_option maxRecDepth 1000000 in
set_option maxHeartbeats 800000 in
theorem roundsup_any (s : ByteArray) (n : Nat) (w : World) (hdB : allD s.data.toList = true) (hn : n < s.size) (hs : s.size ≤ 1000000) :
  Calls Tryz.prog 49 #[.string s, .int .i64 n] w fun e w' => e = .returned (.bool (ups s.data.toList n)) ∧ w' = w := by
 obtain ⟨x0, x1⟩ := allD_at s hdB n hn
 have HU : Hid (ups s.data.toList n = if (s[n]'hn).toNat ≠ 53 then decide (53 < (s[n]'hn).toNat) else if n + 1 < s.size then true else decide (0 < n) && decide (dgD (s.data.toList.getD (n - 1) 0) % 2 = 1)) := by
  show _ = _
  have hiff : (s[n]'hn = 53) = ((s[n]'hn).toNat = 53) := propext ⟨fun e => by rw [e]; rfl, fun e => UInt8.toNat_inj.1 (by rw [e]; rfl)⟩
  unfold ups
  rw [getL s n hn, list_len]
  simp only [ne_eq, hiff]
 have hnI : (n : Int) < s.size := by omega
 by_cases h5 : (s[n]'hn).toNat = 53
 ·have h5I : ((s[n]'hn).toNat : Int) = 53 := by omega
  have h5b : (((s[n]'hn).toNat : Int) != 53) = false := by simp [h5]
  by_cases h6 : n + 1 < s.size
  ·have h6I : (n : Int) + 1 < s.size := by omega
   have HF : Hid (ups s.data.toList n = true) := by show _ = _; rw [HU.out, if_neg (by simp [h5]), if_pos h6]
   clear HU
   go_enter Tryz.func49, Tryz.ntmps49
   go_wp2
   go_ret
   rw [HF.out]
   exact ⟨rfl, rfl⟩
  ·have h6I : ¬ (n : Int) + 1 < s.size := by omega
   rcases Nat.eq_zero_or_pos n with h0 | h0
   ·subst h0
    have HF : Hid (ups s.data.toList 0 = false) := by show _ = _; rw [HU.out, if_neg (by simp [h5]), if_neg h6]; rfl
    clear HU
    go_enter Tryz.func49, Tryz.ntmps49
    go_wp2
    go_ret
    rw [HF.out]
    exact ⟨rfl, rfl⟩
   ·obtain ⟨j, rfl⟩ : ∃ j, n = j + 1 := ⟨n - 1, by omega⟩
    have hj : j < s.size := by omega
    obtain ⟨y0, y1⟩ := allD_at s hdB j hj
    have HF : Hid (ups s.data.toList (j + 1) = decide (((s[j]'hj).toNat - 48) % 2 = 1)) := by
     show _ = _
     rw [HU.out, if_neg (by simp [h5]), if_neg h6, Nat.add_sub_cancel, getL s j hj, decide_eq_true (Nat.succ_pos j), Bool.true_and]
     rfl
    clear HU hdB
    have hjI : (j : Int) < s.size := by omega
    obtain ⟨y, hy⟩ : ∃ y, (s[j]'hj).toNat = y := ⟨_, rfl⟩
    rw [hy] at HF y0 y1
    obtain ⟨z, hz⟩ : ∃ z : Nat, (y : Int) - 48 = (z : Int) := ⟨y - 48, by omega⟩
    have hz2 : y - 48 = z := by omega
    rw [hz2] at HF
    clear hz2
    by_cases hp : z % 2 = 1
    ·have hp1 : (z : Int) % 2 = 1 := by omega
     go_enter Tryz.func49, Tryz.ntmps49
     go_wp2
     go_ret
     rw [HF.out]
     refine ⟨?_, rfl⟩
     simp [hp]
    ·have hp1 : (z : Int) % 2 = 0 := by omega
     go_enter Tryz.func49, Tryz.ntmps49
     go_wp2
     go_ret
     rw [HF.out]
     refine ⟨?_, rfl⟩
     simp [hp]
 ·have h5b : (((s[n]'hn).toNat : Int) != 53) = true := by simp; omega
  have HF : Hid (ups s.data.toList n = decide (53 < (s[n]'hn).toNat)) := by show _ = _; rw [HU.out, if_pos h5]
  have h5I : ¬ ((s[n]'hn).toNat : Int) = 53 := by omega
  clear HU hdB
  by_cases h6 : 53 < (s[n]'hn).toNat
  ·have h6I : 53 < ((s[n]'hn).toNat : Int) := by omega
   go_enter Tryz.func49, Tryz.ntmps49
   go_wp2
   go_ret
   rw [HF.out]
   refine ⟨?_, rfl⟩
   simp [h6]
  ·have h6I : ¬ 53 < ((s[n]'hn).toNat : Int) := by omega
   go_enter Tryz.func49, Tryz.ntmps49
   go_wp2
   go_ret
   rw [HF.out]
   refine ⟨?_, rfl⟩
   simp [h6]
theorem one_V (p : Int) (P : Nat) (h : p + 10000 = (P : Int) + 1) : V (⟨#[49]⟩ : ByteArray).data.toList p = 10 ^ P := by
 show num [49] * 10 ^ (p - ((1 : Nat) : Int) + 10000).toNat = 10 ^ P
 rw [show (p - ((1 : Nat) : Int) + 10000).toNat = P by omega, show num [49] = 1 from rfl, Nat.one_mul]
set_option maxRecDepth 1000000 in
set_option maxHeartbeats 800000 in
theorem rounded_any (v : Nat) (n : Int) (w : World) (hl : (oL v).length ≤ 16000) (hp : oP v ≤ 5900) :
  Calls Tryz.prog 23 #[.agg #[.string (oS v), .int .i64 (oP v)], .int .i64 n] w fun e w' => e = .returned (.agg #[.string (oS (rnd v n)), .int .i64 (oP (rnd v n))]) ∧ Below w.heap.size w w' := by
 have hz := oS_size v
 have hlow := o_low v
 by_cases h1 : n < 0
 ·have HR : Hid (rnd v n = 0) := if_pos h1
  generalize oS v = S at *
  generalize oP v = P at *
  go_enter Tryz.func23, Tryz.ntmps23
  go_wp2
  go_returns
  rw [HR.out, zero_S, o_zero.2]
  exact ⟨rfl, by go_grown⟩
 by_cases h2 : ((oL v).length : Int) ≤ n
 ·have HR : Hid (rnd v n = v) := by show _ = _; unfold rnd; rw [if_neg h1, if_pos h2]
  rw [← hz] at h2
  rw [HR.out]
  generalize oS v = S at *
  generalize oP v = P at *
  go_enter Tryz.func23, Tryz.ntmps23
  go_wp2
  go_returns
  exact ⟨rfl, by go_grown⟩
 obtain ⟨k, rfl⟩ : ∃ k : Nat, n = (k : Int) := ⟨n.toNat, by omega⟩
 have hk : k < (oL v).length := by omega
 obtain ⟨Q, hQ⟩ : ∃ Q : Nat, oP v - k + 10000 = (Q : Int) := ⟨(oP v - k + 10000).toNat, by omega⟩
 have hrnd : rnd v k = near v Q := by
  unfold rnd; rw [if_neg h1, if_neg h2, hQ]; rfl
 have hnear := ups_near (o_dec v) k hk Q hQ
 have htk := take_V (o_dec v) k (by omega) Q hQ
 have hTl : ((oS v).extract 0 k).data.toList = (oL v).take k := ext_list (oS v) k
 have hTd : allD ((oS v).extract 0 k).data.toList = true := by
  rw [hTl]; exact allD_of fun x hx => allD_mem (o_dec v).dig (List.mem_of_mem_take hx)
 have hTs : ((oS v).extract 0 k).size = k := ext_size0 (oS v) k (by omega)
 have hU : ∀ w, Calls Tryz.prog 49 #[.string (oS v), .int .i64 k] w fun e w' => e = .returned (.bool (ups (oL v) k)) ∧ w' = w := fun w => roundsup_any (oS v) k w (o_dig v) (by omega) (by omega)
 have hI : ∀ w, Calls Tryz.prog 44 #[.agg #[.string ((oS v).extract 0 k), .int .i64 (oP v)]] w fun e w' => e = .returned (.agg #[.string (oS (v / 10 ^ Q * 10 ^ Q)), .int .i64 (oP (v / 10 ^ Q * 10 ^ Q))]) ∧ Below w.heap.size w w' := fun w => by
  have := inform_any ((oS v).extract 0 k) (oP v) w hTd (by omega) (by omega) (by omega)
  rw [hTl, htk] at this
  exact this
 have hP : PlusC ((oS v).extract 0 k) (oP v) ⟨#[49]⟩ (oP v - k + 1) (oS (v / 10 ^ Q * 10 ^ Q + 10 ^ Q)) (oP (v / 10 ^ Q * 10 ^ Q + 10 ^ Q)) := fun w => by
  have := plus_any ((oS v).extract 0 k) ⟨#[49]⟩ (oP v) (oP v - k + 1) w hTd rfl (by omega) (by decide) (by omega) (by show -10000 ≤ oP v - k + 1 - ((1 : Nat) : Int); omega) (by omega) (by omega)
  rw [hTl, htk, one_V (oP v - k + 1) Q (by omega)] at this
  exact this
 have hkI : ¬ (oS v).size ≤ k := by omega
 have hk0 : k < (oS v).size := by omega
 have hkl : k ≤ 16000 := by omega
 have hp1 : -16000 ≤ oP v := by omega
 have h2' : ¬ ((oS v).size : Int) ≤ (k : Int) := by omega
 rw [hrnd, hnear]
 clear hrnd hnear htk hTl hTd hTs hQ hlow hz h2 h1 hk hl
 cases hu : ups (oL v) k with
 | false =>
   rw [hu] at hU
   clear hu hP
   rw [if_neg (by simp)]
   generalize v / 10 ^ Q * 10 ^ Q = r at *
   generalize hT : (oS v).extract 0 k = T at *
   generalize oS v = S at *
   generalize oP v = P at *
   generalize oS r = S2 at *
   generalize oP r = P2 at *
   go_enter Tryz.func23, Tryz.ntmps23
   go_wp2
   go_region
   go_wp2_with (first | (go_at_call 49; refine (hU _).mono ?_; rintro e w4 ⟨rfl, rfl⟩) | (go_at_call 44; refine (hI _).mono ?_; rintro e w5 ⟨rfl, hb5⟩; obtain ⟨r0, r1, r2, r3⟩ := keepb hb5 (B := w.heap.size + 1) (x := .string ⟨#[]⟩) (y := .int .i64 0) (by simp [BoxDe, go_sem])))
   refine bodyPost_ret (by simp [results, Tryz.results23, go_sem, cs_same, r0, r1]; rfl) rfl ?_
   refine ⟨rfl, ?_⟩
   have h0 := bel_call (B := w.heap.size) (w := w) (by go_grown) hb5 (Nat.le_refl _)
   iterate 2 (refine Below.setCell ?_ (by dsimp only; omega) _)
   exact h0
 | true =>
   rw [hu] at hU
   clear hu hI
   rw [if_pos rfl]
   generalize v / 10 ^ Q * 10 ^ Q + 10 ^ Q = r at *
   generalize hT : (oS v).extract 0 k = T at *
   generalize oS v = S at *
   generalize oP v = P at *
   generalize oS r = S2 at *
   generalize oP r = P2 at *
   go_enter Tryz.func23, Tryz.ntmps23
   go_wp2
   go_region
   go_wp2_with (first | (go_at_call 49; refine (hU _).mono ?_; rintro e w4 ⟨rfl, rfl⟩) | (go_at_call 33; refine (hP _).mono ?_; rintro e w5 ⟨rfl, hb5⟩; obtain ⟨r0, r1, r2, r3⟩ := keepb hb5 (B := w.heap.size + 1) (x := .string ⟨#[]⟩) (y := .int .i64 0) (by simp [BoxDe, go_sem])))
   refine bodyPost_ret (by simp [results, Tryz.results23, go_sem, cs_same, r0, r1]; rfl) rfl ?_
   refine ⟨rfl, ?_⟩
   have h0 := bel_call (B := w.heap.size) (w := w) (by go_grown) hb5 (Nat.le_refl _)
   iterate 2 (refine Below.setCell ?_ (by dsimp only; omega) _)
   exact h0
end Go.Proofs.YtiagjheifblkiaaGreatDoor
