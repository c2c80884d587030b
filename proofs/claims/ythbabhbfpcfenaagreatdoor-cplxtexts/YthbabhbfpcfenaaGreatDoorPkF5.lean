/- BPlus: these texts in one. -/
import Derived.Test.YthbabhbfpcfenaaGreatDoorPkF4
/- The walk of plus: the sum of two decimals, in form. -/
namespace Go.Proofs.YthbabhbfpcfenaaGreatDoor
open Go.RowKit
set_option linter.unusedVariables false

theorem sum_any (Ba Bb na nb ca cb : Nat) (a b : Option Addr) (xs ys : List Nat) (w : World) (ha : Lm w Ba a na ca xs) (hb : Lm w Bb b nb cb ys) (hna : na ≤ 5000) (hnb : nb ≤ 5000) :
    Calls Tryz.prog 162 #[.slice a na ca, .slice b nb cb] w fun e w' => (∃ ao n c, e = .returned (.slice ao n c) ∧ n ≤ 5001 ∧ ∃ zs, Lm w' w.heap.size ao n c zs ∧ lv zs = lv xs + lv ys) ∧ Below w.heap.size w w' := by
  rcases Nat.lt_or_ge na nb with h | h
  · refine (sum_lt Bb Ba nb na cb ca b a ys xs w hb ha (by omega) h).mono ?_
    rintro e w' ⟨⟨ao, n, c, he, hn, zs, hz, hv⟩, hbl⟩
    exact ⟨⟨ao, n, c, he, by omega, zs, hz, by omega⟩, hbl⟩
  · refine (sum_ge Ba Bb na nb ca cb a b xs ys w ha hb (by omega) h).mono ?_
    rintro e w' ⟨⟨ao, n, c, he, hn, zs, hz, hv⟩, hbl⟩
    exact ⟨⟨ao, n, c, he, by omega, zs, hz, hv⟩, hbl⟩
theorem plus_val {n1 n2 z1 z2 L : Nat} {l1 l2 last : Int} (h1 : l1 - last = z1) (h2 : l2 - last = z2) (hL : last + 10000 = L) : (n1 * 10 ^ z1 + n2 * 10 ^ z2) * 10 ^ L = n1 * 10 ^ (l1 + 10000).toNat + n2 * 10 ^ (l2 + 10000).toNat := by
  rw [Nat.add_mul, Nat.mul_assoc, Nat.mul_assoc, ← Nat.pow_add, ← Nat.pow_add, show (l1 + 10000).toNat = z1 + L by omega, show (l2 + 10000).toNat = z2 + L by omega]
theorem keepg {W w2 : World} (hb : Below W.heap.size W w2) {p : Addr} {v : Value} (h : W.cell? p = some v ∧ W.frozen? p = false) : w2.cell? p = some v ∧ w2.frozen? p = false := by
  refine ⟨keep hb h.1, ?_⟩
  have hp : p.block < W.heap.size := by
    rcases Nat.lt_or_ge p.block W.heap.size with h1 | h1
    · exact h1
    · have := h.1; simp [World.cell?, Array.getElem?_eq_none h1] at this
  exact (hb.frozen hp).trans h.2
/-- What limbsUpTo leaves, with what a caller wants. -/
def UpTo (s : ByteArray) (p last : Int) (w : World) (N : Nat) : Prop := Calls Tryz.prog 163 #[.agg #[.string s, .int .i64 p], .int .i64 last] w fun e w' => (∃ ao n c, e = .returned (.slice ao n c) ∧ n ≤ 5000 ∧ ∃ xs, Lm w' w.heap.size ao n c xs ∧ lv xs = N) ∧ Below w.heap.size w w'
set_option maxRecDepth 1000000 in
set_option maxHeartbeats 1600000 in
theorem plus_any (s1 s2 : ByteArray) (p1 p2 : Int) (w : World) (hd1 : allD s1.data.toList = true) (hd2 : allD s2.data.toList = true) (hs1 : s1.size ≤ 16000) (hs2 : s2.size ≤ 16000) (hl1 : -10000 ≤ p1 - s1.size) (hl2 : -10000 ≤ p2 - s2.size) (hp1 : p1 ≤ 6000) (hp2 : p2 ≤ 6000) :
    Calls Tryz.prog 137 #[.agg #[.string s1, .int .i64 p1], .agg #[.string s2, .int .i64 p2]] w fun e w' => e = .returned (.agg #[.string (oS (V s1.data.toList p1 + V s2.data.toList p2)), .int .i64 (oP (V s1.data.toList p1 + V s2.data.toList p2))]) ∧ Below w.heap.size w w' := by
  obtain ⟨last, hmin⟩ : ∃ last : Int, min (p1 - s1.size) (p2 - s2.size) = last := ⟨_, rfl⟩
  have hm1 : last ≤ p1 - s1.size := by omega
  have hm2 : last ≤ p2 - s2.size := by omega
  have hm0 : -10000 ≤ last := by omega
  have hm3 : last ≤ 6000 := by omega
  have hLP1 : ∀ w, Calls Tryz.prog 161 #[.agg #[.string s1, .int .i64 p1]] w fun e w' => e = .returned (.int .i64 (p1 - s1.size)) ∧ Below w.heap.size w w' := fun w => lastplace_any s1 p1 w (by omega) (by omega) (by omega)
  have hLP2 : ∀ w, Calls Tryz.prog 161 #[.agg #[.string s2, .int .i64 p2]] w fun e w' => e = .returned (.int .i64 (p2 - s2.size)) ∧ Below w.heap.size w w' := fun w => lastplace_any s2 p2 w (by omega) (by omega) (by omega)
  have hU1 : ∀ w, UpTo s1 p1 last w (num s1.data.toList * 10 ^ (p1 - s1.size - last).toNat) := fun w => by
    refine (limbsupto_any s1 p1 last w hd1 (by omega) (by omega) (by omega) (by omega) (by omega)).mono ?_
    rintro e w' ⟨⟨ao, n, c, he, hn, xs, hx, hv⟩, hbl⟩
    exact ⟨⟨ao, n, c, he, by omega, xs, hx, hv⟩, hbl⟩
  have hU2 : ∀ w, UpTo s2 p2 last w (num s2.data.toList * 10 ^ (p2 - s2.size - last).toNat) := fun w => by
    refine (limbsupto_any s2 p2 last w hd2 (by omega) (by omega) (by omega) (by omega) (by omega)).mono ?_
    rintro e w' ⟨⟨ao, n, c, he, hn, xs, hx, hv⟩, hbl⟩
    exact ⟨⟨ao, n, c, he, by omega, xs, hx, hv⟩, hbl⟩
  have HV : Hid ((num s1.data.toList * 10 ^ (p1 - s1.size - last).toNat + num s2.data.toList * 10 ^ (p2 - s2.size - last).toNat) * 10 ^ (last + 10000).toNat = V s1.data.toList p1 + V s2.data.toList p2) := by
    unfold V
    rw [list_len, list_len]
    exact plus_val (last := last) (l1 := p1 - s1.size) (l2 := p2 - s2.size) (L := (last + 10000).toNat) (by omega) (by omega) (by omega)
  generalize num s1.data.toList * 10 ^ (p1 - s1.size - last).toNat = N1 at *
  generalize num s2.data.toList * 10 ^ (p2 - s2.size - last).toNat = N2 at *
  generalize V s1.data.toList p1 + V s2.data.toList p2 = v at *
  clear hd1 hd2
  obtain ⟨W3, hW3⟩ : ∃ W3, ((w.alloc (.cells #[.string s1, .int .i64 p1] 91)).alloc (.cells #[.string s2, .int .i64 p2] 91)).alloc (.cells #[.string ⟨#[]⟩, .int .i64 0] 91) = W3 := ⟨_, rfl⟩
  have f0 : W3.cell? ⟨w.heap.size, 0, none⟩ = some (.string s1) := by rw [← hW3]; simp [go_sem]
  have f1 : W3.cell? ⟨w.heap.size, 1, none⟩ = some (.int .i64 p1) := by rw [← hW3]; simp [go_sem]
  have f2 : W3.cell? ⟨w.heap.size + 1, 0, none⟩ = some (.string s2) := by rw [← hW3]; simp [go_sem]
  have f3 : W3.cell? ⟨w.heap.size + 1, 1, none⟩ = some (.int .i64 p2) := by rw [← hW3]; simp [go_sem]
  have f4 : W3.cell? ⟨w.heap.size + 2, 0, none⟩ = some (.string ⟨#[]⟩) := by rw [← hW3]; simp [go_sem]
  have f5 : W3.cell? ⟨w.heap.size + 2, 1, none⟩ = some (.int .i64 0) := by rw [← hW3]; simp [go_sem]
  have f6 : W3.frozen? ⟨w.heap.size + 2, 0, none⟩ = false := by rw [← hW3]; simp [go_sem]
  have f7 : W3.frozen? ⟨w.heap.size + 2, 1, none⟩ = false := by rw [← hW3]; simp [go_sem]
  have hsW : W3.heap.size = w.heap.size + 3 := by rw [← hW3]; simp [go_sem]
  have hbW : Below w.heap.size w W3 := by rw [← hW3]; go_grown
  go_enter Tryz.func137, Tryz.ntmps137
  go_wp2
  refine wp_region_above W3 (Below.refl _ _) (by kernel_rfl) (by kernel_rfl) ?_
  intro hCl
  have c0 : ∀ x : Cl W3, x.w.cell? ⟨w.heap.size, 0, none⟩ = some (.string s1) := fun x => x.cell f0
  have c1 : ∀ x : Cl W3, x.w.cell? ⟨w.heap.size, 1, none⟩ = some (.int .i64 p1) := fun x => x.cell f1
  have c2 : ∀ x : Cl W3, x.w.cell? ⟨w.heap.size + 1, 0, none⟩ = some (.string s2) := fun x => x.cell f2
  have c3 : ∀ x : Cl W3, x.w.cell? ⟨w.heap.size + 1, 1, none⟩ = some (.int .i64 p2) := fun x => x.cell f3
  repeat (go_big_quiet_step ((first | (go_at_call_of 161 s1; exact Cl.call (hLP1 _)) | (go_at_call_of 161 s2; exact Cl.call (hLP2 _)))))
  refine wpQuiet_nil ?_
  intro _ hw'
  obtain ⟨y, hx⟩ := hw'
  subst hx
  have k0 := c0 y
  have k1 := c1 y
  have k2 := c2 y
  have k3 := c3 y
  have k4 := y.cell f4
  have k5 := y.cell f5
  have k6 := keepf y.below (p := ⟨w.heap.size + 2, 0, none⟩) (by rw [hsW]; simp) f6
  have k7 := keepf y.below (p := ⟨w.heap.size + 2, 1, none⟩) (by rw [hsW]; simp) f7
  have hby : Below w.heap.size w y.w := bel_call hbW y.below (Nat.le_refl _)
  have hsy : w.heap.size + 3 ≤ y.w.heap.size := by have := y.below.size; omega
  clear c0 c1 c2 c3 hCl hLP1 hLP2 hmin
  generalize y.w = w1 at *
  clear y f0 f1 f2 f3 f4 f5 f6 f7 hW3 hbW hsW
  go_wp2
  go_region_with (first
    | (go_at_call_of 163 s1; refine (hU1 _).mono ?_; rintro e wA ⟨⟨aA, nA, cA, rfl, hnA, xs, hA, hvA⟩, hbA⟩; have a2 := keep hbA (p := ⟨w.heap.size + 1, 0, none⟩) k2; have a3 := keep hbA (p := ⟨w.heap.size + 1, 1, none⟩) k3)
    | (go_at_call_of 163 s2; refine (hU2 _).mono ?_; rintro e wB ⟨⟨aB, nB, cB, rfl, hnB, ys, hB, hvB⟩, hbB⟩)
    | (go_at_call 162; refine (sum_any _ _ _ _ _ _ _ _ xs ys _ (hA.below hbB) hB hnA hnB).mono ?_; rintro e wC ⟨⟨aC, nC, cC, rfl, hnC, zs, hC, hvC⟩, hbC⟩)
    | (go_at_call 139; refine (whole_any _ _ _ _ zs last _ hC (by omega) hm0 hm3).mono ?_; rintro e wD ⟨rfl, hbD⟩; obtain ⟨q0, q2⟩ := keepg hbD (keepg hbC (keepg hbB (keepg hbA (p := ⟨w.heap.size + 2, 0, none⟩) ⟨k4, k6⟩))); obtain ⟨q1, q3⟩ := keepg hbD (keepg hbC (keepg hbB (keepg hbA (p := ⟨w.heap.size + 2, 1, none⟩) ⟨k5, k7⟩)))))
  all_goals go_wp2
  all_goals refine bodyPost_ret (by simp [results, Tryz.results137, go_sem, put0 q0, put1 q1]; rfl) rfl ?_
  all_goals
    rw [HV.out]
    refine ⟨rfl, ?_⟩
    have h0 : Below w.heap.size w w1.drew := hby.drew
    have h0 := bel_call h0 hbA (Nat.le_refl _)
    have h0 := bel_call h0 hbB (Nat.le_refl _)
    have h0 := bel_call h0 hbC (Nat.le_refl _)
    have h0 := bel_call h0 hbD (Nat.le_refl _)
    exact (h0.setCell (by dsimp only; omega) _).setCell (by dsimp only; omega) _
end Go.Proofs.YthbabhbfpcfenaaGreatDoor
