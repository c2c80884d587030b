/- Package parse: single. -/
import Derived.Test.YtpknjcdodnoibaaPWalkD
namespace Go.Proofs.Ytpknjcdodnoibaa
open Go.RowKit
set_option linter.unusedVariables false
set_option linter.unusedSimpArgs false

abbrev SgC (a b c : Ix) : Prop := ∀ (w : World) (B cp : Nat), Bx w B [.int .i64 (a.k : Nat), .int .i64 (a.n : Nat), .int .i64 (b.k : Nat), .int .i64 (b.n : Nat), .int .i64 (c.k : Nat), .int .i64 (c.n : Nat)] → Calls Try.prog 27 #[.slice (some ⟨B, 0, none⟩) 3 cp] w fun e w' => e = .returned (ixV (sgl a b c)) ∧ Below w.heap.size w w'
/-- The one that there is, on the way. -/
def sgR : Ix → List Ix → Ix
  | o, [] => o
  | o, x :: t => if x.k = 0 then sgR o t else if o.k ≠ 0 then ix2 else sgR x t
theorem sgl_R (a b c : Ix) : sgl a b c = sgR ix0 [a, b, c] := by
  unfold sgl
  simp only [sgR, ix0]
  by_cases h1 : a.k = 0 <;> by_cases h2 : b.k = 0 <;> by_cases h3 : c.k = 0 <;> simp [h1, h2, h3]
set_option maxRecDepth 1000000 in
set_option maxHeartbeats 4000000 in
theorem single_any (a b c : Ix) : SgC a b c := fun w B cp hB => by
  have HS : Hid (sgl a b c = sgR ix0 [a, b, c]) := sgl_R a b c
  generalize sgl a b c = T at *
  obtain ⟨W1, hW1⟩ : ∃ W1, W1 = (w.alloc (.cells #[.int .i64 0, .int .i64 0] 36)) := ⟨_, rfl⟩
  obtain ⟨W2, hW2⟩ : ∃ W2, W2 = (W1.alloc (.cells #[.int .i64 0, .int .i64 0] 36)) := ⟨_, rfl⟩
  have hs1 : W1.heap.size = w.heap.size + 1 := by rw [hW1]; simp
  have hb1 : Below w.heap.size w W1 := by rw [hW1]; exact (Below.refl _ _).alloc (Nat.le_refl _) _
  have hb2 : Below W1.heap.size W1 W2 := by rw [hW2]; exact (Below.refl _ _).alloc (Nat.le_refl _) _
  have hx1 : Bx W2 w.heap.size [.int .i64 0, .int .i64 0] := Bx.up (by rw [hW1]; exact Bx.new _ _ _) hb2
  have hx2 : Bx W2 (w.heap.size + 1) [.int .i64 (ix0.k : Nat), .int .i64 (ix0.n : Nat)] := by rw [← hs1, hW2]; exact Bx.new _ _ _
  have hbl : Below w.heap.size w W2 := hb1.trans (hb2.mono hb1.size)
  have n6 : w.heap.size ≠ w.heap.size + 1 := by omega
  have n7 : w.heap.size + 1 ≠ w.heap.size := by omega
  unfold ixV
  go_enter Try.func27, Try.ntmps27
  go_wp2
  rw [← hW1, ← hW2]
  clear hW1 hW2 hb1 hb2
  go_loopg [5, 8] 3 (fun g xv iv wr => ∃ (j : Nat) (o : Ix), iv = .int .i64 (j : Nat) ∧ j + g = 3 ∧ Below w.heap.size w wr ∧ Bx wr w.heap.size [.int .i64 0, .int .i64 0] ∧ Bx wr (w.heap.size + 1) [.int .i64 (o.k : Nat), .int .i64 (o.n : Nat)] ∧ Hid (T = sgR o ([a, b, c].drop j)))
  case atStart => exact ⟨0, ix0, rfl, rfl, hbl, hx1, hx2, HS.out⟩
  case round =>
    obtain ⟨j, o, rfl, hjg, hb, hy1, hy2, HT⟩ := hrel
    clear hbl hx1 hx2
    obtain ⟨k0, k1⟩ := hy1.two
    have kz := hy1.z
    obtain ⟨g0, g1⟩ := hy2.two
    have gz := hy2.z
    have l1 := hy1.b
    have l2 := hy2.b
    have m1 : ¬ w.heap.size = wr.heap.size := by omega
    have m2 : ¬ w.heap.size + 1 = wr.heap.size := by omega
    by_cases hj : j < 3
    · have hX : ∃ x : Ix, ([a, b, c].drop j = x :: [a, b, c].drop (j + 1)) ∧ wr.cell? ⟨B, j * 2, none⟩ = some (.int .i64 (x.k : Nat)) ∧ wr.cell? ⟨B, j * 2 + 1, none⟩ = some (.int .i64 (x.n : Nat)) := by
        rcases (by omega : j = 0 ∨ j = 1 ∨ j = 2) with rfl | rfl | rfl
        · exact ⟨a, rfl, (hb.cell hB.b).trans (hB.c 0 _ rfl), (hb.cell hB.b).trans (hB.c 1 _ rfl)⟩
        · exact ⟨b, rfl, (hb.cell hB.b).trans (hB.c 2 _ rfl), (hb.cell hB.b).trans (hB.c 3 _ rfl)⟩
        · exact ⟨c, rfl, (hb.cell hB.b).trans (hB.c 4 _ rfl), (hb.cell hB.b).trans (hB.c 5 _ rfl)⟩
      obtain ⟨x, hdx, f0, f1⟩ := hX
      have hT := HT.out
      rw [hdx] at hT
      unfold sgR at hT
      have H1 : Hid (x.k = 0 → T = sgR o ([a, b, c].drop (j + 1))) := fun h => by rw [if_pos h] at hT; exact hT
      have H2 : Hid (x.k ≠ 0 → o.k = 0 → T = sgR x ([a, b, c].drop (j + 1))) := fun h h' => by rw [if_neg h, if_neg (by omega)] at hT; exact hT
      have H3 : Hid (x.k ≠ 0 → o.k ≠ 0 → T = ix2) := fun h h' => by rw [if_neg h, if_pos h'] at hT; exact hT
      clear hdx HT HS hT
      have al : ∀ V o, Below (World.heap V).size V (V.alloc o) := fun V o => (Below.refl _ _).alloc (Nat.le_refl _) _
      rcases (by omega : j = 0 ∨ j = 1 ∨ j = 2) with rfl | rfl | rfl
      all_goals
        by_cases hk : x.k = 0
        · have HT : Hid (T = sgR o _) := H1.out hk
          rw [hk] at f0
          clear H1 H2 H3 hk
          go_wp2
          go_roundg (gk - 1)
          case measure => omega
          case rel => exact ⟨_, o, by go_num, by omega, hb.alloc hb.size _, hy1.up (al _ _), hy2.up (al _ _), HT⟩
        · have hkI : ¬ (x.k : Int) = 0 := by omega
          by_cases ho : o.k = 0
          · have HT : Hid (T = sgR x _) := H2.out hk ho
            rw [ho] at g0
            clear H1 H2 H3 hk ho
            go_wp2
            go_roundg (gk - 1)
            case measure => omega
            case rel => exact ⟨_, x, by go_num, by omega, ((hb.setCell (by dsimp only; omega) _).setCell (by dsimp only; omega) _).alloc (by have := hb.size; simpa [World.setCell] using this) _, ((hy1.other n7 _).other n7 _).up (al _ _), ((hy2.set 0 (by simp) _).set 1 (by simp) _).up (al _ _), HT⟩
          · have hoI : ¬ (o.k : Int) = 0 := by omega
            have HT : Hid (T = ix2) := H3.out hk ho
            clear H1 H2 H3 hk ho
            go_wp2
            obtain ⟨r0, r1⟩ := (((hy1.set 0 (by simp) (.int .i64 2)).set 1 (by simp) (.int .i64 0)).up (al _ (.cells #[.int .i64 (x.k : Nat), .int .i64 (x.n : Nat)] 36))).two
            refine bodyPost_ret (by simp only [results, Try.results27]; simp [go_sem, r0, r1]; rfl) rfl ?_
            rw [HT.out]
            exact ⟨rfl, ((hb.setCell (Nat.le_refl _) _).setCell (Nat.le_refl _) _).alloc (by have := hb.size; simpa [World.setCell] using this) _⟩
    · have hjI : ¬ (j : Int) < 3 := by omega
      have hT := HT.out
      rw [List.drop_eq_nil_of_le (by simp; omega)] at hT
      have HT : Hid (T = o) := hT
      clear hT
      go_wp2
      refine bodyPost_ret (by simp [results, Try.results27, go_sem, cs_same9, k0, k1]; rfl) rfl ?_
      rw [HT.out]
      exact ⟨rfl, (hb.setCell (Nat.le_refl _) _).setCell (Nat.le_refl _) _⟩
end Go.Proofs.Ytpknjcdodnoibaa
