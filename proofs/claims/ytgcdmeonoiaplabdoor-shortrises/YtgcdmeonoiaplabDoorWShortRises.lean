/- The walk of the law ShortRises. -/
import Derived.Test.YtgcdmeonoiaplabDoorSLaw
namespace Go.Proofs.YtgcdmeonoiaplabDoor
open Go.RowKit
set_option linter.unusedVariables false
set_option linter.unusedSimpArgs false

theorem bE_zero {a b : Int} : bE a b = 0 ↔ a = 0 ∧ b = 0 := by
  unfold bE
  by_cases h : a = 0
  · rw [if_pos h]; simp [h]
  · rw [if_neg h]; simp [h]
theorem ordN_cases (a b : Nat) : (ordN a b = -1 ∧ a < b) ∨ (ordN a b = 0 ∧ a = b) ∨ (ordN a b = 1 ∧ b < a) := by
  rcases Nat.lt_trichotomy a b with h | h | h
  · exact .inl ⟨ordN_lt h, h⟩
  · exact .inr (.inl ⟨ordN_eq h, h⟩)
  · exact .inr (.inr ⟨ordN_gt h, h⟩)
set_option maxRecDepth 1000000 in
set_option maxHeartbeats 3200000 in
theorem rises_walk {s1 s2 : ByteArray} {p1 p2 n c E F G : Int} {x y : Nat} (b : Bool) (hZ : SizC b n) (hC : CmpC s1 p1 s2 p2 c E) (h1 : ReadC s1 p1 n x F) (h2 : ReadC s2 p2 n y G)
    (hh : (¬ E = 0 ∧ ¬ F = 0) ∨ (¬ E = 0 ∧ F = 0 ∧ ¬ G = 0) ∨ (E = 0 ∧ F = 0 ∧ G = 0 ∧ c = -1 ∧ x ≤ y) ∨ (E = 0 ∧ F = 0 ∧ G = 0 ∧ c = 1 ∧ y ≤ x) ∨ (E = 0 ∧ F = 0 ∧ G = 0 ∧ c = 0 ∧ x = y)) (w : World) :
    Calls Tryd.prog 4 #[.agg #[.string s1, .int .i64 p1], .agg #[.string s2, .int .i64 p2], .bool b] w fun e w' => e = .returned (.bool true) ∧ Below w.heap.size w w' := by
  have hL := lives5_any
  obtain ⟨W2, hW2⟩ : ∃ W2, (w.alloc (.cells #[.string s1, .int .i64 p1] 28)).alloc (.cells #[.string s2, .int .i64 p2] 28) = W2 := ⟨_, rfl⟩
  have hbW : Below w.heap.size w W2 := by rw [← hW2]; go_grown
  have d0 : W2.cell? ⟨w.heap.size, 0, none⟩ = some (.string s1) := by rw [← hW2]; simp [go_sem]
  have d1 : W2.cell? ⟨w.heap.size, 1, none⟩ = some (.int .i64 p1) := by rw [← hW2]; simp [go_sem]
  have d2 : W2.cell? ⟨w.heap.size + 1, 0, none⟩ = some (.string s2) := by rw [← hW2]; simp [go_sem]
  have d3 : W2.cell? ⟨w.heap.size + 1, 1, none⟩ = some (.int .i64 p2) := by rw [← hW2]; simp [go_sem]
  have c0 : ∀ x : Cl W2, x.w.cell? ⟨w.heap.size, 0, none⟩ = some (.string s1) := fun x => x.cell d0
  have c1 : ∀ x : Cl W2, x.w.cell? ⟨w.heap.size, 1, none⟩ = some (.int .i64 p1) := fun x => x.cell d1
  have c2 : ∀ x : Cl W2, x.w.cell? ⟨w.heap.size + 1, 0, none⟩ = some (.string s2) := fun x => x.cell d2
  have c3 : ∀ x : Cl W2, x.w.cell? ⟨w.heap.size + 1, 1, none⟩ = some (.int .i64 p2) := fun x => x.cell d3
  rcases hh with ⟨k1, k2⟩ | ⟨k1, rfl, k3⟩ | ⟨rfl, rfl, rfl, rfl, k5⟩ | ⟨rfl, rfl, rfl, rfl, k5⟩ | ⟨rfl, rfl, rfl, rfl, rfl⟩
  · have b1 : (E != 0) = true := by simp [k1]
    have b2 : (F != 0) = true := by simp [k2]
    go_enter Tryd.func4, Tryd.ntmps4
    go_wp2_with (first
      | (go_at_call 8; refine (hZ _).mono ?_; rintro e w9 ⟨rfl, rfl⟩)
      | (go_at_call 13; (with_reducible refine (Cl.go0 (hC _)).mono ?_); rintro e w9 ⟨y1, rfl, rfl⟩)
      | (go_at_call 11; (with_reducible refine (Cl.go (h1 _)).mono ?_); rintro e w9 ⟨y2, rfl, rfl⟩)
      | (go_at_call 11; (with_reducible refine (Cl.go (h2 _)).mono ?_); rintro e w9 ⟨y3, rfl, rfl⟩)
      | (go_at_call 12; (with_reducible refine (Cl.go (hL _)).mono ?_); rintro e w9 ⟨y4, rfl, rfl⟩))
    go_ret
    exact ⟨rfl, bel_call hbW y4.below (Nat.le_refl _)⟩
  · have b1 : (E != 0) = true := by simp [k1]
    have b2 : (G != 0) = true := by simp [k3]
    go_enter Tryd.func4, Tryd.ntmps4
    go_wp2_with (first
      | (go_at_call 8; refine (hZ _).mono ?_; rintro e w9 ⟨rfl, rfl⟩)
      | (go_at_call 13; (with_reducible refine (Cl.go0 (hC _)).mono ?_); rintro e w9 ⟨y1, rfl, rfl⟩)
      | (go_at_call 11; (with_reducible refine (Cl.go (h1 _)).mono ?_); rintro e w9 ⟨y2, rfl, rfl⟩)
      | (go_at_call 11; (with_reducible refine (Cl.go (h2 _)).mono ?_); rintro e w9 ⟨y3, rfl, rfl⟩)
      | (go_at_call 12; (with_reducible refine (Cl.go (hL _)).mono ?_); rintro e w9 ⟨y4, rfl, rfl⟩))
    go_ret
    exact ⟨rfl, bel_call hbW y4.below (Nat.le_refl _)⟩
  · have k5I : (x : Int) ≤ y := by omega
    go_enter Tryd.func4, Tryd.ntmps4
    go_wp2_with (first
      | (go_at_call 8; refine (hZ _).mono ?_; rintro e w9 ⟨rfl, rfl⟩)
      | (go_at_call 13; (with_reducible refine (Cl.go0 (hC _)).mono ?_); rintro e w9 ⟨y1, rfl, rfl⟩)
      | (go_at_call 11; (with_reducible refine (Cl.go (h1 _)).mono ?_); rintro e w9 ⟨y2, rfl, rfl⟩)
      | (go_at_call 11; (with_reducible refine (Cl.go (h2 _)).mono ?_); rintro e w9 ⟨y3, rfl, rfl⟩)
      | (go_at_call 12; (with_reducible refine (Cl.go (hL _)).mono ?_); rintro e w9 ⟨y4, rfl, rfl⟩))
    go_ret
    exact ⟨rfl, bel_call hbW y4.below (Nat.le_refl _)⟩
  · have k5I : (y : Int) ≤ x := by omega
    go_enter Tryd.func4, Tryd.ntmps4
    go_wp2_with (first
      | (go_at_call 8; refine (hZ _).mono ?_; rintro e w9 ⟨rfl, rfl⟩)
      | (go_at_call 13; (with_reducible refine (Cl.go0 (hC _)).mono ?_); rintro e w9 ⟨y1, rfl, rfl⟩)
      | (go_at_call 11; (with_reducible refine (Cl.go (h1 _)).mono ?_); rintro e w9 ⟨y2, rfl, rfl⟩)
      | (go_at_call 11; (with_reducible refine (Cl.go (h2 _)).mono ?_); rintro e w9 ⟨y3, rfl, rfl⟩)
      | (go_at_call 12; (with_reducible refine (Cl.go (hL _)).mono ?_); rintro e w9 ⟨y4, rfl, rfl⟩))
    go_ret
    exact ⟨rfl, bel_call hbW y4.below (Nat.le_refl _)⟩
  · go_enter Tryd.func4, Tryd.ntmps4
    go_wp2_with (first
      | (go_at_call 8; refine (hZ _).mono ?_; rintro e w9 ⟨rfl, rfl⟩)
      | (go_at_call 13; (with_reducible refine (Cl.go0 (hC _)).mono ?_); rintro e w9 ⟨y1, rfl, rfl⟩)
      | (go_at_call 11; (with_reducible refine (Cl.go (h1 _)).mono ?_); rintro e w9 ⟨y2, rfl, rfl⟩)
      | (go_at_call 11; (with_reducible refine (Cl.go (h2 _)).mono ?_); rintro e w9 ⟨y3, rfl, rfl⟩)
      | (go_at_call 12; (with_reducible refine (Cl.go (hL _)).mono ?_); rintro e w9 ⟨y4, rfl, rfl⟩))
    go_ret
    exact ⟨rfl, bel_call hbW y4.below (Nat.le_refl _)⟩
theorem shortRises_walk (s1 : ByteArray) (p1 : Int) (hs1 : s1.size ≤ 9223372036854775807) (_y1 : (Lit.int .i64 p1).wf = true) (s2 : ByteArray) (p2 : Int) (hs2 : s2.size ≤ 9223372036854775807) (_y2 : (Lit.int .i64 p2).wf = true) (b : Bool) (w : World) :
    Calls Tryd.prog 4 #[.agg #[.string s1, .int .i64 p1], .agg #[.string s2, .int .i64 p2], .bool b] w fun e w' => e = .returned (.bool true) ∧ Below w.heap.size w w' := by
  obtain ⟨f, ww, least, I, h, -, -⟩ := ly_of b
  have hu := un_pos least
  have hC : CmpC s1 p1 s2 p2 _ _ := fun w => cmp_any s1 s2 p1 p2 w hs1 hs2
  have hZ : SizC b _ := fun w => sized5_any b w
  by_cases e1 : normE s1 p1 = 0
  · obtain ⟨x, hx⟩ := rd_ex f I (un least) (normV s1 p1) hu
    have r1 : ReadC s1 p1 _ x 0 := fun w => read_ok h hs1 e1 hx w
    by_cases e2 : normE s2 p2 = 0
    · obtain ⟨y, hy⟩ := rd_ex f I (un least) (normV s2 p2) hu
      have r2 : ReadC s2 p2 _ y 0 := fun w => read_ok h hs2 e2 hy w
      have eb : bE (normE s1 p1) (normE s2 p2) = 0 := bE_zero.2 ⟨e1, e2⟩
      rw [eb, if_pos rfl] at hC
      refine rises_walk b hZ hC r1 r2 ?_ w
      rcases ordN_cases (normV s1 p1) (normV s2 p2) with ⟨k, k2⟩ | ⟨k, k2⟩ | ⟨k, k2⟩
      · exact .inr (.inr (.inl ⟨rfl, rfl, rfl, k, hx.mono hu hy (by omega)⟩))
      · exact .inr (.inr (.inr (.inr ⟨rfl, rfl, rfl, k, hx.uniq hu (by rw [k2]; exact hy)⟩)))
      · exact .inr (.inr (.inr (.inl ⟨rfl, rfl, rfl, k, hy.mono hu hx (by omega)⟩)))
    · have r2 : ReadC s2 p2 _ 0 (normE s2 p2) := fun w => read_err h hs2 e2 w
      exact rises_walk b hZ hC r1 r2 (.inr (.inl ⟨fun k => e2 (bE_zero.1 k).2, rfl, e2⟩)) w
  · have r1 : ReadC s1 p1 _ 0 (normE s1 p1) := fun w => read_err h hs1 e1 w
    obtain ⟨y, G, r2⟩ : ∃ (y : Nat) (G : Int), ReadC s2 p2 (if b then 64 else 32) y G := by
      by_cases e2 : normE s2 p2 = 0
      · obtain ⟨y, hy⟩ := rd_ex f I (un least) (normV s2 p2) hu
        exact ⟨y, 0, fun w => read_ok h hs2 e2 hy w⟩
      · exact ⟨0, _, fun w => read_err h hs2 e2 w⟩
    exact rises_walk b hZ hC r1 r2 (.inl ⟨fun k => e1 (bE_zero.1 k).1, e1⟩) w
end Go.Proofs.YtgcdmeonoiaplabDoor
