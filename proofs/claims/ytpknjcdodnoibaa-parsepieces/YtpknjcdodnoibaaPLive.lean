/- The laws of layer 9: the document's examples; cut; a row of pieces. -/
import Derived.Test.YtpknjcdodnoibaaPWalkK
namespace Go.Proofs.Ytpknjcdodnoibaa
open Go.RowKit
set_option linter.unusedVariables false
set_option linter.unusedSimpArgs false

theorem own_cell9 {w : World} {b : Nat} {e : TypeId} {z : Nat} {a : Option Addr} {n c : Nat} {xs : List Value} (h : w.ownsRow b e z (.slice a n c) n xs) (hn : 0 < n) : ∃ g, a = some ⟨g, 0, none⟩ ∧ b ≤ g ∧ g < w.heap.size ∧ ∀ j v, xs[j]? = some v → w.cell? ⟨g, j, none⟩ = some v := by
  rcases h.2 with ⟨e, h0⟩ | ⟨g, cap, cur, e, hb, hg, -, -, -, ht⟩
  · omega
  · obtain ⟨rfl, -, rfl⟩ := Value.slice.inj e
    have hl := h.lt g rfl
    refine ⟨g, rfl, hb, hl.2, fun j v hv => ?_⟩
    have := h.cells (g := g) rfl j v hv
    rwa [Addr.add_mid, Nat.zero_add] at this
theorem own_up9 {w w' : World} {b : Nat} {e : TypeId} {z : Nat} {v : Value} {n : Nat} {xs : List Value} (h : w.ownsRow b e z v n xs) (hb : Below w.heap.size w w') : w'.ownsRow b e z v n xs := h.kept (gr_below hb none) (by cases v.ownBlock <;> simp)
theorem ex1 : prs [97, 37, 45, 53, 46, 50, 102, 98] = [lit [97], ⟨1, [37, 45, 53, 46, 50, 102], ⟨false, true, false, false, false⟩, -1, 102, ⟨1, 5, ix0⟩, ⟨1, 2, ix0⟩, ix0⟩, lit [98]] := by rfl
theorem ex2 : prs [37, 91, 50, 93, 42, 46, 91, 49, 93, 42, 91, 51, 93, 100] = [⟨1, [37, 91, 50, 93, 42, 46, 91, 49, 93, 42, 91, 51, 93, 100], fl0, -1, 100, ⟨2, 0, ⟨1, 2⟩⟩, ⟨2, 0, ⟨1, 1⟩⟩, ⟨1, 3⟩⟩] := by rfl
set_option maxRecDepth 1000000 in
set_option maxHeartbeats 4000000 in
theorem lives9_any (w : World) : Calls Try.prog 8 #[] w fun e w' => e = .returned (.bool true) ∧ Below w.heap.size w w' := by
  have h1 := parse_any ⟨#[97, 37, 45, 53, 46, 50, 102, 98]⟩ (by decide) w
  have h2 := fun w => parse_any ⟨#[37, 91, 50, 93, 42, 46, 91, 49, 93, 42, 91, 51, 93, 100]⟩ (by decide) w
  dsimp only at h1 h2
  rw [ex1] at h1
  rw [ex2] at h2
  go_enter Try.func8, Try.ntmps8
  go_wp2_with (first
    | (go_at_call_of 5 (97 : UInt8); refine h1.mono ?_; rintro e w1 ⟨v1, rfl, o1, b1⟩; obtain ⟨a1, c1, rfl, -, -⟩ := own_slice9 o1; obtain ⟨g1, rfl, k1, k2, k3⟩ := own_cell9 o1 (by decide))
    | (go_at_call 5; refine (h2 w1).mono ?_; rintro e w2 ⟨v2, rfl, o2, b2⟩; obtain ⟨a2, c2, rfl, -, -⟩ := own_slice9 o2; obtain ⟨g2, rfl, m1, m2, m3⟩ := own_cell9 o2 (by decide); have f1 := (b2.cell (p := ⟨g1, 23, none⟩) k2).trans (k3 23 _ rfl); have f2 := (b2.cell (p := ⟨g1, 31, none⟩) k2).trans (k3 31 _ rfl); have f3 := (b2.cell (p := ⟨g1, 35, none⟩) k2).trans (k3 35 _ rfl); have f4 := (b2.cell (p := ⟨g1, 29, none⟩) k2).trans (k3 29 _ rfl); have f5 := m3 13 _ rfl; have f6 := m3 19 _ rfl))
  go_ret
  exact ⟨rfl, b1.trans (b2.mono b1.size)⟩
/-- A row of one piece. -/
theorem own_bx1 {w : World} {b : Nat} {a : Option Addr} {c : Nat} {p : Pc} (h : w.ownsRow b 40 20 (.slice a 1 c) 1 (rowP [p])) : ∃ g, a = some ⟨g, 0, none⟩ ∧ b ≤ g ∧ Bx w g (pcV p (ba p.text)) := by
  obtain ⟨g, rfl, h1, h2, h3⟩ := own_cell9 h (by omega)
  refine ⟨g, rfl, h1, fun i v hv => h3 i v (by simpa [rowP] using hv), fun i => ?_, h2⟩
  have := h.frozenAt i
  simpa using this
set_option maxRecDepth 1000000 in
set_option maxHeartbeats 1000000 in
theorem cut9_few {s : ByteArray} (h : ¬ 2000 < (s.size : Int)) (w : World) : Calls Try.prog 4 #[.string s] w fun e w' => e = .returned (.string s) ∧ w' = w := by
  go_enter Try.func4, Try.ntmps4
  go_wp2
  go_ret
  exact ⟨rfl, rfl⟩
set_option maxRecDepth 1000000 in
set_option maxHeartbeats 1000000 in
theorem cut9_many {s : ByteArray} (h : 2000 < (s.size : Int)) (w : World) : Calls Try.prog 4 #[.string s] w fun e w' => e = .returned (.string (s.extract 0 2000)) ∧ w' = w := by
  have h3 : (2000 : Int) ≤ s.size := by omega
  go_enter Try.func4, Try.ntmps4
  go_wp2
  go_ret
  exact ⟨rfl, rfl⟩
theorem cut9_any (s : ByteArray) : ∃ t : ByteArray, t.size ≤ 2000 ∧ ∀ w, Calls Try.prog 4 #[.string s] w fun e w' => e = .returned (.string t) ∧ w' = w := by
  by_cases h : 2000 < s.size
  · exact ⟨s.extract 0 2000, by rw [ByteArray.size_extract]; omega, cut9_many (by omega)⟩
  · exact ⟨s, by omega, cut9_few (by omega)⟩
theorem dw_all : ∀ {l : Bs}, (∀ x ∈ l, noPc x = true) → l.dropWhile noPc = []
  | [], _ => rfl
  | x :: t, h => by
    rw [List.dropWhile_cons, if_pos (h x (List.mem_cons_self ..))]
    exact dw_all fun y hy => h y (List.mem_cons_of_mem _ hy)
/-- A text without a % is one literal, or none. -/
theorem prs_lit {l : Bs} (h : ∀ x ∈ l, noPc x = true) (hne : l ≠ []) : prs l = [lit l] := by
  cases l with
  | nil => exact absurd rfl hne
  | cons x t =>
    have hx := h x (List.mem_cons_self ..)
    have h37 : ¬ hd (x :: t) = 37 := by unfold noPc at hx; simpa [hd] using hx
    have hdw : (x :: t).dropWhile noPc = [] := dw_all h
    rw [prs_step hne]
    unfold pce prest
    rw [if_neg h37, if_neg h37, hdw]
    simp [prs_nil]
end Go.Proofs.Ytpknjcdodnoibaa
