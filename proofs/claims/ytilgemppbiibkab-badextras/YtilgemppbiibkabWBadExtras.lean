/- The walk of the law BadExtras. -/
import Derived.Test.YtilgemppbiibkabBUx
namespace Go.Proofs.Ytilgemppbiibkab
open Go.RowKit
set_option linter.unusedVariables false
set_option linter.unusedSimpArgs false

/-- A list of texts that the law itself made. -/
def ML (w : World) (a : Option Addr) (l : List ByteArray) : Prop := ∀ (j : Nat) (x : ByteArray), l[j]? = some x → ∃ g, a = some ⟨g, 0, none⟩ ∧ w.cell? ⟨g, j, none⟩ = some (.string x)
theorem ML.up {w w' : World} {a : Option Addr} {l : List ByteArray} (h : ML w a l) (hb : Below w.heap.size w w') : ML w' a l := fun j x hj => by
  obtain ⟨g, h1, h2⟩ := h j x hj
  have hg : g < w.heap.size := by
    rcases Nat.lt_or_ge g w.heap.size with h | h
    · exact h
    · simp [World.cell?, Array.getElem?_eq_none h] at h2
  exact ⟨g, h1, (hb.cell (p := ⟨g, j, none⟩) hg).trans h2⟩
theorem ML.of {w : World} {b : Nat} {v : Value} {l : List ByteArray} (h : w.ownsRow b 9 1 v l.length (l.map Value.string)) : ∃ a c, v = .slice a l.length c ∧ ML w a l := by
  obtain ⟨a, c, rfl, -, -⟩ := own_sliceB h
  refine ⟨a, c, rfl, fun j x hj => ?_⟩
  have hjl := (List.getElem?_eq_some_iff.1 hj).1
  rcases h.2 with ⟨-, hn0⟩ | ⟨g, cap, cur, e, -⟩
  · omega
  · obtain ⟨rfl, -, rfl⟩ := Value.slice.inj e
    refine ⟨g, rfl, ?_⟩
    have := h.cellAt j (by omega)
    rw [this, List.getElem?_map, hj]; rfl
set_option maxRecDepth 1000000 in
set_option maxHeartbeats 4000000 in
theorem badExtras_walk (w : World) (a0 : Option Addr) (n0 c0 : Nat) (l0 : List ByteArray) (hn0 : l0.length = n0) (hm0 : n0 ≤ maxLen) (S0 : SL w a0 l0) (a1 : Option Addr) (n1 c1 : Nat) (l1 : List ByteArray) (hn1 : l1.length = n1) (hm1 : n1 ≤ maxLen) (S1 : SL w a1 l1) :
    Calls Try.prog 5 #[.slice a0 n0 c0, .slice a1 n1 c1] w fun e w' => e = .returned (.bool true) ∧ Below w.heap.size w w' := by
  have hL := lives10_any
  have F : ∀ (a : Option Addr) (n c : Nat) (l : List ByteArray), l.length = n → n ≤ maxLen → SL w a l → ∀ V, Below w.heap.size w V →
      Calls Try.prog 24 #[.slice a n c] V fun e w' => ∃ a' c', e = .returned (.slice a' (fewB l).length c') ∧ ML w' a' (fewB l) ∧ Below V.heap.size V w' ∧ Below w.heap.size w w' := fun a n c l h1 h2 h3 V hV => by
    subst h1
    refine (few_any l a c V (by unfold maxLen at h2; omega) (h3.up hV)).mono ?_
    rintro e w' ⟨v, rfl, ho, hb⟩
    obtain ⟨a', c', rfl, hm⟩ := ML.of ho
    exact ⟨a', c', rfl, hm, hb, hV.trans (hb.mono hV.size)⟩
  have F0 := F a0 n0 c0 l0 hn0 hm0 S0
  have F1 := F a1 n1 c1 l1 hn1 hm1 S1
  clear F S0 S1 hm0 hm1
  have ok0 := fewB_ok l0
  have ok1 := fewB_ok l1
  generalize fewB l0 = xs at *
  generalize fewB l1 = ys at *
  clear hn0 hn1
  have BX : ∀ (a a' : Option Addr) (c c' : Nat) (V : World), Below w.heap.size w V → ML V a xs → ML V a' ys → Calls Try.prog 23 #[.slice a xs.length c, .slice a' ys.length c'] V fun e w' => e = .returned (.string (bT [] ((insL xs ys (min xs.length ys.length)).flatMap (·.data.toList)))) ∧ Below w.heap.size w w' := fun a a' c c' V hV h1 h2 =>
    (bextra_any xs ys a a' c c' V ok0.2 ok1.2 ok0.1 ok1.1 h1 h2).mono fun e w' h => ⟨h.1, hV.trans (h.2.mono hV.size)⟩
  have UX : ∀ (a a' : Option Addr) (c c' : Nat) (V : World), Below w.heap.size w V → ML V a xs → ML V a' ys → Calls Try.prog 25 #[.slice a xs.length c, .slice a' ys.length c'] V fun e w' => e = .returned (.string (bT [] ((insL xs ys (min xs.length ys.length)).flatMap (·.data.toList)))) ∧ Below w.heap.size w w' := fun a a' c c' V hV h1 h2 =>
    (uextra_any xs ys a a' c c' V ok0.2 ok1.2 ok0.1 ok1.1 h1 h2).mono fun e w' h => ⟨h.1, hV.trans (h.2.mono hV.size)⟩
  clear ok0 ok1
  generalize bT [] ((insL xs ys (min xs.length ys.length)).flatMap (·.data.toList)) = R at *
  have st : Below w.heap.size w w := Below.refl _ _
  go_enter Try.func5, Try.ntmps5
  go_wp2_with (first
    | (go_at_call 24; with_reducible refine (F0 _ (by assumption)).mono ?_; rintro e w1 ⟨x1, y1, rfl, s1, d1, b1⟩)
    | (go_at_call 24; with_reducible refine (F1 _ (by assumption)).mono ?_; rintro e w2 ⟨x2, y2, rfl, s2, d2, b2⟩)
    | (go_at_call 23; refine (BX _ _ _ _ _ b2 (s1.up d2) s2).mono ?_; rintro e w3 ⟨rfl, b3⟩)
    | (go_at_call 25; refine (UX _ _ _ _ _ b2 (s1.up d2) s2).mono ?_; rintro e w4 ⟨rfl, b4⟩)
    | (go_at_call 22; refine (hL _).mono ?_; rintro e w5 ⟨rfl, b5⟩))
  go_ret
  exact ⟨rfl, b4.trans (b5.mono b4.size)⟩
end Go.Proofs.Ytilgemppbiibkab
