/- cmpI, cmpS, cmpR are orders: no program is met here. -/
import Derived.Test.YtjphklhfigammaaDoorVCmp
import Derived.Sort.Walk0
import Derived.Sort.Statements
import Derived.Shelf.SlSortCmp.Insertion
namespace Go.Proofs.YtjphklhfigammaaDoor
open Go.RowKit
set_option linter.unusedVariables false
set_option linter.unusedSimpArgs false

/-- A total order, told by a number's sign. -/
structure TO {α : Type} (c : α → α → Int) : Prop where
  zero : ∀ x y, c x y = 0 ↔ x = y
  anti : ∀ x y, c y x = - c x y
  trans : ∀ x y z, c x y < 0 → c y z < 0 → c x z < 0
theorem TO.int : TO cmpI := by
  refine ⟨fun x y => ?_, fun x y => ?_, fun x y z => ?_⟩
  all_goals unfold cmpI; (repeat' split) <;> omega
theorem toList_inj {a b : ByteArray} (h : a.toList = b.toList) : a = b := by
  rw [Lib.toList_data, Lib.toList_data] at h
  cases a; cases b
  simp at h
  rw [h]
theorem TO.str : TO cmpS := by
  have hl : ∀ a b : List UInt8, a < b ∨ a = b ∨ b < a := by
    intro a b
    by_cases h1 : a < b
    · exact Or.inl h1
    by_cases h2 : b < a
    · exact Or.inr (Or.inr h2)
    · exact Or.inr (Or.inl (List.le_antisymm (List.not_lt.1 h2) (List.not_lt.1 h1)))
  have hi : ∀ a : List UInt8, ¬ a < a := fun a => List.lt_irrefl a
  have ht : ∀ a b c : List UInt8, a < b → b < c → a < c := fun a b c h1 h2 => List.lt_trans h1 h2
  have e : ∀ a b : ByteArray, cmpS a b = if a.toList < b.toList then -1 else if a.toList = b.toList then 0 else 1 := by
    intro a b
    unfold cmpS
    rw [bytesLess_eq]
    by_cases h1 : a.toList < b.toList <;> by_cases h2 : a.toList = b.toList <;> simp [h1, h2]
  refine ⟨fun x y => ?_, fun x y => ?_, fun x y z => ?_⟩
  · rw [e]
    constructor
    · intro h
      split at h
      · omega
      · split at h
        · exact toList_inj (by assumption)
        · omega
    · rintro rfl
      simp [hi]
  · rw [e, e]
    rcases hl x.toList y.toList with h | h | h
    · have h2 : ¬ y.toList < x.toList := fun h3 => hi _ (ht _ _ _ h h3)
      have h3 : ¬ y.toList = x.toList := fun h3 => hi _ (h3 ▸ h)
      simp [h, h2, h3]
    · simp [h, hi]
    · have h2 : ¬ x.toList < y.toList := fun h3 => hi _ (ht _ _ _ h h3)
      have h3 : ¬ x.toList = y.toList := fun h3 => hi _ (h3 ▸ h)
      simp [h, h2, h3]
  · rw [e, e, e]
    intro h1 h2
    have h3 : x.toList < y.toList := by
      by_cases h : x.toList < y.toList
      · exact h
      · rw [if_neg h] at h1; split at h1 <;> omega
    have h4 : y.toList < z.toList := by
      by_cases h : y.toList < z.toList
      · exact h
      · rw [if_neg h] at h2; split at h2 <;> omega
    rw [if_pos (ht _ _ _ h3 h4)]
    omega
theorem TO.lex {α β : Type} {c : α → α → Int} {d : β → β → Int} (hc : TO c) (hd : TO d) : TO (fun (p q : α × β) => if c p.1 q.1 = 0 then d p.2 q.2 else c p.1 q.1) := by
  refine ⟨fun x y => ?_, fun x y => ?_, fun x y z => ?_⟩
  · obtain ⟨a, b⟩ := x; obtain ⟨a', b'⟩ := y
    simp only [Prod.mk.injEq]
    have h1 := hc.zero a a'; have h2 := hd.zero b b'
    split
    · rw [h2]; exact ⟨fun h => ⟨h1.1 (by assumption), h⟩, fun h => h.2⟩
    · exact ⟨fun h => absurd h (by assumption), fun h => absurd (h1.2 h.1) (by assumption)⟩
  · have h1 := hc.anti x.1 y.1; have h2 := hd.anti x.2 y.2
    split <;> split <;> omega
  · obtain ⟨a, b⟩ := x; obtain ⟨a', b'⟩ := y; obtain ⟨a2, b2⟩ := z
    dsimp only
    intro h1 h2
    by_cases e1 : c a a' = 0
    · have := (hc.zero _ _).1 e1
      subst this
      rw [if_pos e1] at h1
      by_cases e2 : c a a2 = 0
      · rw [if_pos e2] at h2 ⊢
        exact hd.trans _ _ _ h1 h2
      · rw [if_neg e2] at h2 ⊢
        exact h2
    · rw [if_neg e1] at h1
      by_cases e2 : c a' a2 = 0
      · have := (hc.zero _ _).1 e2
        subst this
        rw [if_neg e1]
        exact h1
      · rw [if_neg e2] at h2
        have h3 := hc.trans _ _ _ h1 h2
        rw [if_neg (by omega)]
        exact h3
theorem TO.swo {α β : Type} {c : β → β → Int} (hc : TO c) (f : α → β) : Sort.SWO (ltOf (fun x y => c (f x) (f y))) := by
  refine ⟨fun x => ?_, fun x y z => ?_, fun x y z => ?_⟩
  · unfold ltOf
    have := (hc.zero (f x) (f x)).2 rfl
    simp [this]
  · unfold ltOf
    simp only [decide_eq_true_eq]
    exact hc.trans _ _ _
  · unfold ltOf
    simp only [decide_eq_false_iff_not]
    intro h1 h2 h3
    by_cases e1 : c (f x) (f y) = 0
    · rw [(hc.zero _ _).1 e1] at h3
      exact h2 h3
    by_cases e2 : c (f y) (f z) = 0
    · rw [← (hc.zero _ _).1 e2] at h3
      exact h1 h3
    have a1 := hc.anti (f x) (f y)
    have a2 := hc.anti (f y) (f z)
    have a3 := hc.anti (f x) (f z)
    have := hc.trans (f z) (f y) (f x) (by omega) (by omega)
    omega
theorem TO.rk : TO cmpR := by
  have h := TO.lex TO.int (TO.lex TO.int (TO.lex TO.str TO.str))
  have e : ∀ x y : Rk, cmpR x y = (fun (p q : Int × Int × ByteArray × ByteArray) => if cmpI p.1 q.1 = 0 then (if cmpI p.2.1 q.2.1 = 0 then (if cmpS p.2.2.1 q.2.2.1 = 0 then cmpS p.2.2.2 q.2.2.2 else cmpS p.2.2.1 q.2.2.1) else cmpI p.2.1 q.2.1) else cmpI p.1 q.1) (x.k, x.n, x.s, x.t) (y.k, y.n, y.s, y.t) := by
    intro x y
    unfold cmpR or4
    by_cases h1 : cmpI x.k y.k = 0 <;> by_cases h2 : cmpI x.n y.n = 0 <;> by_cases h3 : cmpS x.s y.s = 0 <;> simp [h1, h2, h3]
  refine ⟨fun x y => ?_, fun x y => ?_, fun x y z => ?_⟩
  · rw [e]
    refine (h.zero _ _).trans ?_
    obtain ⟨a, b, c, d⟩ := x
    obtain ⟨a', b', c', d'⟩ := y
    simp
  · rw [e, e]
    exact h.anti _ _
  · rw [e, e, e]
    exact h.trans _ _ _
end Go.Proofs.YtjphklhfigammaaDoor
