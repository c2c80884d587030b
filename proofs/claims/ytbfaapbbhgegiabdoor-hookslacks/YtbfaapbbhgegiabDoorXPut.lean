/- A struct is stored in the midst of a block. -/
import Derived.Test.YtbfaapbbhgegiabDoorXQuiet
namespace Go.Proofs.YtbfaapbbhgegiabDoor
open Go.RowKit
set_option linter.unusedVariables false

theorem Blk.thereMid {w : World} {B : Nat} {p cs q : List Value} (h : Blk w B (p ++ (cs ++ q))) : w.there B p.length cs.length := fun j hj => by
  refine ⟨?_, h.z _⟩
  have hlt : p.length + j < (p ++ (cs ++ q)).length := by simp; omega
  rw [h.c (p.length + j) _ (List.getElem?_eq_getElem hlt)]
  rfl
theorem Blk.put {w : World} {B : Nat} {p cs q : List Value} (h : Blk w B (p ++ (cs ++ q))) (us : List Value) (hl : us.length = cs.length) : Blk (w.setCells B p.length us) B (p ++ (us ++ q)) := by
  refine ⟨fun i v hv => ?_, fun i => (World.frozen?_setCells _ _ _ _ _).trans (h.z i), by rw [xsc_size]; exact h.b⟩
  have r1 : (w.setCells B p.length us).rangeAt B 0 p := by
    refine World.rangeAt_setCells_apart (fun j u hu => ?_) B p.length us (.inr (.inl (by omega)))
    rw [Nat.zero_add]
    exact h.c j u (by rw [List.getElem?_append_left (List.getElem?_eq_some_iff.1 hu).1]; exact hu)
  have r2 : (w.setCells B p.length us).rangeAt B p.length us := World.rangeAt_setCells_same w B p.length us (by rw [hl]; exact h.thereMid)
  have r3 : (w.setCells B p.length us).rangeAt B (p.length + cs.length) q := by
    refine World.rangeAt_setCells_apart (fun j u hu => ?_) B p.length us (.inr (.inr (by omega)))
    refine h.c _ u ?_
    rw [← List.append_assoc, List.getElem?_append_right (by simp), List.length_append, Nat.add_sub_cancel_left]
    exact hu
  rcases Nat.lt_or_ge i p.length with h1 | h1
  · rw [List.getElem?_append_left h1] at hv
    have := r1 i v hv
    rwa [Nat.zero_add] at this
  · rw [List.getElem?_append_right h1] at hv
    rcases Nat.lt_or_ge (i - p.length) us.length with h2 | h2
    · rw [List.getElem?_append_left h2] at hv
      have := r2 _ v hv
      rwa [show p.length + (i - p.length) = i by omega] at this
    · rw [List.getElem?_append_right h2] at hv
      have := r3 _ v hv
      rwa [show p.length + cs.length + (i - p.length - us.length) = i by omega] at this
theorem wpl_stm {ops : Array Oper} {rest : List Oper} {op : Oper} {a : Act} {w : World} {Q : Exit → Act → World → Prop} {t n : Nat} (hr : Row t n) (hgd : op.guard = none) (x y : Operand) (ho : op.op = .store t x y) {B o : Nat} {us : List Value}
    (hx : a.eval x = .pointer (some ⟨B, o, none⟩)) (hy : a.eval y = .agg us.toArray) (ht : w.there B o n) (hu : us.length = n) (h1 : ∀ v ∈ us, v.oneCell' = true)
    (h : wpList Tryd.prog ops Q rest (a.put op.dst undef) (w.setCells B o us)) : wpList Tryd.prog ops Q (op :: rest) a w := by
  refine wpList_store_mid hgd t x y ho B o us.toArray hx hy (by simpa [hu] using ht) (by simp [hu, hr.2]) (all_oneCell_toArray h1) ?_
  simpa using h
end Go.Proofs.YtbfaapbbhgegiabDoor
