/- Package parse: Text. -/
import Derived.Test.YtbgejkodgcgpdaaPEq
import Derived.Test.YtbgejkodgcgpdaaShelf
import Derived.Lib.OthersKept
namespace Go.Proofs.Ytbgejkodgcgpdaa
open Go.RowKit
set_option linter.unusedVariables false
set_option linter.unusedSimpArgs false

theorem isB_below {T e : TypeId} {B b : Nat} {bs : List Value} {W W' : World} (h : Lib.IsBuilderF T e B b bs W) (hb : Below W.heap.size W W') : Lib.IsBuilderF T e B b bs W' := by
  have key : ∀ p, Lib.BuilderAtF T e B b p bs W → Lib.BuilderAtF T e B b p bs W' := by
    rintro p ⟨hB, v, hbk, hown, hne⟩
    have blk : ∀ k o, W.heap[k]? = some o → W'.heap[k]? = some o := fun k o hk => (hb.block k (Array.getElem?_eq_some_iff.1 hk).1).trans hk
    refine ⟨hB, v, blk _ _ hbk, ⟨hown.1, ?_⟩, hne⟩
    rcases hown.2 with hn | ⟨g, cap, cur, fz, hv, hbg, hg, rest⟩
    · exact .inl hn
    · exact .inr ⟨g, cap, cur, fz, hv, hbg, blk _ _ hg, rest⟩
  exact h.elim (fun x => .inl (key _ x)) (fun x => .inr (key _ x))
/-- A row of pieces lies there. -/
def RowAt (w : World) (g : Nat) (ps : List Pc) : Prop := ∀ (j : Nat) (p : Pc), ps[j]? = some p → w.rangeAt g (j * 20) (pcV p (ba p.text))
theorem rowP_at : ∀ (ps : List Pc) (j : Nat) (p : Pc), ps[j]? = some p → ∀ i v, (pcV p (ba p.text))[i]? = some v → (rowP ps)[j * 20 + i]? = some v
  | [], _, _, h, _, _, _ => by simp at h
  | q :: t, 0, p, h, i, v, hv => by
    simp at h
    subst h
    have hi : i < (pcV q (ba q.text)).length := (List.getElem?_eq_some_iff.1 hv).1
    rw [rowP, Nat.zero_mul, Nat.zero_add, List.getElem?_append_left hi]
    exact hv
  | q :: t, j + 1, p, h, i, v, hv => by
    have hl : (pcV q (ba q.text)).length = 20 := rfl
    rw [rowP, List.getElem?_append_right (by rw [hl]; omega), hl, show (j + 1) * 20 + i - 20 = j * 20 + i by omega]
    exact rowP_at t j p (by simpa using h) i v hv
theorem own_row {w : World} {b : Nat} {a : Option Addr} {c : Nat} {ps : List Pc} (h : w.ownsRow b 40 20 (.slice a ps.length c) ps.length (rowP ps)) (hn : 0 < ps.length) : ∃ g, a = some ⟨g, 0, none⟩ ∧ b ≤ g ∧ g < w.heap.size ∧ RowAt w g ps := by
  obtain ⟨g, rfl, h1, h2, h3⟩ := own_cell9 h hn
  exact ⟨g, rfl, h1, h2, fun j p hj i v hv => h3 _ _ (rowP_at ps j p hj i v hv)⟩
theorem RowAt.up {w w' : World} {g : Nat} {ps : List Pc} (h : RowAt w g ps) (hg : g < w.heap.size) (hb : Below w.heap.size w w') : RowAt w' g ps := fun j p hj i v hv => (hb.cell (p := ⟨g, j * 20 + i, none⟩) hg).trans (h j p hj i v hv)
/-- The texts of pieces. -/
def txt (ps : List Pc) : Bs := ps.flatMap (·.text)
theorem txt_take {ps : List Pc} {n : Nat} {p : Pc} (h : ps[n]? = some p) : txt (ps.take (n + 1)) = txt (ps.take n) ++ p.text := by
  unfold txt
  rw [List.take_add_one, h]
  simp
end Go.Proofs.Ytbgejkodgcgpdaa
