/- The document's directive: the state on its way; the indices that no star takes. -/
import Derived.Test.YtpknjcdodnoibaaTRow
namespace Go.Proofs.Ytpknjcdodnoibaa
open Go.RowKit
set_option linter.unusedVariables false
set_option linter.unusedSimpArgs false

/-- Indices in a row. -/
def rowI : List Ix → List Value
  | [] => []
  | x :: t => .int .i64 (x.k : Nat) :: .int .i64 (x.n : Nat) :: rowI t
theorem rowI_app : ∀ a b : List Ix, rowI (a ++ b) = rowI a ++ rowI b
  | [], b => rfl
  | x :: a, b => by rw [List.cons_append, rowI, rowI_app a b, rowI]; rfl
theorem infoI : ∃ i, Try.prog.info? 30 = some i ∧ i.zero = some (.agg #[.int .i64 0, .int .i64 0]) ∧ i.size = 2 ∧ i.bytes = 16 := by
  have h : (Try.prog.info? 30).map (fun i => (i.zero, i.size, i.bytes)) = some (some (.agg #[.int .i64 0, .int .i64 0]), 2, 16) := by kernel_rfl
  obtain ⟨i, hi, hb⟩ := Option.map_eq_some_iff.1 h
  simp only [Prod.mk.injEq] at hb
  exact ⟨i, hi, hb⟩
/-- On the way: the two boxes, the index's box B, the loose ones v. -/
structure Ds (w0 : World) (pv : List Value) (B : Nat) (x : Ix) (v : Value) (ls : List Ix) (wr : World) : Prop where
  d : Dst w0 pv wr
  hB : w0.heap.size + 1 < B
  x : Bx wr B [.int .i64 (x.k : Nat), .int .i64 (x.n : Nat)]
  o : wr.ownsRow (B + 1) 30 2 v ls.length (rowI ls)
section
variable {w0 w w' : World} {pv : List Value} {B : Nat} {x : Ix} {v : Value} {ls : List Ix}
theorem Ds.up (h : Ds w0 pv B x v ls w) (hb : Below w.heap.size w w') : Ds w0 pv B x v ls w' := ⟨h.d.up hb, h.hB, h.x.up hb, own_up9 h.o hb⟩
theorem Ds.setP (h : Ds w0 pv B x v ls w) (i : Nat) (hi : i < pv.length) (u : Value) : Ds w0 (pv.set i u) B x v ls (w.setCell ⟨w0.heap.size + 1, i, none⟩ u) :=
  ⟨h.d.set i hi u, h.hB, h.x.other (by have := h.hB; omega) u, ownsRow_setCell_below h.o (by have := h.hB; dsimp only; omega) u⟩
theorem Ds.setX (h : Ds w0 pv B x v ls w) (y : Ix) : Ds w0 pv B y v ls ((w.setCell ⟨B, 0, none⟩ (.int .i64 (y.k : Nat))).setCell ⟨B, 1, none⟩ (.int .i64 (y.n : Nat))) := by
  have hB := h.hB
  refine ⟨⟨(h.d.a.other (by omega) _).other (by omega) _, (h.d.p.other (by omega) _).other (by omega) _, (h.d.b.setCell (by dsimp only; omega) _).setCell (by dsimp only; omega) _⟩, hB, (h.x.set 0 (by simp) _).set 1 (by simp) _, ?_⟩
  exact ownsRow_setCell_below (ownsRow_setCell_below h.o (by dsimp only; omega) _) (by dsimp only; omega) _
/-- One more is loose. -/
theorem Ds.app (h : Ds w0 pv B x v ls w) {v' : Value} (y : Ix) (cs : Obj) (ho : w'.ownsRow (B + 1) 30 2 v' (ls.length + 1) (rowI ls ++ [.int .i64 (y.k : Nat), .int .i64 (y.n : Nat)])) (hg : (w.alloc cs).grownBy w' v.ownBlock) : Ds w0 pv B x v' (ls ++ [y]) w' := by
  have hB := h.hB
  have hBw := h.x.b
  have al : Below w.heap.size w (w.alloc cs) := (Below.refl _ _).alloc (Nat.le_refl _) _
  have hlt := h.o.lt
  have key : Below (B + 1) (w.alloc cs) w' := (Below.refl _ _).grown hg (by simp; omega) (fun k hk => (hlt k hk).1)
  have up : ∀ {C : Nat} {us : List Value}, C ≤ B → Bx w C us → Bx w' C us := by
    intro C us hC hx
    have hx2 := hx.up al
    exact ⟨fun i u hu => (key.cell (p := ⟨C, i, none⟩) (by dsimp only; omega)).trans (hx2.c i u hu), fun i => (key.frozen (p := ⟨C, i, none⟩) (by dsimp only; omega)).trans (hx2.z i), by have := hg.size; have := hx2.b; omega⟩
  refine ⟨⟨up (by omega) h.d.a, up (by omega) h.d.p, (h.d.b.trans (al.mono h.d.b.size)).trans (key.mono (by omega))⟩, hB, up (Nat.le_refl _) h.x, ?_⟩
  rw [List.length_append, rowI_app]
  exact ho
end
section
variable {w0 w : World} {B : Nat} {x a : Ix} {u : Value} {ls : List Ix} {k v : Nat} {t : ByteArray} {f : Fl} {sz : Int} {na nb : Nb}
theorem Ds.setW (h : Ds w0 (pieceV k t f sz v na nb x) B a u ls w) (n : Nb) : Ds w0 (pieceV k t f sz v n nb x) B a u ls ((((w.setCell ⟨w0.heap.size + 1, 10, none⟩ (.int .i64 (n.k : Nat))).setCell ⟨w0.heap.size + 1, 11, none⟩ (.int .i64 n.n)).setCell ⟨w0.heap.size + 1, 12, none⟩ (.int .i64 (n.a.k : Nat))).setCell ⟨w0.heap.size + 1, 13, none⟩ (.int .i64 (n.a.n : Nat))) :=
  (((h.setP 10 (by simp [pieceV]) _).setP 11 (by simp [pieceV]) _).setP 12 (by simp [pieceV]) _).setP 13 (by simp [pieceV]) _
theorem Ds.setPr (h : Ds w0 (pieceV k t f sz v na nb x) B a u ls w) (n : Nb) : Ds w0 (pieceV k t f sz v na n x) B a u ls ((((w.setCell ⟨w0.heap.size + 1, 14, none⟩ (.int .i64 (n.k : Nat))).setCell ⟨w0.heap.size + 1, 15, none⟩ (.int .i64 n.n)).setCell ⟨w0.heap.size + 1, 16, none⟩ (.int .i64 (n.a.k : Nat))).setCell ⟨w0.heap.size + 1, 17, none⟩ (.int .i64 (n.a.n : Nat))) :=
  (((h.setP 14 (by simp [pieceV]) _).setP 15 (by simp [pieceV]) _).setP 16 (by simp [pieceV]) _).setP 17 (by simp [pieceV]) _
theorem Ds.setA (h : Ds w0 (pieceV k t f sz v na nb x) B a u ls w) (y : Ix) : Ds w0 (pieceV k t f sz v na nb y) B a u ls ((w.setCell ⟨w0.heap.size + 1, 18, none⟩ (.int .i64 (y.k : Nat))).setCell ⟨w0.heap.size + 1, 19, none⟩ (.int .i64 (y.n : Nat))) :=
  (h.setP 18 (by simp [pieceV]) _).setP 19 (by simp [pieceV]) _
end
/-- append of one index to the loose ones, for the walk. -/
theorem wpl_appI {ops : Array Oper} {rest : List Oper} {o : Oper} {a : Act} {w : World} {Q : Exit → Act → World → Prop} (hgd : o.guard = none) (s x : Operand)
    (ho : o.op = .call { callee := .builtin .append, args := #[s, x], argTypes := #[54, 54] }) {w0 W0 : World} {pv : List Value} {B : Nat} {x0 : Ix} {v : Value} {ls : List Ix} (h : Ds w0 pv B x0 v ls W0) (y : Ix)
    (hs : a.eval s = v) (hx : a.eval x = .slice (some ⟨W0.heap.size, 0, none⟩) 1 1) (hw : w = W0.alloc (.cells #[.int .i64 (y.k : Nat), .int .i64 (y.n : Nat)] 30)) (hl : ls.length ≤ 100)
    (hk : ∀ v' w', (∃ ao c, v' = .slice ao (ls.length + 1) c) → Ds w0 pv B x0 v' (ls ++ [y]) w' → wpList Try.prog ops Q rest (a.put o.dst v') w') : wpList Try.prog ops Q (o :: rest) a w := by
  obtain ⟨i0, hi, hz0, hz1, hz2⟩ := infoI
  subst hw
  refine wpList_append_own_at _ hgd s x 54 ho (B + 1) 30 i0 _ 2 16 Try.underlying54 hi hz0 hz1 hz2 rfl (by decide) v ls.length (rowI ls) hs (h.o.alloc _) ⟨W0.heap.size, 0, none⟩ 1 1 [.int .i64 (y.k : Nat), .int .i64 (y.n : Nat)] hx rfl ?_ ?_ ?_ ?_ ?_ ?_
  · intro j u hj
    rw [Addr.add_mid, Nat.zero_add]
    exact (Bx.new W0 [.int .i64 (y.k : Nat), .int .i64 (y.n : Nat)] 30).c j u hj
  · intro u hu
    simp at hu
    rcases hu with rfl | rfl <;> rfl
  · unfold maxLen; omega
  · omega
  · have := h.x.b; simp; omega
  · intro v' w4 o4 g4 _ _
    obtain ⟨ao, c, e, -, -⟩ := own_slice9 o4
    exact hk v' w4 ⟨ao, c, e⟩ (h.app y _ o4 g4)
/-- That index, if there is one. -/
def nz (x : Ix) : List Ix := if x.k = 0 then [] else [x]
/-- The loose ones and wrong beside those that the piece has left. -/
structure InvI (ls : List Ix) (wr : Bool) (la : List Ix) : Prop where
  n : ls.length = la.length
  f : wr = false → ls = la
  t : wr = true → ix2 ∈ la
theorem ixG_k (ds : Bs) : (ixG ds).k ≠ 0 := by unfold ixG ix2; split <;> simp
theorem idx_k (l : Bs) : (idx l).1.k = 0 ↔ hd l ≠ 91 := by
  unfold idx
  split
  · rename_i h
    have : ∀ b : Prop, [Decidable b] → (if b then (ixG (dgs l.tail), (aft l.tail).tail) else (ix2, l.tail)).1.k ≠ 0 := by
      intro b _
      split
      · exact ixG_k _
      · simp [ix2]
    simp [h, this]
  · rename_i h
    simp [h, ix0]
theorem idx_no {l : Bs} (h : hd l ≠ 91) : idx l = (ix0, l) := by unfold idx; rw [if_neg h]
/-- What the loose ones say in the end. -/
theorem inv_arg {ls : List Ix} {wr : Bool} {a b c : Ix} (h : InvI ls wr (nz a ++ nz b ++ nz c)) : sgl a b c = if 1 < ls.length ∨ wr = true then ix2 else ls.headD ix0 := by
  have hn := h.n
  have hf := h.f
  have ht := h.t
  unfold sgl
  unfold nz at hn hf ht
  cases wr with
  | false =>
    have e := hf rfl
    rw [e]
    by_cases ha : a.k = 0 <;> by_cases hb : b.k = 0 <;> by_cases hc : c.k = 0 <;> simp [ha, hb, hc]
  | true =>
    have e := ht rfl
    by_cases ha : a.k = 0 <;> by_cases hb : b.k = 0 <;> by_cases hc : c.k = 0 <;> simp [ha, hb, hc] at e ⊢ <;> simp_all
end Go.Proofs.Ytpknjcdodnoibaa
