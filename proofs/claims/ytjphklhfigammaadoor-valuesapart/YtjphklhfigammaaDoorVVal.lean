/- Values in memory: what a value is that is made of a descriptor; madeAll. -/
import Derived.Test.YtjphklhfigammaaDoorVMade
import Derived.Test.YtjphklhfigammaaDoorVBuild
import Derived.OwnWalk
import Derived.WalkSmall
import Derived.Maps.AppendAt
import Derived.Deep.LoopGhost
namespace Go.Proofs.YtjphklhfigammaaDoor
open Go.RowKit
set_option linter.unusedVariables false

/-- All descriptors that are looked at. -/
def nodes : D → List D
  | ⟨kind, ty, bits, imag, text, names, parts, hook⟩ => ⟨kind, ty, bits, imag, text, names, parts, hook⟩ :: (if great kind then parts.flatMap fun x => nodes x else [])
theorem nodes_eq (d : D) : nodes d = d :: (if great d.kind then d.parts.flatMap nodes else []) := by
  obtain ⟨kind, ty, bits, imag, text, names, parts, hook⟩ := d
  rw [nodes]
theorem pre_fst : ∀ (m : Nat) (d : D) (k : Int), SizeOf.sizeOf d ≤ m → (pre d k).map (·.1) = nodes d
  | 0, d, k, h => by cases d; simp at h
  | m + 1, d, k, h => by
    rw [pre_eq, nodes_eq, List.map_cons]
    congr 1
    split
    · unfold preAll
      rw [List.map_flatMap]
      have : ∀ l : List D, (∀ x ∈ l, SizeOf.sizeOf x < SizeOf.sizeOf d) → (l.flatMap fun x => (pre x (k + 1)).map (·.1)) = l.flatMap nodes := by
        intro l
        induction l with
        | nil => intro _; rfl
        | cons x l ih =>
          intro hl
          rw [List.flatMap_cons, List.flatMap_cons, ih fun y hy => hl y (List.mem_cons_of_mem _ hy), pre_fst m x (k + 1) (by have := hl x (List.mem_cons_self ..); omega)]
      exact this d.parts fun x hx => parts_lt hx
    · rfl
theorem pre_nodes (d : D) (k : Int) : (pre d k).map (·.1) = nodes d := pre_fst _ d k (Nat.le_refl _)
theorem nodes_part {d x y : D} (hg : great d.kind = true) (hx : x ∈ d.parts) (hy : y ∈ nodes x) : y ∈ nodes d := by
  rw [nodes_eq, if_pos hg]
  exact List.mem_cons_of_mem _ (List.mem_flatMap.2 ⟨x, hx, hy⟩)
theorem nodes_self (d : D) : d ∈ nodes d := by rw [nodes_eq]; exact List.mem_cons_self ..

/-- A row of values, in blocks of which S holds, each of which R says what it is made of. -/
def Vals (R : Value → D → Prop) (S : Nat → Prop) (W : World) (a : Option Addr) (l : List D) : Prop :=
  ∀ (i : Nat) (y : D), l[i]? = some y → ∃ b off t u, a = some ⟨b, off, none⟩ ∧ S b ∧ W.cell? ⟨b, off + i, none⟩ = some (.iface t u) ∧ R (.iface t u) y
/-- A row of texts, likewise. -/
def StrsS (S : Nat → Prop) (W : World) (a : Option Addr) (l : List ByteArray) : Prop :=
  ∀ (i : Nat) (s : ByteArray), l[i]? = some s → ∃ b off, a = some ⟨b, off, none⟩ ∧ S b ∧ W.cell? ⟨b, off + i, none⟩ = some (.string s)
/-- A row of entries, likewise. -/
def Ents (R : Value → D → Prop) (S : Nat → Prop) (W : World) (a : Option Addr) (l : List (D × D)) : Prop :=
  ∀ (i : Nat) (p : D × D), l[i]? = some p → ∃ b off t u t' u', a = some ⟨b, off, none⟩ ∧ S b ∧ W.cell? ⟨b, off + i * 2, none⟩ = some (.iface t u) ∧ W.cell? ⟨b, off + i * 2 + 1, none⟩ = some (.iface t' u') ∧ R (.iface t u) p.1 ∧ R (.iface t' u') p.2
/-- The value v is made of the descriptor d (sr: the entries of a map in their order). -/
def VlC (sr : List D → List (D × D)) : Nat → (Nat → Prop) → World → Value → D → Prop
  | 0, _, _, _, _ => False
  | n + 1, S, W, v, d =>
    if d.kind ≤ 17 then v = mdV d
    else if d.kind = 18 then ∃ na nc fa fc, v = .iface 83 (.agg #[.int .i64 d.kind, .string d.ty, .int .i64 d.hook, .slice na d.names.length nc, .slice fa d.parts.length fc]) ∧ d.names.length ≤ nc ∧ nc ≤ maxLen ∧ d.parts.length ≤ fc ∧ fc ≤ maxLen ∧ StrsS S W na d.names ∧ Vals (VlC sr n S W) S W fa d.parts
    else if d.kind = 21 then ∃ fa fc, v = .iface 100 (.agg #[.int .i64 d.kind, .string d.ty, .int .i64 d.hook, .slice fa (sr d.parts).length fc]) ∧ (sr d.parts).length ≤ fc ∧ fc ≤ maxLen ∧ Ents (VlC sr n S W) S W fa (sr d.parts)
    else if d.kind = 22 then ∃ fa fc, v = .iface 85 (.agg #[.int .i64 d.kind, .string d.ty, .int .i64 d.hook, .int .u64 d.bits, .slice fa d.parts.length fc]) ∧ d.parts.length ≤ fc ∧ fc ≤ maxLen ∧ Vals (VlC sr n S W) S W fa d.parts
    else ∃ fa fc, v = .iface 96 (.agg #[.int .i64 d.kind, .string d.ty, .int .i64 d.hook, .slice fa d.parts.length fc]) ∧ d.parts.length ≤ fc ∧ fc ≤ maxLen ∧ Vals (VlC sr n S W) S W fa d.parts
/-- What is kept from a world to another one: the blocks of which S holds. -/
def Kept (S S' : Nat → Prop) (W W' : World) : Prop := ∀ b, S b → b < W.heap.size → S' b ∧ ∀ o, W'.cell? ⟨b, o, none⟩ = W.cell? ⟨b, o, none⟩
theorem Kept.at {S S' : Nat → Prop} {W W' : World} (h : Kept S S' W W') {b o : Nat} {v : Value} (hs : S b) (hc : W.cell? ⟨b, o, none⟩ = some v) : S' b ∧ W'.cell? ⟨b, o, none⟩ = some v :=
  let ⟨h1, h2⟩ := h b hs (lt_of_cell hc); ⟨h1, (h2 o).trans hc⟩
theorem Vals.turn {R R' : Value → D → Prop} {S S' : Nat → Prop} {W W' : World} {a : Option Addr} {l : List D} (h : Vals R S W a l) (hk : Kept S S' W W') (hR : ∀ v y, R v y → R' v y) : Vals R' S' W' a l := by
  intro i y hy
  obtain ⟨b, off, t, u, h1, h2, h3, h4⟩ := h i y hy
  obtain ⟨k1, k2⟩ := hk.at h2 h3
  exact ⟨b, off, t, u, h1, k1, k2, hR _ _ h4⟩
theorem Ents.turn {R R' : Value → D → Prop} {S S' : Nat → Prop} {W W' : World} {a : Option Addr} {l : List (D × D)} (h : Ents R S W a l) (hk : Kept S S' W W') (hR : ∀ v y, R v y → R' v y) : Ents R' S' W' a l := by
  intro i y hy
  obtain ⟨b, off, t, u, t', u', h1, h2, h3, h4, h5, h6⟩ := h i y hy
  obtain ⟨k1, k2⟩ := hk.at h2 h3
  exact ⟨b, off, t, u, t', u', h1, k1, k2, (hk.at h2 h4).2, hR _ _ h5, hR _ _ h6⟩
theorem StrsS.turn {S S' : Nat → Prop} {W W' : World} {a : Option Addr} {l : List ByteArray} (h : StrsS S W a l) (hk : Kept S S' W W') : StrsS S' W' a l := by
  intro i y hy
  obtain ⟨b, off, h1, h2, h3⟩ := h i y hy
  obtain ⟨k1, k2⟩ := hk.at h2 h3
  exact ⟨b, off, h1, k1, k2⟩
theorem VlC.turn {sr : List D → List (D × D)} {S S' : Nat → Prop} {W W' : World} (hk : Kept S S' W W') : ∀ {n : Nat} {v : Value} {d : D}, VlC sr n S W v d → VlC sr n S' W' v d
  | 0, _, _, h => h
  | n + 1, v, d, h => by
    unfold VlC at h ⊢
    split at h
    · rw [if_pos (by assumption)]; exact h
    rw [if_neg (by assumption)]
    split at h
    · rw [if_pos (by assumption)]
      obtain ⟨na, nc, fa, fc, h1, h2, h3, h4, h5, h6, h7⟩ := h
      exact ⟨na, nc, fa, fc, h1, h2, h3, h4, h5, h6.turn hk, h7.turn hk fun v y => VlC.turn hk⟩
    rw [if_neg (by assumption)]
    split at h
    · rw [if_pos (by assumption)]
      obtain ⟨fa, fc, h1, h4, h5, h7⟩ := h
      exact ⟨fa, fc, h1, h4, h5, h7.turn hk fun v y => VlC.turn hk⟩
    rw [if_neg (by assumption)]
    split at h
    · rw [if_pos (by assumption)]
      obtain ⟨fa, fc, h1, h4, h5, h7⟩ := h
      exact ⟨fa, fc, h1, h4, h5, h7.turn hk fun v y => VlC.turn hk⟩
    rw [if_neg (by assumption)]
    obtain ⟨fa, fc, h1, h4, h5, h7⟩ := h
    exact ⟨fa, fc, h1, h4, h5, h7.turn hk fun v y => VlC.turn hk⟩
theorem Kept.below {S S' : Nat → Prop} {W W' : World} (h : Below W.heap.size W W') (hS : ∀ b, S b → b < W.heap.size → S' b) : Kept S S' W W' := fun b hb hl => ⟨hS b hb hl, fun o => h.cell hl⟩

/-- Of one descriptor: the outcome of made. -/
def MadeC (sr : List D → List (D × D)) (tw : D → Bool) (n : Nat) (W0 : World) (x : D) : Prop :=
  ∀ (nv pv : Value) (W : Cl W0), RdC n W0 nv pv x → Calls Tryd.prog 26 #[DV x nv pv] W.w fun e W' => Below W.w.heap.size W.w W' ∧
    ((tw x = false ∧ ∃ t y, e = .returned (.iface t y) ∧ VlC sr n (fun b => W.w.heap.size ≤ b) W' (.iface t y) x) ∨ (tw x = true ∧ e = .panicked (PE 5)))
theorem own_ge8 {w : World} {B : Nat} {e : TypeId} {ao : Option Addr} {n c : Nat} {us : List Value} (h : w.ownsRow B e 1 (.slice ao n c) n us) : ∀ k, Value.ownBlock (.slice ao n c) = some k → B ≤ k := by
  intro k hk
  rcases h.2 with ⟨h1, -⟩ | ⟨g, cap, cur, h1, hB, -⟩
  · cases h1; cases hk
  · cases h1
    have : g = k := Option.some.inj hk
    omega
theorem own_lt8 {w : World} {B : Nat} {e : TypeId} {ao : Option Addr} {n c : Nat} {us : List Value} (h : w.ownsRow B e 1 (.slice ao n c) n us) : ∀ k, Value.ownBlock (.slice ao n c) = some k → k < w.heap.size := by
  intro k hk
  rcases h.2 with ⟨h1, -⟩ | ⟨g, cap, cur, h1, hB, hg, -⟩
  · cases h1; cases hk
  · cases h1
    have : g = k := Option.some.inj hk
    have := (Array.getElem?_eq_some_iff.1 hg).1
    omega
theorem own_up8 {w w' : World} {B : Nat} {e : TypeId} {v : Value} {n : Nat} {us : List Value} (h : w.ownsRow B e 1 v n us) (b : Below w.heap.size w w') : w'.ownsRow B e 1 v n us := by
  refine ⟨h.1, ?_⟩
  rcases h.2 with h1 | ⟨g, cap, cur, h1, hB, hg, k⟩
  · exact .inl h1
  · exact .inr ⟨g, cap, cur, h1, hB, (b.block g (Array.getElem?_eq_some_iff.1 hg).1).trans hg, k⟩
theorem own_slice8 {w : World} {B : Nat} {e : TypeId} {v : Value} {n : Nat} {us : List Value} (h : w.ownsRow B e 1 v n us) : ∃ ao c, v = .slice ao n c ∧ n ≤ c ∧ c ≤ maxLen := by
  rcases h.2 with ⟨h1, rfl⟩ | ⟨g, cap, cur, h1, hB, hg, k1, k2, -⟩
  · exact ⟨none, 0, h1, Nat.le_refl _, Nat.zero_le _⟩
  · exact ⟨_, cap, h1, k1, k2⟩
end Go.Proofs.YtjphklhfigammaaDoor
