/- ZLit, ZFmt, RRune, ABad, BExtra, ZExt, ZList, DAsk, DTree, VVal: these texts in one. -/
import Derived.Test.YtiagjheifblkiaaGreatDoorPt14
import Derived.Test.YtiagjheifblkiaaGreatDoorPt1
import Derived.Test.YtiagjheifblkiaaGreatDoorPt2
import Derived.Test.YtiagjheifblkiaaGreatDoorShelf
import Derived.Handy
import Derived.Deep.RegionHeld
import Derived.Deep.LoopGhost
import Derived.Deep.RegionWith
import Derived.Deep.DeepCutAuto
import Derived.Deep.CutBlock
import Derived.Maps.AppendAt
import Derived.OwnWalk
import Derived.Test.YtiagjheifblkiaaGreatDoorVMade
import Derived.Test.YtiagjheifblkiaaGreatDoorVBuild
import Derived.WalkSmall
namespace Go.Proofs.YtiagjheifblkiaaGreatDoor
open Go.RowKit
set_option linter.unusedVariables false
set_option linter.unusedSimpArgs false
end Go.Proofs.YtiagjheifblkiaaGreatDoor
namespace Go.Proofs.YtiagjheifblkiaaGreatDoor
open Go.RowKit
set_option linter.unusedVariables false
set_option linter.unusedSimpArgs false
theorem zero_pc (w : World) : (zeroValue 204).run Tryz.prog w = .ok (.agg (pieceV 0 ⟨#[]⟩ fl0 0 0 nb0 nb0 ix0).toArray) w := by kernel_rfl
def noIx (p : Pc) : Prop := p.arg.k = 0 ∧ p.wid.a.k = 0 ∧ p.prec.a.k = 0
end Go.Proofs.YtiagjheifblkiaaGreatDoor
namespace Go.Proofs.YtiagjheifblkiaaGreatDoor
open Go.RowKit
end Go.Proofs.YtiagjheifblkiaaGreatDoor
namespace Go.Proofs.YtiagjheifblkiaaGreatDoor
open Go.RowKit
set_option linter.unusedVariables false
set_option linter.unusedSimpArgs false
def bT (V L : List UInt8) : ByteArray := ⟨([37, 33] ++ V ++ [40] ++ L ++ [41]).toArray⟩
end Go.Proofs.YtiagjheifblkiaaGreatDoor
namespace Go.Proofs.YtiagjheifblkiaaGreatDoor
open Go.RowKit
set_option linter.unusedVariables false
set_option linter.unusedSimpArgs false
end Go.Proofs.YtiagjheifblkiaaGreatDoor
namespace Go.Proofs.YtiagjheifblkiaaGreatDoor
open Go.RowKit
set_option linter.unusedVariables false
set_option linter.unusedSimpArgs false
end Go.Proofs.YtiagjheifblkiaaGreatDoor
namespace Go.Proofs.YtiagjheifblkiaaGreatDoor
open Go.RowKit
set_option linter.unusedVariables false
set_option linter.unusedSimpArgs false
structure It where
 t : TypeId
 x : Value
 k : Int
 T : ByteArray
abbrev It.v (q : It) : Value := .iface q.t q.x
theorem En.arg {w : World} {g C M A n c : Nat} {l : List UInt8} {dp : Int} {vs : List Value} {nx : Int} (h : En w g C M l dp (.slice (some ⟨A, 0, none⟩) n c) vs nx) {j : Nat} {u : Value} (hj : vs[j]? = some u) : w.cell? ⟨A, j, none⟩ = some u := by
 obtain ⟨a, c', e, h1, h2, ha⟩ := h.a
 injection e with e1 e2 e3
 obtain ⟨A', rfl, -, hc⟩ := ha j u hj
 injection e1 with e1
 injection e1 with e1
 subst e1
 exact hc
end Go.Proofs.YtiagjheifblkiaaGreatDoor
namespace Go.Proofs.YtiagjheifblkiaaGreatDoor
open Go.RowKit
set_option linter.unusedVariables false
set_option linter.unusedSimpArgs false
end Go.Proofs.YtiagjheifblkiaaGreatDoor
namespace Go.Proofs.YtiagjheifblkiaaGreatDoor
open Go.RowKit
set_option linter.unusedVariables false
set_option linter.unusedSimpArgs false
end Go.Proofs.YtiagjheifblkiaaGreatDoor
namespace Go.Proofs.YtiagjheifblkiaaGreatDoor
open Go.RowKit
set_option linter.unusedVariables false
def nodes : D → List D
 | ⟨kind, ty, bits, imag, text, names, parts, hook⟩ => ⟨kind, ty, bits, imag, text, names, parts, hook⟩ :: (if great kind then parts.flatMap fun x => nodes x else [])
def Vals (R : Value → D → Prop) (S : Nat → Prop) (W : World) (a : Option Addr) (l : List D) : Prop :=
 ∀ (i : Nat) (y : D), l[i]? = some y → ∃ b off t u, a = some ⟨b, off, none⟩ ∧ S b ∧ W.cell? ⟨b, off + i, none⟩ = some (.iface t u) ∧ R (.iface t u) y
def StrsS (S : Nat → Prop) (W : World) (a : Option Addr) (l : List ByteArray) : Prop :=
 ∀ (i : Nat) (s : ByteArray), l[i]? = some s → ∃ b off, a = some ⟨b, off, none⟩ ∧ S b ∧ W.cell? ⟨b, off + i, none⟩ = some (.string s)
def Ents (R : Value → D → Prop) (S : Nat → Prop) (W : World) (a : Option Addr) (l : List (D × D)) : Prop :=
 ∀ (i : Nat) (p : D × D), l[i]? = some p → ∃ b off t u t' u', a = some ⟨b, off, none⟩ ∧ S b ∧ W.cell? ⟨b, off + i * 2, none⟩ = some (.iface t u) ∧ W.cell? ⟨b, off + i * 2 + 1, none⟩ = some (.iface t' u') ∧ R (.iface t u) p.1 ∧ R (.iface t' u') p.2
def VlC (sr : List D → List (D × D)) : Nat → (Nat → Prop) → World → Value → D → Prop
 | 0, _, _, _, _ => False
 | n + 1, S, W, v, d =>
   if d.kind ≤ 17 then v = mdV d
   else if d.kind = 18 then ∃ na nc fa fc, v = .iface 257 (.agg #[.int .i64 d.kind, .string d.ty, .int .i64 d.hook, .slice na d.names.length nc, .slice fa d.parts.length fc]) ∧ d.names.length ≤ nc ∧ nc ≤ maxLen ∧ d.parts.length ≤ fc ∧ fc ≤ maxLen ∧ StrsS S W na d.names ∧ Vals (VlC sr n S W) S W fa d.parts
   else if d.kind = 21 then ∃ fa fc, v = .iface 263 (.agg #[.int .i64 d.kind, .string d.ty, .int .i64 d.hook, .slice fa (sr d.parts).length fc]) ∧ (sr d.parts).length ≤ fc ∧ fc ≤ maxLen ∧ Ents (VlC sr n S W) S W fa (sr d.parts)
   else if d.kind = 22 then ∃ fa fc, v = .iface 265 (.agg #[.int .i64 d.kind, .string d.ty, .int .i64 d.hook, .int .u64 d.bits, .slice fa d.parts.length fc]) ∧ d.parts.length ≤ fc ∧ fc ≤ maxLen ∧ Vals (VlC sr n S W) S W fa d.parts
   else ∃ fa fc, v = .iface 259 (.agg #[.int .i64 d.kind, .string d.ty, .int .i64 d.hook, .slice fa d.parts.length fc]) ∧ d.parts.length ≤ fc ∧ fc ≤ maxLen ∧ Vals (VlC sr n S W) S W fa d.parts
def Kept (S S' : Nat → Prop) (W W' : World) : Prop := ∀ b, S b → b < W.heap.size → S' b ∧ ∀ o, W'.cell? ⟨b, o, none⟩ = W.cell? ⟨b, o, none⟩
theorem Kept.at {S S' : Nat → Prop} {W W' : World} (h : Kept S S' W W') {b o : Nat} {v : Value} (hs : S b) (hc : W.cell? ⟨b, o, none⟩ = some v) : S' b ∧ W'.cell? ⟨b, o, none⟩ = some v :=
 let ⟨h1, h2⟩ := h b hs (lt_of_cell hc); ⟨h1, (h2 o).trans hc⟩
theorem Vals.turn {R R' : Value → D → Prop} {S S' : Nat → Prop} {W W' : World} {a : Option Addr} {l : List D} (h : Vals R S W a l) (hk : Kept S S' W W') (hR : ∀ v y, R v y → R' v y) : Vals R' S' W' a l := by
 intro i y hy
 obtain ⟨b, off, t, u, h1, h2, h3, h4⟩ := h i y hy
 obtain ⟨k1, k2⟩ := hk.at h2 h3
 exact ⟨b, off, t, u, h1, k1, k2, hR _ _ h4⟩
theorem Ents.turn {R R' : Value → D → Prop} {S S' : Nat → Prop} {W W' : World} {a : Option Addr} {l : List (D × D)} (h : Ents R S W a l) (hk : Kept S S' W W') (hR : ∀ v y, R v y → R' v y) : Ents R' S' W' a l := by
 intro i y hy
 obtain ⟨b, off, t, u, t', u', h1, h2, h3, h4, h5, h6⟩ := h i y hy
 obtain ⟨k1, k2⟩ := hk.at h2 h3
 exact ⟨b, off, t, u, t', u', h1, k1, k2, (hk.at h2 h4).2, hR _ _ h5, hR _ _ h6⟩
theorem StrsS.turn {S S' : Nat → Prop} {W W' : World} {a : Option Addr} {l : List ByteArray} (h : StrsS S W a l) (hk : Kept S S' W W') : StrsS S' W' a l := by
 intro i y hy
 obtain ⟨b, off, h1, h2, h3⟩ := h i y hy
 obtain ⟨k1, k2⟩ := hk.at h2 h3
 exact ⟨b, off, h1, k1, k2⟩
theorem VlC.turn {sr : List D → List (D × D)} {S S' : Nat → Prop} {W W' : World} (hk : Kept S S' W W') : ∀ {n : Nat} {v : Value} {d : D}, VlC sr n S W v d → VlC sr n S' W' v d
 | 0, _, _, h => h
 | n + 1, v, d, h => by
   unfold VlC at h ⊢
   split at h
   ·rw [if_pos (by assumption)]; exact h
   rw [if_neg (by assumption)]
   split at h
   ·rw [if_pos (by assumption)]
    obtain ⟨na, nc, fa, fc, h1, h2, h3, h4, h5, h6, h7⟩ := h
    exact ⟨na, nc, fa, fc, h1, h2, h3, h4, h5, h6.turn hk, h7.turn hk fun v y => VlC.turn hk⟩
   rw [if_neg (by assumption)]
   split at h
   ·rw [if_pos (by assumption)]
    obtain ⟨fa, fc, h1, h4, h5, h7⟩ := h
    exact ⟨fa, fc, h1, h4, h5, h7.turn hk fun v y => VlC.turn hk⟩
   rw [if_neg (by assumption)]
   split at h
   ·rw [if_pos (by assumption)]
    obtain ⟨fa, fc, h1, h4, h5, h7⟩ := h
    exact ⟨fa, fc, h1, h4, h5, h7.turn hk fun v y => VlC.turn hk⟩
   rw [if_neg (by assumption)]
   obtain ⟨fa, fc, h1, h4, h5, h7⟩ := h
   exact ⟨fa, fc, h1, h4, h5, h7.turn hk fun v y => VlC.turn hk⟩
theorem Kept.below {S S' : Nat → Prop} {W W' : World} (h : Below W.heap.size W W') (hS : ∀ b, S b → b < W.heap.size → S' b) : Kept S S' W W' := fun b hb hl => ⟨hS b hb hl, fun o => h.cell hl⟩
theorem own_ge8 {w : World} {B : Nat} {e : TypeId} {ao : Option Addr} {n c : Nat} {us : List Value} (h : w.ownsRow B e 1 (.slice ao n c) n us) : ∀ k, Value.ownBlock (.slice ao n c) = some k → B ≤ k := by
 intro k hk
 rcases h.2 with ⟨h1, -⟩ | ⟨g, cap, cur, h1, hB, -⟩
 ·cases h1; cases hk
 ·cases h1
  have : g = k := Option.some.inj hk
  omega
theorem own_lt8 {w : World} {B : Nat} {e : TypeId} {ao : Option Addr} {n c : Nat} {us : List Value} (h : w.ownsRow B e 1 (.slice ao n c) n us) : ∀ k, Value.ownBlock (.slice ao n c) = some k → k < w.heap.size := by
 intro k hk
 rcases h.2 with ⟨h1, -⟩ | ⟨g, cap, cur, h1, hB, hg, -⟩
 ·cases h1; cases hk
 ·cases h1
  have : g = k := Option.some.inj hk
  have := (Array.getElem?_eq_some_iff.1 hg).1
  omega
theorem own_up8 {w w' : World} {B : Nat} {e : TypeId} {v : Value} {n : Nat} {us : List Value} (h : w.ownsRow B e 1 v n us) (b : Below w.heap.size w w') : w'.ownsRow B e 1 v n us := by
 refine ⟨h.1, ?_⟩
 rcases h.2 with h1 | ⟨g, cap, cur, h1, hB, hg, k⟩
 ·exact .inl h1
 ·exact .inr ⟨g, cap, cur, h1, hB, (b.block g (Array.getElem?_eq_some_iff.1 hg).1).trans hg, k⟩
theorem own_slice8 {w : World} {B : Nat} {e : TypeId} {v : Value} {n : Nat} {us : List Value} (h : w.ownsRow B e 1 v n us) : ∃ ao c, v = .slice ao n c ∧ n ≤ c ∧ c ≤ maxLen := by
 rcases h.2 with ⟨h1, rfl⟩ | ⟨g, cap, cur, h1, hB, hg, k1, k2, -⟩
 ·exact ⟨none, 0, h1, Nat.le_refl _, Nat.zero_le _⟩
 ·exact ⟨_, cap, h1, k1, k2⟩
end Go.Proofs.YtiagjheifblkiaaGreatDoor
