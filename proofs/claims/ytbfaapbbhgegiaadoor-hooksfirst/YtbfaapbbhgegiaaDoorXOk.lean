/- Which descriptors can be read: the memory that their lists lie in. -/
import Derived.Test.YtbfaapbbhgegiaaDoorXRow
namespace Go.Proofs.YtbfaapbbhgegiaaDoor
open Go.RowKit
set_option linter.unusedVariables false

/-- A list of n things of s cells each, that can be read: none is there, or they lie in one block; at each place one for which Q holds. -/
def LsOk (W : World) (s : Nat) (Q : Nat → Nat → Prop) (l : Sl) : Prop := l.n ≤ l.c ∧ l.c ≤ maxLen ∧ ((l.a = none ∧ l.n = 0 ∧ l.c = 0) ∨ (l.a ≠ none ∧ l.n = 0) ∨ (0 < l.n ∧ ∃ b off, l.a = some ⟨b, off, none⟩ ∧ b < W.heap.size ∧ ∀ i, i < l.n → Q b (off + i * s)))
def NsOk (W : World) (l : Sl) : Prop := LsOk W 1 (fun b o => ∃ t : ByteArray, W.cell? ⟨b, o, none⟩ = some (.string t)) l
/-- A descriptor that can be read, m deep. -/
def DsOk : Nat → World → Ds → Prop
  | 0, _, _ => False
  | m + 1, W, d => NsOk W d.ns ∧ LsOk W 8 (fun b o => ∃ e : Ds, W.rangeAt b o e.v ∧ DsOk m W e) d.ps
def PsOk (m : Nat) (W : World) (l : Sl) : Prop := LsOk W 8 (fun b o => ∃ e : Ds, W.rangeAt b o e.v ∧ DsOk m W e) l
/-- Numbers within their bounds. -/
def AcOk (m : Nat) (W : World) (x : Ac) : Prop := PsOk m W x.l ∧ DsOk m W x.p ∧ x.t.size ≤ maxLen ∧ x.f.size ≤ maxLen ∧ x.p.tx.size ≤ maxLen
def HkOk (m : Nat) (W : World) (h : Hk) : Prop := AcOk m W h.a ∧ AcOk m W h.b ∧ AcOk m W h.c ∧ AcOk m W h.d
end Go.Proofs.YtbfaapbbhgegiaaDoor
