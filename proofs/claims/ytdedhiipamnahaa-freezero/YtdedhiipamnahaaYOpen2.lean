/- What a value of the type [2]int looks like when it can be read. -/
import Derived.Test.YtdedhiipamnahaaRows
import Derived.WalkKit
import Derived.ProofKit
import Derived.OpenShut
namespace Go.Proofs.Ytdedhiipamnahaa
open Go.ChangeShapes Go.WideShapes Go.ChangeAt Go.RowKit
set_option linter.unusedVariables false

theorem cells2I : Try.prog.cellsOf 3 = 1 := by kernel_rfl
theorem cells2 : Try.prog.cellsOf 49 = 2 := by kernel_rfl
theorem okWide_arr2 {n : Nat} {e t : TypeId} {P : Program} {w : World} {r : Reach} {base : Nat} {v : Value} (ht : P.underlying t = some (.array n e)) (h : Value.okWide P w r base t v) : ∃ cs, v = .agg cs ∧ cs.size = P.cellsOf t := by
  simp only [Value.okWide, ht] at h
  obtain ⟨cs, h1, h2, _⟩ := h
  exact ⟨cs, h1, h2⟩
set_option maxRecDepth 1000000 in
theorem open_int2 {H : Type} {enc : TypeId × Value → H} {W : World} {base : Nat} {v : Value} {d : DataW H} {p : List MemPlace}
    (hv : Value.okWide Try.prog W .any base 49 v) (h : DataW.Trod enc Try.prog W 0 (fun _ => true) true 49 v d p) :
    ∃ x0 x1 : Int, v = .agg #[.int .i64 x0, .int .i64 x1] := by
  obtain ⟨cs, rfl, hsz⟩ := okWide_arr2 Try.underlying49 hv
  obtain ⟨fuel, hf0⟩ := h
  obtain ⟨xs, m1, _, hx1, hlen, hn, hel⟩ := DataW.trod_array Try.underlying49 hf0
  obtain ⟨l⟩ := cs
  rw [cells2] at hsz
  match l, hsz with
  | [c0, c1], _ =>
    have get : ∀ (i : Nat) (c : Value), i < 2 → [c0, c1][i]? = some c → ∃ x : Int, c = .int .i64 x := by
      intro i c hi hc
      have h0 := hel i (by omega)
      rw [cells2I, Nat.mul_one] at h0
      have hxi : i < xs.length := by omega
      rw [List.getElem?_eq_getElem hxi] at h0
      obtain ⟨k, f1, _⟩ := DataW.trod_int Try.underlying3 h0
      have h2 := congrArg (fun x => x[0]?) f1
      simp [List.getElem?_drop, Value.cells, hc] at h2
      exact ⟨k, h2⟩
    obtain ⟨x0, rfl⟩ := get 0 c0 (by omega) rfl
    obtain ⟨x1, rfl⟩ := get 1 c1 (by omega) rfl
    exact ⟨x0, x1, rfl⟩
end Go.Proofs.Ytdedhiipamnahaa
