/- What a value of the type []string looks like when it can be read. -/
import Derived.Test.YtilgemppbiibkabRows
import Derived.Test.YtilgemppbiibkabBFew
import Derived.WalkKit
import Derived.ProofKit
import Derived.OpenShut
import Derived.Deep.Strs
namespace Go.Proofs.Ytilgemppbiibkab
open Go.ChangeShapes Go.WideShapes Go.ChangeAt Go.RowKit

theorem open_strsB {H : Type} {enc : TypeId × Value → H} {W : World} {a : Option Addr} {len cap : Nat} {d : DataW H} {p : List MemPlace}
    (h : DataW.Trod enc Try.prog W 0 (fun _ => true) true 39 (.slice a len cap) d p) : ∃ l : List ByteArray, l.length = len ∧ len ≤ maxLen ∧ SL W a l := by
  obtain ⟨fuel, hf⟩ := h
  rcases Deep.open_strs Try.underlying39 Try.underlying9 (by kernel_rfl) hf with ⟨hcs, _⟩ | ⟨x, l, c, m, Sx, hcs, _, hl, hm, hmm, _, hx⟩
  · simp [Value.cells] at hcs
    obtain ⟨rfl, rfl, rfl⟩ := hcs
    exact ⟨[], rfl, Nat.zero_le _, .inl rfl⟩
  · simp [Value.cells] at hcs
    obtain ⟨rfl, rfl, rfl⟩ := hcs
    have hmc : m = cap := by rw [hmm]; rfl
    refine ⟨(List.range len).map Sx, by simp, Nat.le_trans hl hm, ?_⟩
    by_cases h0 : len = 0
    · subst h0; exact .inl rfl
    · right
      obtain ⟨b, off, spot⟩ := x
      have c0 := (hx 0 (by omega)).1
      have hspot : spot = none := by simpa [Addr.add] using World.cell?_spot c0
      subst hspot
      have hb : b < W.heap.size := by
        have := World.block_lt_of_cell? W _ c0
        simpa [Addr.add] using this
      refine ⟨b, off, rfl, hb, fun k y hk => ?_⟩
      have hk' : k < len := by
        have := (List.getElem?_eq_some_iff.1 hk).1
        simpa using this
      have e : y = Sx k := by
        rw [List.getElem?_map, List.getElem?_range hk'] at hk
        exact (Option.some.inj hk).symm
      have := (hx k (by omega)).1
      rw [e]
      rw [show (⟨b, off, none⟩ : Addr).add k = ⟨b, off + k, none⟩ by unfold Addr.add; split <;> simp_all] at this
      exact this
end Go.Proofs.Ytilgemppbiibkab
