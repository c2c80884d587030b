/- (Layer 8: one listed variable, the table of the kinds' names.) What the walks read of it; a start in which it lies. -/
import Derived.Test.YtjphklhfigammaaDoorRows
import Derived.Test.YtjphklhfigammaaDoorVLives
import Derived.WalkKit
import Derived.ProofKit
import Derived.LaidMore
import Derived.Lay
import Derived.OpenShut
import Derived.Stop.Joined
namespace Go.Proofs.YtjphklhfigammaaDoor
open Go.ChangeShapes Go.WideShapes Go.ChangeAt Go.RowKit

theorem laid.own : ownKnob Tryd.prog.godebug = none := by kernel_rfl
/-- A start in which the listed variable lies meets the condition. -/
theorem laid.door_met (os : Os) (args : Array Value) : laidMetH Tryd.prog Rows.valuesBackRow.laid ((World.laidAll Tryd.prog os Rows.valuesBackRow.laid).forCall (fun _ _ => 0) ⟨#[], args, []⟩).memory := by
  rw [MakeChecks.laidMetH_plain _ _ _ (by kernel_rfl)]
  exact laidMet_laidAll _ (by kernel_rfl) (by kernel_rfl)
/-- The row's condition says that the table lies as the text lays it. -/
theorem kn_of {W : World} (h : laidMetH Tryd.prog Rows.valuesBackRow.laid W) : KN W := by
  rw [MakeChecks.laidMetH_plain _ _ _ (by kernel_rfl)] at h
  obtain ⟨ps, ⟨g', t', cs, fuel, p, q, hg', ht', hvar, hd, -, -⟩, -⟩ := h
  have hg : Tryd.prog.globalNamed "platen/values.kindNames" = some 0 := by kernel_rfl
  have hty : (Tryd.prog.globals[0]?).map (·.type) = some 55 := by kernel_rfl
  obtain rfl := Option.some.inj (hg.symm.trans hg')
  obtain rfl := Option.some.inj (hty.symm.trans ht')
  obtain ⟨xs, m, -, hx, -, hxl, hf⟩ := DataW.trod_array Tryd.underlying55 hd
  have hce : Tryd.prog.cellsOf 9 = 1 := by kernel_rfl
  intro i s hs
  have hi : i < 23 := by
    have := (List.getElem?_eq_some_iff.1 hs).1
    simpa [kindN] using this
  have hfi := hf i hi
  obtain ⟨y, hy⟩ : ∃ y, xs[i]? = some y := ⟨xs[i]'(by omega), List.getElem?_eq_getElem (by omega)⟩
  rw [hy, hce, Nat.mul_one] at hfi
  obtain ⟨s', hc, hy1, -⟩ := DataW.trod_string Tryd.underlying9 hfi
  have hlist : xs.map (·.1) = kindN.map fun s => (DataW.lit (.string s.data.toList) : DataW Unit) := by
    have h1 : (DataW.agg (kindN.map fun s => (DataW.lit (.string s.data.toList) : DataW Unit)) : DataW Unit) = .agg (xs.map (·.1)) := congrArg Prod.fst hx
    exact (DataW.agg.inj h1).symm
  have h2 : (xs.map (·.1))[i]? = some y.1 := by rw [List.getElem?_map, hy]; rfl
  rw [hlist, List.getElem?_map, hs] at h2
  have h3 : (DataW.lit (.string s.data.toList) : DataW Unit) = y.1 := Option.some.inj h2
  rw [hy1] at h3
  have h4 : s.data.toList = s'.data.toList := Lit.string.inj (DataW.lit.inj h3)
  have h5 : s = s' := by
    obtain ⟨⟨a⟩⟩ := s
    obtain ⟨⟨b⟩⟩ := s'
    simp only at h4
    rw [h4]
  have h6 : cs[i]? = some (.string s') := by
    have := congrArg (·[0]?) hc
    simpa [List.getElem?_take, List.getElem?_drop] using this
  rw [World.var?_cell hg hvar i, h6, h5]
end Go.Proofs.YtjphklhfigammaaDoor
