/- (The top laws: five listed variables, two of them pinned.) What the walks read of them; a start in which they lie. -/
import Derived.Test.YtdlnmnipnkeabaaGreatDoorRows
import Derived.Test.YtdlnmnipnkeabaaGreatDoorPt10
import Derived.Test.YtdlnmnipnkeabaaGreatDoorPt4
import Derived.WalkKit
import Derived.ProofKit
import Derived.LaidMore
import Derived.Lay
import Derived.OpenShut
import Derived.Stop.Joined
namespace Go.Proofs.YtdlnmnipnkeabaaGreatDoor
open Go.ChangeShapes Go.WideShapes Go.ChangeAt Go.RowKit
theorem laid.own : ownKnob Tryz.prog.godebug = none := by kernel_rfl
theorem laid.tEsc : (Tryz.prog.globals[2]?).map (·.type) = some 306 := by kernel_rfl
theorem laid.door_met (os : Os) (args : Array Value) : laidMetH Tryz.prog Rows.topNilRow.laid ((World.laidAll Tryz.prog os Rows.topNilRow.laid).forCall (fun _ _ => 0) ⟨#[], args, []⟩).memory := by
 rw [MakeChecks.laidMetH_plain _ _ _ (by kernel_rfl)]
 exact laidMet_laidAll _ (by kernel_rfl) (by kernel_rfl)
theorem kn_of {W : World} (h : laidMetH Tryz.prog Rows.topNilRow.laid W) : KN W := by
 rw [MakeChecks.laidMetH_plain _ _ _ (by kernel_rfl)] at h
 obtain ⟨ps, ⟨_, _, _, _, _, _, _, _, _, _, ⟨g', t', cs, fuel, p, q, hg', ht', hvar, hd, _, _⟩, _⟩, _, _⟩ := h
 have hg : Tryz.prog.globalNamed "platen/values.kindNames" = some 1 := by kernel_rfl
 have hty : (Tryz.prog.globals[1]?).map (·.type) = some 149 := by kernel_rfl
 obtain rfl := Option.some.inj (hg.symm.trans hg')
 obtain rfl := Option.some.inj (hty.symm.trans ht')
 obtain ⟨xs, m, -, hx, -, hxl, hf⟩ := DataW.trod_array Tryz.underlying149 hd
 have hce : Tryz.prog.cellsOf 9 = 1 := by kernel_rfl
 intro i s hs
 have hi : i < 23 := by
  have := (List.getElem?_eq_some_iff.1 hs).1
  simpa [kindN] using this
 have hfi := hf i hi
 obtain ⟨y, hy⟩ : ∃ y, xs[i]? = some y := ⟨xs[i]'(by omega), List.getElem?_eq_getElem (by omega)⟩
 rw [hy, hce, Nat.mul_one] at hfi
 obtain ⟨s', hc, hy1, -⟩ := DataW.trod_string Tryz.underlying9 hfi
 have hlist : xs.map (·.1) = kindN.map fun s => (DataW.lit (.string s.data.toList) : DataW Unit) := by
  have h1 : (DataW.agg (kindN.map fun s => (DataW.lit (.string s.data.toList) : DataW Unit)) : DataW Unit) = .agg (xs.map (·.1)) := congrArg Prod.fst hx
  exact (DataW.agg.inj h1).symm
 have h2 : (xs.map (·.1))[i]? = some y.1 := by rw [List.getElem?_map, hy]; rfl
 rw [hlist, List.getElem?_map, hs] at h2
 have h3 : (DataW.lit (.string s.data.toList) : DataW Unit) = y.1 := Option.some.inj h2
 rw [hy1] at h3
 have h4 : s.data.toList = s'.data.toList := Lit.string.inj (DataW.lit.inj h3)
 have h5 : s = s' := by
  obtain ⟨⟨a⟩⟩ := s
  obtain ⟨⟨b⟩⟩ := s'
  simp only at h4
  rw [h4]
 have h6 : cs[i]? = some (.string s') := by
  have := congrArg (·[0]?) hc
  simpa [List.getElem?_take, List.getElem?_drop] using this
 rw [World.var?_cell hg hvar i, h6, h5]
theorem laid.room {W : World} {p : Addr} {v : Value} (h : W.cell? p = some v) : p.block < W.heap.size := by
 rcases Nat.lt_or_ge p.block W.heap.size with h1 | h1
 ·exact h1
 ·simp [World.cell?, Array.getElem?_eq_none h1] at h
theorem laid.get (l : List Value) (i : Nat) (v : Value) (h : (l.drop i).take 1 = [v]) : l[i]? = some v := by
 have h2 := congrArg (fun x => x[0]?) h
 simpa [List.getElem?_take, List.getElem?_drop] using h2
set_option maxRecDepth 1000000 in
theorem esc_of {W : World} (h : laidMetH Tryz.prog Rows.topNilRow.laid W) : Esc W := by
 rw [MakeChecks.laidMetH_plain _ _ _ (by kernel_rfl)] at h
 obtain ⟨ps, ⟨_, _, _, _, _, _, _, _, _, _, ⟨_, _, _, _, _, _, _, _, _, _, ⟨g0, t0, cs0, f0, p0, q0, hg0, ht0, hv0, hd0, _, _⟩, _⟩, _⟩, _, _⟩ := h
 obtain rfl : 2 = g0 := Option.some.inj (Eq.trans (Eq.symm (by kernel_rfl)) hg0)
 obtain rfl := Option.some.inj (laid.tEsc.symm.trans ht0)
 obtain ⟨xs, m1, rfl, hx1, hlen, hn, hel⟩ := DataW.trod_array Tryz.underlying306 hd0
 have c1 : Tryz.prog.cellsOf 21 = 1 := by kernel_rfl
 have c7 : Tryz.prog.cellsOf 306 = 7 := by kernel_rfl
 simp only [Prod.mk.injEq, Rows.laid_platen_quote_escapes, DataW.agg.injEq] at hx1
 have key : ∀ i, i < 7 → W.cell? ⟨2, i, none⟩ = some (.int .i32 (escT i : Nat)) := by
  intro i hi
  have hcell := World.var?_cell hg0 hv0 i
  have h0 := hel i hi
  have hx : ∃ x, xs[i]? = some x ∧ x.1 = .lit (.int .i32 (escT i : Nat)) := by
   match xs, hn, hx1 with
   | [x0, x1, x2, x3, x4, x5, x6], _, hx1 =>
     simp only [List.map_cons, List.map_nil, List.cons.injEq] at hx1
     obtain ⟨⟨e0, e1, e2, e3, e4, e5, e6, -⟩, -⟩ := hx1
     match i, hi with
     | 0, _ => exact ⟨x0, rfl, e0.symm⟩
     | 1, _ => exact ⟨x1, rfl, e1.symm⟩
     | 2, _ => exact ⟨x2, rfl, e2.symm⟩
     | 3, _ => exact ⟨x3, rfl, e3.symm⟩
     | 4, _ => exact ⟨x4, rfl, e4.symm⟩
     | 5, _ => exact ⟨x5, rfl, e5.symm⟩
     | 6, _ => exact ⟨x6, rfl, e6.symm⟩
     | n + 7, hi => omega
  obtain ⟨x, hxi, hxv⟩ := hx
  rw [hxi, c1, Nat.mul_one] at h0
  obtain ⟨k, f1, f2, _⟩ := DataW.trod_int Tryz.underlying21 h0
  rw [f2] at hxv
  have hk : k = (escT i : Nat) := by simpa using hxv
  rw [hk] at f1
  rw [hcell]
  have := laid.get _ _ _ f1
  simpa using this
 exact ⟨laid.room (key 0 (by omega)), key⟩
end Go.Proofs.YtdlnmnipnkeabaaGreatDoor
