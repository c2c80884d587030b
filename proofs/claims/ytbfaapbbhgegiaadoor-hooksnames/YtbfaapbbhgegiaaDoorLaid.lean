/- From the row's listed variable to the table of letters as the walks want it. -/
import Derived.Test.YtbfaapbbhgegiaaDoorRows
import Derived.Test.YtbfaapbbhgegiaaDoorInq
import Derived.WalkKit
import Derived.ProofKit
import Derived.LaidMore
import Derived.OpenShut
import Derived.Stop.Joined
namespace Go.Proofs.YtbfaapbbhgegiaaDoor
open Go.ChangeShapes Go.WideShapes Go.ChangeAt Go.RowKit

theorem laid.own : ownKnob Tryd.prog.godebug = none := by kernel_rfl
theorem laid.tEsc : (Tryd.prog.globals[0]?).map (·.type) = some 116 := by kernel_rfl
/-- The door's own heap meets the condition. -/
theorem laid.door_met (os : Os) (args : Array Value) : laidMetH Tryd.prog Rows.hooksWhichRow.laid ((World.doorLaid Tryd.prog 400 os).forCall (fun _ _ => 0) ⟨#[], args, []⟩).memory :=
  laidMetH_of_parts3 (fuel := 8) (laidMet_of_run' 8 (by kernel_rfl) (by kernel_rfl)) (by kernel_rfl) (by kernel_rfl)
theorem laid.room {W : World} {p : Addr} {v : Value} (h : W.cell? p = some v) : p.block < W.heap.size := by
  rcases Nat.lt_or_ge p.block W.heap.size with h1 | h1
  · exact h1
  · simp [World.cell?, Array.getElem?_eq_none h1] at h
theorem laid.get (l : List Value) (i : Nat) (v : Value) (h : (l.drop i).take 1 = [v]) : l[i]? = some v := by
  have h2 := congrArg (fun x => x[0]?) h
  simpa [List.getElem?_take, List.getElem?_drop] using h2
set_option maxRecDepth 100000 in
theorem laid.esc {W : World} (h : laidMetH Tryd.prog Rows.hooksWhichRow.laid W) : Esc W := by
  rw [MakeChecks.laidMetH_plain _ _ _ (by kernel_rfl)] at h
  obtain ⟨ps, ⟨g0, t0, cs0, f0, p0, q0, hg0, ht0, hv0, hd0, _, _⟩, _, _⟩ := h
  obtain rfl : 0 = g0 := Option.some.inj (Eq.trans (Eq.symm (by kernel_rfl)) hg0)
  obtain rfl := Option.some.inj (laid.tEsc.symm.trans ht0)
  obtain ⟨xs, m1, rfl, hx1, hlen, hn, hel⟩ := DataW.trod_array Tryd.underlying116 hd0
  have c1 : Tryd.prog.cellsOf 21 = 1 := by kernel_rfl
  have c7 : Tryd.prog.cellsOf 116 = 7 := by kernel_rfl
  simp only [Prod.mk.injEq, Rows.laid_platen_quote_escapes, DataW.agg.injEq] at hx1
  have key : ∀ i, i < 7 → W.cell? ⟨0, i, none⟩ = some (.int .i32 (escT i : Nat)) := by
    intro i hi
    have hcell := World.var?_cell hg0 hv0 i
    have h0 := hel i hi
    have hx : ∃ x, xs[i]? = some x ∧ x.1 = .lit (.int .i32 (escT i : Nat)) := by
      match xs, hn, hx1 with
      | [x0, x1, x2, x3, x4, x5, x6], _, hx1 =>
        simp only [List.map_cons, List.map_nil, List.cons.injEq] at hx1
        obtain ⟨⟨e0, e1, e2, e3, e4, e5, e6, -⟩, -⟩ := hx1
        match i, hi with
        | 0, _ => exact ⟨x0, rfl, e0.symm⟩
        | 1, _ => exact ⟨x1, rfl, e1.symm⟩
        | 2, _ => exact ⟨x2, rfl, e2.symm⟩
        | 3, _ => exact ⟨x3, rfl, e3.symm⟩
        | 4, _ => exact ⟨x4, rfl, e4.symm⟩
        | 5, _ => exact ⟨x5, rfl, e5.symm⟩
        | 6, _ => exact ⟨x6, rfl, e6.symm⟩
        | n + 7, hi => omega
    obtain ⟨x, hxi, hxv⟩ := hx
    rw [hxi, c1, Nat.mul_one] at h0
    obtain ⟨k, f1, f2, _⟩ := DataW.trod_int Tryd.underlying21 h0
    rw [f2] at hxv
    have hk : k = (escT i : Nat) := by simpa using hxv
    rw [hk] at f1
    rw [hcell]
    have := laid.get _ _ _ f1
    simpa using this
  exact ⟨laid.room (key 0 (by omega)), key⟩
end Go.Proofs.YtbfaapbbhgegiaaDoor
