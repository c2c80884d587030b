/- The document's pieces, taken and stored at once. -/
import Derived.Test.YtpknjcdodnoibaaTWalkB
import Derived.Test.YtpknjcdodnoibaaRDecodeB
import Derived.Maps.AppendAt
import Derived.Laws.OwnMore
namespace Go.Proofs.Ytpknjcdodnoibaa
open Go.RowKit
set_option linter.unusedVariables false
set_option linter.unusedSimpArgs false

theorem info20d : (Try.prog.info? 34).map (·.size) = some 20 := by kernel_rfl
theorem isrow20d : ∃ d, Try.prog.underlying 34 = some d ∧ d.isRow = true := ⟨_, Try.underlying34, rfl⟩
/-- A piece is loaded. -/
theorem load20d {w : World} {B : Nat} {vs : List Value} (h : Bx w B vs) (hl : vs.length = 20) : (Instr.loadAt 34 (.pointer (some ⟨B, 0, none⟩))).run Try.prog w = .ok (.agg vs.toArray) w := by
  obtain ⟨d, h1, h2⟩ := isrow20d
  exact run_loadAt_mid w B 0 _ vs d h.range h1 h2 (by rw [hl]; exact info20d)
/-- A piece is stored. -/
theorem store20d {w : World} {B : Nat} {vs : List Value} (h : Bx w B vs) (hl : vs.length = 20) (us : List Value) (hu : us.length = 20) (h1 : ∀ v ∈ us, v.oneCell' = true) : (Instr.storeAt 34 (.pointer (some ⟨B, 0, none⟩)) (.agg us.toArray)).run Try.prog w = .ok () (w.setCells B 0 us) := by
  have := run_storeAt_mid (P := Try.prog) w B 0 34 us.toArray (by have := h.there; rw [hl] at this; simpa [hu] using this) (by simp [hu, info20d]) (all_oneCell_toArray h1)
  simpa using this
/-- A piece is the result. -/
theorem res20d {f : Func} (hr : f.results = #[.cell 2 34, .tmp 3]) {tmps : Array Value} {w : World} {B : Nat} {vs : List Value} (ht : tmps.getD 2 undef = .pointer (some ⟨B, 0, none⟩)) (h : Bx w B vs) (hl : vs.length = 20) : (results f tmps).run Try.prog w = .ok (.tuple #[.agg vs.toArray, tmps.getD 3 undef]) w := by
  obtain ⟨d, h1, h2⟩ := isrow20d
  have hL := run_loadVar_mid (P := Try.prog) w B 0 34 vs d h.range h1 h2 (by rw [hl]; exact info20d)
  have ht' : tmps[2]?.getD undef = .pointer (some ⟨B, 0, none⟩) := by simpa using ht
  simp [results, hr, ht', hL, asAddr]
/-- At the operation, for the walk. -/
theorem wpl_store20d {ops : Array Oper} {rest : List Oper} {op : Oper} {a : Act} {w : World} {Q : Exit → Act → World → Prop} (hgd : op.guard = none) (x y : Operand) (ho : op.op = .store 34 x y) {B : Nat} {vs us : List Value}
    (hx : a.eval x = .pointer (some ⟨B, 0, none⟩)) (hy : a.eval y = .agg us.toArray) (hB : Bx w B vs) (hl : vs.length = 20) (hu : us.length = 20) (h1 : ∀ v ∈ us, v.oneCell' = true)
    (h : wpList Try.prog ops Q rest (a.put op.dst undef) (w.setCells B 0 us)) : wpList Try.prog ops Q (op :: rest) a w := by
  refine wpList_store_mid hgd 34 x y ho B 0 us.toArray hx hy (by have := hB.there; rw [hl] at this; simpa [hu] using this) (by simp [hu, info20d]) (all_oneCell_toArray h1) ?_
  simpa using h
theorem wpl_load20d {ops : Array Oper} {rest : List Oper} {op : Oper} {a : Act} {w : World} {Q : Exit → Act → World → Prop} (hgd : op.guard = none) (x : Operand) (ho : op.op = .load 34 x) {B : Nat} {vs : List Value}
    (hx : a.eval x = .pointer (some ⟨B, 0, none⟩)) (hB : Bx w B vs) (hl : vs.length = 20)
    (h : wpList Try.prog ops Q rest (a.put op.dst (.agg vs.toArray)) w) : wpList Try.prog ops Q (op :: rest) a w := by
  obtain ⟨d, h1, h2⟩ := isrow20d
  exact wpList_load_mid hgd 34 x ho B 0 hx vs d hB.range h1 h2 (by rw [hl]; exact info20d) h
theorem build_open (w : World) : (Instr.build 34 #[(0, .int .i64 2)]).run Try.prog w = .ok (.agg (pieceV 2 ⟨#[]⟩ fl0 0 0 nb0 nb0 ix0).toArray) w := by kernel_rfl
theorem pv_oneT (k : Nat) (t : ByteArray) (f : Fl) (sz : Int) (v : Nat) (a b : Nb) (x : Ix) : ∀ u ∈ pieceV k t f sz v a b x, u.oneCell' = true := pv_one _ _ _ _ _ _ _ _
/-- On the way through the document's directive: the result's box, the piece's box. -/
structure Dst (w0 : World) (pv : List Value) (wr : World) : Prop where
  a : Bx wr w0.heap.size (pieceV 0 ⟨#[]⟩ fl0 0 0 nb0 nb0 ix0)
  p : Bx wr (w0.heap.size + 1) pv
  b : Below w0.heap.size w0 wr
theorem Dst.up {w0 : World} {pv : List Value} {w w' : World} (h : Dst w0 pv w) (hb : Below w.heap.size w w') : Dst w0 pv w' := ⟨h.a.up hb, h.p.up hb, h.b.trans (hb.mono h.b.size)⟩
theorem Dst.set {w0 : World} {pv : List Value} {w : World} (h : Dst w0 pv w) (i : Nat) (hi : i < pv.length) (v : Value) : Dst w0 (pv.set i v) (w.setCell ⟨w0.heap.size + 1, i, none⟩ v) :=
  ⟨h.a.other (by omega) v, h.p.set i hi v, h.b.setCell (by dsimp only; omega) v⟩
end Go.Proofs.Ytpknjcdodnoibaa
