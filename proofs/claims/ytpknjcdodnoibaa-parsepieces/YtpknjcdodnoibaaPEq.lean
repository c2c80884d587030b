/- Two pieces that are the same are equal, as the program finds. -/
import Derived.Test.YtpknjcdodnoibaaPLive
namespace Go.Proofs.Ytpknjcdodnoibaa
open Go.RowKit
set_option linter.unusedVariables false
set_option linter.unusedSimpArgs false
set_option maxRecDepth 100000 in
set_option maxHeartbeats 1000000 in
theorem eq20 (k : Nat) (t : ByteArray) (f : Fl) (sz : Int) (v : Nat) (a b : Nb) (x : Ix) (w : World) :
    (binOp .eql 40 (.agg (pieceV k t f sz v a b x).toArray) (.agg (pieceV k t f sz v a b x).toArray)).run Try.prog w = .ok (.bool true) w := by
  simp [go_sem, pieceV]
/-- A piece is loaded out of a row, where a guard lets it. -/
theorem wpl_load20g {ops : Array Oper} {rest : List Oper} {op : Oper} {a : Act} {w : World} {Q : Exit → Act → World → Prop} (hw : Region.wanted op (yielded ops a.tmps) = true) (x : Operand) (ho : op.op = .load 40 x) {B o : Nat} {vs : List Value}
    (hx : a.eval x = .pointer (some ⟨B, o, none⟩)) (hB : w.rangeAt B o vs) (hl : vs.length = 20)
    (h : wpList Try.prog ops Q rest (a.put op.dst (.agg vs.toArray)) w) : wpList Try.prog ops Q (op :: rest) a w := by
  obtain ⟨d, h1, h2⟩ := isrow20
  exact wpList_step fun K hK => by
    rw [if_pos hw]
    exact wp_load_mid 40 x ho B o hx vs d hB h1 h2 (by rw [hl]; exact info20) (hK _ _ h)
end Go.Proofs.Ytpknjcdodnoibaa
