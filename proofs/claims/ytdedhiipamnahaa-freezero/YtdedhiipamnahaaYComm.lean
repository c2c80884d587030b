/- A walk that meets a select with a default, in one goroutine: a body's walk for frames that are no early ones. -/
import Derived.Test.YtdedhiipamnahaaChecked
import Derived.WalkKit
import Derived.WalkSpells
import Derived.Conc.LoneSelect
namespace Go.Proofs.Ytdedhiipamnahaa
open Go.RowKit Go.Conc
set_option linter.unusedVariables false

/-- From this code, in whatever frame that is no early one, the machine of one arrives where Q holds. -/
def CN (P : Program) (c : Code) (Q : Exit → Act → World → Prop) (a : Act) (w : World) : Prop :=
  ∀ (b : Frame) (k : List Item) (cs : List Frame), b.kind ≠ .early → ∃ e a' w', Q e a' w' ∧ Arrives P (lone (b.at a (.code c :: k)) cs w) b k cs e a' w'

theorem CN.of_wp {P : Program} {c : Code} {Q : Exit → Act → World → Prop} {a : Act} {w : World} (h : c.wp P Q a w) : CN P c Q a w := fun b k cs _ => h b k cs
theorem CN.seq {P : Program} {x y : Code} {Q : Exit → Act → World → Prop} {a : Act} {w : World} (h : CN P x (Exit.then (CN P y Q) Q) a w) : CN P (.seq x y) Q a w := by
  intro b k cs hb
  obtain ⟨e, a', w', hq, hr⟩ := h b (.code y :: k) cs hb
  have hs : Steps P (lone (b.at a (.code (.seq x y) :: k)) cs w) (lone (b.at a (.code x :: .code y :: k)) cs w) := .one step_seq
  cases e with
  | normal =>
    obtain ⟨e2, a2, w2, hq2, hr2⟩ := hq b k cs hb
    exact ⟨e2, a2, w2, hq2, .of_steps (hs.trans hr) hr2⟩
  | exit id => exact ⟨_, a', w', hq, .of_steps hs (Arrives.pass rfl (fun _ _ => .inl (by simp)) hr)⟩
  | goto l => exact (by
      refine ⟨.goto l, a', w', hq, fun k' hk => ?_⟩
      by_cases hg : gotoIn l (Item.code y :: k) = some k'
      · exact hs.trans (hr k' hg)
      · exact absurd (by simpa [gotoIn] using hk) hg)
  | ret => exact ⟨_, a', w', hq, .of_steps hs hr⟩
  | panic chain => exact ⟨_, a', w', hq, .of_steps hs hr⟩
  | outgrown => exact ⟨_, a', w', hq, .of_steps hs hr⟩
theorem calls_of_CN {P : Program} {f : FuncId} {fn : Func} {c : Code} {args : Array Value} {w : World} {R : Ending → World → Prop} (hf : P.funcs[f]? = some fn) (hb : fn.body = some c)
    (h : CN P c (bodyPost P fn R) { tmps := args ++ Array.replicate (fn.ntmps - args.size) undef, defers := [] } w) : Calls P f args w R := by
  intro cs
  obtain ⟨e, a', w', hq, harr⟩ := h { (default : Frame) with fn := f, kind := .normal } [] cs (by simp)
  have henter : Frame.enter P f args .normal = Frame.at { (default : Frame) with fn := f, kind := .normal } { tmps := args ++ Array.replicate (fn.ntmps - args.size) undef, defers := [] } [.code c] := by
    simp [Frame.enter, Frame.at, hf, hb]
  rw [← henter] at harr
  cases e with
  | normal =>
    obtain ⟨hd, v, hr, hR⟩ := hq
    exact ⟨.returned v, w', _, hR, Steps.trans harr (.one step_end), rfl, rfl, hd, rfl, fn, hf, hr⟩
  | ret =>
    obtain ⟨hd, v, hr, hR⟩ := hq
    obtain ⟨todo, hs⟩ := harr
    exact ⟨.returned v, w', _, hR, hs, rfl, rfl, hd, rfl, fn, hf, hr⟩
  | panic chain =>
    obtain ⟨hd, hR⟩ := hq
    obtain ⟨todo, hs⟩ := harr
    exact ⟨.panicked chain, w', _, hR, hs, rfl, rfl, hd, fn, hf⟩
  | exit id => exact hq.elim
  | goto l => exact hq.elim
  | outgrown => exact ⟨.outgrown, w', { (default : Frame) with fn := f, kind := .normal }, hq, harr.resolve_left (by simp), rfl, trivial⟩

/-- A region whose first operation is a step of the machine's. -/
theorem CN.region {P : Program} {id : Nat} {o : Oper} {rest : List Oper} {Q : Exit → Act → World → Prop} {a a1 : Act} {w w1 : World}
    (hstep : ∀ (b : Frame) (k : List Item) (cs : List Frame) (is : List Nat), b.kind ≠ .early →
      step P (lone (b.at a (.inRegion (o :: rest).toArray (0 :: is) :: k)) cs w) = .next (lone (b.at a1 (.inRegion (o :: rest).toArray is :: k)) cs w1))
    (h : wpList P (o :: rest).toArray Q rest a1 w1) : CN P (.region id (o :: rest).toArray false) Q a w := by
  intro b k cs hb
  have h' : wpOps P (o :: rest).toArray Q (List.range' 1 rest.length) a1 w1 := by
    rw [wpOps_eq_wpList rest 1 (fun j => by rw [Nat.add_comm]; simp)]
    exact h
  obtain ⟨e, a', w', hq, hr⟩ := wp_ops _ a1 w1 h' b k cs
  refine ⟨e, a', w', hq, .of_steps (.one step_region) ?_⟩
  have hrange : List.range (o :: rest).toArray.size = 0 :: List.range' 1 rest.length := by
    simp [List.range_eq_range', List.range'_succ]
  rw [hrange]
  exact .of_steps (.one (hstep b k cs _ hb)) hr

section
variable {P : Program} {id : Nat} {o : Oper} {rest : List Oper} {Q : Exit → Act → World → Prop} {a : Act} {w : World} {c cap s r : Nat} {buf : Array Value} {z v : Value}

theorem CN.recv_some (hgd : o.guard = none) (hr : (execOp a.eval o).run P w = .ok (.comm #[rcase c z] false .select) w) (hc : w.heap[c]? = some (.chan cap buf false s r false)) (hb : 0 < buf.size)
    (h : wpList P (o :: rest).toArray Q rest (a.put o.dst (.tuple #[goInt 0, .bool true, buf.getD 0 undef])) (w.setChan c cap (buf.extract 1 buf.size) false s (r + 1) false)) : CN P (.region id (o :: rest).toArray false) Q a w := by
  refine CN.region (fun b k cs is hk => ?_) h
  have hs := step_lone_select_recv_buf (stepG_comm (P := P) (main := true) (b := b) (a := a) (k := k) (cs := cs) (w := w) (ops := (o :: rest).toArray) (i := 0) (rest := is) (o := o) rfl (by simp [Region.wanted, hgd]) hk hr) hc hb
  rw [Frame.finish_at] at hs
  exact hs
theorem CN.recv_none (hgd : o.guard = none) (hr : (execOp a.eval o).run P w = .ok (.comm #[rcase c z] false .select) w) (hc : w.heap[c]? = some (.chan cap #[] false s r false))
    (h : wpList P (o :: rest).toArray Q rest (a.put o.dst (.tuple #[goInt (-1), .bool false, z])) w) : CN P (.region id (o :: rest).toArray false) Q a w := by
  refine CN.region (fun b k cs is hk => ?_) h
  have hs := step_lone_select_default (stepG_comm (P := P) (main := true) (b := b) (a := a) (k := k) (cs := cs) (w := w) (ops := (o :: rest).toArray) (i := 0) (rest := is) (o := o) rfl (by simp [Region.wanted, hgd]) hk hr) hc
  rw [Frame.finish_at] at hs
  exact hs
theorem CN.send_room (hgd : o.guard = none) (hr : (execOp a.eval o).run P w = .ok (.comm #[scase c v z] false .select) w) (hc : w.heap[c]? = some (.chan cap buf false s r false)) (hb : buf.size < cap)
    (h : wpList P (o :: rest).toArray Q rest (a.put o.dst (.tuple #[goInt 0, .bool false])) (w.setChan c cap (buf.push v) false (s + 1) r false)) : CN P (.region id (o :: rest).toArray false) Q a w := by
  refine CN.region (fun b k cs is hk => ?_) h
  have hs := step_lone_select_send_room (stepG_comm (P := P) (main := true) (b := b) (a := a) (k := k) (cs := cs) (w := w) (ops := (o :: rest).toArray) (i := 0) (rest := is) (o := o) rfl (by simp [Region.wanted, hgd]) hk hr) hc hb
  rw [Frame.finish_at] at hs
  exact hs
theorem CN.send_full (hgd : o.guard = none) (hr : (execOp a.eval o).run P w = .ok (.comm #[scase c v z] false .select) w) (hc : w.heap[c]? = some (.chan cap buf false s r false)) (hb : cap ≤ buf.size)
    (h : wpList P (o :: rest).toArray Q rest (a.put o.dst (.tuple #[goInt (-1), .bool false])) w) : CN P (.region id (o :: rest).toArray false) Q a w := by
  refine CN.region (fun b k cs is hk => ?_) h
  have hs := step_lone_select_send_full (stepG_comm (P := P) (main := true) (b := b) (a := a) (k := k) (cs := cs) (w := w) (ops := (o :: rest).toArray) (i := 0) (rest := is) (o := o) rfl (by simp [Region.wanted, hgd]) hk hr) hc hb
  rw [Frame.finish_at] at hs
  exact hs
end
end Go.Proofs.Ytdedhiipamnahaa
