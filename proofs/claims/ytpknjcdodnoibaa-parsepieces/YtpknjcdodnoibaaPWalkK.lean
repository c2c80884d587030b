/- Package parse: Parse. -/
import Derived.Test.YtpknjcdodnoibaaPWalkJ
import Derived.Great.BuildSlice
import Derived.OwnWalk
import Derived.Laws.EntriesVeiled
namespace Go.Proofs.Ytpknjcdodnoibaa
open Go.RowKit
set_option linter.unusedVariables false
set_option linter.unusedSimpArgs false

/-- A text as bytes. -/
def ba (l : Bs) : ByteArray := ⟨l.toArray⟩
/-- The cells of pieces, one behind the other. -/
def rowP : List Pc → List Value
  | [] => []
  | p :: t => pcV p (ba p.text) ++ rowP t
theorem rowP_len : ∀ ps : List Pc, (rowP ps).length = ps.length * 20
  | [] => rfl
  | p :: t => by
    have : (pcV p (ba p.text)).length = 20 := rfl
    rw [rowP, List.length_append, rowP_len t, this, List.length_cons]; omega
theorem rowP_snoc : ∀ (ps : List Pc) (p : Pc), rowP (ps ++ [p]) = rowP ps ++ pcV p (ba p.text)
  | [], p => by simp [rowP]
  | q :: t, p => by rw [List.cons_append, rowP, rowP, rowP_snoc t p, List.append_assoc]
theorem pcV_one (p : Pc) (t : ByteArray) : ∀ u ∈ pcV p t, u.oneCell' = true := pv_one _ _ _ _ _ _ _ _
theorem pcV_text (l a b : Bs) (t : ByteArray) : pcV (pce l a) t = pcV (pce l b) t := by
  unfold pce
  split <;> rfl
theorem pcV_set (p : Pc) (t t' : ByteArray) : (pcV p t).set 1 (.string t') = pcV p t' := rfl
theorem pce_text (l a : Bs) : (pce l a).text = a := by
  unfold pce
  split <;> rfl
/-- What stands between two places. -/
theorem ext_at {s : ByteArray} {P P' : Nat} {l l' : Bs} (hd : s.data.toList.drop P = l) (he : P + l.length = s.size) (he' : P' + l'.length = s.size) : s.extract P P' = ba (l.take (l.length - l'.length)) := by
  have hl : (s.extract P P').data.toList = l.take (l.length - l'.length) := by
    rw [← hd]
    rw [show (s.extract P P').data = s.data.extract P P' by simp [ByteArray.data_extract]]
    rw [Array.toList_extract]
    rw [List.extract_eq_take_drop, hd]
    congr 1
    omega
  unfold ba
  rw [← hl]
theorem build20 (p : Pc) (t : ByteArray) : ∀ (ie : TypeInfo) (z : Value), Try.prog.info? 40 = some ie → ie.zero = some z → Instr.fill (fun i => some (i * ie.size, ie.size)) ((Array.range (1 * ie.size)).map (z.cells[· % z.cells.size]!)) [(0, .agg (pcV p t).toArray)] = some (pcV p t).toArray := by
  intro ie z h1 h2
  have hs : ie.size = 20 := by have := info20; rw [h1] at this; exact Option.some.inj this
  have hz : z = .agg (pieceV 0 ⟨#[]⟩ fl0 0 0 nb0 nb0 ix0).toArray := by
    have : (Try.prog.info? 40).bind (·.zero) = some (.agg (pieceV 0 ⟨#[]⟩ fl0 0 0 nb0 nb0 ix0).toArray) := by kernel_rfl
    rw [h1] at this
    exact Option.some.inj (h2.symm.trans this)
  rw [hs]
  have h := Great.fill_whole (s := 20) (by omega) [Value.agg (pcV p t).toArray] ((Array.range (1 * 20)).map (z.cells[· % z.cells.size]!)) (fun v hv => by simp at hv; subst hv; rfl) (by simp)
  simpa [Value.cells] using h
theorem wpl_build20 {ops : Array Oper} {rest : List Oper} {op : Oper} {a : Act} {w : World} {Q : Exit → Act → World → Prop} (hgd : op.guard = none) (x : Operand) (ho : op.op = .buildSlice 23 1 #[(0, x)]) (p : Pc) (t : ByteArray)
    (hx : a.eval x = .agg (pcV p t).toArray)
    (h : wpList Try.prog ops Q rest (a.put op.dst (.slice (some ⟨w.heap.size, 0, none⟩) 1 1)) (w.alloc (.cells (pcV p t).toArray 40))) : wpList Try.prog ops Q (op :: rest) a w := by
  obtain ⟨ie, hi, -⟩ := Option.map_eq_some_iff.1 info20
  have hs : ie.size = 20 := by have := info20; rw [hi] at this; exact Option.some.inj this
  obtain ⟨z, hz⟩ : ∃ z, ie.zero = some z := by
    have : (Try.prog.info? 40).bind (·.zero) = some (.agg (pieceV 0 ⟨#[]⟩ fl0 0 0 nb0 nb0 ix0).toArray) := by kernel_rfl
    rw [hi] at this
    exact ⟨_, this⟩
  refine wpList_buildSlice hgd 23 40 1 #[(0, x)] ho _ ie z Try.underlying23 hi hz (by rw [hs]; decide) (by rw [hs]; decide) ?_ h
  have := build20 p t ie z hi hz
  simpa [hx] using this

/-- What Parse answers: a row of pieces in memory that is new. -/
def PsC (s : ByteArray) : Prop := ∀ w : World, Calls Try.prog 5 #[.string s] w fun e w' => ∃ v, e = .returned v ∧ w'.ownsRow w.heap.size 40 20 v (prs s.data.toList).length (rowP (prs s.data.toList)) ∧ Below w.heap.size w w'
theorem own_mono9 {w : World} {b b' : Nat} {e : TypeId} {z : Nat} {v : Value} {n : Nat} {xs : List Value} (h : w.ownsRow b e z v n xs) (hb : b' ≤ b) : w.ownsRow b' e z v n xs := by
  obtain ⟨h1, h2⟩ := h
  refine ⟨h1, ?_⟩
  rcases h2 with h2 | ⟨g, cap, cur, hv, hg, r⟩
  · exact .inl h2
  · exact .inr ⟨g, cap, cur, hv, Nat.le_trans hb hg, r⟩
theorem own_slice9 {w : World} {b : Nat} {e : TypeId} {z : Nat} {v : Value} {n : Nat} {xs : List Value} (h : w.ownsRow b e z v n xs) : ∃ a c, v = .slice a n c ∧ n ≤ c ∧ c ≤ maxLen := by
  rcases h.2 with ⟨rfl, rfl⟩ | ⟨g, cap, cur, rfl, -, -, h4, h5, -⟩
  · exact ⟨none, 0, rfl, by omega, by omega⟩
  · exact ⟨_, _, rfl, h4, h5⟩
theorem own_ne9 {w : World} {b R : Nat} {e : TypeId} {z : Nat} {v : Value} {n : Nat} {xs : List Value} (h : w.ownsRow b e z v n xs) (hR : R < b) : v.ownBlock = none ∨ v.ownBlock ≠ some R := by
  refine .inr fun e => ?_
  have := (h.lt R e).1
  omega
theorem gr_scs (w : World) (B o : Nat) (vs : List Value) : w.grownBy (w.setCells B o vs) (some B) := by
  obtain ⟨h1, h2, h3⟩ := sc_rest B vs w o
  exact ⟨h1, h2, h3, by rw [sc_size]; exact Nat.le_refl _, fun k hk hne => sc_heap B k (fun e => hne (by rw [e])) _ _ _⟩
theorem gr_sets (w : World) (B o : Nat) (v : Value) : w.grownBy (w.setCell ⟨B, o, none⟩ v) (some B) := gr_put (gr_refl _ _) _
theorem own_far {w w' : World} {b B : Nat} {e : TypeId} {z : Nat} {v : Value} {n : Nat} {xs : List Value} (h : w.ownsRow b e z v n xs) (hg : w.grownBy w' (some B)) (hB : B < b ∨ w.heap.size ≤ B) : w'.ownsRow b e z v n xs :=
  h.kept hg (.inr fun e => by
    have := h.lt B e
    omega)
set_option maxRecDepth 1000000 in
set_option maxHeartbeats 4000000 in
theorem parse_any (s : ByteArray) (hs : s.size ≤ 1000000) : PsC s := fun w => by
  obtain ⟨i0, hi⟩ : ∃ i0, Try.prog.info? 40 = some i0 := ⟨_, rfl⟩
  have hz0 : i0.zero = some (.agg (pieceV 0 ⟨#[]⟩ fl0 0 0 nb0 nb0 ix0).toArray) := by
    have : (Try.prog.info? 40).bind (·.zero) = some (.agg (pieceV 0 ⟨#[]⟩ fl0 0 0 nb0 nb0 ix0).toArray) := by kernel_rfl
    rw [hi] at this; exact this
  have hz1 : i0.size = 20 := by
    have := info20
    rw [hi] at this; exact Option.some.inj this
  have hz2 : i0.bytes = 136 := by
    have : (Try.prog.info? 40).map (·.bytes) = some 136 := by kernel_rfl
    rw [hi] at this; exact Option.some.inj this
  obtain ⟨W1, hW1⟩ : ∃ W1, W1 = (w.alloc (.cells #[.string s] 9)).alloc (.cells #[.int .i64 0, .func (.func 9) #[] #[.pointer (some ⟨w.heap.size, 0, none⟩)]] 47) := ⟨_, rfl⟩
  have hb1 : Below w.heap.size w W1 := by rw [hW1]; go_grown
  have hr1 : RdW s (w.heap.size + 1) w.heap.size 0 s.data.toList W1 := by
    rw [hW1]
    exact ⟨by simp, by simp, by simp, by simp, rfl, by rw [list_len]; omega, by omega, by omega⟩
  have hsz1 : W1.heap.size = w.heap.size + 2 := by rw [hW1]; simp
  have hlen := list_len s
  have hsI : (s.size : Int) ≤ 1000000 := by omega
  go_enter Try.func5, Try.ntmps5
  go_wp2
  rw [← hW1]
  clear hW1
  have HL : Hid (s.data.toList.length = s.size) := hlen
  clear hlen
  generalize hR : w.heap.size + 1 = R at *
  generalize hF : w.heap.size = F at *
  go_loopg [4, 5, 6] s.size (fun g pv bv qv wr => ∃ (P : Nat) (l : Bs) (ps : List Pc), RdW s R F P l wr ∧ l.length ≤ g ∧ Hid (prs s.data.toList = ps ++ prs l) ∧ ps.length ≤ P ∧ wr.ownsRow (F + 2) 40 20 pv ps.length (rowP ps) ∧ Below F w wr ∧ F + 2 ≤ wr.heap.size)
  case atStart => exact ⟨0, s.data.toList, [], hr1, by rw [HL.out]; exact Nat.le_refl _, rfl, Nat.le_refl _, World.ownsRow_nil _ _ _ _, hb1, by omega⟩
  case round =>
    obtain ⟨P, l, ps, h, hg, HP, hpl, hown, hbl, hsz⟩ := hrel
    clear hr1 hsz1 hb1
    obtain ⟨ao, ca, rfl, -, -⟩ := own_slice9 hown
    have r0 := h.a
    have f0 := h.f
    have he := h.e
    by_cases hl : l = []
    · have hPs : ¬ (P : Int) < s.size := by rw [hl] at he; simp at he; omega
      have HF : Hid (prs s.data.toList = ps) := by
        show _ = _
        rw [HP.out, hl, prs_nil, List.append_nil]
      go_wp2
      go_ret
      rw [HF.out]
      exact ⟨_, rfl, own_mono9 hown (by omega), hbl⟩
    · have hll := List.length_pos_iff.2 hl
      have hPs : (P : Int) < s.size := by omega
      have hlt := prest_lt hl
      have hFR : F ≠ R := h.ne
      have hPc := piece_any s R F P l
      obtain ⟨l1, hl1⟩ : ∃ l1, prest l = l1 := ⟨_, rfl⟩
      have HN : Hid (prs s.data.toList = (ps ++ [pce l (l.take (l.length - l1.length))]) ++ prs l1) := by
        show _ = _
        rw [HP.out, prs_step hl, hl1, List.append_assoc]
        rfl
      have HT := fun t => pcV_text l [] (l.take (l.length - l1.length)) t
      have HX := pce_text l (l.take (l.length - l1.length))
      unfold PiC at hPc
      rw [hl1] at hPc hlt
      generalize pce l (l.take (l.length - l1.length)) = pq at *
      generalize pce l [] = pc at *
      have HT' : Hid (∀ t, pcV pc t = pcV pq t) := HT
      have HX' : Hid (pq.text = l.take (l.length - l1.length)) := HX
      clear HT HX hl1 HP
      have hRb : R < F + 2 := by omega
      go_upto_region 6 with (first
        | (go_at_call 11; refine (hPc _ h).mono ?_; rintro e w1 ⟨rfl, ⟨P1, h1⟩, g1⟩; have o1 := own_far hown g1 (.inl hRb); have b1 : Below F w w1 := hbl.trans ⟨g1.os, g1.tape, g1.output, g1.size, fun k hk => g1.block k (by omega) (by simp; omega)⟩; have z1 := g1.size)
        | (refine wpl_store20 rfl (.tmp 6) (.tmp 16) rfl (us := pcV pc ⟨#[]⟩) rfl rfl (Bx.new w1 (pieceV 0 ⟨#[]⟩ fl0 0 0 nb0 nb0 ix0) 40) rfl rfl (pcV_one _ _) ?_))
      have al : Below w1.heap.size w1 (w1.alloc (.cells #[.int .i64 0, .string ⟨#[]⟩, .bool false, .bool false, .bool false, .bool false, .bool false, .int .i64 0, .int .i64 0, .int .i32 0, .int .i64 0, .int .i64 0, .int .i64 0, .int .i64 0, .int .i64 0, .int .i64 0, .int .i64 0, .int .i64 0, .int .i64 0, .int .i64 0] 40)) := (Below.refl _ _).alloc (Nat.le_refl _) _
      have q1 : ∀ k, (Value.slice ao ps.length ca).ownBlock = some k → k < w1.heap.size := fun k e => (o1.lt k e).2
      have lF : F < w1.heap.size := by omega
      have lR : R < w1.heap.size := by omega
      have p2 : Bx ((w1.alloc (.cells #[.int .i64 0, .string ⟨#[]⟩, .bool false, .bool false, .bool false, .bool false, .bool false, .int .i64 0, .int .i64 0, .int .i32 0, .int .i64 0, .int .i64 0, .int .i64 0, .int .i64 0, .int .i64 0, .int .i64 0, .int .i64 0, .int .i64 0, .int .i64 0, .int .i64 0] 40)).setCells w1.heap.size 0 (pcV pc ⟨#[]⟩)) w1.heap.size (pcV pc ⟨#[]⟩) := Bx.all (Bx.new w1 (pieceV 0 ⟨#[]⟩ fl0 0 0 nb0 nb0 ix0) 40) _ rfl
      have r2 : RdW s R F P1 l1 ((w1.alloc (.cells #[.int .i64 0, .string ⟨#[]⟩, .bool false, .bool false, .bool false, .bool false, .bool false, .int .i64 0, .int .i64 0, .int .i32 0, .int .i64 0, .int .i64 0, .int .i64 0, .int .i64 0, .int .i64 0, .int .i64 0, .int .i64 0, .int .i64 0, .int .i64 0, .int .i64 0] 40)).setCells w1.heap.size 0 (pcV pc ⟨#[]⟩)) := (h1.up al).sc (by omega) (by omega) _ _
      have o2 : ((w1.alloc (.cells #[.int .i64 0, .string ⟨#[]⟩, .bool false, .bool false, .bool false, .bool false, .bool false, .int .i64 0, .int .i64 0, .int .i32 0, .int .i64 0, .int .i64 0, .int .i64 0, .int .i64 0, .int .i64 0, .int .i64 0, .int .i64 0, .int .i64 0, .int .i64 0, .int .i64 0] 40)).setCells w1.heap.size 0 (pcV pc ⟨#[]⟩)).ownsRow (F + 2) 40 20 (.slice ao ps.length ca) ps.length (rowP ps) := (o1.alloc _).kept (gr_scs _ _ _ _) (.inr fun e => by have := q1 _ e; omega)
      have b2 : Below F w ((w1.alloc (.cells #[.int .i64 0, .string ⟨#[]⟩, .bool false, .bool false, .bool false, .bool false, .bool false, .int .i64 0, .int .i64 0, .int .i32 0, .int .i64 0, .int .i64 0, .int .i64 0, .int .i64 0, .int .i64 0, .int .i64 0, .int .i64 0, .int .i64 0, .int .i64 0, .int .i64 0] 40)).setCells w1.heap.size 0 (pcV pc ⟨#[]⟩)) := below_sc (b1.alloc (by omega) _) (by omega) _ _
      have z2 : F + 2 ≤ ((w1.alloc (.cells #[.int .i64 0, .string ⟨#[]⟩, .bool false, .bool false, .bool false, .bool false, .bool false, .int .i64 0, .int .i64 0, .int .i32 0, .int .i64 0, .int .i64 0, .int .i64 0, .int .i64 0, .int .i64 0, .int .i64 0, .int .i64 0, .int .i64 0, .int .i64 0, .int .i64 0] 40)).setCells w1.heap.size 0 (pcV pc ⟨#[]⟩)).heap.size := by rw [sc_size]; simp; omega
      generalize (w1.alloc (.cells #[.int .i64 0, .string ⟨#[]⟩, .bool false, .bool false, .bool false, .bool false, .bool false, .int .i64 0, .int .i64 0, .int .i32 0, .int .i64 0, .int .i64 0, .int .i64 0, .int .i64 0, .int .i64 0, .int .i64 0, .int .i64 0, .int .i64 0, .int .i64 0, .int .i64 0] 40)).setCells w1.heap.size 0 (pcV pc ⟨#[]⟩) = W2 at *
      generalize w1.heap.size = Bp at *
      generalize Value.agg (pcV pc ⟨#[]⟩).toArray = pav
      have a2 := r2.a
      have f2 := r2.f
      have t2 := p2.c 1 _ rfl
      have tz := p2.z
      have he2 := r2.e
      have hPP : (P : Int) ≤ P1 := by omega
      have hPS : (P1 : Int) ≤ s.size := by omega
      clear r0 f0 o1 b1 z1 h1 g1 al hPc hown hbl hsz
      go_upto_region 7 with fail
      have p3 : Bx (W2.setCell ⟨Bp, 1, none⟩ (.string (s.extract P P1))) Bp (pcV pc (s.extract P P1)) := p2.set 1 (by simp [pcV, pieceV]) _
      have r3 : RdW s R F P1 l1 (W2.setCell ⟨Bp, 1, none⟩ (.string (s.extract P P1))) := r2.grown (by omega) (by omega) _
      have o3 : (W2.setCell ⟨Bp, 1, none⟩ (.string (s.extract P P1))).ownsRow (F + 2) 40 20 (.slice ao ps.length ca) ps.length (rowP ps) := o2.kept (gr_sets _ _ _ _) (.inr fun e => by have := q1 _ e; omega)
      have b3 : Below F w (W2.setCell ⟨Bp, 1, none⟩ (.string (s.extract P P1))) := b2.setCell (by dsimp only; omega) _
      have z3 : F + 2 ≤ (W2.setCell ⟨Bp, 1, none⟩ (.string (s.extract P P1))).heap.size := by simpa [World.setCell] using z2
      generalize W2.setCell ⟨Bp, 1, none⟩ (.string (s.extract P P1)) = W3 at *
      have hext : s.extract P P1 = ba pq.text := by rw [HX'.out]; exact ext_at h.d h.e he2
      generalize s.extract P P1 = T at *
      have HE : Hid (T = ba pq.text) := hext
      clear hext a2 f2 t2 tz r2 b2 z2 o2 p2 q1
      have hpl2 : ps.length ≤ 1000000 := by omega
      go_wp2_with (first
        | (refine wpl_load20 rfl (.tmp 6) rfl rfl p3 rfl ?_)
        | (refine wpl_build20 rfl (.tmp 24) rfl pc T rfl ?_; generalize Value.agg (pcV pc T).toArray = pbv)
        | (at_builtin; refine wpList_append_own_at _ rfl _ _ 23 rfl (F + 2) 40 i0 _ 20 136 Try.underlying23 hi hz0 hz1 hz2 rfl (by decide) _ _ _ rfl (o3.alloc _) ⟨W3.heap.size, 0, none⟩ 1 1 (pcV pc T) rfl rfl ?c1 ?c2 ?c3 ?c4 ?c5 ?_))
      case c1 =>
        intro j u hj
        rw [Addr.add_mid, Nat.zero_add]
        exact (Bx.new W3 (pcV pc T) 40).c j u hj
      case c2 => exact pcV_one _ _
      case c3 => unfold maxLen; omega
      case c4 => omega
      case c5 => simp; omega
      intro v' w4 o4 g4 _ hat
      have b4 : Below F w w4 := (b3.alloc (by omega) _).grown g4 (by simp; omega) (fun k hk => by have := (o3.lt k hk).1; omega)
      have r4 : RdW s R F P1 l1 w4 := by
        have r3' := r3.up ((Below.refl W3.heap.size W3).alloc (Nat.le_refl _) (.cells (pcV pc T).toArray 40))
        have hne : ∀ k, k < F + 2 → some k ≠ (Value.slice ao ps.length ca).ownBlock := fun k hk e => by have := (o3.lt k e.symm).1; omega
        have kR := g4.block R (by simp; have := lt_of_cell9 r3.a; dsimp only at this; omega) (hne R hRb)
        have kF := g4.block F (by simp; omega) (hne F (by omega))
        exact ⟨(World.cell?_of_block (a := ⟨R, 0, none⟩) kR).trans r3'.a, (World.cell?_of_block (a := ⟨R, 1, none⟩) kR).trans r3'.n, (World.cell?_of_block (a := ⟨F, 0, none⟩) kF).trans r3'.f, (World.frozen?_of_block (a := ⟨R, 0, none⟩) kR).trans r3'.z, r3.d, r3.e, r3.ne, r3.m⟩
      have z4 : F + 2 ≤ w4.heap.size := by have := g4.size; simp at this; omega
      have o5 : w4.ownsRow (F + 2) 40 20 v' (ps ++ [pq]).length (rowP (ps ++ [pq])) := by
        rw [rowP_snoc, List.length_append, ← HE.out, ← HT'.out]
        exact o4
      obtain ⟨ao', c', rfl, -, -⟩ := own_slice9 o4
      clear o4 g4 hat o3 p3 r3 b3 z3
      go_wp2
      go_roundg (gk - 1)
      case measure => omega
      case rel => exact ⟨P1, l1, ps ++ [pq], r4, by omega, HN, by simp; omega, o5, b4, z4⟩
end Go.Proofs.Ytpknjcdodnoibaa
