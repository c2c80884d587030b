/- The document's parse: Parse, out of what directive answers. -/
import Derived.Test.YtpknjcdodnoibaaTSt
namespace Go.Proofs.Ytpknjcdodnoibaa
open Go.RowKit
set_option linter.unusedVariables false
set_option linter.unusedSimpArgs false

/-- What the document's directive answers. -/
abbrev DirD : Prop := ∀ (s : ByteArray), s.size ≤ 2000 → ∀ w : World, Calls Try.prog 12 #[.string s] w fun e w' => e = .returned (.tuple #[.agg (pcV (dir s.data.toList []) (ba (37 :: s.data.toList.take (s.size - (drest s.data.toList).length)))).toArray, .int .i64 ((s.size - (drest s.data.toList).length : Nat) : Int)]) ∧ Below w.heap.size w w'
theorem infoPd : ∃ i, Try.prog.info? 34 = some i ∧ i.zero = some (.agg (pieceV 0 ⟨#[]⟩ fl0 0 0 nb0 nb0 ix0).toArray) ∧ i.size = 20 ∧ i.bytes = 136 := by
  have h : (Try.prog.info? 34).map (fun i => (i.zero, i.size, i.bytes)) = some (some (.agg (pieceV 0 ⟨#[]⟩ fl0 0 0 nb0 nb0 ix0).toArray), 20, 136) := by kernel_rfl
  obtain ⟨i, hi, hb⟩ := Option.map_eq_some_iff.1 h
  simp only [Prod.mk.injEq] at hb
  exact ⟨i, hi, hb⟩
/-- A row of one piece is built and appended. -/
theorem wpl_build20d {ops : Array Oper} {rest : List Oper} {op : Oper} {a : Act} {w : World} {Q : Exit → Act → World → Prop} (hgd : op.guard = none) (x : Operand) (ho : op.op = .buildSlice 25 1 #[(0, x)]) (us : List Value) (hu : us.length = 20)
    (hx : a.eval x = .agg us.toArray)
    (h : wpList Try.prog ops Q rest (a.put op.dst (.slice (some ⟨w.heap.size, 0, none⟩) 1 1)) (w.alloc (.cells us.toArray 34))) : wpList Try.prog ops Q (op :: rest) a w := by
  obtain ⟨ie, hi, hz, hs, -⟩ := infoPd
  refine wpList_buildSlice hgd 25 34 1 #[(0, x)] ho _ ie _ Try.underlying25 hi hz (by rw [hs]; decide) (by rw [hs]; decide) ?_ h
  rw [hs]
  have h := Great.fill_whole (s := 20) (by omega) [Value.agg us.toArray] ((Array.range (1 * 20)).map ((Value.agg (pieceV 0 ⟨#[]⟩ fl0 0 0 nb0 nb0 ix0).toArray).cells[· % (Value.agg (pieceV 0 ⟨#[]⟩ fl0 0 0 nb0 nb0 ix0).toArray).cells.size]!)) (fun v hv => by simp at hv; subst hv; simpa [Value.cells] using hu) (by simp)
  simpa [Value.cells, hx] using h
theorem wpl_app20d {ops : Array Oper} {rest : List Oper} {o : Oper} {a : Act} {w : World} {Q : Exit → Act → World → Prop} (hgd : o.guard = none) (s x : Operand)
    (ho : o.op = .call { callee := .builtin .append, args := #[s, x], argTypes := #[25, 25] }) {N : Nat} {w0 W0 : World} {v : Value} {ps : List Pc} (hown : W0.ownsRow N 34 20 v ps.length (rowP ps)) (hb : Below N w0 W0) (hN : N ≤ W0.heap.size) (p : Pc)
    (hs : a.eval s = v) (hx : a.eval x = .slice (some ⟨W0.heap.size, 0, none⟩) 1 1) (hw : w = W0.alloc (.cells (pcV p (ba p.text)).toArray 34)) (hl : ps.length ≤ 100000)
    (hk : ∀ v' w', (∃ ao c, v' = .slice ao (ps.length + 1) c) → w'.ownsRow N 34 20 v' (ps ++ [p]).length (rowP (ps ++ [p])) → Below N w0 w' → N ≤ w'.heap.size → wpList Try.prog ops Q rest (a.put o.dst v') w') : wpList Try.prog ops Q (o :: rest) a w := by
  obtain ⟨i0, hi, hz0, hz1, hz2⟩ := infoPd
  subst hw
  refine wpList_append_own_at _ hgd s x 25 ho N 34 i0 _ 20 136 Try.underlying25 hi hz0 hz1 hz2 rfl (by decide) v ps.length (rowP ps) hs (hown.alloc _) ⟨W0.heap.size, 0, none⟩ 1 1 (pcV p (ba p.text)) hx rfl ?_ ?_ ?_ ?_ ?_ ?_
  · intro j u hj
    rw [Addr.add_mid, Nat.zero_add]
    exact (Bx.new W0 (pcV p (ba p.text)) 34).c j u hj
  · exact pcV_one _ _
  · unfold maxLen; omega
  · omega
  · simp; omega
  · intro v' w4 o4 g4 _ _
    obtain ⟨ao, c, e, -, -⟩ := own_slice9 o4
    refine hk v' w4 ⟨ao, c, e⟩ ?_ ((hb.alloc hN _).grown g4 (by simp; omega) (fun k hk => (hown.lt k hk).1)) (by have := g4.size; simp at this; omega)
    rw [rowP_snoc, List.length_append]
    exact o4
theorem build_lit (t : ByteArray) (w : World) : (Instr.build 34 #[(1, .string t)]).run Try.prog w = .ok (.agg (pieceV 0 t fl0 0 0 nb0 nb0 ix0).toArray) w := by kernel_rfl
/-- What stands in lit, and what is left. -/
theorem prs_litT {t r : Bs} (ht : ∀ x ∈ t, noPc x = true) (h : t ≠ []) (hr : r = [] ∨ hd r = 37) : prs (t ++ r) = lit t :: prs r := by
  have hne : t ++ r ≠ [] := by simp [h]
  have hd1 : hd (t ++ r) ≠ 37 := by
    cases t with
    | nil => exact absurd rfl h
    | cons x t =>
      have := ht x (List.mem_cons_self ..)
      unfold noPc at this
      exact of_decide_eq_true this
  have hp : prest (t ++ r) = r := by
    unfold prest
    rw [if_neg hd1, List.dropWhile_append_of_pos ht]
    rcases hr with rfl | hr
    · rfl
    · cases r with
      | nil => rfl
      | cons y r =>
        have hy : noPc y = false := by unfold noPc; simpa [hd] using hr
        rw [List.dropWhile_cons, hy]; rfl
  rw [prs_step hne, hp]
  unfold pce
  rw [if_neg hd1]
  congr 2
  simp
theorem prs_dir (r : Bs) : prs (37 :: r) = dir r (37 :: r.take (r.length - (drest r).length)) :: prs (drest r) := by
  have hp : prest (37 :: r) = drest r := by unfold prest; rw [if_pos (by rfl)]; rfl
  have hl := (drest_suf r).length_le
  rw [prs_step (by simp), hp]
  unfold pce
  rw [if_pos (by rfl)]
  congr 2
  rw [List.length_cons, show r.length + 1 - (drest r).length = (r.length - (drest r).length) + 1 by omega, List.take_succ_cons]
/-- A piece's box, made in a round. -/
theorem rd_boxPd (us : List Value) (hu : us.length = 20) (W : World) : ∃ W2 : World, W2 = (W.alloc (.cells #[.int .i64 0, .string ⟨#[]⟩, .bool false, .bool false, .bool false, .bool false, .bool false, .int .i64 0, .int .i64 0, .int .i32 0, .int .i64 0, .int .i64 0, .int .i64 0, .int .i64 0, .int .i64 0, .int .i64 0, .int .i64 0, .int .i64 0, .int .i64 0, .int .i64 0] 34)).setCells W.heap.size 0 us ∧ Below W.heap.size W W2 ∧ Bx W2 W.heap.size us ∧ W.heap.size < W2.heap.size := by
  have hb := Bx.new W (pieceV 0 ⟨#[]⟩ fl0 0 0 nb0 nb0 ix0) 34
  refine ⟨_, rfl, ?_, ?_, ?_⟩
  · exact below_sc ((Below.refl _ _).alloc (Nat.le_refl _) _) (Nat.le_refl _) _ _
  · exact hb.all us hu
  · exact (hb.all us hu).b
theorem ext_to {f : ByteArray} {i : Nat} {l : Bs} (h : AtP f i l) : (f.extract i f.size).data.toList = l := by
  have he := h.e
  have h2 : AtP f f.size [] := ⟨by rw [List.drop_eq_nil_iff, list_len]; omega, by simp⟩
  rw [h.ext h2 (by omega), List.take_of_length_le (by omega)]
set_option maxRecDepth 1000000 in
set_option maxHeartbeats 8000000 in
theorem tparse_any (hD : DirD) (s : ByteArray) (hs : s.size ≤ 2000) (w : World) : Calls Try.prog 6 #[.string s] w fun e w' => ∃ v, e = .returned v ∧ w'.ownsRow w.heap.size 34 20 v (prs s.data.toList).length (rowP (prs s.data.toList)) ∧ Below w.heap.size w w' := by
  have hsI : (s.size : Int) ≤ 2000 := by omega
  have hbl := build_lit
  have HD : Hid DirD := hD
  clear hD
  obtain ⟨N, hN⟩ : ∃ N, N = w.heap.size := ⟨_, rfl⟩
  rw [← hN]
  have hNw : N ≤ w.heap.size := by omega
  clear hN
  go_enter Try.func6, Try.ntmps6
  go_wp2_with fail
  go_loopg [0, 3, 4] s.size (fun g fv lv tv wr => ∃ (f t : ByteArray) (ps : List Pc) (ao : Option Addr) (ca : Nat), fv = .string f ∧ tv = .string t ∧ lv = .slice ao ps.length ca ∧ Hid (f.size = g) ∧ f.size + t.size ≤ 2000 ∧ ps.length + f.size + t.size ≤ 2000 ∧ Hid (prs s.data.toList = ps ++ prs (t.data.toList ++ f.data.toList)) ∧ Hid (∀ x ∈ t.data.toList, noPc x = true) ∧ wr.ownsRow N 34 20 (.slice ao ps.length ca) ps.length (rowP ps) ∧ Below N w wr ∧ N ≤ wr.heap.size)
  case atStart => exact ⟨s, ⟨#[]⟩, [], none, 0, rfl, rfl, rfl, rfl, hs, by (show 0 + s.size + 0 ≤ 2000); omega, rfl, (fun x hx => by cases hx), World.ownsRow_nil _ _ _ _, Below.refl _ _, hNw⟩
  case round =>
    obtain ⟨f, t, ps, ao, ca, rfl, rfl, rfl, hg, hft, hpl, HP, HT, ho, hb, hz⟩ := hrel
    have hlf := list_len f
    by_cases hf0 : f.size = 0
    · have hef := empty_yes f hf0
      have hfl : f.data.toList = [] := List.eq_nil_of_length_eq_zero (by omega)
      by_cases ht0 : t.size = 0
      · have het := empty_yes t ht0
        have htl : t.data.toList = [] := List.eq_nil_of_length_eq_zero (by have := list_len t; omega)
        have HE : Hid (prs s.data.toList = ps) := by show _ = _; rw [HP.out, hfl, htl]; simp [prs_nil]
        clear HP hfl htl hlf hf0 ht0
        go_wp2
        go_ret
        rw [HE.out]
        exact ⟨_, rfl, ho, hb⟩
      · have het := empty_no t (by omega)
        have htl : t.data.toList ≠ [] := by intro h; have := list_len t; rw [h] at this; simp at this; omega
        have HE : Hid (prs s.data.toList = ps ++ [lit t.data.toList]) := by show _ = _; rw [HP.out, hfl, prs_litT HT.out htl (.inl rfl)]; rfl
        clear HP hfl htl hlf hf0 ht0
        go_wp2_with (first
          | (refine wpl_build20d rfl _ rfl (pieceV 0 t fl0 0 0 nb0 nb0 ix0) rfl rfl ?_)
          | (at_builtin; refine wpl_app20d rfl _ _ rfl ho hb hz (lit t.data.toList) rfl rfl rfl (by omega) ?_; rintro v6 w6 ⟨ao6, ca6, rfl⟩ o6 hb6 hz6))
        go_ret
        rw [HE.out]
        exact ⟨_, rfl, o6, hb6⟩
    · have hef := empty_no f (by omega)
      obtain ⟨x, r, hfl⟩ : ∃ x r, f.data.toList = x :: r := by
        cases h : f.data.toList with
        | nil => rw [h] at hlf; simp at hlf; omega
        | cons x r => exact ⟨x, r, rfl⟩
      have hA : AtP f 0 (x :: r) := ⟨by simpa using hfl, by rw [← hfl, hlf]; omega⟩
      obtain ⟨hi, hbt⟩ := hA.byte
      have hx : (f[0]'hi).toNat = x.toNat := by rw [hbt]
      have hA1 := hA.step
      have hI : (0 : Int) < f.size := by omega
      have hI1 : (1 : Int) ≤ f.size := by omega
      have hrl : r.length + 1 = f.size := by rw [← hlf, hfl]; rfl
      obtain ⟨f1, hf1⟩ : ∃ f1, f.extract 1 f.size = f1 := ⟨_, rfl⟩
      have hf1l : f1.data.toList = r := by rw [← hf1]; exact ext_to hA1
      have hf1s : f1.size = r.length := by rw [← hf1l, list_len]
      by_cases h37 : x.toNat = 37
      · have hb37 : (x.toNat : Int) = 37 := by omega
        have hxe : x = 37 := by apply UInt8.toNat_inj.1; exact h37
        rw [h37] at hx
        have HPa : Hid (prs s.data.toList = ps ++ prs (t.data.toList ++ 37 :: r)) := by show _ = _; rw [HP.out, hfl, hxe]
        have hsuf := hA1.suf (drest_suf r)
        have hdl := (drest_suf r).length_le
        obtain ⟨n, hn⟩ : ∃ n, n = r.length - (drest r).length := ⟨_, rfl⟩
        rw [← hn] at hsuf
        have hnI : 1 + (n : Int) ≤ f.size := by omega
        obtain ⟨f2, hf2⟩ : ∃ f2, f.extract (1 + n) f.size = f2 := ⟨_, rfl⟩
        have hf2l : f2.data.toList = drest r := by rw [← hf2]; exact ext_to hsuf
        have hf2s : f2.size = (drest r).length := by rw [← hf2l, list_len]
        have hf2r : f2.size + n = r.length := by omega
        obtain ⟨q, hq⟩ : ∃ q, q = dir r (37 :: r.take n) := ⟨_, rfl⟩
        have HQ : Hid (prs (37 :: r) = q :: prs f2.data.toList) := by show _ = _; rw [hf2l, hq, hn]; exact prs_dir r
        obtain ⟨pvv, hpv⟩ : ∃ pvv, pvv = Value.agg (pcV q (ba q.text)).toArray := ⟨_, rfl⟩
        have HPV : Hid (pvv = Value.agg (pcV q (ba q.text)).toArray) := hpv
        have kd : ∀ w, Calls Try.prog 12 #[.string f1] w fun e w' => e = .returned (.tuple #[pvv, .int .i64 (n : Nat)]) ∧ Below w.heap.size w w' := by
          intro w
          have := HD.out f1 (by omega) w
          rw [hf1l, hf1s, ← hn] at this
          rw [hpv, hq]
          exact this
        clear hpv hq HP hlf hf0 hfl hA hA1 hbt hf1l h37 hxe hsuf hf2l HD hdl hn
        go_upto_if 19 with fail
        go_cut [3, 4] from 7 to 38 (fun v3 v4 wx => ∃ (ps : List Pc) (ao : Option Addr) (ca : Nat), v3 = .slice ao ps.length ca ∧ v4 = .string ⟨#[]⟩ ∧ ps.length + f.size ≤ 2000 ∧ Hid (prs s.data.toList = ps ++ prs (37 :: r)) ∧ wx.ownsRow N 34 20 (.slice ao ps.length ca) ps.length (rowP ps) ∧ Below N w wx ∧ N ≤ wx.heap.size)
        case first =>
          by_cases ht0 : t.size = 0
          · have het := empty_yes t ht0
            have htl : t.data.toList = [] := List.eq_nil_of_length_eq_zero (by have := list_len t; omega)
            have hte : t = ⟨#[]⟩ := by
              apply ByteArray.ext; apply Array.ext'; rw [htl]
            have HE : Hid (prs s.data.toList = ps ++ prs (37 :: r)) := by show _ = _; rw [HPa.out, htl]; rfl
            have HTE : Hid (t = ⟨#[]⟩) := hte
            clear HPa htl ht0 HT hte
            rw [het]
            go_wp2
            go_meet
            exact ⟨ps, ao, ca, rfl, by rw [HTE.out], by omega, HE, ho, hb, hz⟩
          · have het := empty_no t (by omega)
            have htl : t.data.toList ≠ [] := by intro h; have := list_len t; rw [h] at this; simp at this; omega
            have HE : Hid (prs s.data.toList = (ps ++ [lit t.data.toList]) ++ prs (37 :: r)) := by show _ = _; rw [HPa.out, prs_litT HT.out htl (.inr rfl)]; simp
            clear HPa htl
            rw [het]
            go_wp2_with (first
              | (refine wpl_build20d rfl _ rfl (pieceV 0 t fl0 0 0 nb0 nb0 ix0) rfl rfl ?_)
              | (at_builtin; refine wpl_app20d rfl _ _ rfl ho hb hz (lit t.data.toList) rfl rfl rfl (by omega) ?_; rintro v6 w6 ⟨ao6, ca6, rfl⟩ o6 hb6 hz6))
            go_meet
            have el : (ps ++ [lit t.data.toList]).length = ps.length + 1 := by rw [List.length_append]; rfl
            rw [el] at o6
            exact ⟨ps ++ [lit t.data.toList], ao6, ca6, by rw [el], rfl, by rw [el]; omega, HE, by rw [el]; exact o6, hb6, hz6⟩
        case rest =>
        obtain ⟨ps2, ao2, ca2, rfl, rfl, hp2, HE, ho2, hb2, hz2⟩ := hcut
        have HE2 : Hid (prs s.data.toList = (ps2 ++ [q]) ++ prs (([] : Bs) ++ f2.data.toList)) := by show _ = _; rw [HE.out, HQ.out]; simp
        clear ho hb hz HPa HT HE HQ
        go_wp2_with (first
          | (go_at_call 12; refine (kd _).mono ?_; rintro e w9 ⟨rfl, b9⟩; obtain ⟨W5, hW5, b5, x5, z5⟩ := rd_boxPd (pcV q (ba q.text)) rfl w9; have hb9 := b9.trans (b5.mono b9.size); have ho5 := own_up9 ho2 hb9; have hb5 := hb2.trans (hb9.mono hz2); have hz5 := Nat.le_trans hz2 hb9.size)
          | (refine wpl_store20d rfl (.tmp 5) (.tmp 29) rfl (us := pcV q (ba q.text)) rfl HPV.out (Bx.new w9 (pieceV 0 ⟨#[]⟩ fl0 0 0 nb0 nb0 ix0) 34) rfl rfl (pcV_one _ _) ?_; rw [← hW5]; clear hW5)
          | (refine wpl_load20d rfl (.tmp 5) rfl rfl x5 rfl ?_; rw [← HPV.out])
          | (refine wpl_build20d rfl (.tmp 32) rfl (pcV q (ba q.text)) rfl HPV.out ?_)
          | (at_builtin; refine wpl_app20d rfl _ _ rfl ho5 hb5 hz5 q rfl rfl rfl (by omega) ?_; rintro v6 w6 ⟨ao6, ca6, rfl⟩ o6 hb6 hz6))
        go_roundg (f2.size)
        case measure => have := hg.out; omega
        case rel =>
          have el : (ps2 ++ [q]).length = ps2.length + 1 := by rw [List.length_append]; rfl
          rw [el] at o6
          exact ⟨f2, ⟨#[]⟩, ps2 ++ [q], ao6, ca6, congrArg Value.string hf2, rfl, by rw [el], rfl, by (show f2.size + 0 ≤ 2000); omega, by rw [el]; (show ps2.length + 1 + f2.size + 0 ≤ 2000); omega, HE2, (fun x hx => by cases hx), by rw [el]; exact o6, hb6, hz6⟩
      · have hb37 : ((x.toNat : Int) != 37) = true := by simp; omega
        obtain ⟨T, hT⟩ : ∃ T, t ++ f.extract 0 1 = T := ⟨_, rfl⟩
        have he1 : (f.extract 0 1).data.toList = [x] := by rw [hA.ext hA1 (by omega)]; rfl
        have hTl : T.data.toList = t.data.toList ++ [x] := by rw [← hT, app_list, he1]
        have hTs : T.size = t.size + 1 := by rw [← list_len T, hTl, List.length_append, list_len]; rfl
        have HP2 : Hid (prs s.data.toList = ps ++ prs (T.data.toList ++ f1.data.toList)) := by show _ = _; rw [HP.out, hTl, hf1l, hfl]; simp
        have HT2 : Hid (∀ y ∈ T.data.toList, noPc y = true) := by
          intro y hy
          rw [hTl] at hy
          rcases List.mem_append.1 hy with hy | hy
          · exact HT.out y hy
          · simp at hy; subst hy; unfold noPc; simpa using h37
        clear HP HT hlf hf0 hfl hA hA1 hbt hf1l he1 hTl h37
        go_wp2
        go_roundg (f1.size)
        case measure => have := hg.out; omega
        case rel => exact ⟨f1, T, ps, ao, ca, rfl, rfl, rfl, rfl, by omega, by omega, HP2, HT2, ho, hb, hz⟩
end Go.Proofs.Ytpknjcdodnoibaa
