/- The walk of the law ParseJoins. -/
import Derived.Test.YtbgejkodgcgpdaaPJoin
import Derived.Test.YtbgejkodgcgpdaaPEq
import Derived.Test.YtbgejkodgcgpdaaPWhole
import Derived.Maps.AppendAt
import Derived.Laws.OwnMore
import Derived.Deep.RegionHeld
namespace Go.Proofs.Ytbgejkodgcgpdaa
open Go.RowKit
set_option linter.unusedVariables false
set_option linter.unusedSimpArgs false

theorem rowP_app : ∀ a b : List Pc, rowP (a ++ b) = rowP a ++ rowP b
  | [], b => rfl
  | p :: a, b => by rw [List.cons_append, rowP, rowP_app a b, rowP, List.append_assoc]
theorem infoP : ∃ i, Try.prog.info? 40 = some i ∧ i.zero = some (.agg (pieceV 0 ⟨#[]⟩ fl0 0 0 nb0 nb0 ix0).toArray) ∧ i.size = 20 ∧ i.bytes = 136 := by
  have h : (Try.prog.info? 40).map (fun i => (i.zero, i.size, i.bytes)) = some (some (.agg (pieceV 0 ⟨#[]⟩ fl0 0 0 nb0 nb0 ix0).toArray), 20, 136) := by kernel_rfl
  obtain ⟨i, hi, hb⟩ := Option.map_eq_some_iff.1 h
  simp only [Prod.mk.injEq] at hb
  exact ⟨i, hi, hb⟩
theorem rowP_one : ∀ (ps : List Pc), ∀ u ∈ rowP ps, u.oneCell' = true
  | [], u, h => by simp [rowP] at h
  | p :: t, u, h => by
    rw [rowP] at h
    rcases List.mem_append.1 h with h | h
    · exact pcV_one _ _ u h
    · exact rowP_one t u h
/-- A piece's box, made in a round. -/
theorem rd_boxP (us : List Value) (hu : us.length = 20) (W : World) : ∃ W2 : World, W2 = (W.alloc (.cells #[.int .i64 0, .string ⟨#[]⟩, .bool false, .bool false, .bool false, .bool false, .bool false, .int .i64 0, .int .i64 0, .int .i32 0, .int .i64 0, .int .i64 0, .int .i64 0, .int .i64 0, .int .i64 0, .int .i64 0, .int .i64 0, .int .i64 0, .int .i64 0, .int .i64 0] 40)).setCells W.heap.size 0 us ∧ Below W.heap.size W W2 ∧ Bx W2 W.heap.size us ∧ W.heap.size < W2.heap.size := by
  have hb := Bx.new W (pieceV 0 ⟨#[]⟩ fl0 0 0 nb0 nb0 ix0) 40
  refine ⟨_, rfl, ?_, ?_, ?_⟩
  · exact below_sc ((Below.refl _ _).alloc (Nat.le_refl _) _) (Nat.le_refl _) _ _
  · exact hb.all us hu
  · exact (hb.all us hu).b
theorem txt_stp (n : List Pc) (p : Pc) : txt (stp n p) = txt n ++ p.text := by
  rcases List.eq_nil_or_concat n with rfl | ⟨m, q, rfl⟩
  · simp [stp_nil, txt]
  · rw [List.concat_eq_append, stp_snoc]
    split
    · simp [txt]
    · simp [txt]
theorem txt_fold : ∀ (ps n : List Pc), txt (ps.foldl stp n) = txt n ++ txt ps
  | [], n => by simp [txt]
  | p :: ps, n => by
    rw [List.foldl_cons, txt_fold ps, txt_stp]
    simp [txt]
theorem txt_mem {ps : List Pc} {p : Pc} (h : p ∈ ps) : p.text.length ≤ (txt ps).length := by
  obtain ⟨a, b, rfl⟩ := List.append_of_mem h
  simp [txt]
  omega
theorem txt_take_le (ps : List Pc) (i : Nat) : (txt (ps.take i)).length ≤ (txt ps).length := by
  have h : txt (ps.take i ++ ps.drop i) = txt (ps.take i) ++ txt (ps.drop i) := by simp only [txt, List.flatMap_append]
  rw [List.take_append_drop] at h
  rw [h, List.length_append]
  omega
theorem stp_len (n : List Pc) (p : Pc) : (stp n p).length ≤ n.length + 1 := by
  rcases List.eq_nil_or_concat n with rfl | ⟨m, q, rfl⟩
  · simp [stp_nil]
  · rw [List.concat_eq_append, stp_snoc]
    split <;> simp
theorem fold_take {ps : List Pc} {i : Nat} {p : Pc} (h : ps[i]? = some p) : stp ((ps.take i).foldl stp []) p = (ps.take (i + 1)).foldl stp [] := by
  rw [List.take_add_one, h]
  simp
set_option maxRecDepth 100000 in
set_option maxHeartbeats 1000000 in
theorem neq20 (k : Nat) (t : ByteArray) (f : Fl) (sz : Int) (v : Nat) (a b : Nb) (x : Ix) (w : World) :
    (binOp .neq 40 (.agg (pieceV k t f sz v a b x).toArray) (.agg (pieceV k t f sz v a b x).toArray)).run Try.prog w = .ok (.bool false) w := by
  simp [go_sem, pieceV]
/-- append of no row at all. -/
theorem run_append_none {P : Program} {w : World} (t ty e : TypeId) (i : TypeInfo) (ht : P.underlying t = some (.slice e)) (hi : P.info? e = some i) (a : Option Addr) (n c : Nat) (hnc : n ≤ c) :
    (Builtin.append_ #[t, t] ty #[.slice a n c, .slice none 0 0]).run P w = .ok (.slice a n c) w := by
  cases a <;> simp [Builtin.append_, run_underlying ht, sizeOf, typeInfo, hi, Builtin.lenOf, Builtin.firstCells, loadCells, loadCellsFrom, hnc, storeCells]
theorem wpl_append_none {P : Program} {w : World} {ops : Array Oper} {rest : List Oper} {o : Oper} {a : Act} {Q : Exit → Act → World → Prop} (hgd : o.guard = none) (s x : Operand) (t : TypeId)
    (ho : o.op = .call { callee := .builtin .append, args := #[s, x], argTypes := #[t, t] }) (e : TypeId) (i : TypeInfo) (ht : P.underlying t = some (.slice e)) (hi : P.info? e = some i)
    (b : Option Addr) (n c : Nat) (hs : a.eval s = .slice b n c) (hx : a.eval x = .slice none 0 0) (hnc : n ≤ c) (h : wpList P ops Q rest (a.put o.dst (.slice b n c)) w) : wpList P ops Q (o :: rest) a w := by
  refine wpList_plain hgd fun K hK => ?_
  have hr := run_append_none (P := P) (w := w) t o.type e i ht hi b n c hnc
  unfold Oper.wp execOp
  simp only [ho, resolve, invoke, builtin, Sem.run_bind, Sem.run_pure, Result.andThen_ok, List.map_toArray, List.map_cons, List.map_nil, hs, hx, hr]
  exact hK _ _ h
set_option maxRecDepth 1000000 in
set_option maxHeartbeats 4000000 in
theorem parseJoins_walk (a0 : ByteArray) (ha0 : a0.size ≤ 9223372036854775807) (b0 : ByteArray) (hb0 : b0.size ≤ 9223372036854775807) (w : World) :
    Calls Try.prog 4 #[.string a0, .string b0] w fun e w' => e = .returned (.bool true) ∧ Below w.heap.size w w' := by
  obtain ⟨a1, ha1, hCa⟩ := cut9_any a0
  obtain ⟨B, hB, hCb⟩ := cut9_any b0
  obtain ⟨A, hA⟩ : ∃ A : ByteArray, A = a1 ++ ⟨#[100]⟩ := ⟨_, rfl⟩
  obtain ⟨C, hC⟩ : ∃ C : ByteArray, C = A ++ B := ⟨_, rfl⟩
  have hAz : A.size ≤ 2001 := by rw [hA, ByteArray.size_append]; have : (⟨#[100]⟩ : ByteArray).size = 1 := rfl; omega
  have hCz : C.size ≤ 4001 := by rw [hC, ByteArray.size_append]; omega
  have htA := (prs_ok _ A.data.toList (Nat.le_refl _)).2.1
  have htB := (prs_ok _ B.data.toList (Nat.le_refl _)).2.1
  have HT : Hid ((txt (prs A.data.toList ++ prs B.data.toList)).length ≤ 4001) := by
    show _ ≤ _
    have e : txt (prs A.data.toList ++ prs B.data.toList) = txt (prs A.data.toList) ++ txt (prs B.data.toList) := by simp [txt]
    rw [e, List.length_append, htA, htB, list_len, list_len]
    omega
  clear htA htB
  have hPA := parse_any A (by omega)
  have hPB := parse_any B (by omega)
  have hPC := parse_any C (by omega)
  unfold PsC at hPA hPB hPC
  have hEn : En A.data.toList := ⟨a1.data.toList, by rw [hA, ByteArray.data_append, Array.toList_append]⟩
  have hjoin : (prs A.data.toList ++ prs B.data.toList).foldl stp [] = prs C.data.toList := by rw [join_prs _ _ hEn, hC, ByteArray.data_append, Array.toList_append]
  have lA := prs_len A.data.toList
  have lB := prs_len B.data.toList
  rw [list_len] at lA lB
  generalize prs A.data.toList = pa at *
  generalize prs B.data.toList = pb at *
  generalize prs C.data.toList = pc at *
  have lA' : pa.length ≤ 2001 := by omega
  have lB' : pb.length ≤ 2000 := by omega
  have Hj : Hid ((pa ++ pb).foldl stp [] = pc) := hjoin
  have hA2 := hA.symm
  have hC2 := hC.symm
  have hAI : (a1.size : Int) ≤ 2000 := by omega
  have hBI : (B.size : Int) ≤ 2000 := by omega
  have hAI2 : (A.size : Int) ≤ 2001 := by omega
  obtain ⟨i0, hi, hz0, hz1, hz2⟩ := infoP
  clear hjoin hEn lA lB hA hC ha0 hb0
  go_enter Try.func4, Try.ntmps4
  go_wp2_with fail
  refine (hCa _).mono ?_
  rintro e w1 ⟨rfl, hw1⟩
  subst w1
  go_wp2_with fail
  refine (hCb _).mono ?_
  rintro e w1 ⟨rfl, hw1⟩
  subst w1
  go_upto_region 2 with fail
  go_cut [5] (fun t wx => wx.ownsRow w.heap.size 40 20 t (pa ++ pb).length (rowP (pa ++ pb)) ∧ Below w.heap.size w wx)
  case first =>
    go_wp2_with fail
    refine (hPA _).mono ?_
    rintro e W1 ⟨vA, rfl, oA, b1⟩
    obtain ⟨aA, cA, rfl, hcA, hmA⟩ := own_slice9 oA
    go_wp2_with fail
    refine (hPB _).mono ?_
    rintro e W2 ⟨vB, rfl, oB, b2⟩
    obtain ⟨aB, cB, rfl, hcB, hmB⟩ := own_slice9 oB
    have oA2 : W2.ownsRow w.heap.size 40 20 (.slice aA pa.length cA) pa.length (rowP pa) := oA.kept (row := none) ⟨b2.os, b2.tape, b2.output, b2.size, fun k hk _ => b2.block k hk⟩ (by cases aA with | none => exact .inl rfl | some x => exact .inr (by simp [Value.ownBlock]))
    have b12 : Below w.heap.size w W2 := b1.trans (b2.mono b1.size)
    clear hCa hCb hPA hPB hPC oA
    by_cases hpb : pb.length = 0
    · obtain rfl : pb = [] := List.eq_nil_of_length_eq_zero hpb
      rcases oB.2 with ⟨h0, -⟩ | ⟨g, cap, cur, hv, -⟩
      · obtain ⟨rfl, -, rfl⟩ := Value.slice.inj h0
        clear h0
        go_wp2_with (at_builtin; refine wpl_append_none rfl _ _ 23 rfl 40 i0 Try.underlying23 hi _ _ _ rfl rfl hcA ?_)
        go_meet
        exact ⟨by rw [List.append_nil]; exact oA2, b12⟩
      · obtain ⟨rfl, -, rfl⟩ := Value.slice.inj hv
        clear hv
        go_wp2_with (at_builtin; refine wpList_append_own_at _ rfl _ _ 23 rfl w.heap.size 40 i0 _ 20 136 Try.underlying23 hi hz0 hz1 hz2 rfl (by decide) _ _ _ rfl oA2 ⟨g, 0, none⟩ 0 cB [] rfl rfl ?c1 ?c2 ?c3 ?c4 ?c5 ?_)
        case c1 => intro j u hj; simp at hj
        case c2 => intro u hu; simp at hu
        case c3 => unfold maxLen; omega
        case c4 => omega
        case c5 => exact b12.size
        intro v3 w3 o3 g3 _ _
        have b3 : Below w.heap.size w w3 := b12.grown g3 b12.size (fun kk hkk => (oA2.lt kk hkk).1)
        have o4 : w3.ownsRow w.heap.size 40 20 v3 (pa ++ []).length (rowP (pa ++ [])) := by rw [List.append_nil]; exact o3
        clear o3
        go_wp2
        go_meet
        exact ⟨o4, b3⟩
    · obtain ⟨g, rfl, hbg, hgl, hcell⟩ := own_cell9 oB (by omega)
      go_wp2_with (at_builtin; refine wpList_append_own_at _ rfl _ _ 23 rfl w.heap.size 40 i0 _ 20 136 Try.underlying23 hi hz0 hz1 hz2 rfl (by decide) _ _ _ rfl oA2 ⟨g, 0, none⟩ pb.length cB (rowP pb) rfl (rowP_len pb) ?c1 ?c2 ?c3 ?c4 ?c5 ?_)
      case c1 =>
        intro j u hj
        have ea : (⟨g, 0, none⟩ : Addr).add j = ⟨g, j, none⟩ := by
          by_cases h0 : j = 0
          · subst h0; simp [Addr.add]
          · simp [Addr.add, h0]
        rw [ea]
        exact hcell j u hj
      case c2 => exact rowP_one pb
      case c3 => unfold maxLen; omega
      case c4 => omega
      case c5 => exact b12.size
      intro v3 w3 o3 g3 _ _
      have b3 : Below w.heap.size w w3 := b12.grown g3 b12.size (fun kk hkk => (oA2.lt kk hkk).1)
      have o4 : w3.ownsRow w.heap.size 40 20 v3 (pa ++ pb).length (rowP (pa ++ pb)) := by rw [rowP_app, List.length_append]; exact o3
      clear o3
      go_wp2
      go_meet
      exact ⟨o4, b3⟩
  case rest =>
  obtain ⟨oL, bL⟩ := hcut
  clear hCa hCb hPA hPB
  have hL : (pa ++ pb).length ≤ 4001 := by rw [List.length_append]; omega
  generalize pa ++ pb = pl at *
  obtain ⟨aL, cL, rfl, -, -⟩ := own_slice9 oL
  obtain ⟨W3, hW3⟩ : ∃ W3, W3 = wc := ⟨_, rfl⟩
  subst hW3
  go_wp2_with fail
  refine (hPC _).mono ?_
  rintro e W4 ⟨vC, rfl, oC, b4⟩
  obtain ⟨aC, cC, rfl, -, -⟩ := own_slice9 oC
  have b34 : Below w.heap.size w W4 := bL.trans (b4.mono bL.size)
  have oL4 : W4.ownsRow w.heap.size 40 20 (.slice aL pl.length cL) pl.length (rowP pl) := oL.kept (row := none) ⟨b4.os, b4.tape, b4.output, b4.size, fun k hk _ => b4.block k hk⟩ (by cases aL with | none => exact .inl rfl | some x => exact .inr (by simp [Value.ownBlock]))
  have hRL := fun h => own_row oL4 h
  have hRC := fun h => own_row oC h
  have hLI : (pl.length : Int) ≤ 4001 := by omega
  clear hPC oL oL4 oC b4 bL
  go_wp2_with fail
  go_loopg [7, 9, 10, 28] pl.length (fun g nv _ _ iv wr => ∃ (i : Nat) (n : List Pc), iv = .int .i64 (i : Nat) ∧ i + g = pl.length ∧ n.length ≤ i ∧ Hid (n = (pl.take i).foldl stp []) ∧ wr.ownsRow W4.heap.size 40 20 nv n.length (rowP n) ∧ Below W4.heap.size W4 wr)
  case atStart => exact ⟨0, [], rfl, by omega, Nat.le_refl _, rfl, World.ownsRow_nil _ _ _ _, Below.refl _ _⟩
  case round =>
    obtain ⟨i, n, rfl, hi2, hni, HN, oN, bN⟩ := hrel
    obtain ⟨an, cn, rfl, hcn, hmn⟩ := own_slice9 oN
    have hnI : (n.length : Int) ≤ 4001 := by omega
    by_cases hlt : i < pl.length
    · have hltI : (i : Int) < pl.length := by omega
      obtain ⟨p, hp⟩ : ∃ p, pl[i]? = some p := ⟨_, List.getElem?_eq_getElem hlt⟩
      obtain ⟨gL, rfl, -, hgL, hRo⟩ := hRL (by omega)
      have hrg : wr.rangeAt gL (i * 20) (pcV p (ba p.text)) := (hRo.up hgL bN) i p hp
      obtain ⟨W5, hW5, b5, x5, hX5⟩ := rd_boxP (pcV p (ba p.text)) rfl wr
      have oN5 : W5.ownsRow W4.heap.size 40 20 (.slice an n.length cn) n.length (rowP n) := oN.kept (row := none) ⟨b5.os, b5.tape, b5.output, b5.size, fun k hk _ => b5.block k hk⟩ (by cases an with | none => exact .inl rfl | some x => exact .inr (by simp [Value.ownBlock]))
      have bN5 : Below W4.heap.size W4 W5 := bN.trans (b5.mono bN.size)
      go_upto_region 8 with (first
        | (refine wpl_load20g rfl (.tmp 30) rfl rfl hrg rfl ?_)
        | (refine wpl_store20 rfl (.tmp 9) (.tmp 31) rfl (us := pcV p (ba p.text)) rfl rfl (Bx.new wr (pieceV 0 ⟨#[]⟩ fl0 0 0 nb0 nb0 ix0) 40) rfl rfl (pcV_one _ _) ?_; rw [← hW5]; clear hW5))
      have t0 := x5.c 0 _ rfl
      have t1 := x5.c 1 _ rfl
      have hfold := fold_take hp
      rw [← HN.out] at hfold
      have HF : Hid (stp n p = (pl.take (i + 1)).foldl stp []) := hfold
      have hpz : p.text.length ≤ 4001 := Nat.le_trans (txt_mem (List.mem_of_getElem? hp)) HT.out
      have hnz : (txt n).length ≤ 4001 := by
        rw [HN.out, txt_fold]
        exact Nat.le_trans (by simpa [txt] using txt_take_le pl i) HT.out
      have hX4 : W4.heap.size ≤ wr.heap.size := bN.size
      clear hfold hrg hRo HN oN bN
      generalize wr.heap.size = X at *
      obtain ⟨bb, hbb⟩ : ∃ bb : Bool, Hid (bb = match n.getLast? with | some q => decide (q.kind = 0 ∧ p.kind = 0) | none => false) := ⟨_, rfl⟩
      go_upto_region 9 with fail
      go_cut [7, 9, 10, 28, 49] (fun a7 a9 a10 iv t wx => wx = W5 ∧ a7 = .slice an n.length cn ∧ a9 = .pointer (some ⟨X, 0, none⟩) ∧ a10 = .int .i64 ((n.length : Int) - 1) ∧ iv = .int .i64 (i : Nat) ∧ t = .bool bb)
      case first =>
        rcases List.eq_nil_or_concat n with rfl | ⟨m, q, rfl⟩
        · have e : Hid (false = bb) := by show _ = _; rw [hbb.out]; rfl
          clear hbb
          go_wp2
          go_meet
          exact ⟨rfl, rfl, rfl, rfl, rfl, congrArg Value.bool e.out⟩
        · rw [List.concat_eq_append] at *
          obtain ⟨gN, rfl, -, hgN, hRN⟩ := own_row oN5 (by simp)
          have hq : (m ++ [q])[m.length]? = some q := by simp
          have q0 : W5.cell? ⟨gN, m.length * 20, none⟩ = some (.int .i64 (q.kind : Nat)) := hRN m.length q hq 0 _ rfl
          have hmlI : (m.length : Int) ≤ 4000 := by simp at hnI; omega
          by_cases hqk : q.kind = 0
          · by_cases hpk : p.kind = 0
            · have e : Hid (true = bb) := by show _ = _; rw [hbb.out]; simp [hqk, hpk]
              rw [hqk] at q0
              clear hbb
              have t0' : W5.cell? ⟨X, 0, none⟩ = some (.int .i64 0) := by rw [t0, hpk]; rfl
              clear t0
              go_wp2
              go_meet
              exact ⟨rfl, rfl, rfl, by simp, rfl, congrArg Value.bool e.out⟩
            · have e : Hid (false = bb) := by show _ = _; rw [hbb.out]; simp [hpk]
              rw [hqk] at q0
              clear hbb
              have hpkI : (((p.kind : Nat) : Int) == 0) = false := by simp; omega
              go_wp2
              go_meet
              exact ⟨rfl, rfl, rfl, by simp, rfl, congrArg Value.bool e.out⟩
          · have e : Hid (false = bb) := by show _ = _; rw [hbb.out]; simp [hqk]
            clear hbb
            have hqkI : (((q.kind : Nat) : Int) == 0) = false := by simp; omega
            go_wp2
            go_meet
            exact ⟨rfl, rfl, rfl, by simp, rfl, congrArg Value.bool e.out⟩
      case rest =>
      obtain ⟨hwx, rfl, rfl, rfl, rfl, rfl⟩ := hcut
      have hwx' : W5 = wc := hwx.symm
      clear hwx
      subst hwx'
      have hbaz : ∀ l : Bs, (ba l).size = l.length := fun l => by rw [← list_len]; simp [ba]
      cases bb with
      | true =>
        rcases List.eq_nil_or_concat n with rfl | ⟨m, q, rfl⟩
        · have := hbb.out; simp at this
        rw [List.concat_eq_append] at *
        obtain ⟨hqk, hpk⟩ : q.kind = 0 ∧ p.kind = 0 := by have := hbb.out; simpa using this.symm
        obtain ⟨gN, rfl, hgb, hgN, hRN⟩ := own_row oN5 (by simp)
        have hq : (m ++ [q])[m.length]? = some q := by simp
        obtain ⟨QT, hQT⟩ : ∃ T, T = ba q.text := ⟨_, rfl⟩
        obtain ⟨PT, hPT⟩ : ∃ T, T = ba p.text := ⟨_, rfl⟩
        have q1 : W5.cell? ⟨gN, m.length * 20 + 1, none⟩ = some (.string QT) := by rw [hQT]; exact hRN m.length q hq 1 _ rfl
        have t1' : W5.cell? ⟨X, 1, none⟩ = some (.string PT) := by rw [hPT]; exact t1
        have qz := oN5.frozenAt (m.length * 20 + 1)
        have hmlI : (m.length : Int) ≤ 4000 := by simp at hnI; omega
        have hQz : (QT.size : Int) ≤ 4001 := by
          rw [hQT, hbaz]
          have := txt_mem (ps := m ++ [q]) (p := q) (by simp)
          omega
        have hPz : (PT.size : Int) ≤ 4001 := by rw [hPT, hbaz]; omega
        have oN6 := (oN5.stored (m.length * 20 + 1) (.string (QT ++ PT))).1.drew
        have bN6 : Below W4.heap.size W4 (W5.setCell ⟨gN, m.length * 20 + 1, none⟩ (.string (QT ++ PT))).drew := (bN5.setCell hgb _).drew
        have hset : (rowP (m ++ [q])).set (m.length * 20 + 1) (.string (QT ++ PT)) = rowP (m ++ [{ q with text := q.text ++ p.text }]) := by
          have hba : QT ++ PT = ba (q.text ++ p.text) := by rw [hQT, hPT]; unfold ba; apply ByteArray.ext; simp
          rw [hba, rowP_app, rowP_app, List.set_append_right _ _ (by rw [rowP_len]; omega), rowP_len, show m.length * 20 + 1 - m.length * 20 = 1 by omega]
          rfl
        have HF2 : Hid (m ++ [{ q with text := q.text ++ p.text }] = (pl.take (i + 1)).foldl stp []) := by
          show _ = _
          rw [← HF.out, stp_snoc, if_pos ⟨hqk, hpk⟩]
        have hlen3 : (m ++ [{ q with text := q.text ++ p.text }]).length ≤ i + 1 := by simp at hni ⊢; omega
        have hapn : ((m ++ [q]).length : Int) - 1 = (m.length : Nat) := by simp
        have hapl : (m ++ [q]).length = m.length + 1 := by simp
        rw [hapl] at oN6
        rw [hset] at oN6
        rw [hapl]
        rw [hapl] at hapn
        clear hset hbb HF hRN hq hapl oN5 t1 hQT hPT
        go_upto_region 10 with fail
        go_region
        all_goals
          go_wp2
          go_roundg (gk - 1)
          case measure => omega
          case rel => exact ⟨i + 1, m ++ [{ q with text := q.text ++ p.text }], by go_num, by omega, hlen3, HF2, by simpa using oN6, bN6⟩
      | false =>
        have HF2 : Hid (n ++ [p] = (pl.take (i + 1)).foldl stp []) := by
          show _ = _
          rw [← HF.out]
          have hb := hbb.out
          unfold stp
          cases hg : n.getLast? with
          | none => rfl
          | some q =>
            rw [hg] at hb
            dsimp only at hb ⊢
            rw [if_neg (fun hh => by rw [decide_eq_true hh] at hb; cases hb)]
        clear HF hbb t0 t1 hbaz
        go_wp2_with (first
          | (refine wpl_load20 rfl (.tmp 9) rfl rfl x5 rfl ?_)
          | (refine wpl_build20 rfl (.tmp 61) rfl p (ba p.text) rfl ?_)
          | (at_builtin; refine wpList_append_own_at _ rfl _ _ 23 rfl W4.heap.size 40 i0 _ 20 136 Try.underlying23 hi hz0 hz1 hz2 rfl (by decide) _ _ _ rfl (oN5.alloc _) ⟨W5.heap.size, 0, none⟩ 1 1 (pcV p (ba p.text)) rfl rfl ?c1 ?c2 ?c3 ?c4 ?c5 ?_))
        case c1 =>
          intro j u hj
          have ea : (⟨W5.heap.size, 0, none⟩ : Addr).add j = ⟨W5.heap.size, j, none⟩ := by
            by_cases h0 : j = 0
            · subst h0; simp [Addr.add]
            · simp [Addr.add, h0]
          rw [ea]
          exact (Bx.new W5 (pcV p (ba p.text)) 40).c j u hj
        case c2 => exact pcV_one _ _
        case c3 => unfold maxLen; omega
        case c4 => omega
        case c5 => have := bN5.size; simp; omega
        intro v3 w3 o3 g3 _ _
        have b3 : Below W4.heap.size W4 w3 := (bN5.alloc bN5.size _).grown g3 (by have := bN5.size; simp; omega) (fun kk hkk => (oN5.lt kk hkk).1)
        have o4 : w3.ownsRow W4.heap.size 40 20 v3 (n ++ [p]).length (rowP (n ++ [p])) := by
          rw [rowP_app, List.length_append]
          simpa [rowP] using o3
        have hlen3 : (n ++ [p]).length ≤ i + 1 := by simp; omega
        generalize n ++ [p] = n2 at *
        clear o3 g3 oN5 x5 bN5
        go_wp2
        go_roundg (gk - 1)
        case measure => omega
        case rel => exact ⟨i + 1, n2, by go_num, by omega, hlen3, HF2, o4, b3⟩
    · have hltI : ¬ (i : Int) < pl.length := by omega
      have hnpc : n = pc := by
        rw [HN.out, List.take_of_length_le (by omega)]
        exact Hj.out
      subst hnpc
      have hRN := fun h => own_row oN h
      have hgl := fun (h : 0 < n.length) => (hRN h)
      have hfin : ∀ V, Below wr.heap.size wr V → Below w.heap.size w V := fun V hV => b34.trans ((bN.mono b34.size).trans (hV.mono (Nat.le_trans b34.size bN.size)))
      have hRC2 : ∀ h : 0 < n.length, ∃ g, aC = some ⟨g, 0, none⟩ ∧ g < wr.heap.size ∧ RowAt wr g n := fun h => by
        obtain ⟨g, e, -, h2, h3⟩ := hRC h
        exact ⟨g, e, Nat.lt_of_lt_of_le h2 bN.size, h3.up h2 bN⟩
      clear HN hRL oN Hj HT hgl hRC bN
      obtain ⟨V0, hV0⟩ : ∃ V0, V0 = wr := ⟨_, rfl⟩
      subst hV0
      go_wp2_with fail
      go_loopg [11, 72] n.length (fun g _ iv wx => ∃ k : Nat, iv = .int .i64 (k : Nat) ∧ k + g = n.length ∧ Below V0.heap.size V0 wx)
      case atStart => exact ⟨0, rfl, by omega, Below.refl _ _⟩
      case round =>
        obtain ⟨k, rfl, hk, bx⟩ := hrel
        by_cases hlt2 : k < n.length
        · have hltI2 : (k : Int) < n.length := by omega
          obtain ⟨p, hp⟩ : ∃ p, n[k]? = some p := ⟨_, List.getElem?_eq_getElem hlt2⟩
          obtain ⟨gN, rfl, -, hgN, hRo⟩ := hRN (by omega)
          obtain ⟨gC, rfl, hgC, hRp⟩ := hRC2 (by omega)
          have r1 : wr.rangeAt gN (k * 20) (pcV p (ba p.text)) := (hRo.up hgN bx) k p hp
          have r2 : wr.rangeAt gC (k * 20) (pcV p (ba p.text)) := (hRp.up hgC bx) k p hp
          have hne : ∀ w, (binOp .neq 40 (.agg (pcV p (ba p.text)).toArray) (.agg (pcV p (ba p.text)).toArray)).run Try.prog w = .ok (.bool false) w := fun w => neq20 _ _ _ _ _ _ _ _ w
          have hvl : (pcV p (ba p.text)).length = 20 := rfl
          clear hRN hRC2 hRo hRp hp
          generalize pcV p (ba p.text) = vs at *
          go_upto_region 18 with fail
          refine wp_region_held_drew (S := fun w' => w'.rangeAt gC (k * 20) vs ∧ w'.rangeAt gN (k * 20) vs) (by kernel_rfl) ⟨r2, r1⟩ ?_
          intro hS
          refine wpAnyH_take (i := 0) (v := .slice (some ⟨gC, 0, none⟩) n.length cC) rfl (by kernel_rfl) (by kernel_rfl) (by kernel_rfl) (fun _ _ _ h => h) (Or.inl ⟨by rfl, ?_⟩) (by assumption) ?_
          · intro w5 s0
            go_simp
            try decide
          try simp only [Act.put, List.getElem_toArray, List.getElem_cons_zero, List.getElem_cons_succ, List.setIfInBounds_toArray, List.set_cons_zero, List.set_cons_succ]
          refine wpAnyH_take (i := 1) (v := .int .i64 (k : Nat)) rfl (by kernel_rfl) (by kernel_rfl) (by kernel_rfl) (fun _ _ _ h => h) (Or.inl ⟨by rfl, ?_⟩) (by assumption) ?_
          · intro w5 s0
            go_simp
            try decide
          try simp only [Act.put, List.getElem_toArray, List.getElem_cons_zero, List.getElem_cons_succ, List.setIfInBounds_toArray, List.set_cons_zero, List.set_cons_succ]
          refine wpAnyH_take (i := 2) (v := .pointer (some ⟨gC, k * 20, none⟩)) rfl (by kernel_rfl) (by kernel_rfl) (by kernel_rfl) (fun _ _ _ h => h) (Or.inl ⟨by rfl, ?_⟩) (by assumption) ?_
          · intro w5 s0
            go_simp
            try decide
          try simp only [Act.put, List.getElem_toArray, List.getElem_cons_zero, List.getElem_cons_succ, List.setIfInBounds_toArray, List.set_cons_zero, List.set_cons_succ]
          refine wpAnyH_take (i := 3) (v := .agg vs.toArray) rfl (by kernel_rfl) (by kernel_rfl) (by kernel_rfl) (fun _ _ _ h => h) ?_ (by assumption) ?_
          · obtain ⟨dd, r1, r2⟩ := isrow20
            exact yieldsIf_load_mid rfl 40 (.tmp 77) rfl gC (k * 20) rfl vs dd (fun _ h => h.1) r1 r2 (by rw [hvl]; exact info20)
          try simp only [Act.put, List.getElem_toArray, List.getElem_cons_zero, List.getElem_cons_succ, List.setIfInBounds_toArray, List.set_cons_zero, List.set_cons_succ]
          refine wpAnyH_take (i := 4) (v := .slice (some ⟨gN, 0, none⟩) n.length cn) rfl (by kernel_rfl) (by kernel_rfl) (by kernel_rfl) (fun _ _ _ h => h) (Or.inl ⟨by rfl, ?_⟩) (by assumption) ?_
          · intro w5 s0
            go_simp
            try decide
          try simp only [Act.put, List.getElem_toArray, List.getElem_cons_zero, List.getElem_cons_succ, List.setIfInBounds_toArray, List.set_cons_zero, List.set_cons_succ]
          refine wpAnyH_take (i := 5) (v := .int .i64 (k : Nat)) rfl (by kernel_rfl) (by kernel_rfl) (by kernel_rfl) (fun _ _ _ h => h) (Or.inl ⟨by rfl, ?_⟩) (by assumption) ?_
          · intro w5 s0
            go_simp
            try decide
          try simp only [Act.put, List.getElem_toArray, List.getElem_cons_zero, List.getElem_cons_succ, List.setIfInBounds_toArray, List.set_cons_zero, List.set_cons_succ]
          refine wpAnyH_take (i := 6) (v := .pointer (some ⟨gN, k * 20, none⟩)) rfl (by kernel_rfl) (by kernel_rfl) (by kernel_rfl) (fun _ _ _ h => h) (Or.inl ⟨by rfl, ?_⟩) (by assumption) ?_
          · intro w5 s0
            go_simp
            try decide
          try simp only [Act.put, List.getElem_toArray, List.getElem_cons_zero, List.getElem_cons_succ, List.setIfInBounds_toArray, List.set_cons_zero, List.set_cons_succ]
          refine wpAnyH_take (i := 7) (v := .agg vs.toArray) rfl (by kernel_rfl) (by kernel_rfl) (by kernel_rfl) (fun _ _ _ h => h) ?_ (by assumption) ?_
          · obtain ⟨dd, r1, r2⟩ := isrow20
            exact yieldsIf_load_mid rfl 40 (.tmp 81) rfl gN (k * 20) rfl vs dd (fun _ h => h.2) r1 r2 (by rw [hvl]; exact info20)
          try simp only [Act.put, List.getElem_toArray, List.getElem_cons_zero, List.getElem_cons_succ, List.setIfInBounds_toArray, List.set_cons_zero, List.set_cons_succ]
          refine wpAnyH_take (i := 8) (v := .bool false) rfl (by kernel_rfl) (by kernel_rfl) (by kernel_rfl) (fun _ _ _ h => h) (Or.inl ⟨by rfl, ?_⟩) (by assumption) ?_
          · intro w5 s0
            go_simp
            try decide
          try simp only [Act.put, List.getElem_toArray, List.getElem_cons_zero, List.getElem_cons_succ, List.setIfInBounds_toArray, List.set_cons_zero, List.set_cons_succ]
          refine wpAnyH_done (by kernel_rfl) ?_ _
          have bx2 : Below V0.heap.size V0 wr.drew := bx.trans ((Below.refl wr.heap.size wr).drew.mono bx.size)
          clear hS r1 r2
          go_wp2
          go_roundg (gk - 1)
          case measure => omega
          case rel => exact ⟨k + 1, by go_num, by omega, bx2⟩
        · have hltI2 : ¬ (k : Int) < n.length := by omega
          have hlv := lives9_any wr
          go_wp2_with (go_at_call 12; refine hlv.mono ?_; rintro e w9 ⟨rfl, hb9⟩)
          go_ret
          exact ⟨rfl, hfin _ (bx.trans (hb9.mono bx.size))⟩
end Go.Proofs.Ytbgejkodgcgpdaa
