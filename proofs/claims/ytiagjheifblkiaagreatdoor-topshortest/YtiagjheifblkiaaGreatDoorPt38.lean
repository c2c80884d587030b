/- WTopShortest, Laid15S, OpenBits9: these texts in one. -/
import Derived.Test.YtiagjheifblkiaaGreatDoorUTopSh
import Derived.Test.YtiagjheifblkiaaGreatDoorRows
import Derived.Test.YtiagjheifblkiaaGreatDoorPt7
import Derived.Test.YtiagjheifblkiaaGreatDoorPt2
import Derived.WalkKit
import Derived.ProofKit
import Derived.LaidMore
import Derived.Lay
import Derived.OpenShut
import Derived.Stop.Joined
namespace Go.Proofs.YtiagjheifblkiaaGreatDoor
open Go.RowKit
set_option linter.unusedVariables false
set_option linter.unusedSimpArgs false
theorem sh_prs : ∃ p, prs (⟨#[37, 118]⟩ : ByteArray).data.toList = [p] ∧ p.kind = 1 ∧ p.wid.k = 0 ∧ p.prec.k = 0 ∧ p.arg.k = 0 ∧ p.wid.a.k = 0 ∧ p.prec.a.k = 0 ∧ p.verb = 118 ∧ spQ p = ⟨false, false, false, false, false, -1, -1, 118⟩ := ⟨_, rfl, rfl, rfl, rfl, rfl, rfl, rfl, rfl, rfl⟩
theorem o_inj9 {x y : Nat} (h1 : oS x = oS y) (h2 : oP x = oP y) : x = y := by
 have e : oL x = oL y := by
  have : (oS x).data.toList = (oS y).data.toList := by rw [h1]
  exact this
 rw [← o_val x, ← o_val y, e, h2]
theorem sh_pt {size : Int} {f ww : Nat} {least : Int} {I : Nat} (h : Ly size f ww least I) {p d : Nat} (hp : p < I) (hvF : Fine (val f least p)) (hdB : SH (fun x => RD f I (un least) x p) (val f least p) d) : -950 ≤ oP d ∧ oP d ≤ 950 := by
 by_cases h0 : p = 0
 ·have e : val f least p = 0 := by subst h0; simp [val, pq, pm]
  rw [e] at hdB
  have hd0 : d = 0 := hdB.all fun j h1 h2 => by rw [o_zero.1] at h2; simp at h2
  rw [hd0, o_zero.2]; decide
 ·have hlo := val_low2 h hp h0
  have hp1 := hvF.p1
  rcases hdB with ⟨m, n1, n2, -, n4, n5⟩ | ⟨-, n2⟩
  ·obtain ⟨-, hd2⟩ := pick_R n4 n5
   have hb1 := Bn_le (val f least p) m
   have hq := Qn_lt (v := val f least p) (n := m) (by omega)
   have hqe := Qn_eq (v := val f least p) (n := m) (by omega)
   have hge := Bn_ge (v := val f least p) (n := m) n1 (by omega)
   have hA : An (val f least p) m < 10 ^ (Qn (val f least p) m + m + 1) := by
    have h1 : An (val f least p) m = Bn (val f least p) m + 10 ^ Qn (val f least p) m := rfl
    have h2 : 10 ^ Qn (val f least p) m ≤ 10 ^ (Qn (val f least p) m + m) := Nat.pow_le_pow_right (by decide) (by omega)
    rw [Nat.pow_succ]; omega
   have hdl2 : d < 10 ^ (Qn (val f least p) m + m + 1) := by
    rcases hd2 with rfl | rfl
    ·omega
    ·exact hA
   have hdg : 10 ^ (Qn (val f least p) m + (m - 1)) ≤ d := by
    rcases hd2 with rfl | rfl
    ·exact hge
    ·omega
   have h4 := oP_gt hdg
   rcases oP_le hdl2 with h3 | h3
   ·omega
   ·rw [h3, o_zero.2]; omega
  ·rw [n2]; omega
theorem sh_near {size : Int} {f ww : Nat} {least : Int} {I : Nat} (h : Ly size f ww least I) {p d : Nat} (hp : p < I) (hv : Fine (val f least p)) (hdB : SH (fun x => RD f I (un least) x p) (val f least p) d) : Good (rnd (val f least p) (oL d).length) := by
 have hl := hdB.len
 by_cases hj : (oL d).length = 0
 ·have d0 : d = 0 := oL_nil.1 (List.eq_nil_of_length_eq_zero hj)
  rcases hdB with ⟨k, k1, k2, k3, k4, k5⟩ | ⟨-, hdv⟩
  ·have := pick_len k1 k2 k3 k4 k5; omega
  ·rw [← hdv, d0]
   unfold rnd
   rw [if_neg (by omega), if_pos (by rw [o_zero.1]; simp)]
   exact ⟨by rw [o_zero.1]; simp, by rw [o_zero.2]; decide, by rw [o_zero.2]; decide⟩
 ·have q := Qn_eq (v := val f least p) (n := (oL d).length) hl
  rw [rnd_near (Q := Qn (val f least p) (oL d).length) (by omega)]
  exact (An_good hv (by omega) hl).2.2.2
theorem topShortest_walk (m0 : Int) (b : Bool) (hm0 : (Lit.int .u64 m0).wf = true) (w : World) (hk : KN w) (he : Esc w) :
  Calls Tryz.prog 4 #[.agg #[.int .u64 m0, .bool b]] w fun e w' => e = .returned (.bool true) ∧ Below w.heap.size w w' := by
 obtain ⟨bits, n, f, ww, least, I, p, k, rfl, h, hp, hp9, hkn, hFl⟩ := pat9 m0 hm0 b
 have hbp := bare_small h hp
 obtain ⟨d, hdB, gd, hF⟩ := fin_of (bits := p) h (by omega) (by rw [hbp]; exact hp)
 rw [hbp] at hdB hF
 have hsg : sgn f ww p = false := by
  have h2 := hbp
  unfold sgn
  unfold bare at h2
  have : p / 2 ^ (f + ww) = 0 := Nat.div_eq_of_lt (by have := Nat.mod_lt p (show 0 < 2 ^ (f + ww) from Nat.pow_pos (by decide)); omega)
  rw [this]; rfl
 rw [hsg] at hF
 have hv := (val_ex h hp).2
 have hl := hdB.len
 have hvl := hv.len
 have hv0 := hv.p0
 have hv1 := hv.p1
 have z1 := oS_size d
 have z2 := oS_size (val f least p)
 have hpd := sh_pt h hp hv hdB
 have hfl := float_fin hF false false false false false (-1) (-1) 118 (by decide)
 rw [filT_bare _ (asc_fin _ _ _ _ _ _ _), finT_118] at hfl
 have e : genT false (min (-1) 1000) (val f least p) d = genG false d 21 6 := by unfold genT; rw [if_pos (by decide)]
 rw [e] at hfl
 have hdl : (oL d).length ≤ 17 := by
  by_cases h0 : p = 0
  ·have e : val f least p = 0 := by subst h0; simp [val, pq, pm]
   rw [e, o_zero.1] at hl
   simp at hl; simp [hl]
  ·have hbd := bd_of (f := f) (I := I) (u := un least) (un_pos least) h0 hp
   have hg := gap_of (f := f) (u := un least) h0
   rcases id h with ⟨-, rfl, -, -, -⟩ | ⟨-, rfl, -, -, -⟩
   ·have := hdB.few hbd (N := 9) (by decide) hg (by decide)
    omega
   ·exact hdB.few hbd (N := 17) (by decide) hg (by decide)
 obtain ⟨hR, hTs⟩ := genReadP (d := d) false 21 6 (by decide) hpd.2 hpd.1 (by omega)
 have hTs : (genG false d 21 6).size ≤ 4000 := hTs
 have hR : R6C (genG false d 21 6) (oS d) (oP d) := hR
 generalize genG false d 21 6 = T at *
 obtain ⟨pc, p1, p2, p3, p4, p5, p6, p7, p8, p9⟩ := sh_prs
 have hPr : ∀ (A : Nat) (W : World), Esc W → KN W → A < W.heap.size → W.rangeAt A 0 [.int .i64 k, .string ⟨#[]⟩, .int .u64 p, .int .u64 0, .string ⟨#[]⟩, .slice none 0 0, .slice none 0 0, .int .i64 0] → Calls Tryz.prog 9 #[.slice none 0 0, .string ⟨#[37, 118]⟩, .slice (some ⟨A, 0, none⟩) 1 1] W fun e w' => e = .returned (.string T) ∧ Below W.heap.size W w' := fun A W he hk hA hd => by
  refine pr_F1 _ pc p1 (by decide) p2 p3 p4 p5 p6 p7 (by rw [p8]; decide) (by rw [p8]; decide) (by rw [p9]) hkn (by omega) (T := T) ?_ (by omega) A 1 (by decide) (by decide) W he hk hA hd
  rw [p9]
  exact hfl
 have hself : RD f I (un least) (val f least p) p := RD_self (un_pos least) hp
 have hrd : RD f I (un least) d p := SH.read (R := fun x => RD f I (un least) x p) hself hdB
 have hRd := readD h gd hrd
 have hRo := roundC ((oL d).length : Int) hv.good
 have hgood := sh_near h hp hv hdB
 obtain ⟨q, hq⟩ := rd_ex f I (un least) (rnd (val f least p) (oL d).length) (un_pos least)
 have hQ := readD h hgood hq
 have hF9 := hFl hF.pt hF.ex
 have hnear : rnd (val f least p) (oL d).length = d ∨ (rnd (val f least p) (oL d).length ≠ d ∧ q ≠ p) := by
  by_cases he : rnd (val f least p) (oL d).length = d
  ·exact .inl he
  ·refine .inr ⟨he, fun k => ?_⟩
   by_cases h0 : p = 0
   ·have e : val f least p = 0 := by subst h0; simp [val, pq, pm]
    rw [e] at hdB he
    have d0 : d = 0 := hdB.all fun j j1 j2 => by rw [o_zero.1] at j2; simp at j2
    refine he ?_
    rw [d0]
    unfold rnd
    rw [if_neg (by omega), if_pos (by rw [o_zero.1]; simp)]
   ·have hbd := bd_of (f := f) (I := I) (u := un least) (un_pos least) h0 hp
    rcases SH.closest hbd hdB with h1 | h1
    ·exact he h1
    ·exact h1 (k ▸ hq)
 by_cases hfew : (oL d).length < 2
 ·rcases hnear with hE | ⟨hE, hN⟩
  ·rw [hE] at hRo hQ
   exact tsh_aE (q := q) (x := 0) (y := 0) (j := 0) (PA := 0) (T1 := T) (SA := T) hF9 hPr hR hRd (by rw [z1]; exact hRo) hQ (by omega) (by omega) (by omega) (by omega) (by omega) w hk he
  ·exact tsh_aN (x := 0) (y := 0) (j := 0) (PA := 0) (T1 := T) (SA := T) hF9 hPr hR hRd (by rw [z1]; exact hRo) hQ (by omega) (by omega) (by omega) (by omega) (fun k => hE (o_inj9 k.1 k.2)) hN (by omega) w hk he
 ·obtain ⟨j, hj⟩ : ∃ j, (oL d).length = j + 1 := ⟨(oL d).length - 1, by omega⟩
  by_cases hk2 : (oL (val f least p)).length < (oL d).length
  ·omega
  have hk2 : j < (oL (val f least p)).length := by omega
  have hfail := hdB.fewer (k := j) (by omega) (by omega) hk2
  obtain ⟨e1, e2, e3⟩ := cutV (Nat.le_of_lt hk2)
  obtain ⟨gB, gA, -, -⟩ := An_good hv (n := j) (by omega) (Nat.le_of_lt hk2)
  obtain ⟨x, hx⟩ := rd_ex f I (un least) (Bn (val f least p) j) (un_pos least)
  obtain ⟨y, hy⟩ := rd_ex f I (un least) (An (val f least p) j) (un_pos least)
  have n1 : normE ((oS (val f least p)).extract 0 j) (oP (val f least p)) = 0 := normE_ok (by omega) e2 (by omega) (by omega)
  have v1 : normV ((oS (val f least p)).extract 0 j) (oP (val f least p)) = Bn (val f least p) j := by rw [normV_ok n1, e1]
  have hR1 : ReadC ((oS (val f least p)).extract 0 j) (oP (val f least p)) n x 0 := fun w => read_ok h (by omega) n1 (by rw [v1]; exact hx) w
  have hA := nb_add hv (show 1 ≤ j by omega) hk2
  have hPe : oP (val f least p) - (j : Nat) + 1 = oP (val f least p) - ((oS d).size : Nat) + 2 := by omega
  rw [hPe] at hA
  have hR2 := readD h gA hy
  rcases hnear with hE | ⟨hE, hN⟩
  ·rw [hE] at hRo hQ
   exact tsh_cE (q := q) hF9 hPr hR hRd (by rw [z1]; exact hRo) hQ (by omega) (by omega) (by omega) (by omega) (by omega) (by omega) (by omega) rfl hA hR1 hR2 (fun e => hfail.1 (e ▸ hx)) (fun e => hfail.2 (e ▸ hy)) w hk he
  ·exact tsh_cN hF9 hPr hR hRd (by rw [z1]; exact hRo) hQ (by omega) (by omega) (by omega) (by omega) (fun k => hE (o_inj9 k.1 k.2)) hN (by omega) (by omega) (by omega) rfl hA hR1 hR2 (fun e => hfail.1 (e ▸ hx)) (fun e => hfail.2 (e ▸ hy)) w hk he
end Go.Proofs.YtiagjheifblkiaaGreatDoor
namespace Go.Proofs.YtiagjheifblkiaaGreatDoor
open Go.ChangeShapes Go.WideShapes Go.ChangeAt Go.RowKit
theorem laid.own : ownKnob Tryz.prog.godebug = none := by kernel_rfl
theorem laid.tEsc : (Tryz.prog.globals[4]?).map (·.type) = some 381 := by kernel_rfl
theorem laid.door_met (os : Os) (args : Array Value) : laidMetH Tryz.prog Rows.topShortestRow.laid ((World.laidAll Tryz.prog os Rows.topShortestRow.laid).forCall (fun _ _ => 0) ⟨#[], args, []⟩).memory := by
 rw [MakeChecks.laidMetH_plain _ _ _ (by kernel_rfl)]
 exact laidMet_laidAll _ (by kernel_rfl) (by kernel_rfl)
theorem kn_of {W : World} (h : laidMetH Tryz.prog Rows.topShortestRow.laid W) : KN W := by
 rw [MakeChecks.laidMetH_plain _ _ _ (by kernel_rfl)] at h
 obtain ⟨ps, ⟨_, _, _, _, _, _, _, _, _, _, ⟨g', t', cs, fuel, p, q, hg', ht', hvar, hd, _, _⟩, _⟩, _, _⟩ := h
 have hg : Tryz.prog.globalNamed "platen/values.kindNames" = some 3 := by kernel_rfl
 have hty : (Tryz.prog.globals[3]?).map (·.type) = some 232 := by kernel_rfl
 obtain rfl := Option.some.inj (hg.symm.trans hg')
 obtain rfl := Option.some.inj (hty.symm.trans ht')
 obtain ⟨xs, m, -, hx, -, hxl, hf⟩ := DataW.trod_array Tryz.underlying232 hd
 have hce : Tryz.prog.cellsOf 9 = 1 := by kernel_rfl
 intro i s hs
 have hi : i < 23 := by
  have := (List.getElem?_eq_some_iff.1 hs).1
  simpa [kindN] using this
 have hfi := hf i hi
 obtain ⟨y, hy⟩ : ∃ y, xs[i]? = some y := ⟨xs[i]'(by omega), List.getElem?_eq_getElem (by omega)⟩
 rw [hy, hce, Nat.mul_one] at hfi
 obtain ⟨s', hc, hy1, -⟩ := DataW.trod_string Tryz.underlying9 hfi
 have hlist : xs.map (·.1) = kindN.map fun s => (DataW.lit (.string s.data.toList) : DataW Unit) := by
  have h1 : (DataW.agg (kindN.map fun s => (DataW.lit (.string s.data.toList) : DataW Unit)) : DataW Unit) = .agg (xs.map (·.1)) := congrArg Prod.fst hx
  exact (DataW.agg.inj h1).symm
 have h2 : (xs.map (·.1))[i]? = some y.1 := by rw [List.getElem?_map, hy]; rfl
 rw [hlist, List.getElem?_map, hs] at h2
 have h3 : (DataW.lit (.string s.data.toList) : DataW Unit) = y.1 := Option.some.inj h2
 rw [hy1] at h3
 have h4 : s.data.toList = s'.data.toList := Lit.string.inj (DataW.lit.inj h3)
 have h5 : s = s' := by
  obtain ⟨⟨a⟩⟩ := s
  obtain ⟨⟨b⟩⟩ := s'
  simp only at h4
  rw [h4]
 have h6 : cs[i]? = some (.string s') := by
  have := congrArg (·[0]?) hc
  simpa [List.getElem?_take, List.getElem?_drop] using this
 rw [World.var?_cell hg hvar i, h6, h5]
theorem laid.room {W : World} {p : Addr} {v : Value} (h : W.cell? p = some v) : p.block < W.heap.size := by
 rcases Nat.lt_or_ge p.block W.heap.size with h1 | h1
 ·exact h1
 ·simp [World.cell?, Array.getElem?_eq_none h1] at h
theorem laid.get (l : List Value) (i : Nat) (v : Value) (h : (l.drop i).take 1 = [v]) : l[i]? = some v := by
 have h2 := congrArg (fun x => x[0]?) h
 simpa [List.getElem?_take, List.getElem?_drop] using h2
set_option maxRecDepth 1000000 in
theorem esc_of {W : World} (h : laidMetH Tryz.prog Rows.topShortestRow.laid W) : Esc W := by
 rw [MakeChecks.laidMetH_plain _ _ _ (by kernel_rfl)] at h
 obtain ⟨ps, ⟨_, _, _, _, _, _, _, _, _, _, ⟨_, _, _, _, _, _, _, _, _, _, ⟨g0, t0, cs0, f0, p0, q0, hg0, ht0, hv0, hd0, _, _⟩, _⟩, _⟩, _, _⟩ := h
 obtain rfl : 4 = g0 := Option.some.inj (Eq.trans (Eq.symm (by kernel_rfl)) hg0)
 obtain rfl := Option.some.inj (laid.tEsc.symm.trans ht0)
 obtain ⟨xs, m1, rfl, hx1, hlen, hn, hel⟩ := DataW.trod_array Tryz.underlying381 hd0
 have c1 : Tryz.prog.cellsOf 21 = 1 := by kernel_rfl
 have c7 : Tryz.prog.cellsOf 381 = 7 := by kernel_rfl
 simp only [Prod.mk.injEq, Rows.laid_platen_quote_escapes, DataW.agg.injEq] at hx1
 have key : ∀ i, i < 7 → W.cell? ⟨4, i, none⟩ = some (.int .i32 (escT i : Nat)) := by
  intro i hi
  have hcell := World.var?_cell hg0 hv0 i
  have h0 := hel i hi
  have hx : ∃ x, xs[i]? = some x ∧ x.1 = .lit (.int .i32 (escT i : Nat)) := by
   match xs, hn, hx1 with
   | [x0, x1, x2, x3, x4, x5, x6], _, hx1 =>
     simp only [List.map_cons, List.map_nil, List.cons.injEq] at hx1
     obtain ⟨⟨e0, e1, e2, e3, e4, e5, e6, -⟩, -⟩ := hx1
     match i, hi with
     | 0, _ => exact ⟨x0, rfl, e0.symm⟩
     | 1, _ => exact ⟨x1, rfl, e1.symm⟩
     | 2, _ => exact ⟨x2, rfl, e2.symm⟩
     | 3, _ => exact ⟨x3, rfl, e3.symm⟩
     | 4, _ => exact ⟨x4, rfl, e4.symm⟩
     | 5, _ => exact ⟨x5, rfl, e5.symm⟩
     | 6, _ => exact ⟨x6, rfl, e6.symm⟩
     | n + 7, hi => omega
  obtain ⟨x, hxi, hxv⟩ := hx
  rw [hxi, c1, Nat.mul_one] at h0
  obtain ⟨k, f1, f2, _⟩ := DataW.trod_int Tryz.underlying21 h0
  rw [f2] at hxv
  have hk : k = (escT i : Nat) := by simpa using hxv
  rw [hk] at f1
  rw [hcell]
  have := laid.get _ _ _ f1
  simpa using this
 exact ⟨laid.room (key 0 (by omega)), key⟩
end Go.Proofs.YtiagjheifblkiaaGreatDoor
namespace Go.Proofs.YtiagjheifblkiaaGreatDoor
open Go.ChangeShapes Go.WideShapes Go.ChangeAt Go.RowKit
theorem array2b {α : Type} {cs : Array α} (h : cs.size = 2) : ∃ c0 c1, cs = #[c0, c1] := by
 obtain ⟨l⟩ := cs
 match l, h with
 | [c0, c1], _ => exact ⟨c0, c1, rfl⟩
theorem cellsU64b : Tryz.prog.cellsOf 22 = 1 := by kernel_rfl
theorem cellsBoolb : Tryz.prog.cellsOf 4 = 1 := by kernel_rfl
theorem cellsBits : Tryz.prog.cellsOf 24 = 2 := by kernel_rfl
set_option maxRecDepth 1000000 in
theorem open_bits {H : Type} {enc : TypeId × Value → H} {W : World} {base : Nat} {v : Value} {d : DataW H} {p : List MemPlace}
  (hv : Value.okWide Tryz.prog W .any base 24 v) (h : DataW.Trod enc Tryz.prog W 0 (fun _ => true) true 24 v d p) :
  ∃ (x : Int) (b : Bool), v = .agg #[.int .u64 x, .bool b] ∧ (Lit.int .u64 x).wf = true := by
 obtain ⟨cs, rfl, hsz⟩ := okWide_struct Tryz.underlying24 hv
 obtain ⟨c0, c1, rfl⟩ := array2b (hsz.trans cellsBits)
 obtain ⟨fuel, hf0⟩ := h
 obtain ⟨xs, n, _, _, _, hlen, hf⟩ := DataW.trod_struct Tryz.underlying24 hf0
 match xs, hlen with
 | [y0, y1], _ =>
   have g0 : DataW.trod enc Tryz.prog W 0 (fun _ => true) true n 22 [c0] = some y0 := by simpa [Value.cells, cellsU64b] using hf 0 _ rfl
   have g1 : DataW.trod enc Tryz.prog W 0 (fun _ => true) true n 4 [c1] = some y1 := by simpa [Value.cells, cellsBoolb] using hf 1 _ rfl
   obtain ⟨x, e0, _, w0⟩ := DataW.trod_int Tryz.underlying22 g0
   obtain ⟨b, e1, _⟩ := DataW.trod_bool Tryz.underlying4 g1
   simp only [List.cons.injEq, and_true] at e0 e1
   subst e0 e1
   exact ⟨x, b, rfl, w0⟩
end Go.Proofs.YtiagjheifblkiaaGreatDoor
