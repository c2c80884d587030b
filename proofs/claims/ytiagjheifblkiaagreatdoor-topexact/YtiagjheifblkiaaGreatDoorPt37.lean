/- WTopExact, Laid15F, OpenBits9: these texts in one. -/
import Derived.Test.YtiagjheifblkiaaGreatDoorUTopEx
import Derived.Test.YtiagjheifblkiaaGreatDoorRows
import Derived.Test.YtiagjheifblkiaaGreatDoorPt7
import Derived.Test.YtiagjheifblkiaaGreatDoorPt2
import Derived.WalkKit
import Derived.ProofKit
import Derived.LaidMore
import Derived.Lay
import Derived.OpenShut
import Derived.Stop.Joined
namespace Go.Proofs.YtiagjheifblkiaaGreatDoor
open Go.RowKit
set_option linter.unusedVariables false
set_option linter.unusedSimpArgs false
theorem ex_prs (j : Nat) (hj : j < 6) : ∃ p, prs ((⟨#[37, 46, 42]⟩ : ByteArray) ++ ⟨#[UInt8.ofNat (vxN j)]⟩).data.toList = [p] ∧ p.kind = 1 ∧ p.wid.k = 0 ∧ p.wid.a.k = 0 ∧ p.prec.k = 2 ∧ p.prec.a.k = 0 ∧ p.arg.k = 0 ∧ ∃ x, spQ p = ⟨false, false, false, false, false, -1, x, vxN j⟩ := by
 have h6 : j = 0 ∨ j = 1 ∨ j = 2 ∨ j = 3 ∨ j = 4 ∨ j = 5 := by omega
 rcases h6 with rfl | rfl | rfl | rfl | rfl | rfl <;> exact ⟨_, rfl, rfl, rfl, rfl, rfl, rfl, rfl, _, rfl⟩
theorem ex_text {p m v d : Nat} {n e : Int} (hF : FinB p n false m e v d) (fv : Fine v) (hlo : v = 0 ∨ -330 ≤ oP v) (q : Int) (hq0 : 0 ≤ q) (hq1 : q ≤ 300) (j : Nat) (hj : j < 6) :
  ∃ T S1 Q1, FlCq p n false false false false false (-1) q (vxN j) T true ∧ T.size ≤ 4000 ∧ R6C T S1 Q1 ∧ (j = 0 ∨ j = 3 → oS (rnd v (q + 1)) = S1 ∧ oP (rnd v (q + 1)) = Q1) ∧ (j = 1 ∨ j = 4 → PlacesC (oS v) (oP v) q S1 Q1 0) ∧ (j = 2 ∨ j = 5 → RoundC (oS v) (oP v) (max q 1) S1 Q1 0) := by
 have hv : fVerb (vxN j) = true := by
  have h6 : j = 0 ∨ j = 1 ∨ j = 2 ∨ j = 3 ∨ j = 4 ∨ j = 5 := by omega
  rcases h6 with rfl | rfl | rfl | rfl | rfl | rfl <;> decide
 have hqm : min q 1000 = q := by omega
 have hfl := float_fin hF false false false false false (-1) q (vxN j) hv
 rw [filT_bare _ (asc_fin _ _ _ _ _ _ _)] at hfl
 have hPl := placesC q fv.good
 have hRg := roundC (max q 1) fv.good
 have hg : ∀ g, R6C (bigT g (genT false q v d)) (oS (rnd v (max q 1))) (oP (rnd v (max q 1))) ∧ (bigT g (genT false q v d)).size ≤ 4000 := fun g => by
  have e : genT false q v d = genG false (rnd v (max q 1)) (max q 1) (max q 1) := by unfold genT; rw [if_neg (by omega)]
  rw [e]
  have h1 := rnd_pt v (max q 1)
  have h2 := rnd_lo (v := v) (c := max q 1) (by omega)
  have h3 := fv.p1
  have h4 := rnd_len (v := v) (c := max q 1) (by omega)
  refine genReadP g (max q 1) (max q 1) (by omega) (by omega) ?_ (by omega)
  rcases hlo with rfl | hl
  ·rw [rnd_nil _ (by omega)]
   have : oP 0 = 0 := by decide
   omega
  ·omega
 have h6 : j = 0 ∨ j = 1 ∨ j = 2 ∨ j = 3 ∨ j = 4 ∨ j = 5 := by omega
 rcases h6 with rfl | rfl | rfl | rfl | rfl | rfl
 ·rw [show ((vxN 0 : Nat) : Int) = 101 from rfl] at hfl ⊢
  rw [finT_101, hqm] at hfl
  obtain ⟨T, hT, hRd, -, -, -, -, h4⟩ := exp_exact fv hlo hq0 (by omega) false 101 rfl
  have hT : expT false q v = T := hT
  rw [hT] at hfl
  exact ⟨T, _, _, hfl, h4, hRd, fun _ => ⟨rfl, rfl⟩, fun h => by omega, fun h => by omega⟩
 ·rw [show ((vxN 1 : Nat) : Int) = 102 from rfl] at hfl ⊢
  rw [finT_102, hqm] at hfl
  obtain ⟨T, a, hT, hRd, -, -, -, -, h4⟩ := fix_exact fv hq0 (by omega)
  rw [hT] at hfl
  exact ⟨T, _, _, hfl, h4, hRd, fun h => by omega, fun _ => hPl, fun h => by omega⟩
 ·rw [show ((vxN 2 : Nat) : Int) = 103 from rfl] at hfl ⊢
  rw [finT_103, hqm] at hfl
  exact ⟨_, _, _, hfl, (hg false).2, (hg false).1, fun h => by omega, fun h => by omega, fun _ => hRg⟩
 ·rw [show ((vxN 3 : Nat) : Int) = 69 from rfl] at hfl ⊢
  rw [finT_69, hqm] at hfl
  obtain ⟨T, hT, hRd, -, -, -, -, h4⟩ := exp_exact fv hlo hq0 (by omega) true 69 rfl
  rw [hT] at hfl
  exact ⟨T, _, _, hfl, h4, hRd, fun _ => ⟨rfl, rfl⟩, fun h => by omega, fun h => by omega⟩
 ·rw [show ((vxN 4 : Nat) : Int) = 70 from rfl] at hfl ⊢
  rw [finT_70, hqm] at hfl
  obtain ⟨T, a, hT, hRd, -, -, -, -, h4⟩ := fix_exact fv hq0 (by omega)
  rw [hT] at hfl
  exact ⟨T, _, _, hfl, h4, hRd, fun h => by omega, fun _ => hPl, fun h => by omega⟩
 ·rw [show ((vxN 5 : Nat) : Int) = 71 from rfl] at hfl ⊢
  rw [finT_71, hqm] at hfl
  exact ⟨_, _, _, hfl, (hg true).2, (hg true).1, fun h => by omega, fun h => by omega, fun _ => hRg⟩
theorem topExact_walk (m0 : Int) (b : Bool) (hm0 : (Lit.int .u64 m0).wf = true) (prec : Int) (k0 : Int) (hk0 : (Lit.int .u64 k0).wf = true) (w : World) (hk : KN w) (he : Esc w) :
  Calls Tryz.prog 3 #[.agg #[.int .u64 m0, .bool b], .int .i64 prec, .int .u64 k0] w fun e w' => e = .returned (.bool true) ∧ Below w.heap.size w w' := by
 obtain ⟨bits, n, f, ww, least, I, p, k, rfl, h, hp, hp9, hkn, hFl⟩ := pat9 m0 hm0 b
 obtain ⟨g0, g1⟩ := wfu64 k0 hk0
 obtain ⟨m, rfl⟩ := Int.eq_ofNat_of_zero_le g0
 have hbp := bare_small h hp
 obtain ⟨d, hdB, gd, hF⟩ := fin_of (bits := p) h (by omega) (by rw [hbp]; exact hp)
 rw [hbp] at hdB hF
 have hsg : sgn f ww p = false := by
  have h2 := hbp
  unfold sgn
  unfold bare at h2
  have : p / 2 ^ (f + ww) = 0 := Nat.div_eq_of_lt (by have := Nat.mod_lt p (show 0 < 2 ^ (f + ww) from Nat.pow_pos (by decide)); omega)
  rw [this]; rfl
 rw [hsg] at hF
 have hvF := (val_ex h hp).2
 have hlo : val f least p = 0 ∨ -330 ≤ oP (val f least p) := by
  by_cases h0 : p = 0
  ·left; subst h0; simp [val, pq, pm]
  ·exact .inr (val_low2 h hp h0)
 obtain ⟨q, hq⟩ : ∃ q, max 0 (min prec 300) = q := ⟨_, rfl⟩
 have hj : m % 6 < 6 := Nat.mod_lt _ (by decide)
 obtain ⟨T, S1, Q1, t1, t2, t3, t4, t5, t6⟩ := ex_text hF hvF hlo q (by omega) (by omega) (m % 6) hj
 obtain ⟨pc, p1, p2, p3, p4, p5, p6, p7, x, p8⟩ := ex_prs (m % 6) hj
 have hv37 : ¬ ((vxN (m % 6) : Nat) : Int) = 37 ∧ ¬ ((vxN (m % 6) : Nat) : Int) = 84 := by
  generalize m % 6 = j at hj
  have h6 : j = 0 ∨ j = 1 ∨ j = 2 ∨ j = 3 ∨ j = 4 ∨ j = 5 := by omega
  rcases h6 with rfl | rfl | rfl | rfl | rfl | rfl <;> decide
 have hsz : ((⟨#[37, 46, 42]⟩ : ByteArray) ++ ⟨#[UInt8.ofNat (vxN (m % 6))]⟩).size ≤ 1000 := by
  have h1 : (⟨#[37, 46, 42]⟩ : ByteArray).size = 3 := rfl
  have h2 : (⟨#[UInt8.ofNat (vxN (m % 6))]⟩ : ByteArray).size = 1 := rfl
  rw [app_size, h1, h2]; omega
 refine topExact_of m (by omega) hq (hFl hF.pt hF.ex) (fun A W he hk hA hd => ?_) t3 (roundC (q + 1) hvF.good) t4 t5 t6 w hk he
 refine pr_F2 _ pc p1 hsz p2 p3 p4 p5 p6 p7 (by rw [p8]; exact hv37.1) (by rw [p8]; exact hv37.2) (by rw [p8]) q (by omega) (by omega) hkn (by omega) (T := T) ?_ (by omega) A 2 (by decide) (by decide) W he hk hA hd
 rw [p8]
 exact t1
end Go.Proofs.YtiagjheifblkiaaGreatDoor
namespace Go.Proofs.YtiagjheifblkiaaGreatDoor
open Go.ChangeShapes Go.WideShapes Go.ChangeAt Go.RowKit
theorem laid.own : ownKnob Tryz.prog.godebug = none := by kernel_rfl
theorem laid.tEsc : (Tryz.prog.globals[4]?).map (·.type) = some 381 := by kernel_rfl
theorem laid.door_met (os : Os) (args : Array Value) : laidMetH Tryz.prog Rows.topExactRow.laid ((World.laidAll Tryz.prog os Rows.topExactRow.laid).forCall (fun _ _ => 0) ⟨#[], args, []⟩).memory := by
 rw [MakeChecks.laidMetH_plain _ _ _ (by kernel_rfl)]
 exact laidMet_laidAll _ (by kernel_rfl) (by kernel_rfl)
theorem kn_of {W : World} (h : laidMetH Tryz.prog Rows.topExactRow.laid W) : KN W := by
 rw [MakeChecks.laidMetH_plain _ _ _ (by kernel_rfl)] at h
 obtain ⟨ps, ⟨_, _, _, _, _, _, _, _, _, _, ⟨g', t', cs, fuel, p, q, hg', ht', hvar, hd, _, _⟩, _⟩, _, _⟩ := h
 have hg : Tryz.prog.globalNamed "platen/values.kindNames" = some 3 := by kernel_rfl
 have hty : (Tryz.prog.globals[3]?).map (·.type) = some 232 := by kernel_rfl
 obtain rfl := Option.some.inj (hg.symm.trans hg')
 obtain rfl := Option.some.inj (hty.symm.trans ht')
 obtain ⟨xs, m, -, hx, -, hxl, hf⟩ := DataW.trod_array Tryz.underlying232 hd
 have hce : Tryz.prog.cellsOf 9 = 1 := by kernel_rfl
 intro i s hs
 have hi : i < 23 := by
  have := (List.getElem?_eq_some_iff.1 hs).1
  simpa [kindN] using this
 have hfi := hf i hi
 obtain ⟨y, hy⟩ : ∃ y, xs[i]? = some y := ⟨xs[i]'(by omega), List.getElem?_eq_getElem (by omega)⟩
 rw [hy, hce, Nat.mul_one] at hfi
 obtain ⟨s', hc, hy1, -⟩ := DataW.trod_string Tryz.underlying9 hfi
 have hlist : xs.map (·.1) = kindN.map fun s => (DataW.lit (.string s.data.toList) : DataW Unit) := by
  have h1 : (DataW.agg (kindN.map fun s => (DataW.lit (.string s.data.toList) : DataW Unit)) : DataW Unit) = .agg (xs.map (·.1)) := congrArg Prod.fst hx
  exact (DataW.agg.inj h1).symm
 have h2 : (xs.map (·.1))[i]? = some y.1 := by rw [List.getElem?_map, hy]; rfl
 rw [hlist, List.getElem?_map, hs] at h2
 have h3 : (DataW.lit (.string s.data.toList) : DataW Unit) = y.1 := Option.some.inj h2
 rw [hy1] at h3
 have h4 : s.data.toList = s'.data.toList := Lit.string.inj (DataW.lit.inj h3)
 have h5 : s = s' := by
  obtain ⟨⟨a⟩⟩ := s
  obtain ⟨⟨b⟩⟩ := s'
  simp only at h4
  rw [h4]
 have h6 : cs[i]? = some (.string s') := by
  have := congrArg (·[0]?) hc
  simpa [List.getElem?_take, List.getElem?_drop] using this
 rw [World.var?_cell hg hvar i, h6, h5]
theorem laid.room {W : World} {p : Addr} {v : Value} (h : W.cell? p = some v) : p.block < W.heap.size := by
 rcases Nat.lt_or_ge p.block W.heap.size with h1 | h1
 ·exact h1
 ·simp [World.cell?, Array.getElem?_eq_none h1] at h
theorem laid.get (l : List Value) (i : Nat) (v : Value) (h : (l.drop i).take 1 = [v]) : l[i]? = some v := by
 have h2 := congrArg (fun x => x[0]?) h
 simpa [List.getElem?_take, List.getElem?_drop] using h2
set_option maxRecDepth 1000000 in
theorem esc_of {W : World} (h : laidMetH Tryz.prog Rows.topExactRow.laid W) : Esc W := by
 rw [MakeChecks.laidMetH_plain _ _ _ (by kernel_rfl)] at h
 obtain ⟨ps, ⟨_, _, _, _, _, _, _, _, _, _, ⟨_, _, _, _, _, _, _, _, _, _, ⟨g0, t0, cs0, f0, p0, q0, hg0, ht0, hv0, hd0, _, _⟩, _⟩, _⟩, _, _⟩ := h
 obtain rfl : 4 = g0 := Option.some.inj (Eq.trans (Eq.symm (by kernel_rfl)) hg0)
 obtain rfl := Option.some.inj (laid.tEsc.symm.trans ht0)
 obtain ⟨xs, m1, rfl, hx1, hlen, hn, hel⟩ := DataW.trod_array Tryz.underlying381 hd0
 have c1 : Tryz.prog.cellsOf 21 = 1 := by kernel_rfl
 have c7 : Tryz.prog.cellsOf 381 = 7 := by kernel_rfl
 simp only [Prod.mk.injEq, Rows.laid_platen_quote_escapes, DataW.agg.injEq] at hx1
 have key : ∀ i, i < 7 → W.cell? ⟨4, i, none⟩ = some (.int .i32 (escT i : Nat)) := by
  intro i hi
  have hcell := World.var?_cell hg0 hv0 i
  have h0 := hel i hi
  have hx : ∃ x, xs[i]? = some x ∧ x.1 = .lit (.int .i32 (escT i : Nat)) := by
   match xs, hn, hx1 with
   | [x0, x1, x2, x3, x4, x5, x6], _, hx1 =>
     simp only [List.map_cons, List.map_nil, List.cons.injEq] at hx1
     obtain ⟨⟨e0, e1, e2, e3, e4, e5, e6, -⟩, -⟩ := hx1
     match i, hi with
     | 0, _ => exact ⟨x0, rfl, e0.symm⟩
     | 1, _ => exact ⟨x1, rfl, e1.symm⟩
     | 2, _ => exact ⟨x2, rfl, e2.symm⟩
     | 3, _ => exact ⟨x3, rfl, e3.symm⟩
     | 4, _ => exact ⟨x4, rfl, e4.symm⟩
     | 5, _ => exact ⟨x5, rfl, e5.symm⟩
     | 6, _ => exact ⟨x6, rfl, e6.symm⟩
     | n + 7, hi => omega
  obtain ⟨x, hxi, hxv⟩ := hx
  rw [hxi, c1, Nat.mul_one] at h0
  obtain ⟨k, f1, f2, _⟩ := DataW.trod_int Tryz.underlying21 h0
  rw [f2] at hxv
  have hk : k = (escT i : Nat) := by simpa using hxv
  rw [hk] at f1
  rw [hcell]
  have := laid.get _ _ _ f1
  simpa using this
 exact ⟨laid.room (key 0 (by omega)), key⟩
end Go.Proofs.YtiagjheifblkiaaGreatDoor
namespace Go.Proofs.YtiagjheifblkiaaGreatDoor
open Go.ChangeShapes Go.WideShapes Go.ChangeAt Go.RowKit
theorem array2b {α : Type} {cs : Array α} (h : cs.size = 2) : ∃ c0 c1, cs = #[c0, c1] := by
 obtain ⟨l⟩ := cs
 match l, h with
 | [c0, c1], _ => exact ⟨c0, c1, rfl⟩
theorem cellsU64b : Tryz.prog.cellsOf 22 = 1 := by kernel_rfl
theorem cellsBoolb : Tryz.prog.cellsOf 4 = 1 := by kernel_rfl
theorem cellsBits : Tryz.prog.cellsOf 24 = 2 := by kernel_rfl
set_option maxRecDepth 1000000 in
theorem open_bits {H : Type} {enc : TypeId × Value → H} {W : World} {base : Nat} {v : Value} {d : DataW H} {p : List MemPlace}
  (hv : Value.okWide Tryz.prog W .any base 24 v) (h : DataW.Trod enc Tryz.prog W 0 (fun _ => true) true 24 v d p) :
  ∃ (x : Int) (b : Bool), v = .agg #[.int .u64 x, .bool b] ∧ (Lit.int .u64 x).wf = true := by
 obtain ⟨cs, rfl, hsz⟩ := okWide_struct Tryz.underlying24 hv
 obtain ⟨c0, c1, rfl⟩ := array2b (hsz.trans cellsBits)
 obtain ⟨fuel, hf0⟩ := h
 obtain ⟨xs, n, _, _, _, hlen, hf⟩ := DataW.trod_struct Tryz.underlying24 hf0
 match xs, hlen with
 | [y0, y1], _ =>
   have g0 : DataW.trod enc Tryz.prog W 0 (fun _ => true) true n 22 [c0] = some y0 := by simpa [Value.cells, cellsU64b] using hf 0 _ rfl
   have g1 : DataW.trod enc Tryz.prog W 0 (fun _ => true) true n 4 [c1] = some y1 := by simpa [Value.cells, cellsBoolb] using hf 1 _ rfl
   obtain ⟨x, e0, _, w0⟩ := DataW.trod_int Tryz.underlying22 g0
   obtain ⟨b, e1, _⟩ := DataW.trod_bool Tryz.underlying4 g1
   simp only [List.cons.injEq, and_true] at e0 e1
   subst e0 e1
   exact ⟨x, b, rfl, w0⟩
end Go.Proofs.YtiagjheifblkiaaGreatDoor
