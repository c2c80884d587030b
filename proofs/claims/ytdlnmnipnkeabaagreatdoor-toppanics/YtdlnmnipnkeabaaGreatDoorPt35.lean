/- JPan, WTopPanics: these texts in one. -/
import Derived.Test.YtdlnmnipnkeabaaGreatDoorPt26
import Derived.Test.YtdlnmnipnkeabaaGreatDoorPt34
namespace Go.Proofs.YtdlnmnipnkeabaaGreatDoor
open Go.RowKit
set_option linter.unusedVariables false
set_option linter.unusedSimpArgs false
theorem dirJ_at {P : Nat → Prop} {g C : Nat} (hPg : P g) (hPl : ∀ k, P k → k ≤ g) (dp : Int) (av : Value) (vs : List Value) (hlen : vs.length ≤ 1000) (p : Pc) (hk : p.kind = 1) (hw : p.wid.k = 0) (hp : p.prec.k = 0) (hx : p.arg.k = 0) (hv : ¬ (spQ p).verb = 37) (i : Nat) (tt : TypeId) (x : Value) (hi : vs[i]? = some (.iface tt x)) (T : ByteArray) (J J' : World → Prop)
  (hSh : ∀ W l, EnJ J W g C l dp av vs ((i : Int) + 2) → Calls Tryz.prog 69 #[.pointer (some ⟨g, 0, none⟩), .iface tt x, SV (spQ p)] W fun e w' => e = .returned (.string T) ∧ EnJ J' w' g C l dp av vs ((i : Int) + 2) ∧ Kx P W w') :
  PcJ P g C dp av vs p J J' ((i : Int) + 1) ((i : Int) + 2) T.data.toList := by
 intro w l E hl
 refine piece_J p (ba p.text) hk _ _ E fun W E' => dir_J p (ba p.text) (spQ p) i tt x T p.arg.n E' (fun V EV => ?_) hv (by show some (Value.int .i64 (p.arg.k : Int)) = _; rw [hx]; rfl) rfl hi hlen hPg hPl (fun V EV => hSh V l EV) (by rw [Lib.size_eq]; exact Nat.le_trans hl (by decide))
 refine (sized_none p (ba p.text) hw hp g V).mono ?_
 rintro e V' ⟨h1, h2⟩
 exact ⟨h1, EV.up h2, .of_below h2⟩
abbrev pD : Pc := ⟨1, [37, 100], fl0, -1, 100, nb0, nb0, ix0⟩
abbrev dN (n : Int) : ByteArray := numT n (bareQ 100)
theorem dN_size (n : Int) : (dN n).size ≤ 100 := by
 have hs := sgS_size n false false
 have e0 : dN n = numS (uN n) n.natAbs (sgS n false false) false false false false (-1) (-1) 100 := rfl
 obtain ⟨e1, -⟩ := numS_base (uN n) n.natAbs (sgS n false false) false false false false (-1) (-1) 100 (by decide) (by decide) (by decide) (by decide)
 have ht := digT_size false 10 n.natAbs
 have hd : digBy n.natAbs 10 (-1) 100 = digT false 10 n.natAbs := by
  unfold digBy
  rw [if_neg (by omega)]
  exact lenS_short _ _ (by unfold wdt; omega)
 have hm : ∀ d, markB d false 100 = ⟨#[]⟩ := fun d => by unfold markB; rw [if_neg (by decide), if_pos rfl]
 have hw : widD (digT false 10 n.natAbs) (sgS n false false).size false false (-1) (-1) = digT false 10 n.natAbs := by unfold widD; rw [if_neg (by decide)]
 have hc : coreB n.natAbs 10 (sgS n false false) false false false (-1) (-1) 100 = sgS n false false ++ digT false 10 n.natAbs := by
  unfold coreB
  rw [hd, if_neg (by omega), hm, app_nil', hw]
 rw [e0, e1, show baseV 100 = 10 from rfl, hc]
 have hz : (sgS n false false ++ digT false 10 n.natAbs).size ≤ 66 := by rw [app_size]; omega
 generalize sgS n false false ++ digT false 10 n.natAbs = r at *
 have hq : wdt ((wdt (-1) : Nat) - (cntR r : Nat) : Int) = 0 := by
  unfold wdt
  omega
 unfold padS
 rw [hq]
 simp only [Bool.false_eq_true, if_false, app_size, run_size]
 omega
theorem sg6 (n : Int) (h : -9223372036854775808 ≤ n ∧ n ≤ 9223372036854775807) : sgN 6 (n % 18446744073709551616) = n := by
 simp [sgN, swr]
 omega
theorem flat_n (n : Int) (h : -9223372036854775808 ≤ n ∧ n ≤ 9223372036854775807) : Flat (VS 6 n) (.int .i64 6) (.string ⟨#[]⟩) (.int .u64 (n % 18446744073709551616)) (.int .u64 0) (.string ⟨#[]⟩) (.int .i64 0) 6 0 256 (.int .i64 n) := by
 have := flat_S 6 (n % 18446744073709551616) (by decide) (by decide) (by omega) (by omega)
 rw [show sgN ((6 : Nat) : Int) (n % 18446744073709551616) = n from sg6 n h] at this
 exact this
theorem shaped_d (n : Int) (h : -9223372036854775808 ≤ n ∧ n ≤ 9223372036854775807) (ask : Value) (ty : ByteArray) (W : World) (hE : Esc W) : Calls Tryz.prog 138 #[WV (bareQ 100) ask, .iface 256 (.int .i64 n), .string ty, .int .i64 0] W fun e W' => e = .returned (.tuple #[.string (dN n), .bool true]) ∧ Below W.heap.size W W' := by
 have := shaped_signed (bareQ 100) ask ty 0 n W hE h.1 h.2
 rw [show numK (bareQ 100).verb = true from by decide] at this
 exact this
theorem pr_d (n : Int) (h : -9223372036854775808 ≤ n ∧ n ≤ 9223372036854775807) (A : Nat) (w : World) (he : Esc w) (hkn : KN w) (hA : A < w.heap.size)
  (hd : w.rangeAt A 0 [.int .i64 6, .string ⟨#[]⟩, .int .u64 (n % 18446744073709551616), .int .u64 0, .string ⟨#[]⟩, .slice none 0 0, .slice none 0 0, .int .i64 0]) :
  Calls Tryz.prog 9 #[.slice none 0 0, .string ⟨#[37, 100]⟩, .slice (some ⟨A, 0, none⟩) 1 1] w fun e w' => e = .returned (.string (dN n)) ∧ Below w.heap.size w w' := by
 have hz := dN_size n
 have := print_1 ⟨#[37, 100]⟩ pD rfl (by decide) rfl rfl rfl rfl rfl rfl (by decide) A 1 (by decide) (by decide) 6 (n % 18446744073709551616) 0 0 ⟨#[]⟩ ⟨#[]⟩ _ _ (dN n) (by omega) w he hkn hA hd (flat_n n h).vo (fun hE => shown_flat (flat_n n h) _ rfl (bareQ 100) (by decide) (dN n) hE fun W hW => shaped_d n h _ _ W hW)
 rw [txtJ (by omega)] at this
 exact this
theorem JT.of1 {h : Hk} {b k C M : Nat} {W : World} (c0 : W.cell? ⟨C, 0, none⟩ = some (.slice (some ⟨b, 0, none⟩) 1 k)) (c1 : W.cell? ⟨C, 1, none⟩ = some (.map (some M))) (c2 : W.cell? ⟨C, 2, none⟩ = some (.int .i64 0)) (m : W.heap[M]? = some (.map #[] 0)) (z : W.frozen? ⟨C, 2, none⟩ = false) (r : Blk W b h.v) (e : EK W) (d : C ≠ M ∧ b ≠ M ∧ b ≠ C ∧ 2 ≠ M ∧ 1 ≠ M ∧ 2 ≠ C ∧ 1 ≠ C) : JT h b k C M false 0 W :=
 ⟨c0, c1, ⟨0, Nat.le_refl _, c2⟩, z, m, r, e, d⟩
abbrev outP (a c : Int) (X : ByteArray) : ByteArray := (((dN a ++ ⟨#[32]⟩) ++ X) ++ ⟨#[32]⟩) ++ dN c
theorem outP_list (a c : Int) (X : ByteArray) : (outP a c X).data.toList = (dN a).data.toList ++ ([32] ++ (X.data.toList ++ ([32] ++ ((dN c).data.toList ++ [])))) := by
 simp [outP, ByteArray.data_append, Array.toList_append]
theorem fmt_T {h : Hk} (hh : ThH h) {b k C M g : Nat} (s : ByteArray) (p : Pc) (hps : prs s.data.toList = [pD, lit [32], p, lit [32], pD]) (hs : s.size ≤ 1000) (hk : p.kind = 1) (hw : p.wid.k = 0) (hp : p.prec.k = 0) (hx : p.arg.k = 0) (hx2 : p.wid.a.k = 0) (hx3 : p.prec.a.k = 0) (hv : ¬ (spQ p).verb = 37) (hnm : hnmB (spQ p).verb = true) (hsh : (spQ p).sh = false)
  (a c : Int) (ha : -9223372036854775808 ≤ a ∧ a ≤ 9223372036854775807) (hc : -9223372036854775808 ≤ c ∧ c ≤ 9223372036854775807) {X : ByteArray} (hX : pnJ (spQ p).verb mS4 (thT 3) = X) (hXs : X.size ≤ 2000) {av : Value} {V : World} (hE : EnJ (JT h b k C M false 0) V g C [] 0 av [VS 6 a, VI 1 0, VS 6 c] 1)
  (oC : C < g) (oM : M < g) (ob : b < g) (oE : 2 < g) (oK : 1 < g) :
  Calls Tryz.prog 51 #[.pointer (some ⟨g, 0, none⟩), .string s] V fun e w' => e = .returned (.tuple #[]) ∧ (∃ tl, IsPr w' g (outP a c X).data.toList tl) ∧ Kx (fun q => q = g ∨ q = C ∨ q = M) V w' := by
 have hza := dN_size a
 have hzc := dN_size c
 have hol : (outP a c X).data.toList.length ≤ 4096 := by
  rw [← Lib.size_eq]
  simp only [outP, app_size, show (⟨#[32]⟩ : ByteArray).size = 1 from rfl]
  omega
 have hth := thT_size 3
 refine (format_J s (by omega) [pD, lit [32], p, lit [32], pD] hps (by
  intro q hq
  simp only [List.mem_cons, List.not_mem_nil, or_false] at hq
  rcases hq with rfl | rfl | rfl | rfl | rfl
  ·exact ⟨rfl, rfl, rfl⟩
  ·exact ⟨rfl, rfl, rfl⟩
  ·exact ⟨hx, hx2, hx3⟩
  ·exact ⟨rfl, rfl, rfl⟩
  ·exact ⟨rfl, rfl, rfl⟩) (outP a c X).data.toList [] (J' := JT h b k C M true 4) (P := fun q => q = g ∨ q = C ∨ q = M) (Or.inl rfl) (fun q hq => by omega) hE (nx' := 4)
  ⟨(dN a).data.toList, _, 2, JT h b k C M false 0, dirJ_at (Or.inl rfl) (fun q hq => by omega) _ _ _ (by show 3 ≤ 1000; decide) pD rfl rfl rfl rfl (by decide) 0 _ _ rfl (dN a) _ _ (fun W l E => ?_),
    ⟨[32], _, 2, JT h b k C M false 0, litJ_pc (Or.inl rfl) _ _ _ _ _ _,
    ⟨X.data.toList, _, 3, JT h b k C M true 4, dirJ_at (Or.inl rfl) (fun q hq => by omega) _ _ _ (by show 3 ≤ 1000; decide) p hk hw hp hx hv 1 _ _ rfl X _ _ (fun W l E => ?_),
    ⟨[32], _, 3, JT h b k C M true 4, litJ_pc (Or.inl rfl) _ _ _ _ _ _,
    ⟨(dN c).data.toList, [], 4, JT h b k C M true 4, dirJ_at (Or.inl rfl) (fun q hq => by omega) _ _ _ (by show 3 ≤ 1000; decide) pD rfl rfl rfl rfl (by decide) 2 _ _ rfl (dN c) _ _ (fun W l E => ?_), ⟨rfl, rfl, rfl⟩, rfl⟩, rfl⟩, rfl⟩, rfl⟩, outP_list a c X⟩ (Or.inr hol) (by omega) (fun W E => extra_J E (by show ((3 : Nat) : Int) < 4; decide))).mono ?_
 ·refine (shown_z (flat_n a ha) _ rfl (bareQ 100) (by decide) (dN a) (N := 0) (by decide) E.p E.j (fun W hW => shaped_d a ha _ _ W hW)).mono ?_
  rintro e V' ⟨h1, h2⟩
  exact ⟨h1, E.up h2, .of_below h2⟩
 ·refine (shown_T hh (r := 3) (by decide) (by omega) (atT_all hh b k C M 3 (by decide)) (N := 0) (by decide) (by decide) hnm hsh W E.j E.p oC oM).mono ?_
  rintro e V' ⟨h1, h2, h3⟩
  rw [hX] at h1
  have h4 : Kx (fun q => q = C ∨ q = M) W V' := h3.mono fun _ _ hq => hq.elim Or.inl fun hq => Or.inr hq.2
  exact ⟨h1, E.turn h4 (fun q hq => by omega) h2 (fun _ _ j x => j.kx (g := g) oC oM ob oE oK x), h4.mono fun _ _ hq => Or.inr hq⟩
 ·refine (shown_z (flat_n c hc) _ rfl (bareQ 100) (by decide) (dN c) (N := 4) (by decide) E.p E.j (fun W hW => shaped_d c hc _ _ W hW)).mono ?_
  rintro e V' ⟨h1, h2⟩
  exact ⟨h1, E.up h2, .of_below h2⟩
 ·rintro e w' ⟨h1, h2, h3⟩
  rw [List.append_nil] at h2
  exact ⟨h1, ⟨_, h2.p⟩, h3⟩
theorem print_T {h : Hk} (hh : ThH h) (tb tc : Nat) (htc : 1 ≤ tc) (s : ByteArray) (p : Pc) (hps : prs s.data.toList = [pD, lit [32], p, lit [32], pD]) (hs : s.size ≤ 1000) (hk : p.kind = 1) (hw : p.wid.k = 0) (hp : p.prec.k = 0) (hx : p.arg.k = 0) (hx2 : p.wid.a.k = 0) (hx3 : p.prec.a.k = 0) (hv : ¬ (spQ p).verb = 37) (hnm : hnmB (spQ p).verb = true) (hsh : (spQ p).sh = false)
  (a c : Int) (ha : -9223372036854775808 ≤ a ∧ a ≤ 9223372036854775807) (hc : -9223372036854775808 ≤ c ∧ c ≤ 9223372036854775807) {X : ByteArray} (hX : pnJ (spQ p).verb mS4 (thT 3) = X) (hXs : X.size ≤ 2000)
  (A : Nat) (w : World) (he : EK w) (hA : A < w.heap.size) (htb : tb < w.heap.size) (hr : w.rangeAt tb 0 h.v)
  (hd : w.rangeAt A 0 [.int .i64 6, .string ⟨#[]⟩, .int .u64 (a % 18446744073709551616), .int .u64 0, .string ⟨#[]⟩, .slice none 0 0, .slice none 0 0, .int .i64 0, .int .i64 6, .string ⟨#[]⟩, .int .u64 0, .int .u64 0, .string ⟨#[]⟩, .slice none 0 0, .slice none 0 0, .int .i64 1, .int .i64 6, .string ⟨#[]⟩, .int .u64 (c % 18446744073709551616), .int .u64 0, .string ⟨#[]⟩, .slice none 0 0, .slice none 0 0, .int .i64 0]) :
  Calls Tryz.prog 9 #[.slice (some ⟨tb, 0, none⟩) 1 tc, .string s, .slice (some ⟨A, 0, none⟩) 3 3] w fun e w' => e = .returned (.string (outP a c X)) ∧ Below w.heap.size w w' := by
 have hza := dN_size a
 have hzc := dN_size c
 have hol : (outP a c X).size ≤ 4096 := by
  simp only [outP, app_size, show (⟨#[32]⟩ : ByteArray).size = 1 from rfl]
  omega
 have hPr : Calls Tryz.prog 9 #[.slice (some ⟨tb, 0, none⟩) 1 tc, .string s, .slice (some ⟨A, 0, none⟩) 3 3] w fun e w' => e = .returned (.string (txt (outP a c X).data.toList)) ∧ Below w.heap.size w w' := by
  refine print_any _ (fun a n k hi W => RwP h a n k hi W) s _ _ w ⟨_, _, _, rfl⟩ (fun a n k hi W W' r x => r.kx x) (fun W bW => copiedTable_1 h hh.pl tb tc htc W (fun j u hu => (bW.cell (p := ⟨tb, 0 + j, none⟩) htb).trans (hr j u hu))) (fun a0 n k hi W R h1 h2 bW => ?_)
  obtain ⟨b, rfl, rfl, hb, kb⟩ := R
  have eW := he.up bW
  refine sprintf_t s _ _ _ 1 k W fun W1 C M b1 a1 a2 a3 a4 a5 a6 a7 a8 => ?_
  have e1 := eW.up b1
  have lE := eW.lt
  have hlb := kb.b
  have bw1 := bW.trans (b1.mono bW.size)
  have jJ : JT h b k C M false 0 W1 := JT.of1 a4 a5 a6 a7 a8 (kb.up b1) e1 ⟨a3, by omega, by omega, by have := lE.1; omega, by have := lE.2; omega, by have := lE.1; omega, by have := lE.2; omega⟩
  have hlJ := jJ.lt
  refine (at_J s _ [VS 6 a, VI 1 0, VS 6 c] (outP a c X).data.toList C 0 (by decide) (by decide) (J' := fun _ => True) (P := fun q => q = C ∨ q = M) W1 (by rw [← Lib.size_eq]; omega) (fun _ _ _ _ => trivial) ?_ (fun g V hg bV hR => ?_)).mono fun e w' h => ⟨h.1, h.2.2⟩
  ·refine begun_raw W1 C 0 A 3 [[.int .i64 6, .string ⟨#[]⟩, .int .u64 (a % 18446744073709551616), .int .u64 0, .string ⟨#[]⟩, .slice none 0 0, .slice none 0 0, .int .i64 0], [.int .i64 6, .string ⟨#[]⟩, .int .u64 0, .int .u64 0, .string ⟨#[]⟩, .slice none 0 0, .slice none 0 0, .int .i64 1], [.int .i64 6, .string ⟨#[]⟩, .int .u64 (c % 18446744073709551616), .int .u64 0, .string ⟨#[]⟩, .slice none 0 0, .slice none 0 0, .int .i64 0]] [VS 6 a, VI 1 0, VS 6 c] (Nat.lt_of_lt_of_le hA bw1.size) rfl (by show 3 ≤ 16; decide) (by show 3 ≤ 3; decide) (by decide) (fun i d hi => ?_) (fun i d u hi hu => ?_)
   ·match i, hi with
    | 0, hi =>
      simp at hi
      subst hi
      exact ⟨⟨_, _, _, _, _, _, rfl⟩, fun j u hu => (bw1.cell (p := ⟨A, 0 * 8 + j, none⟩) hA).trans (by have := hd (0 * 8 + j) u (by rw [← hu]; rcases j with _ | _ | _ | _ | _ | _ | _ | _ | j <;> first | rfl | (simp at hu)); simpa using this)⟩
    | 1, hi =>
      simp at hi
      subst hi
      exact ⟨⟨_, _, _, _, _, _, rfl⟩, fun j u hu => (bw1.cell (p := ⟨A, 1 * 8 + j, none⟩) hA).trans (by have := hd (1 * 8 + j) u (by rw [← hu]; rcases j with _ | _ | _ | _ | _ | _ | _ | _ | j <;> first | rfl | (simp at hu)); simpa using this)⟩
    | 2, hi =>
      simp at hi
      subst hi
      exact ⟨⟨_, _, _, _, _, _, rfl⟩, fun j u hu => (bw1.cell (p := ⟨A, 2 * 8 + j, none⟩) hA).trans (by have := hd (2 * 8 + j) u (by rw [← hu]; rcases j with _ | _ | _ | _ | _ | _ | _ | _ | j <;> first | rfl | (simp at hu)); simpa using this)⟩
   ·match i, hi, hu with
    | 0, hi, hu => simp at hi hu; subst hi hu; exact ⟨⟨_, _, rfl⟩, fun V => (flat_n a ha).vo V⟩
    | 1, hi, hu => simp at hi hu; subst hi hu; exact ⟨⟨_, _, rfl⟩, fun V => valueOf_I 1 0 V (by decide) (by decide) (by decide)⟩
    | 2, hi, hu => simp at hi hu; subst hi hu; exact ⟨⟨_, _, rfl⟩, fun V => (flat_n c hc).vo V⟩
  ·obtain ⟨ao, cc, hp0, hc3, hc4, haa⟩ := hR
   have le1 := e1.lt
   have hE : EnJ (JT h b k C M false 0) V g C [] 0 (.slice ao [VS 6 a, VI 1 0, VS 6 c].length cc) [VS 6 a, VI 1 0, VS 6 c] 1 := ⟨hp0, jJ.up bV, fun w w' j x => j.kx (g := g) (by omega) (by omega) (by omega) (by have := le1.1; omega) (by have := le1.2; omega) x, by omega, ao, cc, rfl, hc3, hc4, haa⟩
   refine (fmt_T hh s p hps hs hk hw hp hx hx2 hx3 hv hnm hsh a c ha hc hX hXs hE (by omega) (by omega) (by omega) (by have := le1.1; omega) (by have := le1.2; omega)).mono ?_
   rintro e w' ⟨h1, h2, h3⟩
   exact ⟨h1, h2, trivial, h3⟩
 rw [txtJ hol] at hPr
 exact hPr
end Go.Proofs.YtdlnmnipnkeabaaGreatDoor
namespace Go.Proofs.YtdlnmnipnkeabaaGreatDoor
open Go.RowKit
set_option linter.unusedVariables false
set_option linter.unusedSimpArgs false
abbrev acQ : Ac := ⟨2, ⟨#[]⟩, ⟨#[]⟩, .no, dH⟩
abbrev hkQ : Hk := ⟨.no, .no, .no, acQ⟩
theorem acQ_bld (w : World) : (Instr.build 31 #[(0, .int .i64 2), (4, .agg #[.int .i64 6, .string ⟨#[]⟩, .int .u64 0, .int .u64 0, .string ⟨#[]⟩, .slice none 0 0, .slice none 0 0, .int .i64 1])]).run Tryz.prog w = .ok (.agg acQ.v.toArray) w := by kernel_rfl
theorem hkQ_bld (w : World) : (Instr.build 34 #[(3, .agg acQ.v.toArray)]).run Tryz.prog w = .ok (.agg hkQ.v.toArray) w := by kernel_rfl
theorem hkQ_bsl (w : World) : (Instr.buildSlice 35 1 #[(0, .agg hkQ.v.toArray)]).run Tryz.prog w = .ok (.slice (some ⟨w.heap.size, 0, none⟩) 1 1) (w.alloc (.cells hkQ.v.toArray 34)) := by kernel_rfl
theorem hkQ_T : ThH hkQ := ⟨⟨⟨rfl, rfl, rfl, by decide⟩, ⟨rfl, rfl, rfl, by decide⟩, ⟨rfl, rfl, rfl, by decide⟩, ⟨rfl, rfl, rfl, by decide⟩⟩, rfl, rfl, by decide, by decide⟩
abbrev S6 : ByteArray := ⟨#[83, 116, 114, 105, 110, 103]⟩
abbrev PaC (c : Int) (T T2 : ByteArray) : Prop := ∀ w, Calls Tryz.prog 14 #[.int .i32 c, .string S6, .string T] w fun e w' => e = .returned (.string T2) ∧ Below w.heap.size w w'
theorem paC (c : Int) (T : ByteArray) (h : T.size ≤ 9000) : PaC c T (pnJ c mS4 T) := fun w => bpanic_big c S6 (by decide) T h w
abbrev PrD (n : Int) (t : ByteArray) : Prop := ∀ (A : Nat) (W : World), EK W → A < W.heap.size → W.rangeAt A 0 [.int .i64 6, .string ⟨#[]⟩, .int .u64 (n % 18446744073709551616), .int .u64 0, .string ⟨#[]⟩, .slice none 0 0, .slice none 0 0, .int .i64 0] → Calls Tryz.prog 9 #[.slice none 0 0, .string ⟨#[37, 100]⟩, .slice (some ⟨A, 0, none⟩) 1 1] W fun e w' => e = .returned (.string t) ∧ Below W.heap.size W w'
abbrev PrT (F : ByteArray) (a b : Int) (t : ByteArray) : Prop := ∀ (B A : Nat) (W : World), EK W → B < W.heap.size → W.rangeAt B 0 hkQ.v → A < W.heap.size → W.rangeAt A 0 [.int .i64 6, .string ⟨#[]⟩, .int .u64 (a % 18446744073709551616), .int .u64 0, .string ⟨#[]⟩, .slice none 0 0, .slice none 0 0, .int .i64 0, .int .i64 6, .string ⟨#[]⟩, .int .u64 0, .int .u64 0, .string ⟨#[]⟩, .slice none 0 0, .slice none 0 0, .int .i64 1, .int .i64 6, .string ⟨#[]⟩, .int .u64 (b % 18446744073709551616), .int .u64 0, .string ⟨#[]⟩, .slice none 0 0, .slice none 0 0, .int .i64 0] → Calls Tryz.prog 9 #[.slice (some ⟨B, 0, none⟩) 1 1, .string F, .slice (some ⟨A, 0, none⟩) 3 3] W fun e w' => e = .returned (.string t) ∧ Below W.heap.size W w'
set_option maxRecDepth 1000000 in
set_option maxHeartbeats 16000000 in
theorem tpn_x {k j c : Nat} {x : UInt8} {a b : Int} {F F0 T0 T1 T2 T3 X S N1 N2 : ByteArray} (hj : k % 5 = j) (hj5 : j < 5) (hV : (ByteArray.mk #[118, 115, 120, 88, 113]).extract j (j + 1) = ⟨#[x]⟩) (hx : (x.toNat : Int) = c) (hF0 : (⟨#[37, 100, 32, 37]⟩ : ByteArray) ++ ⟨#[x]⟩ = F0) (hF : F0 ++ ⟨#[32, 37, 100]⟩ = F)
  (ha : -9223372036854775808 ≤ a ∧ a ≤ 9223372036854775807) (hb : -9223372036854775808 ≤ b ∧ b ≤ 9223372036854775807)
  (hT : PrT F a b S) (hN1 : PrD a N1) (hN2 : PrD b N2) (z1 : N1.size ≤ 100) (z2 : N2.size ≤ 100) (zX : X.size ≤ 2000) (hS : ((((N1 ++ ⟨#[32]⟩) ++ X) ++ ⟨#[32]⟩) ++ N2) = S)
  (hD : ∀ w, Calls Tryz.prog 15 #[] w fun e w' => e = .returned (.string T0) ∧ Below w.heap.size w w') (p1 : PaC 118 T0 T1) (p2 : PaC 118 T1 T2) (p3 : PaC 118 T2 T3) (p4 : PaC c T3 X) (w : World) (hk : KN w) (he : Esc w) :
  Calls Tryz.prog 5 #[.int .u64 k, .int .i64 a, .int .i64 b] w fun e w' => e = .returned (.bool true) ∧ Below w.heap.size w w' := by
 have hm1 : (k : Int) % 5 = (j : Nat) := by omega
 have hm2 : (k : Int).tmod 5 = (j : Nat) := by rw [Int.tmod_eq_emod_of_nonneg (by omega)]; exact hm1
 have hjI : (j : Int) < 5 := by omega
 have hc0 : (0 : Int) ≤ c := by omega
 have hc1 : (c : Int) < 256 := by have := x.toNat_lt; omega
 have hL := fun W h1 h2 => tlives_any W h1 h2
 have hcv : ∀ h : 0 < (ByteArray.mk #[x]).size, wrap32 (((ByteArray.mk #[x])[0]'h).toNat : Int) = (c : Int) := fun h => by
  show wrap32 (x.toNat : Int) = c
  rw [hx]
  unfold wrap32
  omega
 have hn1 := fun W => tnum_S a ha.1 ha.2 W
 have hn2 := fun W => tnum_S b hb.1 hb.2 W
 have s1 : (⟨#[32]⟩ : ByteArray).size = 1 := rfl
 have y0 : ¬ 9223372036854775807 < (⟨#[37, 100, 32, 37]⟩ : ByteArray).size + (⟨#[x]⟩ : ByteArray).size := by show ¬ 9223372036854775807 < 4 + 1; omega
 have y00 : F0.size = 5 := by rw [← hF0, app_size]; rfl
 have y01 : F0.size ≤ 9223372036854775804 := by omega
 have y1 : ¬ 9223372036854775807 < F0.size + (⟨#[32, 37, 100]⟩ : ByteArray).size := by rw [y00]; show ¬ 9223372036854775807 < 5 + 3; omega
 have y2 : ¬ 9223372036854775807 < N1.size + (⟨#[32]⟩ : ByteArray).size := by omega
 have y3 : ¬ 9223372036854775807 < (N1 ++ ⟨#[32]⟩).size + X.size := by rw [app_size]; omega
 have y4 : ¬ 9223372036854775807 < ((N1 ++ ⟨#[32]⟩) ++ X).size + (⟨#[32]⟩ : ByteArray).size := by rw [app_size, app_size]; omega
 have y5 : ¬ 9223372036854775807 < (((N1 ++ ⟨#[32]⟩) ++ X) ++ ⟨#[32]⟩).size + N2.size := by rw [app_size, app_size, app_size]; omega
 have hbA := acQ_bld
 have hbH := hkQ_bld
 have hbs := hkQ_bsl
 have hrd := row_Desc
 have hHl := hkQ.len
 unfold PrT at hT
 unfold PrD at hN1 hN2
 clear hj hj5 z1 z2 zX y00 s1
 generalize hkQ.v = H at *
 generalize acQ.v = XA at *
 obtain ⟨W1, hW1⟩ : ∃ W1, W1 = w.alloc (.cells #[.int .i64 6, .string ⟨#[]⟩, .int .u64 0, .int .u64 0, .string ⟨#[]⟩, .slice none 0 0, .slice none 0 0, .int .i64 1] 29) := ⟨_, rfl⟩
 have b1 : Below w.heap.size w W1 := by rw [hW1]; exact (Below.refl _ _).alloc (Nat.le_refl _) _
 have d1 : Blk W1 w.heap.size [.int .i64 6, .string ⟨#[]⟩, .int .u64 0, .int .u64 0, .string ⟨#[]⟩, .slice none 0 0, .slice none 0 0, .int .i64 1] := by rw [hW1]; exact Blk.new w [.int .i64 6, .string ⟨#[]⟩, .int .u64 0, .int .u64 0, .string ⟨#[]⟩, .slice none 0 0, .slice none 0 0, .int .i64 1] 29
 go_enter Tryz.func5, Tryz.ntmps5
 go_upto_region 4 with fail
 rw [← hW1]
 clear hW1
 have q0 := d1.c 0 _ rfl
 have q1 := d1.c 1 _ rfl
 have q2 := d1.c 2 _ rfl
 have q3 := d1.c 3 _ rfl
 have q4 := d1.c 4 _ rfl
 have q5 := d1.c 5 _ rfl
 have q6 := d1.c 6 _ rfl
 have q7 := d1.c 7 _ rfl
 obtain ⟨W2, hW2⟩ : ∃ W2, W2 = W1.alloc (.cells H.toArray 34) := ⟨_, rfl⟩
 have k2 : Below W1.heap.size W1 W2 := by rw [hW2]; exact (Below.refl _ _).alloc (Nat.le_refl _) _
 have t2 : Blk W2 W1.heap.size H := by rw [hW2]; exact Blk.new W1 H 34
 go_upto_region 5 with (first
  | (refine wpl_bld rfl _ _ rfl [(0, .int .i64 2), (4, .agg #[.int .i64 6, .string ⟨#[]⟩, .int .u64 0, .int .u64 0, .string ⟨#[]⟩, .slice none 0 0, .slice none 0 0, .int .i64 1])] rfl (hbA _) ?_)
  | (refine wpl_bld rfl _ _ rfl [(3, .agg XA.toArray)] rfl (hbH _) ?_)
  | (refine wpl_bsD hbs rfl _ rfl rfl ?_))
 rw [← hW2]
 clear hW2 q0 q1 q2 q3 q4 q5 q6 q7 hbA hbH hbs
 have d2 := d1.up k2
 have b2 := b1.trans (k2.mono b1.size)
 clear k2 d1 b1
 generalize W1.heap.size = TB at *
 have e2 : EK W2 := ⟨he.below b2, hk.up b2⟩
 go_wp2_with (go_at_call 15; refine (hD _).mono ?_; rintro e V0 ⟨rfl, k0⟩)
 refine wp_loop_rounds 4 ?_
 rw [rounds_succ]
 go_wp2_with (go_at_call 14; refine (p1 _).mono ?_; rintro e V1 ⟨rfl, k1⟩)
 rw [rounds_succ]
 go_wp2_with (go_at_call 14; refine (p2 _).mono ?_; rintro e V2 ⟨rfl, k2⟩)
 rw [rounds_succ]
 go_wp2_with (go_at_call 14; refine (p3 _).mono ?_; rintro e V3 ⟨rfl, k3⟩)
 rw [rounds_succ]
 go_upto_region 11 with (go_at_call 14; rw [hcv]; refine (p4 _).mono ?_; rintro e V4 ⟨rfl, k4⟩)
 have kV : Below W2.heap.size W2 V4 := by
  have a1 := k0.trans (k1.mono k0.size)
  have a2 := a1.trans (k2.mono a1.size)
  have a3 := a2.trans (k3.mono a2.size)
  exact a3.trans (k4.mono a3.size)
 clear k0 k1 k2 k3 k4 hD p1 p2 p3 p4
 obtain ⟨Y, hY⟩ : ∃ Y, Y = V4.drew := ⟨_, rfl⟩
 have kY : Below W2.heap.size W2 Y := by rw [hY]; exact kV.drew
 have dV := (d2.up kV).range
 have sY : Y.rangeAt w.heap.size 0 [.int .i64 6, .string ⟨#[]⟩, .int .u64 0, .int .u64 0, .string ⟨#[]⟩, .slice none 0 0, .slice none 0 0, .int .i64 1] := (d2.up kY).range
 have tY := t2.up kY
 have eY := e2.up kY
 have bY := b2.trans (kY.mono b2.size)
 clear d2 t2 e2 b2 kV kY
 have hup : ∀ {u v : World}, u.rangeAt w.heap.size 0 [.int .i64 6, .string ⟨#[]⟩, .int .u64 0, .int .u64 0, .string ⟨#[]⟩, .slice none 0 0, .slice none 0 0, .int .i64 1] → Below u.heap.size u v → v.rangeAt w.heap.size 0 [.int .i64 6, .string ⟨#[]⟩, .int .u64 0, .int .u64 0, .string ⟨#[]⟩, .slice none 0 0, .slice none 0 0, .int .i64 1] := fun h x j v hv => up_cell x (h j v hv)
 refine wp_region_held_drew (S := fun w' : World => w'.rangeAt w.heap.size 0 [.int .i64 6, .string ⟨#[]⟩, .int .u64 0, .int .u64 0, .string ⟨#[]⟩, .slice none 0 0, .slice none 0 0, .int .i64 1]) (by kernel_rfl) (by exact dV) ?_
 rw [← hY]
 clear hY dV
 intro hS0
 clear hS0
 refine tk 0 (.slice (some ⟨TB, 0, none⟩) 1 1) rfl (by kernel_rfl) (fun _ _ _ h => h) (by rfl) (by assumption) ?_ ?_
 ·intro w5 s0
  go_simp
 try simp only [Act.put, lys]
 refine tk 1 (.string ⟨#[x]⟩) rfl (by kernel_rfl) (fun _ _ _ h => h) (by rfl) (by assumption) ?_ ?_
 ·intro w5 s0
  go_simp
 try simp only [Act.put, lys]
 refine tk 2 (.string F0) rfl (by kernel_rfl) (fun _ _ _ h => h) (by rfl) (by assumption) ?_ ?_
 ·intro w5 s0
  go_simp
 try simp only [Act.put, lys]
 refine tk 3 (.string F) rfl (by kernel_rfl) (fun _ _ _ h => h) (by rfl) (by assumption) ?_ ?_
 ·intro w5 s0
  go_simp
 try simp only [Act.put, lys]
 refine tk 4 (.int .i64 a) rfl (by kernel_rfl) (fun _ _ _ h => h) (by rfl) (by assumption) ?_ ?_
 ·intro w5 s0
  go_simp
 try simp only [Act.put, lys]
 refine wpAnyH_take (i := 6) (v := .agg #[.int .i64 6, .string ⟨#[]⟩, .int .u64 0, .int .u64 0, .string ⟨#[]⟩, .slice none 0 0, .slice none 0 0, .int .i64 1]) rfl (by kernel_rfl) (by kernel_rfl) (by kernel_rfl) (fun _ _ _ h => h) ?_ (by assumption) ?_
 ·obtain ⟨⟨dd, r1, r2⟩, r3⟩ := hrd
  exact yieldsIf_load_mid rfl 29 (.tmp 9) rfl w.heap.size 0 rfl [.int .i64 6, .string ⟨#[]⟩, .int .u64 0, .int .u64 0, .string ⟨#[]⟩, .slice none 0 0, .slice none 0 0, .int .i64 1] dd (fun _ h => h) r1 r2 (by exact r3)
 try simp only [Act.put, lys]
 refine tk 7 (.int .i64 b) rfl (by kernel_rfl) (fun _ _ _ h => h) (by rfl) (by assumption) ?_ ?_
 ·intro w5 s0
  go_simp
 try simp only [Act.put, lys]
 refine rd1 5 (by kernel_rfl) rfl fun K hK => ?_
 go_simp
 refine (hn1 _).mono ?_
 rintro e Y1 ⟨rfl, g1⟩
 refine hK.out _ _ (hup sY g1) (fun _ => ?_)
 clear hK
 try simp only [Act.put, lys]
 refine rd1 8 (by kernel_rfl) rfl fun K hK => ?_
 go_simp
 refine (hn2 _).mono ?_
 rintro e Y2 ⟨rfl, g2⟩
 refine hK.out _ _ (hup (hup sY g1) g2) (fun _ => ?_)
 clear hK
 try simp only [Act.put, lys]
 have k12 := g1.trans (g2.mono g1.size)
 have sY2 := hup (hup sY g1) g2
 have tY2 := tY.up k12
 have eY2 := eY.up k12
 have bY2 := bY.trans (k12.mono bY.size)
 clear g1 g2 k12 tY eY bY sY
 obtain ⟨A, hA⟩ : ∃ A, A = Y2.alloc (.cells #[.int .i64 6, .string ⟨#[]⟩, .int .u64 (a % 18446744073709551616), .int .u64 0, .string ⟨#[]⟩, .slice none 0 0, .slice none 0 0, .int .i64 0, .int .i64 6, .string ⟨#[]⟩, .int .u64 0, .int .u64 0, .string ⟨#[]⟩, .slice none 0 0, .slice none 0 0, .int .i64 1, .int .i64 6, .string ⟨#[]⟩, .int .u64 (b % 18446744073709551616), .int .u64 0, .string ⟨#[]⟩, .slice none 0 0, .slice none 0 0, .int .i64 0] 29) := ⟨_, rfl⟩
 have rA : Blk A Y2.heap.size [.int .i64 6, .string ⟨#[]⟩, .int .u64 (a % 18446744073709551616), .int .u64 0, .string ⟨#[]⟩, .slice none 0 0, .slice none 0 0, .int .i64 0, .int .i64 6, .string ⟨#[]⟩, .int .u64 0, .int .u64 0, .string ⟨#[]⟩, .slice none 0 0, .slice none 0 0, .int .i64 1, .int .i64 6, .string ⟨#[]⟩, .int .u64 (b % 18446744073709551616), .int .u64 0, .string ⟨#[]⟩, .slice none 0 0, .slice none 0 0, .int .i64 0] := by rw [hA]; exact Blk.new Y2 _ _
 have kA : Below Y2.heap.size Y2 A := by rw [hA]; exact (Below.refl _ _).alloc (Nat.le_refl _) _
 refine rd1 9 (by kernel_rfl) rfl fun K hK => ?_
 go_simp
 rw [← hA]
 clear hA
 refine hK.out _ _ (hup sY2 kA) (fun _ => ?_)
 clear hK
 try simp only [Act.put, lys]
 refine rd1 10 (by kernel_rfl) rfl fun K hK => ?_
 go_simp
 refine (hT TB _ A (eY2.up kA) (tY2.up kA).b (tY2.up kA).range rA.b rA.range).mono ?_
 rintro e P ⟨rfl, kP⟩
 refine hK.out _ _ (hup (hup sY2 kA) kP) (fun _ => ?_)
 clear hK
 try simp only [Act.put, lys]
 refine tk 11 (.string S) rfl (by kernel_rfl) (fun _ _ _ h => h) (by rfl) (by assumption) ?_ ?_
 ·intro w5 s0
  go_simp
 try simp only [Act.put, lys]
 have kk := kA.trans (kP.mono kA.size)
 have eP := eY2.up kk
 have bP := bY2.trans (kk.mono bY2.size)
 clear kk kA kP rA eY2 bY2 sY2 tY2
 refine wpAnyH_done (by kernel_rfl) ?_ _
 clear hT hup
 go_wp2_with (first
  | (go_at_call 13; refine (hn1 _).mono ?_; rintro e V5 ⟨rfl, k5⟩
     obtain ⟨A5, hA5⟩ : ∃ A, A = V5.alloc (.cells #[.int .i64 6, .string ⟨#[]⟩, .int .u64 (a % 18446744073709551616), .int .u64 0, .string ⟨#[]⟩, .slice none 0 0, .slice none 0 0, .int .i64 0] 29) := ⟨_, rfl⟩
     have rA5 : Blk A5 V5.heap.size [.int .i64 6, .string ⟨#[]⟩, .int .u64 (a % 18446744073709551616), .int .u64 0, .string ⟨#[]⟩, .slice none 0 0, .slice none 0 0, .int .i64 0] := by rw [hA5]; exact Blk.new V5 _ _
     have kA5 : Below V5.heap.size V5 A5 := by rw [hA5]; exact (Below.refl _ _).alloc (Nat.le_refl _) _
     have e5 := (eP.up k5).up kA5
     have b5 := bP.trans ((k5.trans (kA5.mono k5.size)).mono bP.size)
     have c5 := hN1 _ A5 e5 rA5.b rA5.range)
  | (go_at_call 9; rw [← hA5]; clear hA5; refine c5.mono ?_; rintro e V6 ⟨rfl, k6⟩; have e6 := e5.up k6; have b6 := b5.trans (k6.mono b5.size))
  | (go_at_call 13; refine (hn2 _).mono ?_; rintro e V7 ⟨rfl, k7⟩
     obtain ⟨A7, hA7⟩ : ∃ A, A = V7.alloc (.cells #[.int .i64 6, .string ⟨#[]⟩, .int .u64 (b % 18446744073709551616), .int .u64 0, .string ⟨#[]⟩, .slice none 0 0, .slice none 0 0, .int .i64 0] 29) := ⟨_, rfl⟩
     have rA7 : Blk A7 V7.heap.size [.int .i64 6, .string ⟨#[]⟩, .int .u64 (b % 18446744073709551616), .int .u64 0, .string ⟨#[]⟩, .slice none 0 0, .slice none 0 0, .int .i64 0] := by rw [hA7]; exact Blk.new V7 _ _
     have kA7 : Below V7.heap.size V7 A7 := by rw [hA7]; exact (Below.refl _ _).alloc (Nat.le_refl _) _
     have e7 := (e6.up k7).up kA7
     have b7 := b6.trans ((k7.trans (kA7.mono k7.size)).mono b6.size)
     have c7 := hN2 _ A7 e7 rA7.b rA7.range)
  | (go_at_call 9; rw [← hA7]; clear hA7; refine c7.mono ?_; rintro e V8 ⟨rfl, k8⟩; have e8 := e7.up k8; have b8 := b7.trans (k8.mono b7.size); have hl := hL V8 e8.1 e8.2)
  | (go_at_call 7; refine hl.mono ?_; rintro e V9 ⟨rfl, k9⟩))
 go_ret
 exact ⟨rfl, b8.trans (k9.mono b8.size)⟩
def vpQ : Nat → Nat
 | 0 => 118
 | 1 => 115
 | 2 => 120
 | 3 => 88
 | _ => 113
theorem wf64p (n : Int) (h : (Lit.int .i64 n).wf = true) : -9223372036854775808 ≤ n ∧ n ≤ 9223372036854775807 := by
 simp [Lit.wf] at h
 first | exact h | omega | exact ⟨by omega, by omega⟩
theorem wfu64p (n : Int) (h : (Lit.int .u64 n).wf = true) : 0 ≤ n := by
 have e1 : IntKind.u64.min = 0 := by decide
 have e2 : IntKind.u64.max = 18446744073709551615 := by decide
 simp [Lit.wf] at h
 omega
theorem topPanics_walk (k0 : Int) (hk0 : (Lit.int .u64 k0).wf = true) (a : Int) (ha0 : (Lit.int .i64 a).wf = true) (b : Int) (hb0 : (Lit.int .i64 b).wf = true) (w : World) (hk : KN w) (he : Esc w) :
  Calls Tryz.prog 5 #[.int .u64 k0, .int .i64 a, .int .i64 b] w fun e w' => e = .returned (.bool true) ∧ Below w.heap.size w w' := by
 have ha := wf64p a ha0
 have hb := wf64p b hb0
 have g0 := wfu64p k0 hk0
 obtain ⟨k, rfl⟩ := Int.eq_ofNat_of_zero_le g0
 have h0 := thT_size 0
 have h1 := thT_size 1
 have h2 := thT_size 2
 have h3 := thT_size 3
 have key : ∀ (j c : Nat) (F F0 : ByteArray) (p : Pc), k % 5 = j → j < 5 → (ByteArray.mk #[118, 115, 120, 88, 113]).extract j (j + 1) = ⟨#[UInt8.ofNat c]⟩ → ((UInt8.ofNat c).toNat : Int) = c → (⟨#[37, 100, 32, 37]⟩ : ByteArray) ++ ⟨#[UInt8.ofNat c]⟩ = F0 → F0 ++ ⟨#[32, 37, 100]⟩ = F → prs F.data.toList = [pD, lit [32], p, lit [32], pD] → F.size ≤ 1000 → p.kind = 1 → p.wid.k = 0 → p.prec.k = 0 → p.arg.k = 0 → p.wid.a.k = 0 → p.prec.a.k = 0 → spQ p = bareQ c → ¬ (c : Int) = 37 → hnmB c = true → Calls Tryz.prog 5 #[.int .u64 k, .int .i64 a, .int .i64 b] w fun e w' => e = .returned (.bool true) ∧ Below w.heap.size w w' := fun j c F F0 p g1 g2 g3 g4 g5 g6 g7 g8 g9 g10 g11 g12 g13 g14 g15 g16 g17 => by
  have hX := pnJ_size (c : Int) (thT 3)
  refine tpn_x (X := pnJ c mS4 (thT 3)) (T0 := thT 0) (T1 := thT 1) (T2 := thT 2) (T3 := thT 3) (S := outP a b (pnJ c mS4 (thT 3))) (N1 := dN a) (N2 := dN b) g1 g2 g3 g4 g5 g6 ha hb (fun B A W e lB rB lA rA => ?_) (fun A W e lA rA => pr_d a ha A W e.1 e.2 lA rA) (fun A W e lA rA => pr_d b hb A W e.1 e.2 lA rA) (dN_size a) (dN_size b) (by omega) rfl (fun W => bdepth_ex W) (paC _ _ (by omega)) (paC _ _ (by omega)) (paC _ _ (by omega)) (paC _ _ (by omega)) w hk he
  exact print_T hkQ_T B 1 (by decide) F p g7 g8 g9 g10 g11 g12 g13 g14 (by rw [g15]; exact g16) (by rw [g15]; exact g17) (by rw [g15]; rfl) a b ha hb (by rw [g15]; rfl) (by omega) A W e lA lB rB rA
 have h5 : k % 5 = 0 ∨ k % 5 = 1 ∨ k % 5 = 2 ∨ k % 5 = 3 ∨ k % 5 = 4 := by omega
 rcases h5 with h5 | h5 | h5 | h5 | h5
 ·exact key 0 118 ⟨#[37, 100, 32, 37, 118, 32, 37, 100]⟩ ⟨#[37, 100, 32, 37, 118]⟩ ⟨1, [37, 118], fl0, -1, 118, nb0, nb0, ix0⟩ h5 (by decide) (by decide) (by decide) (by decide) (by decide) rfl (by decide) rfl rfl rfl rfl rfl rfl rfl (by decide) (by decide)
 ·exact key 1 115 ⟨#[37, 100, 32, 37, 115, 32, 37, 100]⟩ ⟨#[37, 100, 32, 37, 115]⟩ ⟨1, [37, 115], fl0, -1, 115, nb0, nb0, ix0⟩ h5 (by decide) (by decide) (by decide) (by decide) (by decide) rfl (by decide) rfl rfl rfl rfl rfl rfl rfl (by decide) (by decide)
 ·exact key 2 120 ⟨#[37, 100, 32, 37, 120, 32, 37, 100]⟩ ⟨#[37, 100, 32, 37, 120]⟩ ⟨1, [37, 120], fl0, -1, 120, nb0, nb0, ix0⟩ h5 (by decide) (by decide) (by decide) (by decide) (by decide) rfl (by decide) rfl rfl rfl rfl rfl rfl rfl (by decide) (by decide)
 ·exact key 3 88 ⟨#[37, 100, 32, 37, 88, 32, 37, 100]⟩ ⟨#[37, 100, 32, 37, 88]⟩ ⟨1, [37, 88], fl0, -1, 88, nb0, nb0, ix0⟩ h5 (by decide) (by decide) (by decide) (by decide) (by decide) rfl (by decide) rfl rfl rfl rfl rfl rfl rfl (by decide) (by decide)
 ·exact key 4 113 ⟨#[37, 100, 32, 37, 113, 32, 37, 100]⟩ ⟨#[37, 100, 32, 37, 113]⟩ ⟨1, [37, 113], fl0, -1, 113, nb0, nb0, ix0⟩ h5 (by decide) (by decide) (by decide) (by decide) (by decide) rfl (by decide) rfl rfl rfl rfl rfl rfl rfl (by decide) (by decide)
end Go.Proofs.YtdlnmnipnkeabaaGreatDoor
