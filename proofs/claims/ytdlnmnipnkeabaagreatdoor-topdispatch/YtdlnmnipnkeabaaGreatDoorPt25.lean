/- UTop, JPr: these texts in one. -/
import Derived.Test.YtdlnmnipnkeabaaGreatDoorPt24
import Derived.Test.YtdlnmnipnkeabaaGreatDoorUNum
import Derived.Test.YtdlnmnipnkeabaaGreatDoorPt22
import Derived.Test.YtdlnmnipnkeabaaGreatDoorPt18
import Derived.Test.YtdlnmnipnkeabaaGreatDoorPt19
import Derived.Test.YtdlnmnipnkeabaaGreatDoorPt21
import Derived.Test.YtdlnmnipnkeabaaGreatDoorJHk
namespace Go.Proofs.YtdlnmnipnkeabaaGreatDoor
open Go.RowKit
set_option linter.unusedVariables false
set_option linter.unusedSimpArgs false
def JN (C M : Nat) (W : World) : Prop := IsCall W C M 0 ∧ Esc W ∧ KN W
theorem JN.kx {C M g : Nat} (hC : C < g) (hM : M < g) (hE : 2 < g) (hK : 1 < g) {W W' : World} (h : JN C M W) (k : Kx (fun k => g ≤ k) W W') : JN C M W' :=
 ⟨h.1.kept k (by omega) (by omega), ⟨Nat.lt_of_lt_of_le h.2.1.1 k.size, fun i hi => k.cell (h.2.1.2 i hi) (by dsimp only; omega)⟩, fun i s hs => k.cell (h.2.2 i s hs) (by dsimp only; omega)⟩
theorem JN.env {C M g : Nat} {l : List UInt8} {dp : Int} {av : Value} {vs : List Value} {nx : Int} {W : World} (h : EnJ (JN C M) W g C l dp av vs nx) : Env W g C M l 0 dp av nx := ⟨h.p, h.j.1, h.j.2.1, h.j.2.2, by decide⟩
theorem sprintf_N (s : ByteArray) (args : Value) (vs : List Value) (o : List UInt8) (w : World) (he : Esc w) (hk : KN w) (ho : o.length ≤ 1000000)
  (hBg : ∀ W C, Below w.heap.size w W → Calls Tryz.prog 50 #[.pointer (some ⟨C, 0, none⟩), .int .i64 0, args] W fun e w' => ∃ g, e = .returned (.pointer (some ⟨g, 0, none⟩)) ∧ W.heap.size ≤ g ∧ BgR w' C g 0 vs ∧ Below W.heap.size W w')
  (hF : ∀ g C M av W, EnJ (JN C M) W g C [] 0 av vs 1 → Calls Tryz.prog 51 #[.pointer (some ⟨g, 0, none⟩), .string s] W fun e w' => e = .returned (.tuple #[]) ∧ (∃ tl, IsPr w' g o tl) ∧ Kx (fun k => k = g) W w') :
  Calls Tryz.prog 29 #[.slice none 0 0, .string s, args] w fun e w' => e = .returned (.string (txt o)) ∧ Below w.heap.size w w' := by
 refine sprintf_of s args (txt o) w fun W C M bW hc hC hM => ?_
 refine (at_J s args vs o C 0 (by decide) (by decide) (J' := fun _ => True) (P := fun _ => False) W ho (fun _ _ _ _ => trivial) (hBg W C bW) (fun g V hg bV hR => ?_)).mono fun e w' h => ⟨h.1, h.2.2.below (fun _ h => h.elim) (Nat.le_refl _)⟩
 obtain ⟨ao, cc, hp, hc1, hc2, ha⟩ := hR
 have eE := he.below bW
 have eK := hk.up bW
 have h1 := eE.1
 have h2 := kn_lt eK
 have hE : EnJ (JN C M) V g C [] 0 (.slice ao vs.length cc) vs 1 := ⟨hp, ⟨hc.up bV, eE.below bV, eK.up bV⟩, fun w w' h k => h.kx (by omega) (by omega) (by omega) (by omega) k, by omega, ao, cc, rfl, hc1, hc2, ha⟩
 refine (hF g C M _ V hE).mono ?_
 rintro e w' ⟨h3, h4, h5⟩
 exact ⟨h3, h4, trivial, h5.mono fun _ _ h => Or.inl h⟩
theorem copiedTable_nil (w : World) (hcl : ∀ W, Calls Tryz.prog 24 #[.slice none 0 0] W fun e w' => e = .returned (.slice none 0 0) ∧ w' = W) : Calls Tryz.prog 19 #[.slice none 0 0] w fun e w' => ∃ a n k, e = .returned (.slice a n k) ∧ Hid (a = none ∧ n = 0 ∧ k = 0) ∧ Below w.heap.size w w' := by
 have hm : min (0 : Int) 16 = 0 := by decide
 go_enter Tryz.func19, Tryz.ntmps19
 go_wp2_with (go_at_call 24; refine (hcl _).mono ?_; rintro e w2 ⟨rfl, q2⟩; subst q2)
 refine wp_loop_rounds 1 ?_
 rw [rounds_succ]
 go_wp2
 go_ret
 exact ⟨_, _, _, rfl, ⟨rfl, rfl, rfl⟩, by first | exact Below.refl _ _ | go_grown⟩
theorem cloneH_nil (w : World) : Calls Tryz.prog 24 #[.slice none 0 0] w fun e w' => e = .returned (.slice none 0 0) ∧ w' = w := by
 have he : ∀ w, (binOp BinOp.eql 35 (.slice none 0 0) (.slice none 0 0)).run Tryz.prog w = .ok (.bool true) w := fun w => by kernel_rfl
 go_enter Tryz.func24, Tryz.ntmps24
 go_wp2
 go_ret
 exact ⟨rfl, rfl⟩
theorem print_N (f : ByteArray) (av : Value) (T : ByteArray) (w : World) (h3 : ∃ x y z, av = .slice x y z) (hS : ∀ W, Below w.heap.size w W → Calls Tryz.prog 29 #[.slice none 0 0, .string f, av] W fun e W' => e = .returned (.string T) ∧ Below W.heap.size W W') :
  Calls Tryz.prog 9 #[.slice none 0 0, .string f, av] w fun e w' => e = .returned (.string T) ∧ Below w.heap.size w w' :=
 print_any _ (fun a n k _ _ => a = none ∧ n = 0 ∧ k = 0) f av T w h3 (fun _ _ _ _ _ _ h _ => h) (fun W _ => copiedTable_nil W cloneH_nil) (fun a n k hi W h _ _ bW => by obtain ⟨rfl, rfl, rfl⟩ := h; exact hS W bW)
theorem print_1 (s : ByteArray) (p : Pc) (hps : prs s.data.toList = [p]) (hs : s.size ≤ 1000) (hk : p.kind = 1) (hw : p.wid.k = 0) (hp : p.prec.k = 0) (hx : p.arg.k = 0) (hx2 : p.wid.a.k = 0) (hx3 : p.prec.a.k = 0) (hv : ¬ p.verb = 37)
  (A c : Nat) (hc1 : 1 ≤ c) (hc2 : c ≤ maxLen) (kk bt im hk' : Int) (ty tx : ByteArray) (tt : TypeId) (x : Value) (T : ByteArray) (hT : T.size ≤ 100000) (w : World) (he : Esc w) (hkn : KN w) (hA : A < w.heap.size)
  (hd : w.rangeAt A 0 [.int .i64 kk, .string ty, .int .u64 bt, .int .u64 im, .string tx, .slice none 0 0, .slice none 0 0, .int .i64 hk'])
  (hvo : ∀ W, Calls Tryz.prog 53 #[.agg #[.int .i64 kk, .string ty, .int .u64 bt, .int .u64 im, .string tx, .slice none 0 0, .slice none 0 0, .int .i64 hk']] W fun e w' => e = .returned (.iface tt x) ∧ Below W.heap.size W w')
  (hSh : ∀ {W : World} {g C M : Nat} {l : List UInt8} {m dp : Int} {av : Value} {nx : Int}, Env W g C M l m dp av nx → Calls Tryz.prog 69 #[.pointer (some ⟨g, 0, none⟩), .iface tt x, SV (spQ p)] W fun e w' => e = .returned (.string T) ∧ Below W.heap.size W w') :
  Calls Tryz.prog 9 #[.slice none 0 0, .string s, .slice (some ⟨A, 0, none⟩) 1 c] w fun e w' => e = .returned (.string (txt T.data.toList)) ∧ Below w.heap.size w w' := by
 have hTl : T.data.toList.length ≤ 100000 := by rw [← Lib.size_eq]; exact hT
 refine print_N s _ _ w ⟨_, _, _, rfl⟩ fun W bW => ?_
 refine sprintf_N s _ [.iface tt x] T.data.toList W (he.below bW) (hkn.up bW) (by omega) (fun W1 C b1 => ?_) (fun g C M av W1 hE => ?_)
 ·have bw1 := bW.trans (b1.mono bW.size)
  refine begun_raw W1 C 0 A c [[.int .i64 kk, .string ty, .int .u64 bt, .int .u64 im, .string tx, .slice none 0 0, .slice none 0 0, .int .i64 hk']] [.iface tt x] (Nat.lt_of_lt_of_le hA bw1.size) rfl (by show 1 ≤ 16; decide) hc1 hc2 (fun i d hi => ?_) (fun i d u hi hu => ?_)
  ·match i, hi with
   | 0, hi =>
     simp at hi
     subst hi
     exact ⟨⟨_, _, _, _, _, _, rfl⟩, fun j u hu => by have := (bw1.cell (p := ⟨A, 0 + j, none⟩) hA).trans (hd j u hu); simpa using this⟩
  ·match i, hi, hu with
   | 0, hi, hu =>
     simp at hi hu
     subst hi hu
     exact ⟨⟨_, _, rfl⟩, fun V => hvo V⟩
 ·have ha1 : p.arg.k = 0 := hx
  refine (format_J s (by omega) [p] hps (by
   intro q hq
   simp only [List.mem_cons, List.not_mem_nil, or_false] at hq
   subst hq
   exact ⟨hx, hx2, hx3⟩) T.data.toList [] (J' := JN C M) (P := fun k => k = g) rfl (fun k hk => by omega) hE (nx' := 2) ⟨T.data.toList, [], 2, JN C M, ?_, ⟨rfl, rfl, rfl⟩, by simp⟩ (Or.inl (by show 1 ≤ 1; decide)) (by omega) (fun V E => extra_J E (by show ((1 : Nat) : Int) < 2; decide))).mono ?_
  ·intro V l E hl
   refine piece_J p (ba p.text) hk _ 2 E fun V1 E1 => ?_
   refine dir_J p (ba p.text) (spQ p) 0 tt x T p.arg.n E1 (fun V2 E2 => ?_) (by show ¬ (p.verb : Int) = 37; omega) (by show some (Value.int .i64 (p.arg.k : Int)) = _; rw [ha1]; rfl) rfl rfl (by show 1 ≤ 1000; decide) rfl (fun k hk => by omega) (fun V2 E2 => ?_) (by rw [Lib.size_eq]; exact Nat.le_trans hl (by decide))
   ·refine (sized_none p (ba p.text) hw hp g V2).mono ?_
    rintro e V' ⟨h1, h2⟩
    exact ⟨h1, E2.up h2, .of_below h2⟩
   ·refine (hSh (JN.env E2)).mono ?_
    rintro e V' ⟨h1, h2⟩
    exact ⟨h1, E2.up h2, .of_below h2⟩
  ·rintro e w' ⟨h1, h2, h3⟩
   rw [List.append_nil] at h2
   exact ⟨h1, ⟨_, h2.p⟩, h3⟩
end Go.Proofs.YtdlnmnipnkeabaaGreatDoor
namespace Go.Proofs.YtdlnmnipnkeabaaGreatDoor
open Go.RowKit
set_option linter.unusedVariables false
set_option linter.unusedSimpArgs false
abbrev EK (W : World) : Prop := Esc W ∧ KN W
theorem EK.ky {P : Nat → Prop} {W W' : World} (h : EK W) (k : Kx P W W') (h1 : ¬ P 2) (h2 : ¬ P 1) : EK W' :=
 ⟨⟨Nat.lt_of_lt_of_le h.1.1 k.size, fun i hi => k.cell (h.1.2 i hi) (by dsimp only; exact h1)⟩, fun i s hs => k.cell (h.2 i s hs) (by dsimp only; exact h2)⟩
theorem EK.up {W W' : World} (h : EK W) (b : Below W.heap.size W W') : EK W' := h.ky (P := fun _ => False) (.of_below b) id id
theorem EK.lt {W : World} (h : EK W) : 2 < W.heap.size ∧ 1 < W.heap.size := ⟨h.1.1, kn_lt h.2⟩
structure J1 (h : Hk) (b k C M : Nat) (W : World) : Prop where
 c0 : W.cell? ⟨C, 0, none⟩ = some (.slice (some ⟨b, 0, none⟩) 1 k)
 c1 : W.cell? ⟨C, 1, none⟩ = some (.map (some M))
 c2 : W.cell? ⟨C, 2, none⟩ = some (.int .i64 0)
 m : W.heap[M]? = some (.map #[] 0)
 r : Blk W b h.v
 e : EK W
 d : C ≠ M ∧ b ≠ M ∧ 2 ≠ M ∧ 1 ≠ M
section
variable {h : Hk} {b k C M : Nat} {W W' : World}
theorem J1.kx {g : Nat} (hC : C < g) (hM : M < g) (hb : b < g) (hE : 2 < g) (hK : 1 < g) (j : J1 h b k C M W) (x : Kx (fun k => g ≤ k) W W') : J1 h b k C M W' :=
 ⟨x.cell j.c0 (by dsimp only; omega), x.cell j.c1 (by dsimp only; omega), x.cell j.c2 (by dsimp only; omega), (x.block M (Array.getElem?_eq_some_iff.1 j.m).1 (by omega)).trans j.m, j.r.kx x (by omega), j.e.ky x (by omega) (by omega), j.d⟩
theorem J1.up (j : J1 h b k C M W) (x : Below W.heap.size W W') : J1 h b k C M W' :=
 ⟨up_cell x j.c0, up_cell x j.c1, up_cell x j.c2, (x.block M (Array.getElem?_eq_some_iff.1 j.m).1).trans j.m, j.r.up x, j.e.up x, j.d⟩
theorem J1.lt (j : J1 h b k C M W) : C < W.heap.size ∧ M < W.heap.size ∧ b < W.heap.size := ⟨lt_of_cell j.c1, (Array.getElem?_eq_some_iff.1 j.m).1, j.r.b⟩
end
theorem copiedAct_pl (x : Ac) (hx : PlA x) (V : World) : Calls Tryz.prog 228 #[.agg x.v.toArray] V fun e W' => (∃ x' : Ac, e = .returned (.agg x'.v.toArray) ∧ Hid (x' = x)) ∧ Below V.heap.size V W' := by
 refine (copiedAct_q x V (fun l _ => l = Sl.no) (fun _ _ _ h _ => h) (fun X _ _ => ?_) (fun X => copied_nil x.p hx.n hx.p X)).mono ?_
 ·rw [hx.l]
  exact (copies_nil X).mono fun e W' ⟨h1, h2⟩ => ⟨⟨Sl.no, h1, rfl⟩, by rw [h2]; exact Below.refl _ _⟩
 ·rintro e W' ⟨⟨l', h1, rfl⟩, h2⟩
  exact ⟨⟨_, h1, Hid.mk' (by rw [← hx.l])⟩, h2⟩
theorem copiedHook_pl (h : Hk) (hh : PlH h) (w : World) : Calls Tryz.prog 180 #[.agg h.v.toArray] w fun e w' => (∃ h' : Hk, e = .returned (.agg h'.v.toArray) ∧ Hid (h' = h)) ∧ Below w.heap.size w w' := by
 refine (copiedHook_q h w (fun l _ => l = Sl.no) (fun _ _ _ h _ => h) (copiedAct_pl h.a hh.a) (copiedAct_pl h.b hh.b) (copiedAct_pl h.c hh.c) (fun X _ _ => (copiedAct_pl h.d hh.d X).mono ?_)).mono ?_
 ·rintro e W' ⟨⟨x', h1, h2⟩, h3⟩
  have h2 := h2.out
  subst h2
  exact ⟨⟨_, h1, Hid.mk' ⟨Sl.no, by rw [← hh.d.l], rfl⟩⟩, h3⟩
 ·rintro e W' ⟨⟨h', h1, h2⟩, h3⟩
  obtain ⟨l', h4, h5⟩ := h2.out
  refine ⟨⟨h', h1, Hid.mk' ?_⟩, h3⟩
  rw [h4, h5, ← hh.d.l]
theorem get_pl (h : Hk) (hh : PlH h) (TB c : Nat) (w : World) (hB : Blk w TB h.v) : Calls Tryz.prog 140 #[.slice (some ⟨TB, 0, none⟩) 1 c, .int .i64 1] w fun e w' => (∃ h' : Hk, e = .returned (.tuple #[.agg h'.v.toArray, .bool true]) ∧ Hid (h' = h)) ∧ Below w.heap.size w w' :=
 get_q h TB w (fun h' _ => h' = h) (fun _ _ _ e _ => e) hB (fun V _ _ => copiedHook_pl h hh V)
theorem ask_1 (f : Sq) (v : Value) (k0 : Int) (ty0 : ByteArray) (hm0 : MkC v k0 ty0 1) (np ok : Bool) (hNP : ∀ W, Calls Tryz.prog 115 #[v] W fun e w' => e = .returned (.bool np) ∧ Below W.heap.size W w')
  {h : Hk} (hh : PlH h) {b k C M g : Nat} {l : List UInt8} {dp : Int} {av : Value} {nx : Int} {T : ByteArray} (w : World) (hp : IsPr w g l (prT C dp av nx)) (hJ : J1 h b k C M w) (hg : M ≠ g)
  (hSay : ∀ W, EK W → Calls Tryz.prog 114 #[.agg h.v.toArray, SV f, .bool np, FP g, FS g] W fun e W' => e = .returned (.tuple #[.string T, .bool ok]) ∧ Below W.heap.size W W') :
  Calls Tryz.prog 86 #[.pointer (some ⟨g, 0, none⟩), v, SV f] w fun e w' => e = .returned (.tuple #[.string T, .bool ok]) ∧ EK w' ∧ Kx (fun k => k = M) w w' := by
 obtain ⟨lC, lM, lb⟩ := hJ.lt
 obtain ⟨lE, lK⟩ := hJ.e.lt
 obtain ⟨d1, d2, d3, d4⟩ := hJ.d
 refine (ask_g f v k0 ty0 hm0 np ok hNP g C l dp av nx w hp 0 (by decide) hJ.c2 (T := T) (B := EK) (P := fun _ => False) (PM := fun k => k = M) (fun h' lo hi W => h' = h ∧ EK W) (fun k hk => ⟨by rw [hk]; exact lM, by rw [hk]; exact hg⟩) (fun k hk => hk.elim) (fun V hV => ?_) (fun h' lo hi W W' h1 h2 ⟨e1, e2⟩ x => ⟨e1, e2.ky x (by omega) (by omega)⟩) (fun h' lo hi W ⟨e1, e2⟩ _ _ _ => ?_)).mono ?_
 ·have jV := hJ.up hV
  have hVs := hV.size
  refine (row_miss C M _ ⟨_, _, _, rfl⟩ V (fun h' lo hi W => h' = h ∧ V.heap.size ≤ hi ∧ EK W) (fun h' lo hi W W' ⟨e1, e3, e2⟩ x => ⟨e1, e3, e2.ky x (by omega) (by omega)⟩) jV.c0 jV.c1 jV.m d1 (fun V' hV' => (get_pl h hh b k V' (jV.r.up hV')).mono ?_)).mono ?_
  ·rintro e w' ⟨⟨h', h1, h2⟩, h3⟩
   exact ⟨⟨h', h1, Hid.mk' ⟨h2.out, Nat.le_trans hV'.size h3.size, (jV.e.up hV').up h3⟩⟩, h3⟩
  ·rintro e w' ⟨h', h1, h2, h3, h4⟩
   obtain ⟨lo, hi, a1, a2, a3, a4⟩ := h2.out
   exact ⟨h', h1, Hid.mk' ⟨a4.1, a4.2.2⟩, h4⟩
 ·subst e1
  refine (hSay W e2).mono ?_
  rintro e w' ⟨h1, h2⟩
  exact ⟨h1, e2.up h2, .of_below h2⟩
 ·rintro e w' ⟨h1, h2, h3⟩
  exact ⟨h1, h2, h3.mono fun k _ hk => hk.elim id False.elim⟩
section
variable {h : Hk} {f : Sq} {np : Bool}
theorem tn_ek (W : World) (e : EK W) : Tn EK EK (fun _ => False) W.heap.size := ⟨fun _ _ h b => h.up b, fun _ _ h x => h.ky x (by have := e.lt.1; omega) (by have := e.lt.2; omega), fun _ h => h.elim⟩
theorem kx_below {W W' : World} (x : Kx (fun _ => False) W W') : Below W.heap.size W W' := x.below (fun _ h => h.elim) (Nat.le_refl _)
theorem do_tell (W0 : World) (e : EK W0) (g : Nat) (x : Ac) (hk : x.k = 1) {v : Int} {m : ByteArray} : DoQ EK EK (fun _ => False) W0.heap.size g x np v m x.t true :=
 do_f (tn_ek W0 e) g x (doV_1 hk (FP g)) fun W hW => (tells_any x (FP g) W).mono fun e W' ⟨h1, h2⟩ => ⟨h1, hW.up h2, .of_below h2⟩
theorem say_1 (g : Nat) (hn : whN h f.verb f.sh = 1) (hk : h.a.k = 1) (W : World) (e : EK W) : Calls Tryz.prog 114 #[.agg h.v.toArray, SV f, .bool np, FP g, FS g] W fun e W' => e = .returned (.tuple #[.string h.a.t, .bool true]) ∧ Below W.heap.size W W' :=
 (sayJ_1 (tn_ek W e) (x := h.a) rfl hn (do_tell W e g h.a hk) W (Nat.le_refl _) e).mono fun e W' ⟨h1, h2, h3⟩ => ⟨h1, kx_below h3⟩
theorem say_2 (g : Nat) (hn : whN h f.verb f.sh = 2) (hk : h.b.k = 1) (W : World) (e : EK W) : Calls Tryz.prog 114 #[.agg h.v.toArray, SV f, .bool np, FP g, FS g] W fun e W' => e = .returned (.tuple #[.string h.b.t, .bool true]) ∧ Below W.heap.size W W' :=
 (sayJ_2 (tn_ek W e) (x := h.b) rfl hn (do_tell W e g h.b hk) W (Nat.le_refl _) e).mono fun e W' ⟨h1, h2, h3⟩ => ⟨h1, kx_below h3⟩
theorem say_3 {T : ByteArray} {b2 : Bool} (g : Nat) (hn : whN h f.verb f.sh = 3) (hk : h.c.k = 1) (hT : ∀ W, Esc W → Calls Tryz.prog 110 #[.string h.c.t, SV f] W fun e w' => e = .returned (.tuple #[.string T, .bool b2]) ∧ Below W.heap.size W w') (W : World) (e : EK W) : Calls Tryz.prog 114 #[.agg h.v.toArray, SV f, .bool np, FP g, FS g] W fun e W' => e = .returned (.tuple #[.string T, .bool true]) ∧ Below W.heap.size W W' :=
 (sayJ_3 (tn_ek W e) (x := h.c) rfl hn (do_tell W e g h.c hk) (fun W h => hT W h.1) W (Nat.le_refl _) e).mono fun e W' ⟨h1, h2, h3⟩ => ⟨h1, kx_below h3⟩
theorem say_4 {T : ByteArray} {b2 : Bool} (g : Nat) (hn : whN h f.verb f.sh = 4) (hk : h.d.k = 1) (hT : ∀ W, Esc W → Calls Tryz.prog 110 #[.string h.d.t, SV f] W fun e w' => e = .returned (.tuple #[.string T, .bool b2]) ∧ Below W.heap.size W w') (W : World) (e : EK W) : Calls Tryz.prog 114 #[.agg h.v.toArray, SV f, .bool np, FP g, FS g] W fun e W' => e = .returned (.tuple #[.string T, .bool true]) ∧ Below W.heap.size W W' :=
 (sayJ_4 (tn_ek W e) (x := h.d) rfl hn (do_tell W e g h.d hk) (fun W h => hT W h.1) W (Nat.le_refl _) e).mono fun e W' ⟨h1, h2, h3⟩ => ⟨h1, kx_below h3⟩
end
abbrev ShH (h : Hk) (v : Value) (f : Sq) (T : ByteArray) : Prop := ∀ {W : World} {g C M b k : Nat} {l : List UInt8} {dp : Int} {av : Value} {nx : Int}, J1 h b k C M W → IsPr W g l (prT C dp av nx) → M < g → Calls Tryz.prog 69 #[.pointer (some ⟨g, 0, none⟩), v, SV f] W fun e w' => e = .returned (.string T) ∧ EK w' ∧ Kx (fun k => k = M) W w'
theorem shown_say {h : Hk} (hh : PlH h) {v x0 x1 x2 x3 x4 x7 : Value} {k0 : Nat} {st : TypeId} {sx : Value} (hF : Flat v x0 x1 x2 x3 x4 x7 k0 1 st sx) {f : Sq} (hv : ¬ f.verb = 84) {np : Bool} (hNP : ∀ W, Calls Tryz.prog 115 #[v] W fun e w' => e = .returned (.bool np) ∧ Below W.heap.size W w') {T : ByteArray}
  (hSay : ∀ g W, EK W → Calls Tryz.prog 114 #[.agg h.v.toArray, SV f, .bool np, FP g, FS g] W fun e W' => e = .returned (.tuple #[.string T, .bool true]) ∧ Below W.heap.size W W') : ShH h v f T := fun {W g C M b k l dp av nx} hJ hp hM => by
 refine shown_q f hv v g T W fun V hV => written_q f (FA g) v 0 V T (fun V2 hV2 => ?_) (fun V2 hV2 => (hF.sh V2).mono fun e V' ⟨h1, h2⟩ => ⟨⟨_, _, h1⟩, h2⟩)
 have j2 := (hJ.up hV).up hV2
 have p2 := (hp.below hV).below hV2
 have l2 := j2.lt
 have e2 := j2.e.lt
 refine asked_g f v g T V2 (fun k hk => by rw [hk]; exact l2.2.1) (fun _ _ h x => h.ky x (by have := e2.1; omega) (by have := e2.2; omega)) (fun V3 hV3 => ?_)
 exact ask_1 f v k0 ⟨#[]⟩ hF.mr np true hNP hh V3 (p2.below hV3) (j2.up hV3) (by omega) (hSay g)
theorem shown_no {h : Hk} (hh : PlH h) {v x0 x1 x2 x3 x4 x7 : Value} {k0 : Nat} {st : TypeId} {sx : Value} (hF : Flat v x0 x1 x2 x3 x4 x7 k0 1 st sx) (ty : ByteArray) (hty : kindN[k0]? = some ty) {f : Sq} (hv : ¬ f.verb = 84) {np : Bool} (hNP : ∀ W, Calls Tryz.prog 115 #[v] W fun e w' => e = .returned (.bool np) ∧ Below W.heap.size W w') {T T2 : ByteArray} {ok : Bool}
  (hn : whN h f.verb f.sh = 0)
  (hSh : ∀ g W, EK W → Calls Tryz.prog 138 #[WV f (FA g), .iface st sx, .string ty, .int .i64 0] W fun e W' => e = .returned (.tuple #[.string T, .bool ok]) ∧ Below W.heap.size W W')
  (hBad : ok = false → ∀ W, EK W → Calls Tryz.prog 139 #[v, .int .i32 f.verb] W fun e W' => e = .returned (.string T2) ∧ Below W.heap.size W W') : ShH h v f (if ok then T else T2) := fun {W g C M b k l dp av nx} hJ hp hM => by
 have hA : ∀ V, Below W.heap.size W V → ∀ V2, Below V.heap.size V V2 → Calls Tryz.prog 137 #[WV f (FA g), v] V2 fun e W' => e = .returned (.tuple #[.string ⟨#[]⟩, .bool false]) ∧ EK W' ∧ Kx (fun k => k = M) V2 W' := fun V hV V2 hV2 => by
  have j2 := (hJ.up hV).up hV2
  have p2 := (hp.below hV).below hV2
  have l2 := j2.lt
  have e2 := j2.e.lt
  refine asked_g f v g ⟨#[]⟩ V2 (fun k hk => by rw [hk]; exact l2.2.1) (fun _ _ h x => h.ky x (by have := e2.1; omega) (by have := e2.2; omega)) (fun V3 hV3 => ?_)
  exact ask_1 f v k0 ⟨#[]⟩ hF.mr np false hNP hh V3 (p2.below hV3) (j2.up hV3) (by omega) (fun W _ => say_no h f np g hn W)
 have hTy : ∀ V, EK V → Calls Tryz.prog 68 #[v] V fun e W' => e = .returned (.string ty) ∧ Below V.heap.size V W' := fun V e => type_own _ k0 1 V _ hty e.2 hF.mr
 have hlM := hJ.lt.2.1
 cases ok
 ·exact shown_q f hv v g T2 W fun V hV => written_nb f (FA g) v 0 V ty T T2 st sx (fun k hk => by have := hV.size; omega) (fun _ _ h b => h.up b) (hA V hV) (fun V2 _ => hF.sh V2) hTy (hSh g) (hBad rfl)
 ·exact shown_q f hv v g T W fun V hV => written_n f (FA g) v 0 V ty T st sx (fun k hk => by have := hV.size; omega) (fun _ _ h b => h.up b) (hA V hV) (fun V2 _ => hF.sh V2) hTy (hSh g)
set_option maxRecDepth 1000000 in
theorem newCall_t (a : Option Addr) (n c : Nat) (w : World) : Calls Tryz.prog 43 #[.slice a n c] w fun e w' => ∃ C M, e = .returned (.pointer (some ⟨C, 0, none⟩)) ∧ w.heap.size ≤ C ∧ w.heap.size ≤ M ∧ C ≠ M ∧ w'.cell? ⟨C, 0, none⟩ = some (.slice a n c) ∧ w'.cell? ⟨C, 1, none⟩ = some (.map (some M)) ∧ w'.cell? ⟨C, 2, none⟩ = some (.int .i64 0) ∧ w'.heap[M]? = some (.map #[] 0) ∧ Below w.heap.size w w' := by
 have hmm : ∀ w : World, (Instr.makeMap 95 none).run Tryz.prog w = .ok (.map (some w.heap.size)) (w.alloc (.map #[] 0)) := fun w => by kernel_rfl
 go_enter Tryz.func43, Tryz.ntmps43
 go_wp2
 go_ret
 refine ⟨w.heap.size + 1, w.heap.size, rfl, by omega, by omega, by omega, by simp [go_sem], by simp [go_sem], by simp [go_sem], ?_, by go_grown⟩
 rw [Below.heap_alloc _ _ _ (by simp), heap_alloc_new]
set_option maxRecDepth 1000000 in
theorem sprintf_t (s : ByteArray) (args : Value) (T : ByteArray) (a : Option Addr) (n c : Nat) (w : World)
  (hA : ∀ W C M, Below w.heap.size w W → w.heap.size ≤ C → w.heap.size ≤ M → C ≠ M → W.cell? ⟨C, 0, none⟩ = some (.slice a n c) → W.cell? ⟨C, 1, none⟩ = some (.map (some M)) → W.cell? ⟨C, 2, none⟩ = some (.int .i64 0) → W.heap[M]? = some (.map #[] 0) → Calls Tryz.prog 44 #[.pointer (some ⟨C, 0, none⟩), .int .i64 0, .string s, args] W fun e w' => e = .returned (.string T) ∧ Kx (fun k => k = M) W w') :
  Calls Tryz.prog 29 #[.slice a n c, .string s, args] w fun e w' => e = .returned (.string T) ∧ Below w.heap.size w w' := by
 have hN := newCall_t a n c w
 have hAt : Calls Tryz.prog 37 #[.int .i64 0, .slice a n c, .string s, args] w fun e w' => e = .returned (.string T) ∧ Below w.heap.size w w' := by
  go_enter Tryz.func37, Tryz.ntmps37
  go_wp2_with (first | (go_at_call 43; refine hN.mono ?_; rintro e W ⟨C, M, rfl, c1, c2, c3, c4, c5, c6, c7, bW⟩; have hA1 := hA W C M bW c1 c2 c3 c4 c5 c6 c7) | (go_at_call 44; refine hA1.mono ?_; rintro e W2 ⟨rfl, b2⟩))
  go_ret
  exact ⟨rfl, bW.trans (b2.below (fun k hk => by omega) bW.size)⟩
 go_enter Tryz.func29, Tryz.ntmps29
 go_wp2_with (go_at_call 37; refine hAt.mono ?_; rintro e W2 ⟨rfl, b2⟩)
 go_ret
 exact ⟨rfl, b2⟩
theorem print_H {h : Hk} (hh : PlH h) (tb tc : Nat) (htc : 1 ≤ tc) (s : ByteArray) (p : Pc) (hps : prs s.data.toList = [p]) (hs : s.size ≤ 1000) (hk : p.kind = 1) (hw : p.wid.k = 0) (hp : p.prec.k = 0) (hx : p.arg.k = 0) (hx2 : p.wid.a.k = 0) (hx3 : p.prec.a.k = 0) (hv : ¬ p.verb = 37)
  (A c : Nat) (hc1 : 1 ≤ c) (hc2 : c ≤ maxLen) (kk bt im hk' : Int) (ty tx : ByteArray) (tt : TypeId) (x : Value) (T : ByteArray) (hT : T.size ≤ 100000) (w : World) (he : EK w) (hA : A < w.heap.size) (htb : tb < w.heap.size) (hr : w.rangeAt tb 0 h.v)
  (hd : w.rangeAt A 0 [.int .i64 kk, .string ty, .int .u64 bt, .int .u64 im, .string tx, .slice none 0 0, .slice none 0 0, .int .i64 hk'])
  (hvo : ∀ W, Calls Tryz.prog 53 #[.agg #[.int .i64 kk, .string ty, .int .u64 bt, .int .u64 im, .string tx, .slice none 0 0, .slice none 0 0, .int .i64 hk']] W fun e w' => e = .returned (.iface tt x) ∧ Below W.heap.size W w')
  (hSh : ShH h (.iface tt x) (spQ p) T) :
  Calls Tryz.prog 9 #[.slice (some ⟨tb, 0, none⟩) 1 tc, .string s, .slice (some ⟨A, 0, none⟩) 1 c] w fun e w' => e = .returned (.string (txt T.data.toList)) ∧ Below w.heap.size w w' := by
 have hTl : T.data.toList.length ≤ 100000 := by rw [← Lib.size_eq]; exact hT
 refine print_any _ (fun a n k hi W => RwP h a n k hi W) s _ _ w ⟨_, _, _, rfl⟩ (fun a n k hi W W' r x => r.kx x) (fun W bW => copiedTable_1 h hh tb tc htc W (fun j u hu => (bW.cell (p := ⟨tb, 0 + j, none⟩) htb).trans (hr j u hu))) (fun a n k hi W R h1 h2 bW => ?_)
 obtain ⟨b, rfl, rfl, hb, kb⟩ := R
 have eW := he.up bW
 refine sprintf_t s _ _ _ 1 k W fun W1 C M b1 a1 a2 a3 a4 a5 a6 a7 => ?_
 have e1 := eW.up b1
 have lE := eW.lt
 have hlb := kb.b
 have bw1 := bW.trans (b1.mono bW.size)
 have jJ : J1 h b k C M W1 := ⟨a4, a5, a6, a7, kb.up b1, e1, a3, by omega, by have := lE.1; omega, by have := lE.2; omega⟩
 have hlJ := jJ.lt
 refine (at_J s _ [.iface tt x] T.data.toList C 0 (by decide) (by decide) (J' := EK) (P := fun k => k = M) W1 (by omega) (fun _ _ h b => h.up b) ?_ (fun g V hg bV hR => ?_)).mono fun e w' h => ⟨h.1, h.2.2⟩
 ·refine begun_raw W1 C 0 A c [[.int .i64 kk, .string ty, .int .u64 bt, .int .u64 im, .string tx, .slice none 0 0, .slice none 0 0, .int .i64 hk']] [.iface tt x] (Nat.lt_of_lt_of_le hA bw1.size) rfl (by show 1 ≤ 16; decide) hc1 hc2 (fun i d hi => ?_) (fun i d u hi hu => ?_)
  ·match i, hi with
   | 0, hi =>
     simp at hi
     subst hi
     exact ⟨⟨_, _, _, _, _, _, rfl⟩, fun j u hu => by have := (bw1.cell (p := ⟨A, 0 + j, none⟩) hA).trans (hd j u hu); simpa using this⟩
  ·match i, hi, hu with
   | 0, hi, hu =>
     simp at hi hu
     subst hi hu
     exact ⟨⟨_, _, rfl⟩, fun V => hvo V⟩
 ·obtain ⟨ao, cc, hp0, hc3, hc4, ha⟩ := hR
  have le1 := e1.lt
  have hE : EnJ (J1 h b k C M) V g C [] 0 (.slice ao [Value.iface tt x].length cc) [.iface tt x] 1 := ⟨hp0, jJ.up bV, fun w w' j x => j.kx (g := g) (by omega) (by omega) (by omega) (by have := le1.1; omega) (by have := le1.2; omega) x, by omega, ao, cc, rfl, hc3, hc4, ha⟩
  have ha1 : p.arg.k = 0 := hx
  refine (format_J s (by omega) [p] hps (by
   intro q hq
   simp only [List.mem_cons, List.not_mem_nil, or_false] at hq
   subst hq
   exact ⟨hx, hx2, hx3⟩) T.data.toList [] (J' := EK) (P := fun k => k = g ∨ k = M) (Or.inl rfl) (fun k hk => by omega) hE (nx' := 2) ⟨T.data.toList, [], 2, EK, ?_, ⟨rfl, rfl, rfl⟩, by simp⟩ (Or.inl (by show 1 ≤ 1; decide)) (by omega) (fun V E => extra_J E (by show ((1 : Nat) : Int) < 2; decide))).mono ?_
  ·intro V l E hl
   refine piece_J p (ba p.text) hk _ 2 E fun V1 E1 => ?_
   refine dir_J p (ba p.text) (spQ p) 0 tt x T p.arg.n E1 (fun V2 E2 => ?_) (by show ¬ (p.verb : Int) = 37; omega) (by show some (Value.int .i64 (p.arg.k : Int)) = _; rw [ha1]; rfl) rfl rfl (by show 1 ≤ 1000; decide) (Or.inl rfl) (fun k hk => by omega) (fun V2 E2 => ?_) (by rw [Lib.size_eq]; exact Nat.le_trans hl (by decide))
   ·refine (sized_none p (ba p.text) hw hp g V2).mono ?_
    rintro e V' ⟨h1, h2⟩
    exact ⟨h1, E2.up h2, .of_below h2⟩
   ·refine (hSh E2.j E2.p (by omega)).mono ?_
    rintro e V' ⟨h1, h2, h3⟩
    exact ⟨h1, E2.turn h3 (fun k hk => by omega) h2 (fun _ _ h x => h.ky x (by have := le1.1; omega) (by have := le1.2; omega)), h3.mono fun k _ hk => Or.inr hk⟩
  ·rintro e w' ⟨h1, h2, h3⟩
   rw [List.append_nil] at h2
   exact ⟨h1, ⟨_, h2.p⟩, h2.j, h3⟩
end Go.Proofs.YtdlnmnipnkeabaaGreatDoor
