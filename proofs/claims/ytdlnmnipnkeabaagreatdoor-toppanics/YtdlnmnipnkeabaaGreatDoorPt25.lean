/- UTop, JPr, DDeepB, DDeepC: these texts in one. -/
import Derived.Test.YtdlnmnipnkeabaaGreatDoorPt24
import Derived.Test.YtdlnmnipnkeabaaGreatDoorUNum
import Derived.Test.YtdlnmnipnkeabaaGreatDoorPt22
import Derived.Test.YtdlnmnipnkeabaaGreatDoorPt19
import Derived.Test.YtdlnmnipnkeabaaGreatDoorJRow
import Derived.Test.YtdlnmnipnkeabaaGreatDoorPt21
import Derived.Test.YtdlnmnipnkeabaaGreatDoorPt17
namespace Go.Proofs.YtdlnmnipnkeabaaGreatDoor
open Go.RowKit
set_option linter.unusedVariables false
set_option linter.unusedSimpArgs false
def JN (C M : Nat) (W : World) : Prop := IsCall W C M 0 ∧ Esc W ∧ KN W
theorem JN.kx {C M g : Nat} (hC : C < g) (hM : M < g) (hE : 2 < g) (hK : 1 < g) {W W' : World} (h : JN C M W) (k : Kx (fun k => g ≤ k) W W') : JN C M W' :=
 ⟨h.1.kept k (by omega) (by omega), ⟨Nat.lt_of_lt_of_le h.2.1.1 k.size, fun i hi => k.cell (h.2.1.2 i hi) (by dsimp only; omega)⟩, fun i s hs => k.cell (h.2.2 i s hs) (by dsimp only; omega)⟩
theorem JN.env {C M g : Nat} {l : List UInt8} {dp : Int} {av : Value} {vs : List Value} {nx : Int} {W : World} (h : EnJ (JN C M) W g C l dp av vs nx) : Env W g C M l 0 dp av nx := ⟨h.p, h.j.1, h.j.2.1, h.j.2.2, by decide⟩
theorem sprintf_N (s : ByteArray) (args : Value) (vs : List Value) (o : List UInt8) (w : World) (he : Esc w) (hk : KN w) (ho : o.length ≤ 1000000)
  (hBg : ∀ W C, Below w.heap.size w W → Calls Tryz.prog 50 #[.pointer (some ⟨C, 0, none⟩), .int .i64 0, args] W fun e w' => ∃ g, e = .returned (.pointer (some ⟨g, 0, none⟩)) ∧ W.heap.size ≤ g ∧ BgR w' C g 0 vs ∧ Below W.heap.size W w')
  (hF : ∀ g C M av W, EnJ (JN C M) W g C [] 0 av vs 1 → Calls Tryz.prog 51 #[.pointer (some ⟨g, 0, none⟩), .string s] W fun e w' => e = .returned (.tuple #[]) ∧ (∃ tl, IsPr w' g o tl) ∧ Kx (fun k => k = g) W w') :
  Calls Tryz.prog 29 #[.slice none 0 0, .string s, args] w fun e w' => e = .returned (.string (txt o)) ∧ Below w.heap.size w w' := by
 refine sprintf_of s args (txt o) w fun W C M bW hc hC hM => ?_
 refine (at_J s args vs o C 0 (by decide) (by decide) (J' := fun _ => True) (P := fun _ => False) W ho (fun _ _ _ _ => trivial) (hBg W C bW) (fun g V hg bV hR => ?_)).mono fun e w' h => ⟨h.1, h.2.2.below (fun _ h => h.elim) (Nat.le_refl _)⟩
 obtain ⟨ao, cc, hp, hc1, hc2, ha⟩ := hR
 have eE := he.below bW
 have eK := hk.up bW
 have h1 := eE.1
 have h2 := kn_lt eK
 have hE : EnJ (JN C M) V g C [] 0 (.slice ao vs.length cc) vs 1 := ⟨hp, ⟨hc.up bV, eE.below bV, eK.up bV⟩, fun w w' h k => h.kx (by omega) (by omega) (by omega) (by omega) k, by omega, ao, cc, rfl, hc1, hc2, ha⟩
 refine (hF g C M _ V hE).mono ?_
 rintro e w' ⟨h3, h4, h5⟩
 exact ⟨h3, h4, trivial, h5.mono fun _ _ h => Or.inl h⟩
theorem copiedTable_nil (w : World) (hcl : ∀ W, Calls Tryz.prog 24 #[.slice none 0 0] W fun e w' => e = .returned (.slice none 0 0) ∧ w' = W) : Calls Tryz.prog 19 #[.slice none 0 0] w fun e w' => ∃ a n k, e = .returned (.slice a n k) ∧ Hid (a = none ∧ n = 0 ∧ k = 0) ∧ Below w.heap.size w w' := by
 have hm : min (0 : Int) 16 = 0 := by decide
 go_enter Tryz.func19, Tryz.ntmps19
 go_wp2_with (go_at_call 24; refine (hcl _).mono ?_; rintro e w2 ⟨rfl, q2⟩; subst q2)
 refine wp_loop_rounds 1 ?_
 rw [rounds_succ]
 go_wp2
 go_ret
 exact ⟨_, _, _, rfl, ⟨rfl, rfl, rfl⟩, by first | exact Below.refl _ _ | go_grown⟩
theorem cloneH_nil (w : World) : Calls Tryz.prog 24 #[.slice none 0 0] w fun e w' => e = .returned (.slice none 0 0) ∧ w' = w := by
 have he : ∀ w, (binOp BinOp.eql 35 (.slice none 0 0) (.slice none 0 0)).run Tryz.prog w = .ok (.bool true) w := fun w => by kernel_rfl
 go_enter Tryz.func24, Tryz.ntmps24
 go_wp2
 go_ret
 exact ⟨rfl, rfl⟩
theorem print_N (f : ByteArray) (av : Value) (T : ByteArray) (w : World) (h3 : ∃ x y z, av = .slice x y z) (hS : ∀ W, Below w.heap.size w W → Calls Tryz.prog 29 #[.slice none 0 0, .string f, av] W fun e W' => e = .returned (.string T) ∧ Below W.heap.size W W') :
  Calls Tryz.prog 9 #[.slice none 0 0, .string f, av] w fun e w' => e = .returned (.string T) ∧ Below w.heap.size w w' :=
 print_any _ (fun a n k _ _ => a = none ∧ n = 0 ∧ k = 0) f av T w h3 (fun _ _ _ _ _ _ h _ => h) (fun W _ => copiedTable_nil W cloneH_nil) (fun a n k hi W h _ _ bW => by obtain ⟨rfl, rfl, rfl⟩ := h; exact hS W bW)
theorem print_1 (s : ByteArray) (p : Pc) (hps : prs s.data.toList = [p]) (hs : s.size ≤ 1000) (hk : p.kind = 1) (hw : p.wid.k = 0) (hp : p.prec.k = 0) (hx : p.arg.k = 0) (hx2 : p.wid.a.k = 0) (hx3 : p.prec.a.k = 0) (hv : ¬ p.verb = 37)
  (A c : Nat) (hc1 : 1 ≤ c) (hc2 : c ≤ maxLen) (kk bt im hk' : Int) (ty tx : ByteArray) (tt : TypeId) (x : Value) (T : ByteArray) (hT : T.size ≤ 100000) (w : World) (he : Esc w) (hkn : KN w) (hA : A < w.heap.size)
  (hd : w.rangeAt A 0 [.int .i64 kk, .string ty, .int .u64 bt, .int .u64 im, .string tx, .slice none 0 0, .slice none 0 0, .int .i64 hk'])
  (hvo : ∀ W, Calls Tryz.prog 53 #[.agg #[.int .i64 kk, .string ty, .int .u64 bt, .int .u64 im, .string tx, .slice none 0 0, .slice none 0 0, .int .i64 hk']] W fun e w' => e = .returned (.iface tt x) ∧ Below W.heap.size W w')
  (hSh : ∀ {W : World} {g C M : Nat} {l : List UInt8} {m dp : Int} {av : Value} {nx : Int}, Env W g C M l m dp av nx → Calls Tryz.prog 69 #[.pointer (some ⟨g, 0, none⟩), .iface tt x, SV (spQ p)] W fun e w' => e = .returned (.string T) ∧ Below W.heap.size W w') :
  Calls Tryz.prog 9 #[.slice none 0 0, .string s, .slice (some ⟨A, 0, none⟩) 1 c] w fun e w' => e = .returned (.string (txt T.data.toList)) ∧ Below w.heap.size w w' := by
 have hTl : T.data.toList.length ≤ 100000 := by rw [← Lib.size_eq]; exact hT
 refine print_N s _ _ w ⟨_, _, _, rfl⟩ fun W bW => ?_
 refine sprintf_N s _ [.iface tt x] T.data.toList W (he.below bW) (hkn.up bW) (by omega) (fun W1 C b1 => ?_) (fun g C M av W1 hE => ?_)
 ·have bw1 := bW.trans (b1.mono bW.size)
  refine begun_raw W1 C 0 A c [[.int .i64 kk, .string ty, .int .u64 bt, .int .u64 im, .string tx, .slice none 0 0, .slice none 0 0, .int .i64 hk']] [.iface tt x] (Nat.lt_of_lt_of_le hA bw1.size) rfl (by show 1 ≤ 16; decide) hc1 hc2 (fun i d hi => ?_) (fun i d u hi hu => ?_)
  ·match i, hi with
   | 0, hi =>
     simp at hi
     subst hi
     exact ⟨⟨_, _, _, _, _, _, rfl⟩, fun j u hu => by have := (bw1.cell (p := ⟨A, 0 + j, none⟩) hA).trans (hd j u hu); simpa using this⟩
  ·match i, hi, hu with
   | 0, hi, hu =>
     simp at hi hu
     subst hi hu
     exact ⟨⟨_, _, rfl⟩, fun V => hvo V⟩
 ·have ha1 : p.arg.k = 0 := hx
  refine (format_J s (by omega) [p] hps (by
   intro q hq
   simp only [List.mem_cons, List.not_mem_nil, or_false] at hq
   subst hq
   exact ⟨hx, hx2, hx3⟩) T.data.toList [] (J' := JN C M) (P := fun k => k = g) rfl (fun k hk => by omega) hE (nx' := 2) ⟨T.data.toList, [], 2, JN C M, ?_, ⟨rfl, rfl, rfl⟩, by simp⟩ (Or.inl (by show 1 ≤ 1; decide)) (by omega) (fun V E => extra_J E (by show ((1 : Nat) : Int) < 2; decide))).mono ?_
  ·intro V l E hl
   refine piece_J p (ba p.text) hk _ 2 E fun V1 E1 => ?_
   refine dir_J p (ba p.text) (spQ p) 0 tt x T p.arg.n E1 (fun V2 E2 => ?_) (by show ¬ (p.verb : Int) = 37; omega) (by show some (Value.int .i64 (p.arg.k : Int)) = _; rw [ha1]; rfl) rfl rfl (by show 1 ≤ 1000; decide) rfl (fun k hk => by omega) (fun V2 E2 => ?_) (by rw [Lib.size_eq]; exact Nat.le_trans hl (by decide))
   ·refine (sized_none p (ba p.text) hw hp g V2).mono ?_
    rintro e V' ⟨h1, h2⟩
    exact ⟨h1, E2.up h2, .of_below h2⟩
   ·refine (hSh (JN.env E2)).mono ?_
    rintro e V' ⟨h1, h2⟩
    exact ⟨h1, E2.up h2, .of_below h2⟩
  ·rintro e w' ⟨h1, h2, h3⟩
   rw [List.append_nil] at h2
   exact ⟨h1, ⟨_, h2.p⟩, h3⟩
end Go.Proofs.YtdlnmnipnkeabaaGreatDoor
namespace Go.Proofs.YtdlnmnipnkeabaaGreatDoor
open Go.RowKit
set_option linter.unusedVariables false
set_option linter.unusedSimpArgs false
abbrev EK (W : World) : Prop := Esc W ∧ KN W
theorem EK.ky {P : Nat → Prop} {W W' : World} (h : EK W) (k : Kx P W W') (h1 : ¬ P 2) (h2 : ¬ P 1) : EK W' :=
 ⟨⟨Nat.lt_of_lt_of_le h.1.1 k.size, fun i hi => k.cell (h.1.2 i hi) (by dsimp only; exact h1)⟩, fun i s hs => k.cell (h.2 i s hs) (by dsimp only; exact h2)⟩
theorem EK.up {W W' : World} (h : EK W) (b : Below W.heap.size W W') : EK W' := h.ky (P := fun _ => False) (.of_below b) id id
theorem EK.lt {W : World} (h : EK W) : 2 < W.heap.size ∧ 1 < W.heap.size := ⟨h.1.1, kn_lt h.2⟩
structure J1 (h : Hk) (b k C M : Nat) (W : World) : Prop where
 c0 : W.cell? ⟨C, 0, none⟩ = some (.slice (some ⟨b, 0, none⟩) 1 k)
 c1 : W.cell? ⟨C, 1, none⟩ = some (.map (some M))
 c2 : W.cell? ⟨C, 2, none⟩ = some (.int .i64 0)
 m : W.heap[M]? = some (.map #[] 0)
 r : Blk W b h.v
 e : EK W
 d : C ≠ M ∧ b ≠ M ∧ 2 ≠ M ∧ 1 ≠ M
section
variable {h : Hk} {b k C M : Nat} {W W' : World}
theorem J1.kx {g : Nat} (hC : C < g) (hM : M < g) (hb : b < g) (hE : 2 < g) (hK : 1 < g) (j : J1 h b k C M W) (x : Kx (fun k => g ≤ k) W W') : J1 h b k C M W' :=
 ⟨x.cell j.c0 (by dsimp only; omega), x.cell j.c1 (by dsimp only; omega), x.cell j.c2 (by dsimp only; omega), (x.block M (Array.getElem?_eq_some_iff.1 j.m).1 (by omega)).trans j.m, j.r.kx x (by omega), j.e.ky x (by omega) (by omega), j.d⟩
theorem J1.up (j : J1 h b k C M W) (x : Below W.heap.size W W') : J1 h b k C M W' :=
 ⟨up_cell x j.c0, up_cell x j.c1, up_cell x j.c2, (x.block M (Array.getElem?_eq_some_iff.1 j.m).1).trans j.m, j.r.up x, j.e.up x, j.d⟩
theorem J1.lt (j : J1 h b k C M W) : C < W.heap.size ∧ M < W.heap.size ∧ b < W.heap.size := ⟨lt_of_cell j.c1, (Array.getElem?_eq_some_iff.1 j.m).1, j.r.b⟩
end
theorem copiedAct_pl (x : Ac) (hx : PlA x) (V : World) : Calls Tryz.prog 228 #[.agg x.v.toArray] V fun e W' => (∃ x' : Ac, e = .returned (.agg x'.v.toArray) ∧ Hid (x' = x)) ∧ Below V.heap.size V W' := by
 refine (copiedAct_q x V (fun l _ => l = Sl.no) (fun _ _ _ h _ => h) (fun X _ _ => ?_) (fun X => copied_nil x.p hx.n hx.p X)).mono ?_
 ·rw [hx.l]
  exact (copies_nil X).mono fun e W' ⟨h1, h2⟩ => ⟨⟨Sl.no, h1, rfl⟩, by rw [h2]; exact Below.refl _ _⟩
 ·rintro e W' ⟨⟨l', h1, rfl⟩, h2⟩
  exact ⟨⟨_, h1, Hid.mk' (by rw [← hx.l])⟩, h2⟩
theorem copiedHook_pl (h : Hk) (hh : PlH h) (w : World) : Calls Tryz.prog 180 #[.agg h.v.toArray] w fun e w' => (∃ h' : Hk, e = .returned (.agg h'.v.toArray) ∧ Hid (h' = h)) ∧ Below w.heap.size w w' := by
 refine (copiedHook_q h w (fun l _ => l = Sl.no) (fun _ _ _ h _ => h) (copiedAct_pl h.a hh.a) (copiedAct_pl h.b hh.b) (copiedAct_pl h.c hh.c) (fun X _ _ => (copiedAct_pl h.d hh.d X).mono ?_)).mono ?_
 ·rintro e W' ⟨⟨x', h1, h2⟩, h3⟩
  have h2 := h2.out
  subst h2
  exact ⟨⟨_, h1, Hid.mk' ⟨Sl.no, by rw [← hh.d.l], rfl⟩⟩, h3⟩
 ·rintro e W' ⟨⟨h', h1, h2⟩, h3⟩
  obtain ⟨l', h4, h5⟩ := h2.out
  refine ⟨⟨h', h1, Hid.mk' ?_⟩, h3⟩
  rw [h4, h5, ← hh.d.l]
theorem get_pl (h : Hk) (hh : PlH h) (TB c : Nat) (w : World) (hB : Blk w TB h.v) : Calls Tryz.prog 140 #[.slice (some ⟨TB, 0, none⟩) 1 c, .int .i64 1] w fun e w' => (∃ h' : Hk, e = .returned (.tuple #[.agg h'.v.toArray, .bool true]) ∧ Hid (h' = h)) ∧ Below w.heap.size w w' :=
 get_q h TB w (fun h' _ => h' = h) (fun _ _ _ e _ => e) hB (fun V _ _ => copiedHook_pl h hh V)
section
variable {h : Hk} {f : Sq} {np : Bool}
end
set_option maxRecDepth 1000000 in
theorem newCall_t (a : Option Addr) (n c : Nat) (w : World) : Calls Tryz.prog 43 #[.slice a n c] w fun e w' => ∃ C M, e = .returned (.pointer (some ⟨C, 0, none⟩)) ∧ w.heap.size ≤ C ∧ w.heap.size ≤ M ∧ C ≠ M ∧ w'.cell? ⟨C, 0, none⟩ = some (.slice a n c) ∧ w'.cell? ⟨C, 1, none⟩ = some (.map (some M)) ∧ w'.cell? ⟨C, 2, none⟩ = some (.int .i64 0) ∧ w'.heap[M]? = some (.map #[] 0) ∧ w'.frozen? ⟨C, 2, none⟩ = false ∧ Below w.heap.size w w' := by
 have hmm : ∀ w : World, (Instr.makeMap 95 none).run Tryz.prog w = .ok (.map (some w.heap.size)) (w.alloc (.map #[] 0)) := fun w => by kernel_rfl
 go_enter Tryz.func43, Tryz.ntmps43
 go_wp2
 go_ret
 refine ⟨w.heap.size + 1, w.heap.size, rfl, by omega, by omega, by omega, by simp [go_sem], by simp [go_sem], by simp [go_sem], ?_, ?_, by go_grown⟩
 ·rw [Below.heap_alloc _ _ _ (by simp), heap_alloc_new]
 ·rw [frozen?_alloc_cells]
  exact frozen_none _ _ (by show _ ≤ w.heap.size + 1; simp)
set_option maxRecDepth 1000000 in
theorem sprintf_t (s : ByteArray) (args : Value) (T : ByteArray) (a : Option Addr) (n c : Nat) (w : World)
  (hA : ∀ W C M, Below w.heap.size w W → w.heap.size ≤ C → w.heap.size ≤ M → C ≠ M → W.cell? ⟨C, 0, none⟩ = some (.slice a n c) → W.cell? ⟨C, 1, none⟩ = some (.map (some M)) → W.cell? ⟨C, 2, none⟩ = some (.int .i64 0) → W.heap[M]? = some (.map #[] 0) → W.frozen? ⟨C, 2, none⟩ = false → Calls Tryz.prog 44 #[.pointer (some ⟨C, 0, none⟩), .int .i64 0, .string s, args] W fun e w' => e = .returned (.string T) ∧ Kx (fun k => k = C ∨ k = M) W w') :
  Calls Tryz.prog 29 #[.slice a n c, .string s, args] w fun e w' => e = .returned (.string T) ∧ Below w.heap.size w w' := by
 have hN := newCall_t a n c w
 have hAt : Calls Tryz.prog 37 #[.int .i64 0, .slice a n c, .string s, args] w fun e w' => e = .returned (.string T) ∧ Below w.heap.size w w' := by
  go_enter Tryz.func37, Tryz.ntmps37
  go_wp2_with (first | (go_at_call 43; refine hN.mono ?_; rintro e W ⟨C, M, rfl, c1, c2, c3, c4, c5, c6, c7, c8, bW⟩; have hA1 := hA W C M bW c1 c2 c3 c4 c5 c6 c7 c8) | (go_at_call 44; refine hA1.mono ?_; rintro e W2 ⟨rfl, b2⟩))
  go_ret
  exact ⟨rfl, bW.trans (b2.below (fun k hk => by omega) bW.size)⟩
 go_enter Tryz.func29, Tryz.ntmps29
 go_wp2_with (go_at_call 37; refine hAt.mono ?_; rintro e W2 ⟨rfl, b2⟩)
 go_ret
 exact ⟨rfl, b2⟩
end Go.Proofs.YtdlnmnipnkeabaaGreatDoor
namespace Go.Proofs.YtdlnmnipnkeabaaGreatDoor
open Go.RowKit
set_option linter.unusedVariables false
set_option linter.unusedSimpArgs false
abbrev pV : Pc := ⟨1, [37, 118], fl0, -1, 118, nb0, nb0, ix0⟩
theorem beg_H (C : Nat) (dp : Int) (b' c' : Nat) (w : World) (hr : w.rangeAt b' 0 dH.v) (hb : b' < w.heap.size) (h1 : 1 ≤ c') (h2 : c' ≤ maxLen) :
  Calls Tryz.prog 50 #[.pointer (some ⟨C, 0, none⟩), .int .i64 dp, .slice (some ⟨b', 0, none⟩) 1 c'] w fun e w' => ∃ g, e = .returned (.pointer (some ⟨g, 0, none⟩)) ∧ w.heap.size ≤ g ∧ BgR w' C g dp [VI 1 0] ∧ Below w.heap.size w w' := by
 refine begun_raw w C dp b' c' [dH.v] [VI 1 0] hb rfl (by decide) h1 h2 (fun i d hd => ?_) (fun i d u hd hu => ?_)
 ·match i, hd with
  | 0, hd =>
    simp at hd
    subst hd
    exact ⟨⟨_, _, _, _, _, _, rfl⟩, fun j u hu => by have := hr j u hu; simpa using this⟩
 ·match i, hd, hu with
  | 0, hd, hu =>
    simp at hd hu
    subst hd hu
    exact ⟨⟨_, _, rfl⟩, fun W => valueOf_I 1 0 W (by decide) (by decide) (by decide)⟩
end Go.Proofs.YtdlnmnipnkeabaaGreatDoor
namespace Go.Proofs.YtdlnmnipnkeabaaGreatDoor
open Go.RowKit
set_option linter.unusedVariables false
set_option linter.unusedSimpArgs false
set_option maxRecDepth 1000000 in
set_option maxHeartbeats 2000000 in
theorem bdepth_ex (w : World) : Calls Tryz.prog 15 #[] w fun e w' => e = .returned (.string ⟨#[37, 33, 40, 68, 69, 80, 84, 72, 41]⟩) ∧ Below w.heap.size w w' := by
 obtain ⟨W1, hW1⟩ : ∃ W1, W1 = w.alloc (.cells #[.string ⟨#[68, 69, 80, 84, 72]⟩] 9) := ⟨_, rfl⟩
 have hb1 : Below w.heap.size w W1 := by rw [hW1]; exact (Below.refl _ _).alloc (Nat.le_refl _) _
 have hT : Calls Tryz.prog 18 #[.string ⟨#[]⟩, .slice (some ⟨w.heap.size, 0, none⟩) 1 1] W1 fun e w' => e = .returned (.string ⟨#[37, 33, 40, 68, 69, 80, 84, 72, 41]⟩) ∧ Below W1.heap.size W1 w' := btext_any (v := ⟨#[]⟩) (xs := [(⟨#[68, 69, 80, 84, 72]⟩ : ByteArray)]) (by decide) (fun j x hj => by
   match j, hj with
   | 0, hj => simp at hj; subst hj; rw [hW1]; simp) (by rw [hW1]; simp) (by simp) (by simp) rfl (by decide)
 go_enter Tryz.func15, Tryz.ntmps15
 go_wp2_with (go_at_call 18; rw [← hW1]; refine hT.mono ?_; rintro e w3 ⟨rfl, hb3⟩)
 go_ret
 exact ⟨rfl, hb1.trans (hb3.mono hb1.size)⟩
theorem txt_short {l : List UInt8} (h : l.length ≤ 4096) : txt l = ⟨l.toArray⟩ := by unfold txt; rw [if_neg (by omega)]
set_option maxRecDepth 1000000 in
theorem depth_lat (C : Nat) (dp : Int) (hd : 3 < dp) (s : ByteArray) (args : Value) (w : World) : Calls Tryz.prog 44 #[.pointer (some ⟨C, 0, none⟩), .int .i64 dp, .string s, args] w fun e w' => e = .returned (.string ⟨#[37, 33, 40, 68, 69, 80, 84, 72, 41]⟩) ∧ Below w.heap.size w w' := by
 have hD := bdepth_ex w
 go_enter Tryz.func44, Tryz.ntmps44
 go_wp2_with (go_at_call 15; refine hD.mono ?_; rintro e W ⟨rfl, b⟩)
 go_ret
 exact ⟨rfl, b⟩
theorem litJ_pc {P : Nat → Prop} {g C : Nat} (hPg : P g) (dp : Int) (av : Value) (vs : List Value) (l : List UInt8) (J : World → Prop) (nx : Int) : PcJ P g C dp av vs (lit l) J J nx nx l := by
 intro w l0 E hl
 refine (lit_J (lit l) (ba l) rfl E (by rw [Lib.size_eq]; exact Nat.le_trans hl (by decide))).mono ?_
 rintro e w' ⟨h1, h2, h3⟩
 exact ⟨h1, h2, h3.mono fun k _ h => h ▸ hPg⟩
theorem dirJ_pc {P : Nat → Prop} {g C : Nat} (hPg : P g) (hPl : ∀ k, P k → k ≤ g) (dp : Int) (av : Value) (T : ByteArray) (J J' : World → Prop) (hSh : ∀ W l, EnJ J W g C l dp av [VI 1 0] 2 → Calls Tryz.prog 69 #[.pointer (some ⟨g, 0, none⟩), VI 1 0, SV (bareQ 118)] W fun e w' => e = .returned (.string T) ∧ EnJ J' w' g C l dp av [VI 1 0] 2 ∧ Kx P W w') :
  PcJ P g C dp av [VI 1 0] pV J J' 1 2 T.data.toList := by
 intro w l E hl
 refine piece_J pV (ba pV.text) rfl _ 2 E fun W E' => dir_J pV (ba pV.text) (bareQ 118) 0 _ _ T 0 E' (fun V EV => ?_) (by decide) rfl rfl rfl (by decide) hPg hPl (fun V EV => hSh V l EV) (by rw [Lib.size_eq]; exact Nat.le_trans hl (by decide))
 refine (sized_none pV (ba pV.text) rfl rfl g V).mono ?_
 rintro e V' ⟨h1, h2⟩
 exact ⟨h1, EV.up h2, .of_below h2⟩
end Go.Proofs.YtdlnmnipnkeabaaGreatDoor
