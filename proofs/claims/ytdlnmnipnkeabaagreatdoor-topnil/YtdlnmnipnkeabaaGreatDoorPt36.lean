/- JPr, DDeepB, DDeepC, JDeep, JDeepB, JPan, RDecode, RCut, RFill, RPad, UHex, QItems, QLen, Numb, Unes, Unes2, Unq, DDig, EDig, UTexts, NSay: these texts in one. -/
import Derived.Test.YtdlnmnipnkeabaaGreatDoorJRow
import Derived.Test.YtdlnmnipnkeabaaGreatDoorPt35
import Derived.Test.YtdlnmnipnkeabaaGreatDoorPt34
import Derived.Test.YtdlnmnipnkeabaaGreatDoorPt23
import Derived.Test.YtdlnmnipnkeabaaGreatDoorPt21
import Derived.Test.YtdlnmnipnkeabaaGreatDoorJThr
import Derived.Test.YtdlnmnipnkeabaaGreatDoorPt31
import Derived.Test.YtdlnmnipnkeabaaGreatDoorPt1
import Derived.Test.YtdlnmnipnkeabaaGreatDoorPt19
import Derived.Deep.LoopGhost
import Derived.Deep.RegionWith
import Derived.Deep.QuietTactic
import Derived.BigQuiet
import Derived.Deep.DeepCutAuto
import Derived.Deep.CutBlock
import Derived.Test.YtdlnmnipnkeabaaGreatDoorPt3
import Derived.Test.YtdlnmnipnkeabaaGreatDoorHexW
import Derived.Test.YtdlnmnipnkeabaaGreatDoorPt4
import Derived.Test.YtdlnmnipnkeabaaGreatDoorPt33
import Derived.Test.YtdlnmnipnkeabaaGreatDoorNBeg
namespace Go.Proofs.YtdlnmnipnkeabaaGreatDoor
open Go.RowKit
set_option linter.unusedVariables false
set_option linter.unusedSimpArgs false
abbrev EK (W : World) : Prop := Esc W ∧ KN W
theorem EK.ky {P : Nat → Prop} {W W' : World} (h : EK W) (k : Kx P W W') (h1 : ¬ P 2) (h2 : ¬ P 1) : EK W' :=
 ⟨⟨Nat.lt_of_lt_of_le h.1.1 k.size, fun i hi => k.cell (h.1.2 i hi) (by dsimp only; exact h1)⟩, fun i s hs => k.cell (h.2 i s hs) (by dsimp only; exact h2)⟩
theorem EK.up {W W' : World} (h : EK W) (b : Below W.heap.size W W') : EK W' := h.ky (P := fun _ => False) (.of_below b) id id
theorem EK.lt {W : World} (h : EK W) : 2 < W.heap.size ∧ 1 < W.heap.size := ⟨h.1.1, kn_lt h.2⟩
structure J1 (h : Hk) (b k C M : Nat) (W : World) : Prop where
 c0 : W.cell? ⟨C, 0, none⟩ = some (.slice (some ⟨b, 0, none⟩) 1 k)
 c1 : W.cell? ⟨C, 1, none⟩ = some (.map (some M))
 c2 : W.cell? ⟨C, 2, none⟩ = some (.int .i64 0)
 m : W.heap[M]? = some (.map #[] 0)
 r : Blk W b h.v
 e : EK W
 d : C ≠ M ∧ b ≠ M ∧ 2 ≠ M ∧ 1 ≠ M
section
variable {h : Hk} {b k C M : Nat} {W W' : World}
theorem J1.kx {g : Nat} (hC : C < g) (hM : M < g) (hb : b < g) (hE : 2 < g) (hK : 1 < g) (j : J1 h b k C M W) (x : Kx (fun k => g ≤ k) W W') : J1 h b k C M W' :=
 ⟨x.cell j.c0 (by dsimp only; omega), x.cell j.c1 (by dsimp only; omega), x.cell j.c2 (by dsimp only; omega), (x.block M (Array.getElem?_eq_some_iff.1 j.m).1 (by omega)).trans j.m, j.r.kx x (by omega), j.e.ky x (by omega) (by omega), j.d⟩
theorem J1.up (j : J1 h b k C M W) (x : Below W.heap.size W W') : J1 h b k C M W' :=
 ⟨up_cell x j.c0, up_cell x j.c1, up_cell x j.c2, (x.block M (Array.getElem?_eq_some_iff.1 j.m).1).trans j.m, j.r.up x, j.e.up x, j.d⟩
theorem J1.lt (j : J1 h b k C M W) : C < W.heap.size ∧ M < W.heap.size ∧ b < W.heap.size := ⟨lt_of_cell j.c1, (Array.getElem?_eq_some_iff.1 j.m).1, j.r.b⟩
end
theorem copiedAct_pl (x : Ac) (hx : PlA x) (V : World) : Calls Tryz.prog 228 #[.agg x.v.toArray] V fun e W' => (∃ x' : Ac, e = .returned (.agg x'.v.toArray) ∧ Hid (x' = x)) ∧ Below V.heap.size V W' := by
 refine (copiedAct_q x V (fun l _ => l = Sl.no) (fun _ _ _ h _ => h) (fun X _ _ => ?_) (fun X => copied_nil x.p hx.n hx.p X)).mono ?_
 ·rw [hx.l]
  exact (copies_nil X).mono fun e W' ⟨h1, h2⟩ => ⟨⟨Sl.no, h1, rfl⟩, by rw [h2]; exact Below.refl _ _⟩
 ·rintro e W' ⟨⟨l', h1, rfl⟩, h2⟩
  exact ⟨⟨_, h1, Hid.mk' (by rw [← hx.l])⟩, h2⟩
theorem copiedHook_pl (h : Hk) (hh : PlH h) (w : World) : Calls Tryz.prog 180 #[.agg h.v.toArray] w fun e w' => (∃ h' : Hk, e = .returned (.agg h'.v.toArray) ∧ Hid (h' = h)) ∧ Below w.heap.size w w' := by
 refine (copiedHook_q h w (fun l _ => l = Sl.no) (fun _ _ _ h _ => h) (copiedAct_pl h.a hh.a) (copiedAct_pl h.b hh.b) (copiedAct_pl h.c hh.c) (fun X _ _ => (copiedAct_pl h.d hh.d X).mono ?_)).mono ?_
 ·rintro e W' ⟨⟨x', h1, h2⟩, h3⟩
  have h2 := h2.out
  subst h2
  exact ⟨⟨_, h1, Hid.mk' ⟨Sl.no, by rw [← hh.d.l], rfl⟩⟩, h3⟩
 ·rintro e W' ⟨⟨h', h1, h2⟩, h3⟩
  obtain ⟨l', h4, h5⟩ := h2.out
  refine ⟨⟨h', h1, Hid.mk' ?_⟩, h3⟩
  rw [h4, h5, ← hh.d.l]
theorem get_pl (h : Hk) (hh : PlH h) (TB c : Nat) (w : World) (hB : Blk w TB h.v) : Calls Tryz.prog 140 #[.slice (some ⟨TB, 0, none⟩) 1 c, .int .i64 1] w fun e w' => (∃ h' : Hk, e = .returned (.tuple #[.agg h'.v.toArray, .bool true]) ∧ Hid (h' = h)) ∧ Below w.heap.size w w' :=
 get_q h TB w (fun h' _ => h' = h) (fun _ _ _ e _ => e) hB (fun V _ _ => copiedHook_pl h hh V)
theorem ask_1 (f : Sq) (v : Value) (k0 : Int) (ty0 : ByteArray) (hm0 : MkC v k0 ty0 1) (np ok : Bool)
  {h : Hk} (hh : PlH h) {b k C M g : Nat} {l : List UInt8} {dp : Int} {av : Value} {nx : Int} {T : ByteArray} (w : World) (hp : IsPr w g l (prT C dp av nx)) (hJ : J1 h b k C M w) (hg : M ≠ g)
  (hSay : ∀ W, EK W → Calls Tryz.prog 114 #[.agg h.v.toArray, SV f, .bool np, FP g, FS g] W fun e W' => e = .returned (.tuple #[.string T, .bool ok]) ∧ Below W.heap.size W W')
  (hNP : ∀ V, Kx (fun k => k = M) w V → Calls Tryz.prog 115 #[v] V fun e w' => e = .returned (.bool np) ∧ Below V.heap.size V w') :
  Calls Tryz.prog 86 #[.pointer (some ⟨g, 0, none⟩), v, SV f] w fun e w' => e = .returned (.tuple #[.string T, .bool ok]) ∧ EK w' ∧ Kx (fun k => k = M) w w' := by
 obtain ⟨lC, lM, lb⟩ := hJ.lt
 obtain ⟨lE, lK⟩ := hJ.e.lt
 obtain ⟨d1, d2, d3, d4⟩ := hJ.d
 refine (ask_g f v k0 ty0 hm0 np ok g C l dp av nx w hp 0 (by decide) hJ.c2 (T := T) (B := EK) (P := fun _ => False) (PM := fun k => k = M) (fun h' lo hi W => h' = h ∧ EK W) (fun k hk => ⟨by rw [hk]; exact lM, by rw [hk]; exact hg⟩) (fun k hk => hk.elim) (fun V hV => ?_) (fun h' lo hi W W' h1 h2 ⟨e1, e2⟩ x => ⟨e1, e2.ky x (by omega) (by omega)⟩) (fun h' lo hi W ⟨e1, e2⟩ _ _ _ => ?_) hNP).mono ?_
 ·have jV := hJ.up hV
  have hVs := hV.size
  refine (row_miss C M _ ⟨_, _, _, rfl⟩ V (fun h' lo hi W => h' = h ∧ V.heap.size ≤ hi ∧ EK W) (fun h' lo hi W W' ⟨e1, e3, e2⟩ x => ⟨e1, e3, e2.ky x (by omega) (by omega)⟩) jV.c0 jV.c1 jV.m d1 (fun V' hV' => (get_pl h hh b k V' (jV.r.up hV')).mono ?_)).mono ?_
  ·rintro e w' ⟨⟨h', h1, h2⟩, h3⟩
   exact ⟨⟨h', h1, Hid.mk' ⟨h2.out, Nat.le_trans hV'.size h3.size, (jV.e.up hV').up h3⟩⟩, h3⟩
  ·rintro e w' ⟨h', h1, h2, h3, h4⟩
   obtain ⟨lo, hi, a1, a2, a3, a4⟩ := h2.out
   exact ⟨h', h1, Hid.mk' ⟨a4.1, a4.2.2⟩, h4⟩
 ·subst e1
  refine (hSay W e2).mono ?_
  rintro e w' ⟨h1, h2⟩
  exact ⟨h1, e2.up h2, .of_below h2⟩
 ·rintro e w' ⟨h1, h2, h3⟩
  exact ⟨h1, h2, h3.mono fun k _ hk => hk.elim id False.elim⟩
section
variable {h : Hk} {f : Sq} {np : Bool}
theorem tn_ek (W : World) (e : EK W) : Tn EK EK (fun _ => False) W.heap.size := ⟨fun _ _ h b => h.up b, fun _ _ h x => h.ky x (by have := e.lt.1; omega) (by have := e.lt.2; omega), fun _ h => h.elim⟩
theorem kx_below {W W' : World} (x : Kx (fun _ => False) W W') : Below W.heap.size W W' := x.below (fun _ h => h.elim) (Nat.le_refl _)
theorem do_tell (W0 : World) (e : EK W0) (g : Nat) (x : Ac) (hk : x.k = 1) {v : Int} {m : ByteArray} : DoQ EK EK (fun _ => False) W0.heap.size g x np v m x.t true :=
 do_f (tn_ek W0 e) g x (doV_1 hk (FP g)) fun W hW => (tells_any x (FP g) W).mono fun e W' ⟨h1, h2⟩ => ⟨h1, hW.up h2, .of_below h2⟩
theorem say_3 {T : ByteArray} {b2 : Bool} (g : Nat) (hn : whN h f.verb f.sh = 3) (hk : h.c.k = 1) (hT : ∀ W, Esc W → Calls Tryz.prog 110 #[.string h.c.t, SV f] W fun e w' => e = .returned (.tuple #[.string T, .bool b2]) ∧ Below W.heap.size W w') (W : World) (e : EK W) : Calls Tryz.prog 114 #[.agg h.v.toArray, SV f, .bool np, FP g, FS g] W fun e W' => e = .returned (.tuple #[.string T, .bool true]) ∧ Below W.heap.size W W' :=
 (sayJ_3 (tn_ek W e) (x := h.c) rfl hn (do_tell W e g h.c hk) (fun W h => hT W h.1) W (Nat.le_refl _) e).mono fun e W' ⟨h1, h2, h3⟩ => ⟨h1, kx_below h3⟩
end
set_option maxRecDepth 1000000 in
theorem newCall_t (a : Option Addr) (n c : Nat) (w : World) : Calls Tryz.prog 43 #[.slice a n c] w fun e w' => ∃ C M, e = .returned (.pointer (some ⟨C, 0, none⟩)) ∧ w.heap.size ≤ C ∧ w.heap.size ≤ M ∧ C ≠ M ∧ w'.cell? ⟨C, 0, none⟩ = some (.slice a n c) ∧ w'.cell? ⟨C, 1, none⟩ = some (.map (some M)) ∧ w'.cell? ⟨C, 2, none⟩ = some (.int .i64 0) ∧ w'.heap[M]? = some (.map #[] 0) ∧ w'.frozen? ⟨C, 2, none⟩ = false ∧ Below w.heap.size w w' := by
 have hmm : ∀ w : World, (Instr.makeMap 95 none).run Tryz.prog w = .ok (.map (some w.heap.size)) (w.alloc (.map #[] 0)) := fun w => by kernel_rfl
 go_enter Tryz.func43, Tryz.ntmps43
 go_wp2
 go_ret
 refine ⟨w.heap.size + 1, w.heap.size, rfl, by omega, by omega, by omega, by simp [go_sem], by simp [go_sem], by simp [go_sem], ?_, ?_, by go_grown⟩
 ·rw [Below.heap_alloc _ _ _ (by simp), heap_alloc_new]
 ·rw [frozen?_alloc_cells]
  exact frozen_none _ _ (by show _ ≤ w.heap.size + 1; simp)
set_option maxRecDepth 1000000 in
theorem sprintf_t (s : ByteArray) (args : Value) (T : ByteArray) (a : Option Addr) (n c : Nat) (w : World)
  (hA : ∀ W C M, Below w.heap.size w W → w.heap.size ≤ C → w.heap.size ≤ M → C ≠ M → W.cell? ⟨C, 0, none⟩ = some (.slice a n c) → W.cell? ⟨C, 1, none⟩ = some (.map (some M)) → W.cell? ⟨C, 2, none⟩ = some (.int .i64 0) → W.heap[M]? = some (.map #[] 0) → W.frozen? ⟨C, 2, none⟩ = false → Calls Tryz.prog 44 #[.pointer (some ⟨C, 0, none⟩), .int .i64 0, .string s, args] W fun e w' => e = .returned (.string T) ∧ Kx (fun k => k = C ∨ k = M) W w') :
  Calls Tryz.prog 29 #[.slice a n c, .string s, args] w fun e w' => e = .returned (.string T) ∧ Below w.heap.size w w' := by
 have hN := newCall_t a n c w
 have hAt : Calls Tryz.prog 37 #[.int .i64 0, .slice a n c, .string s, args] w fun e w' => e = .returned (.string T) ∧ Below w.heap.size w w' := by
  go_enter Tryz.func37, Tryz.ntmps37
  go_wp2_with (first | (go_at_call 43; refine hN.mono ?_; rintro e W ⟨C, M, rfl, c1, c2, c3, c4, c5, c6, c7, c8, bW⟩; have hA1 := hA W C M bW c1 c2 c3 c4 c5 c6 c7 c8) | (go_at_call 44; refine hA1.mono ?_; rintro e W2 ⟨rfl, b2⟩))
  go_ret
  exact ⟨rfl, bW.trans (b2.below (fun k hk => by omega) bW.size)⟩
 go_enter Tryz.func29, Tryz.ntmps29
 go_wp2_with (go_at_call 37; refine hAt.mono ?_; rintro e W2 ⟨rfl, b2⟩)
 go_ret
 exact ⟨rfl, b2⟩
end Go.Proofs.YtdlnmnipnkeabaaGreatDoor
namespace Go.Proofs.YtdlnmnipnkeabaaGreatDoor
open Go.RowKit
set_option linter.unusedVariables false
set_option linter.unusedSimpArgs false
abbrev pV : Pc := ⟨1, [37, 118], fl0, -1, 118, nb0, nb0, ix0⟩
end Go.Proofs.YtdlnmnipnkeabaaGreatDoor
namespace Go.Proofs.YtdlnmnipnkeabaaGreatDoor
open Go.RowKit
set_option linter.unusedVariables false
set_option linter.unusedSimpArgs false
theorem txt_short {l : List UInt8} (h : l.length ≤ 4096) : txt l = ⟨l.toArray⟩ := by unfold txt; rw [if_neg (by omega)]
end Go.Proofs.YtdlnmnipnkeabaaGreatDoor
namespace Go.Proofs.YtdlnmnipnkeabaaGreatDoor
open Go.RowKit
set_option linter.unusedVariables false
set_option linter.unusedSimpArgs false
structure JT (h : Hk) (b k C M : Nat) (one : Bool) (N : Nat) (W : World) : Prop where
 c0 : W.cell? ⟨C, 0, none⟩ = some (.slice (some ⟨b, 0, none⟩) 1 k)
 c1 : W.cell? ⟨C, 1, none⟩ = some (.map (some M))
 c2 : ∃ n : Nat, n ≤ N ∧ W.cell? ⟨C, 2, none⟩ = some (.int .i64 n)
 z : W.frozen? ⟨C, 2, none⟩ = false
 m : W.heap[M]? = some (.map (if one then oneE (.agg h.v.toArray) else #[]) (if one then 1 else 0))
 r : Blk W b h.v
 e : EK W
 d : C ≠ M ∧ b ≠ M ∧ b ≠ C ∧ 2 ≠ M ∧ 1 ≠ M ∧ 2 ≠ C ∧ 1 ≠ C
section
variable {h : Hk} {b k C M N : Nat} {one : Bool} {W W' : World}
theorem JT.kx {g : Nat} (hC : C < g) (hM : M < g) (hb : b < g) (hE : 2 < g) (hK : 1 < g) (j : JT h b k C M one N W) (x : Kx (fun k => g ≤ k) W W') : JT h b k C M one N W' := by
 obtain ⟨n, hn, c2⟩ := j.c2
 exact ⟨x.cell j.c0 (by dsimp only; omega), x.cell j.c1 (by dsimp only; omega), ⟨n, hn, x.cell c2 (by dsimp only; omega)⟩, (World.frozen?_of_block (w := W) (a := ⟨C, 2, none⟩) (x.block C (lt_of_cell j.c1) (by omega))).trans j.z, (x.block M (Array.getElem?_eq_some_iff.1 j.m).1 (by omega)).trans j.m, j.r.kx x (by omega), j.e.ky x (by omega) (by omega), j.d⟩
theorem JT.up (j : JT h b k C M one N W) (x : Below W.heap.size W W') : JT h b k C M one N W' := by
 obtain ⟨n, hn, c2⟩ := j.c2
 exact ⟨up_cell x j.c0, up_cell x j.c1, ⟨n, hn, up_cell x c2⟩, (World.frozen?_of_block (w := W) (a := ⟨C, 2, none⟩) (x.block C (lt_of_cell j.c1))).trans j.z, (x.block M (Array.getElem?_eq_some_iff.1 j.m).1).trans j.m, j.r.up x, j.e.up x, j.d⟩
theorem JT.lt (j : JT h b k C M one N W) : C < W.heap.size ∧ M < W.heap.size ∧ b < W.heap.size ∧ 2 < W.heap.size ∧ 1 < W.heap.size := ⟨lt_of_cell j.c1, (Array.getElem?_eq_some_iff.1 j.m).1, j.r.b, j.e.lt.1, j.e.lt.2⟩
theorem JT.mono {N' : Nat} (j : JT h b k C M one N W) (hN : N ≤ N') : JT h b k C M one N' W := by
 obtain ⟨n, hn, c2⟩ := j.c2
 exact ⟨j.c0, j.c1, ⟨n, Nat.le_trans hn hN, c2⟩, j.z, j.m, j.r, j.e, j.d⟩
theorem JT.more {n : Nat} (j : JT h b k C M one N W) (hn : n ≤ N) (c2 : W.cell? ⟨C, 2, none⟩ = some (.int .i64 n)) : JT h b k C M one (N + 1) (W.setCell ⟨C, 2, none⟩ (.int .i64 ((n : Int) + 1))) := by
 obtain ⟨d1, d2, d3, d4, d5, d6, d7⟩ := j.d
 have x : Kx (fun k => k = C) W (W.setCell ⟨C, 2, none⟩ (.int .i64 ((n : Int) + 1))) := (Kx.refl (fun k => k = C) _).setCell _ _ (Or.inl rfl) _
 exact ⟨(World.cell?_setCell_other W ⟨C, 2, none⟩ ⟨C, 0, none⟩ _ (by simp)).trans j.c0, (World.cell?_setCell_other W ⟨C, 2, none⟩ ⟨C, 1, none⟩ _ (by simp)).trans j.c1, ⟨n + 1, by omega, by rw [World.cell?_setCell_same W ⟨C, 2, none⟩ _ c2]; simp⟩, by rw [World.frozen?_setCell]; exact j.z, (x.block M (Array.getElem?_eq_some_iff.1 j.m).1 (fun e => d1 e.symm)).trans j.m, j.r.kx x d3, j.e.ky x d6 d7, j.d⟩
end
theorem look_0 (w : World) (M : Nat) (hv : Value) (one : Bool) (hM : w.heap[M]? = some (.map (if one then oneE hv else #[]) (if one then 1 else 0))) : (Instr.lookup 95 (.map (some M)) (.int .i64 0) true).run Tryz.prog w = .ok (.tuple #[.agg hk0.v.toArray, .bool false]) w := by
 cases one with
 | false => exact look_none w M 0 hM
 | true =>
   have hM2 : w.heap[M]? = some (.map (oneE hv) 1) := hM
   have h1 := MapKept.run_findKey (P := Tryz.prog) (w := w) (kt := 3) (k := .int .i64 0) (l := [{ key := .int .i64 1, val := hv, born := 0 }]) (a := none) Tryz.underlying3 rfl
   have h2 := fun e n => MapKept.run_checkKey (P := Tryz.prog) (w := w) (kt := 3) (k := .int .i64 0) Tryz.underlying3 (by exact rfl) e n
   simp [Instr.lookup, run_underlying Tryz.underlying95, MapKept.run_getObj_map hM2, h1, h2, zero_hk, Result.andThen]
   rfl
set_option maxRecDepth 1000000 in
set_option maxHeartbeats 4000000 in
theorem get_z (a : Option Addr) (m c : Nat) (w : World) : Calls Tryz.prog 140 #[.slice a m c, .int .i64 0] w fun e w' => e = .returned (.tuple #[.agg hk0.v.toArray, .bool false]) ∧ Below w.heap.size w w' := by
 have hz : hk0.v.length = 48 := rfl
 have hb0 := fun w => bld_hk0 w
 have ha0 := fun w => zero_hk w
 have hoz := hk0.one
 generalize hk0.v = ZV at *
 obtain ⟨W1, hW1⟩ : ∃ W1, W1 = w.alloc (.cells ZV.toArray 34) := ⟨_, rfl⟩
 have br : Blk W1 w.heap.size ZV := by rw [hW1]; exact Blk.new w ZV 34
 have w1 : Below w.heap.size w W1 := by rw [hW1]; exact (Below.refl _ _).alloc (Nat.le_refl _) _
 have f1 : Blk (W1.setCells w.heap.size 0 ZV) w.heap.size ZV := br.all _ rfl
 have f2 : Below w.heap.size w (W1.setCells w.heap.size 0 ZV) := xbelow_sc w1 (Nat.le_refl _) _ _
 go_enter Tryz.func140, Tryz.ntmps140
 go_upto_region 1 with (refine wpl_allocz ha0 rfl rfl ?_)
 rw [← hW1]
 clear hW1
 go_wp2_with (first
  | (refine wpl_bld rfl _ _ rfl [] rfl (hb0 _) ?_)
  | (refine wpl_st row_Hook rfl (.tmp 4) (.tmp 15) rfl (us := ZV) rfl rfl br hz hz hoz ?_; generalize W1.setCells w.heap.size 0 ZV = Wf at *))
 exact bodyPost_ret (res_row2 row_Hook Tryz.results140 rfl rfl f1 hz) rfl ⟨rfl, f2⟩
theorem ask_z {h : Hk} {b k C M N : Nat} {one : Bool} {g : Nat} {l : List UInt8} {dp : Int} {av : Value} {nx : Int} (v : Value) (k0 : Int) (ty : ByteArray) (f : Sq) (w : World) (hN : N ≤ 1000) (hp : IsPr w g l (prT C dp av nx)) (hJ : JT h b k C M one N w) (hm : MkC v k0 ty 0) :
  Calls Tryz.prog 86 #[.pointer (some ⟨g, 0, none⟩), v, SV f] w fun e w' => e = .returned (.tuple #[.string ⟨#[]⟩, .bool false]) ∧ Below w.heap.size w w' := by
 obtain ⟨n, hn, c2⟩ := hJ.c2
 refine ask_x (I := fun W => JT h b k C M one N W ∧ W.cell? ⟨C, 2, none⟩ = some (.int .i64 n)) (fun W W' j x => ⟨j.1.up x, up_cell x j.2⟩) g C l dp n av nx v k0 ty f w hp ⟨hJ, c2⟩ (fun _ j => j.2) (by omega) hm (fun W j => ?_)
 exact row_x 0 _ ⟨_, _, _, rfl⟩ _ C M W j.1.c0 j.1.c1 j.1.m (fun W2 h2 => look_0 W2 M _ one h2) (fun W2 _ => get_z _ _ _ W2)
theorem shown_z {h : Hk} {b k C M N : Nat} {one : Bool} {v x0 x1 x2 x3 x4 x7 : Value} {k0 : Nat} {st : TypeId} {sx : Value} (hF : Flat v x0 x1 x2 x3 x4 x7 k0 0 st sx) (ty : ByteArray) (hty : kindN[k0]? = some ty) (f : Sq) (hv : ¬ f.verb = 84) (T : ByteArray) {w : World} {g : Nat} {l : List UInt8} {dp : Int} {av : Value} {nx : Int} (hN : N ≤ 1000) (hp : IsPr w g l (prT C dp av nx)) (hJ : JT h b k C M one N w)
  (hSh : ∀ W, Esc W → Calls Tryz.prog 138 #[WV f (FA g), .iface st sx, .string ty, .int .i64 0] W fun e W' => e = .returned (.tuple #[.string T, .bool true]) ∧ Below W.heap.size W W') :
  Calls Tryz.prog 69 #[.pointer (some ⟨g, 0, none⟩), v, SV f] w fun e w' => e = .returned (.string T) ∧ Below w.heap.size w w' :=
 shown_of f hv v g T w fun W hW => written_by f (FA g) v 0 W ty T (fun t x V => t = st ∧ x = sx ∧ Below W.heap.size W V) (fun V hV => asked_no f _ g V fun V2 hV2 => ask_z _ k0 ⟨#[]⟩ f V2 hN (((hp.below hW).below hV).below hV2) (((hJ.up hW).up hV).up hV2) hF.mr)
  (fun V hV => (hF.sh V).mono fun e V' ⟨h1, h2⟩ => ⟨h2, _, _, h1, rfl, rfl, hV.trans (h2.mono hV.size)⟩) (fun V hV => type_own _ k0 0 V _ hty ((hJ.up hW).up hV).e.2 hF.mr) (fun t x W1 W2 ⟨h1, h2, b1⟩ b2 => by subst h1 h2; exact hSh W2 (((hJ.up hW).up b1).up b2).e.1)
set_option maxRecDepth 1000000 in
set_option maxHeartbeats 4000000 in
theorem lprint_J {C g : Nat} {lg : List UInt8} {dp : Int} (hd0 : 0 ≤ dp) (hd3 : dp ≤ 3) {av : Value} {nx : Int} (W : World) (hP : IsPr W g lg (prT C dp av nx)) {n : Nat} (hn : n ≤ 1000) (c2 : W.cell? ⟨C, 2, none⟩ = some (.int .i64 n)) (zC : W.frozen? ⟨C, 2, none⟩ = false) (hgC : g ≠ C) (f : ByteArray) (a : Option Addr) (m c : Nat) {T : ByteArray} {J' : World → Prop} {P : Nat → Prop} (hPg : ¬ P g)
  (hA : Calls Tryz.prog 44 #[.pointer (some ⟨C, 0, none⟩), .int .i64 (dp + 1), .string f, .slice a m c] (W.setCell ⟨C, 2, none⟩ (.int .i64 ((n : Int) + 1))).drew fun e W' => e = .returned (.string T) ∧ J' W' ∧ Kx P (W.setCell ⟨C, 2, none⟩ (.int .i64 ((n : Int) + 1))).drew W') :
  Calls Tryz.prog 116 #[.pointer (some ⟨g, 0, none⟩), .string f, .slice a m c] W fun e W' => e = .returned (.string T) ∧ J' W' ∧ Kx (fun k => k = C ∨ P k) W W' := by
 obtain ⟨W2, hW2⟩ : ∃ W2, W2 = W.setCell ⟨C, 2, none⟩ (.int .i64 ((n : Int) + 1)) := ⟨_, rfl⟩
 have k2 : Kx (fun k => k = C) W W2 := by rw [hW2]; exact (Kx.refl (fun k => k = C) _).setCell _ _ (Or.inl rfl) _
 have p2 := hP.kept k2 hgC
 have q0 : W.cell? ⟨g, 4097, none⟩ = some (.pointer (some ⟨C, 0, none⟩)) := hP.tl (i := 0) rfl
 have r0 : W2.cell? ⟨g, 4097, none⟩ = some (.pointer (some ⟨C, 0, none⟩)) := p2.tl (i := 0) rfl
 have r1 : W2.cell? ⟨g, 4098, none⟩ = some (.int .i64 dp) := p2.tl (i := 1) rfl
 have hnI : (n : Int) ≤ 1000 := by omega
 rw [← hW2] at hA
 clear hP p2
 go_enter Tryz.func116, Tryz.ntmps116
 go_upto_region 2 with fail
 rw [← hW2]
 clear hW2 q0 c2 zC
 obtain ⟨Yd, hYd⟩ : ∃ Yd, Yd = W2.drew := ⟨_, rfl⟩
 refine wp_region_held_drew (S := fun w' : World => w'.cell? ⟨g, 4097, none⟩ = some (.pointer (some ⟨C, 0, none⟩)) ∧ w'.cell? ⟨g, 4098, none⟩ = some (.int .i64 dp)) (by kernel_rfl) (by exact ⟨r0, r1⟩) ?_
 have sY : Yd.cell? ⟨g, 4097, none⟩ = some (.pointer (some ⟨C, 0, none⟩)) ∧ Yd.cell? ⟨g, 4098, none⟩ = some (.int .i64 dp) := by rw [hYd]; exact ⟨r0, r1⟩
 have kY : Kx (fun k => k = C) W Yd := k2.trans (by rw [hYd]; exact .of_below (Below.refl _ _).drew)
 rw [← hYd] at hA ⊢
 clear hYd r0 r1
 intro hS
 refine tk 0 (.pointer (some ⟨g, 0, none⟩)) rfl (by kernel_rfl) (fun _ _ _ h => h) (by rfl) (by assumption) ?_ ?_
 ·intro w5 s0
  obtain ⟨s1, s2⟩ := s0
  go_simp
 try simp only [Act.put, List.getElem_toArray, List.getElem_cons_zero, List.getElem_cons_succ, List.setIfInBounds_toArray, List.set_cons_zero, List.set_cons_succ, List.length_cons]
 refine tk 1 (.pointer (some ⟨g, 0, none⟩)) rfl (by kernel_rfl) (fun _ _ _ h => h) (by rfl) (by assumption) ?_ ?_
 ·intro w5 s0
  obtain ⟨s1, s2⟩ := s0
  go_simp
 try simp only [Act.put, List.getElem_toArray, List.getElem_cons_zero, List.getElem_cons_succ, List.setIfInBounds_toArray, List.set_cons_zero, List.set_cons_succ, List.length_cons]
 refine tk 2 (.pointer (some ⟨g, 4097, none⟩)) rfl (by kernel_rfl) (fun _ _ _ h => h) (by rfl) (by assumption) ?_ ?_
 ·intro w5 s0
  obtain ⟨s1, s2⟩ := s0
  go_simp
 try simp only [Act.put, List.getElem_toArray, List.getElem_cons_zero, List.getElem_cons_succ, List.setIfInBounds_toArray, List.set_cons_zero, List.set_cons_succ, List.length_cons]
 refine tk 3 (.pointer (some ⟨C, 0, none⟩)) rfl (by kernel_rfl) (fun _ _ _ h => h) (by rfl) (by assumption) ?_ ?_
 ·intro w5 s0
  obtain ⟨s1, s2⟩ := s0
  go_simp
 try simp only [Act.put, List.getElem_toArray, List.getElem_cons_zero, List.getElem_cons_succ, List.setIfInBounds_toArray, List.set_cons_zero, List.set_cons_succ, List.length_cons]
 refine tk 4 (.pointer (some ⟨g, 0, none⟩)) rfl (by kernel_rfl) (fun _ _ _ h => h) (by rfl) (by assumption) ?_ ?_
 ·intro w5 s0
  obtain ⟨s1, s2⟩ := s0
  go_simp
 try simp only [Act.put, List.getElem_toArray, List.getElem_cons_zero, List.getElem_cons_succ, List.setIfInBounds_toArray, List.set_cons_zero, List.set_cons_succ, List.length_cons]
 refine tk 5 (.pointer (some ⟨g, 0, none⟩)) rfl (by kernel_rfl) (fun _ _ _ h => h) (by rfl) (by assumption) ?_ ?_
 ·intro w5 s0
  obtain ⟨s1, s2⟩ := s0
  go_simp
 try simp only [Act.put, List.getElem_toArray, List.getElem_cons_zero, List.getElem_cons_succ, List.setIfInBounds_toArray, List.set_cons_zero, List.set_cons_succ, List.length_cons]
 refine tk 6 (.pointer (some ⟨g, 4098, none⟩)) rfl (by kernel_rfl) (fun _ _ _ h => h) (by rfl) (by assumption) ?_ ?_
 ·intro w5 s0
  obtain ⟨s1, s2⟩ := s0
  go_simp
 try simp only [Act.put, List.getElem_toArray, List.getElem_cons_zero, List.getElem_cons_succ, List.setIfInBounds_toArray, List.set_cons_zero, List.set_cons_succ, List.length_cons]
 refine tk 7 (.int .i64 dp) rfl (by kernel_rfl) (fun _ _ _ h => h) (by rfl) (by assumption) ?_ ?_
 ·intro w5 s0
  obtain ⟨s1, s2⟩ := s0
  go_simp
 try simp only [Act.put, List.getElem_toArray, List.getElem_cons_zero, List.getElem_cons_succ, List.setIfInBounds_toArray, List.set_cons_zero, List.set_cons_succ, List.length_cons]
 refine tk 8 (.int .i64 (dp + 1)) rfl (by kernel_rfl) (fun _ _ _ h => h) (by rfl) (by assumption) ?_ ?_
 ·intro w5 s0
  obtain ⟨s1, s2⟩ := s0
  go_simp
  exact wrapD _ (by omega) (by omega)
 try simp only [Act.put, List.getElem_toArray, List.getElem_cons_zero, List.getElem_cons_succ, List.setIfInBounds_toArray, List.set_cons_zero, List.set_cons_succ, List.length_cons]
 refine tk 9 (.string f) rfl (by kernel_rfl) (fun _ _ _ h => h) (by rfl) (by assumption) ?_ ?_
 ·intro w5 s0
  obtain ⟨s1, s2⟩ := s0
  go_simp
 try simp only [Act.put, List.getElem_toArray, List.getElem_cons_zero, List.getElem_cons_succ, List.setIfInBounds_toArray, List.set_cons_zero, List.set_cons_succ, List.length_cons]
 refine tk 10 (.slice a m c) rfl (by kernel_rfl) (fun _ _ _ h => h) (by rfl) (by assumption) ?_ ?_
 ·intro w5 s0
  obtain ⟨s1, s2⟩ := s0
  go_simp
 try simp only [Act.put, List.getElem_toArray, List.getElem_cons_zero, List.getElem_cons_succ, List.setIfInBounds_toArray, List.set_cons_zero, List.set_cons_succ, List.length_cons]
 refine rd1 11 (by kernel_rfl) rfl fun K hK => ?_
 go_simp
 refine hA.mono ?_
 rintro e Z ⟨rfl, cZ, xZ⟩
 refine hK.out _ _ ⟨xZ.cell sY.1 hPg, xZ.cell sY.2 hPg⟩ (fun _ => ?_)
 clear hK hA
 try simp only [Act.put, List.getElem_toArray, List.getElem_cons_zero, List.getElem_cons_succ, List.setIfInBounds_toArray, List.set_cons_zero, List.set_cons_succ, List.length_cons]
 refine tk 12 (.string T) rfl (by kernel_rfl) (fun _ _ _ h => h) (by rfl) (by assumption) ?_ ?_
 ·intro w5 s0
  obtain ⟨s1, s2⟩ := s0
  go_simp
 try simp only [Act.put, List.getElem_toArray, List.getElem_cons_zero, List.getElem_cons_succ, List.setIfInBounds_toArray, List.set_cons_zero, List.set_cons_succ, List.length_cons]
 refine wpAnyH_done (by kernel_rfl) ?_ _
 go_wp2
 go_ret
 exact ⟨rfl, cZ, (kY.mono fun _ _ h => Or.inl h).trans (xZ.mono fun _ _ h => Or.inr h)⟩
theorem bsl_D (d : Ds) (w : World) : (Instr.buildSlice 25 1 #[(0, .agg d.v.toArray)]).run Tryz.prog w = .ok (.slice (some ⟨w.heap.size, 0, none⟩) 1 1) (w.alloc (.cells d.v.toArray 29)) := by
 obtain ⟨a0, a1, a2, a3, a4, ⟨na, nn, nc⟩, ⟨pa, pn, pc⟩, a7⟩ := d
 kernel_rfl
theorem wpl_bsD {t e : TypeId} {vs : List Value} (hr : ∀ w, (Instr.buildSlice t 1 #[(0, .agg vs.toArray)]).run Tryz.prog w = .ok (.slice (some ⟨w.heap.size, 0, none⟩) 1 1) (w.alloc (.cells vs.toArray e))) {ops : Array Oper} {rest : List Oper} {o : Oper} {a : Act} {w : World} {Q : Exit → Act → World → Prop} (hg : o.guard = none) (p : Operand) (ho : o.op = .buildSlice t 1 #[(0, p)]) (hx : a.eval p = .agg vs.toArray)
  (h : wpList Tryz.prog ops Q rest (a.put o.dst (.slice (some ⟨w.heap.size, 0, none⟩) 1 1)) (w.alloc (.cells vs.toArray e))) : wpList Tryz.prog ops Q (o :: rest) a w := by
 refine wpList_plain hg fun K hK => ?_
 unfold Oper.wp execOp
 simp only [ho, List.map_toArray, List.map_cons, List.map_nil, hx, Sem.run_bind, Sem.run_pure, hr, Result.andThen_ok]
 exact hK _ _ h
set_option maxRecDepth 1000000 in
set_option maxHeartbeats 4000000 in
theorem lshow_J {g : Nat} (d : Ds) {T : ByteArray} {J' : World → Prop} {P : Nat → Prop} (W : World) (hL : ∀ V, Below W.heap.size W V → ∀ D, W.heap.size ≤ D → Blk V D d.v → Calls Tryz.prog 116 #[.pointer (some ⟨g, 0, none⟩), .string ⟨#[37, 118]⟩, .slice (some ⟨D, 0, none⟩) 1 1] V fun e W' => e = .returned (.string T) ∧ J' W' ∧ Kx P V W') :
  Calls Tryz.prog 117 #[.pointer (some ⟨g, 0, none⟩), .agg d.v.toArray] W fun e W' => e = .returned (.string T) ∧ J' W' ∧ Kx P W W' := by
 obtain ⟨W1, hW1⟩ : ∃ W1, W1 = W.alloc (.cells d.v.toArray 29) := ⟨_, rfl⟩
 have b1 : Below W.heap.size W W1 := by rw [hW1]; exact (Below.refl _ _).alloc (Nat.le_refl _) _
 have k1 : Blk W1 W.heap.size d.v := by rw [hW1]; exact Blk.new W d.v 29
 obtain ⟨W2, hW2⟩ : ∃ W2, W2 = W1.alloc (.cells d.v.toArray 29) := ⟨_, rfl⟩
 have b2 : Below W1.heap.size W1 W2 := by rw [hW2]; exact (Below.refl _ _).alloc (Nat.le_refl _) _
 have k2 : Blk W2 W1.heap.size d.v := by rw [hW2]; exact Blk.new W1 d.v 29
 have b12 : Below W.heap.size W W2 := b1.trans (b2.mono b1.size)
 have hC := hL W2 b12 W1.heap.size b1.size k2
 have hbs := fun w => bsl_D d w
 have hl := d.len
 clear hL k2
 generalize d.v = D at *
 go_enter Tryz.func117, Tryz.ntmps117
 go_upto_region 1 with fail
 rw [← hW1]
 clear hW1
 go_wp2_with (first
  | (refine wpl_ld row_Desc rfl (.tmp 3) rfl (vs := D) rfl k1.range hl ?_)
  | (refine wpl_bsD hbs rfl _ rfl rfl ?_)
  | (go_at_call 116; rw [← hW2]; refine hC.mono ?_; rintro e W3 ⟨rfl, j3, x3⟩))
 go_ret
 exact ⟨rfl, j3, (Kx.of_below b12).trans x3⟩
end Go.Proofs.YtdlnmnipnkeabaaGreatDoor
namespace Go.Proofs.YtdlnmnipnkeabaaGreatDoor
open Go.RowKit
set_option linter.unusedVariables false
set_option linter.unusedSimpArgs false
theorem txtJ {T : ByteArray} (h : T.size ≤ 4096) : txt T.data.toList = T := by
 rw [txt_short (by rw [list_len]; exact h)]
end Go.Proofs.YtdlnmnipnkeabaaGreatDoor
namespace Go.Proofs.YtdlnmnipnkeabaaGreatDoor
open Go.RowKit
set_option linter.unusedVariables false
set_option linter.unusedSimpArgs false
theorem dirJ_at {P : Nat → Prop} {g C : Nat} (hPg : P g) (hPl : ∀ k, P k → k ≤ g) (dp : Int) (av : Value) (vs : List Value) (hlen : vs.length ≤ 1000) (p : Pc) (hk : p.kind = 1) (hw : p.wid.k = 0) (hp : p.prec.k = 0) (hx : p.arg.k = 0) (hv : ¬ (spQ p).verb = 37) (i : Nat) (tt : TypeId) (x : Value) (hi : vs[i]? = some (.iface tt x)) (T : ByteArray) (J J' : World → Prop)
  (hSh : ∀ W l, EnJ J W g C l dp av vs ((i : Int) + 2) → Calls Tryz.prog 69 #[.pointer (some ⟨g, 0, none⟩), .iface tt x, SV (spQ p)] W fun e w' => e = .returned (.string T) ∧ EnJ J' w' g C l dp av vs ((i : Int) + 2) ∧ Kx P W w') :
  PcJ P g C dp av vs p J J' ((i : Int) + 1) ((i : Int) + 2) T.data.toList := by
 intro w l E hl
 refine piece_J p (ba p.text) hk _ _ E fun W E' => dir_J p (ba p.text) (spQ p) i tt x T p.arg.n E' (fun V EV => ?_) hv (by show some (Value.int .i64 (p.arg.k : Int)) = _; rw [hx]; rfl) rfl hi hlen hPg hPl (fun V EV => hSh V l EV) (by rw [Lib.size_eq]; exact Nat.le_trans hl (by decide))
 refine (sized_none p (ba p.text) hw hp g V).mono ?_
 rintro e V' ⟨h1, h2⟩
 exact ⟨h1, EV.up h2, .of_below h2⟩
theorem JT.of1 {h : Hk} {b k C M : Nat} {W : World} (c0 : W.cell? ⟨C, 0, none⟩ = some (.slice (some ⟨b, 0, none⟩) 1 k)) (c1 : W.cell? ⟨C, 1, none⟩ = some (.map (some M))) (c2 : W.cell? ⟨C, 2, none⟩ = some (.int .i64 0)) (m : W.heap[M]? = some (.map #[] 0)) (z : W.frozen? ⟨C, 2, none⟩ = false) (r : Blk W b h.v) (e : EK W) (d : C ≠ M ∧ b ≠ M ∧ b ≠ C ∧ 2 ≠ M ∧ 1 ≠ M ∧ 2 ≠ C ∧ 1 ≠ C) : JT h b k C M false 0 W :=
 ⟨c0, c1, ⟨0, Nat.le_refl _, c2⟩, z, m, r, e, d⟩
end Go.Proofs.YtdlnmnipnkeabaaGreatDoor
namespace Go.Proofs.YtdlnmnipnkeabaaGreatDoor
open Go.RowKit
end Go.Proofs.YtdlnmnipnkeabaaGreatDoor
namespace Go.Proofs.YtdlnmnipnkeabaaGreatDoor
open Go.RowKit
end Go.Proofs.YtdlnmnipnkeabaaGreatDoor
namespace Go.Proofs.YtdlnmnipnkeabaaGreatDoor
open Go.RowKit
end Go.Proofs.YtdlnmnipnkeabaaGreatDoor
namespace Go.Proofs.YtdlnmnipnkeabaaGreatDoor
open Go.RowKit
set_option linter.unusedVariables false
theorem app_nil (s : ByteArray) : s ++ run 32 0 = s := by
 apply ByteArray.ext; rw [ByteArray.data_append]; exact Array.append_empty
theorem nil_app (c : Nat) (s : ByteArray) : run c 0 ++ s = s := by
 apply ByteArray.ext; rw [ByteArray.data_append]; exact Array.empty_append
theorem padS_short (s : ByteArray) (mi z : Bool) (wid : Int) (h : ((wdt wid : Nat) : Int) - (cntR s : Nat) ≤ 0) : padS s mi z wid = s := by
 have e : wdt (((wdt wid : Nat) : Int) - (cntR s : Nat)) = 0 := by
  generalize ((wdt wid : Nat) : Int) - (cntR s : Nat) = x at h
  unfold wdt; omega
 unfold padS
 rw [e]
 cases mi
 ·cases z
  ·exact nil_app 32 s
  ·exact nil_app 48 s
 ·exact app_nil s
end Go.Proofs.YtdlnmnipnkeabaaGreatDoor
namespace Go.Proofs.YtdlnmnipnkeabaaGreatDoor
open Go.RowKit
set_option linter.unusedVariables false
set_option linter.unusedSimpArgs false
abbrev hx2 (x : UInt8) : List UInt8 := [hexB false (x.toNat / 16), hexB false (x.toNat % 16)]
end Go.Proofs.YtdlnmnipnkeabaaGreatDoor
namespace Go.Proofs.YtdlnmnipnkeabaaGreatDoor
open Go.RowKit
theorem decL_pt (l : List UInt8) (hl : l ≠ []) (hb : brk (Lib.decodeL l) = false) : Utf8.valid ((Lib.decodeL l).1 : Int) = true ∧ l.take (Lib.decodeL l).2 = (Utf8.encode ((Lib.decodeL l).1 : Int)).data.toList := by
 have hs : 0 < (ByteArray.mk l.toArray).size := by
  show 0 < l.toArray.size
  have : l.length ≠ 0 := fun h => hl (List.eq_nil_of_length_eq_zero h)
  simp; omega
 have e : Utf8.decode (ByteArray.mk l.toArray) 0 = Lib.decodeL l := by rw [dec_zero]
 rcases dec_some (ByteArray.mk l.toArray) hs with h | ⟨n, h1, h2, h3, h4⟩
 ·rw [e] at h
  rw [h] at hb
  exact absurd hb (by decide)
 ·have h5 := try_dec _ _ _ h3 h4
  rw [e] at h5
  obtain ⟨hv, he⟩ := h4
  rw [h5]
  refine ⟨hv, ?_⟩
  show l.take n = _
  rw [he, ext_list]
theorem decL_brk (l : List UInt8) (hb : brk (Lib.decodeL l) = true) : (Lib.decodeL l).2 = 1 := by
 simp only [brk, Bool.and_eq_true, beq_iff_eq] at hb
 exact hb.2
theorem take_one (l : List UInt8) (hl : l ≠ []) : l.take 1 = [l.getD 0 0] := by
 match l, hl with
 | x :: t, _ => rfl
def Kind (L m : List UInt8) : Prop :=
 (∃ c : Nat, Utf8.valid (c : Int) = true ∧ plainP c = true ∧ c ≠ 92 ∧ c ≠ 34 ∧ m = (Utf8.encode (c : Int)).data.toList ∧ L = m) ∨
 (∃ b : UInt8, (b = 34 ∨ b = 92) ∧ m = [b] ∧ L = [92, b]) ∨
 (∃ k : Nat, k < 7 ∧ m = [UInt8.ofNat (7 + k)] ∧ L = [92, UInt8.ofNat (escT k)]) ∨
 (∃ v : Nat, v < 256 ∧ m = [UInt8.ofNat v] ∧ L = [92, 120] ++ hexL v 2) ∨
 (∃ v : Nat, Utf8.valid (v : Int) = true ∧ v ≤ 65535 ∧ m = (Utf8.encode (v : Int)).data.toList ∧ L = [92, 117] ++ hexL v 4) ∨
 (∃ v : Nat, Utf8.valid (v : Int) = true ∧ m = (Utf8.encode (v : Int)).data.toList ∧ L = [92, 85] ++ hexL v 8)
end Go.Proofs.YtdlnmnipnkeabaaGreatDoor
namespace Go.Proofs.YtdlnmnipnkeabaaGreatDoor
open Go.RowKit
set_option linter.unusedVariables false
set_option linter.unusedSimpArgs false
theorem enc_low (c : Nat) (hv : Utf8.valid (c : Int) = true) : 1 ≤ (Utf8.encode (c : Int)).data.toList.length ∧ (128 ≤ c → 2 ≤ (Utf8.encode (c : Int)).data.toList.length) ∧ (65536 ≤ c → 3 ≤ (Utf8.encode (c : Int)).data.toList.length) := by
 have h := (valid_iff _).1 hv
 rw [enc_list c hv]
 unfold Lib.encodeRune
 rw [List.length_map]
 unfold Lib.encodeRuneZ
 refine ⟨?_, fun h1 => ?_, fun h1 => ?_⟩
 all_goals
  repeat' split
  all_goals first | (simp only [List.length_cons, List.length_nil]; omega) | (exfalso; omega)
theorem inL_len4 (c : Nat) (a : Bool) (hv : Utf8.valid (c : Int) = true) : (inL c 34 a).length ≤ 4 * (Utf8.encode (c : Int)).data.toList.length := by
 obtain ⟨h1, h2, h3⟩ := enc_low c hv
 generalize hL : (Utf8.encode (c : Int)).data.toList = L at *
 unfold inL
 rw [hL]
 split
 ·simp; omega
 ·split
  ·simp; omega
  ·split
   ·omega
   ·split
    ·simp only [List.length_cons, hexL_len]; omega
    ·rename_i h4
     split
     ·have := h2 (by omega)
      simp only [List.length_cons, hexL_len]; omega
     ·have := h3 (by omega)
      simp only [List.length_cons, hexL_len]; omega
theorem itemL_len4 (a : Bool) (l : List UInt8) (hl : l ≠ []) : (itemL a l).length ≤ 4 * (l.take (Lib.decodeL l).2).length := by
 cases hb : brk (Lib.decodeL l) with
 | true =>
   unfold itemL
   rw [if_pos hb, decL_brk l hb, take_one l hl]
   simp only [List.length_cons, List.length_nil, hexL_len]
   omega
 | false =>
   obtain ⟨hv, he⟩ := decL_pt l hl hb
   unfold itemL
   rw [if_neg (by rw [hb]; simp), he]
   exact inL_len4 _ a hv
theorem quoI_len4 (a : Bool) : ∀ (n : Nat) (l : List UInt8), l.length ≤ n → (quoI a l).length ≤ 4 * l.length
 | 0, l, h => by
   have : l = [] := List.eq_nil_of_length_eq_zero (by omega)
   subst this; simp [quoI_nil]
 | n + 1, l, h => by
   by_cases hl : l = []
   ·subst hl; simp [quoI_nil]
   ·have hw := Lib.decodeL_width l
    have hle := Lib.decodeL_le l hl
    have hn : l.length ≠ 0 := fun h => hl (List.eq_nil_of_length_eq_zero h)
    rw [quoI_step a l hl, List.length_append]
    have h1 := itemL_len4 a l hl
    have h2 := quoI_len4 a n (l.drop (Lib.decodeL l).2) (by rw [List.length_drop]; omega)
    rw [List.length_take] at h1
    rw [List.length_drop] at h2
    omega
theorem quoS_size4 (s : ByteArray) (a : Bool) : (quoS s a).size ≤ 4 * s.size + 2 := by
 have h := quoI_len4 a s.size s.data.toList (by rw [list_len]; exact Nat.le_refl _)
 rw [list_len] at h
 show (34 :: (quoI a s.data.toList ++ [34])).toArray.size ≤ _
 simp
 omega
end Go.Proofs.YtdlnmnipnkeabaaGreatDoor
namespace Go.Proofs.YtdlnmnipnkeabaaGreatDoor
open Go.RowKit
end Go.Proofs.YtdlnmnipnkeabaaGreatDoor
namespace Go.Proofs.YtdlnmnipnkeabaaGreatDoor
open Go.RowKit
set_option linter.unusedVariables false
end Go.Proofs.YtdlnmnipnkeabaaGreatDoor
namespace Go.Proofs.YtdlnmnipnkeabaaGreatDoor
open Go.RowKit
set_option linter.unusedVariables false
end Go.Proofs.YtdlnmnipnkeabaaGreatDoor
namespace Go.Proofs.YtdlnmnipnkeabaaGreatDoor
open Go.RowKit
set_option linter.unusedVariables false
end Go.Proofs.YtdlnmnipnkeabaaGreatDoor
namespace Go.Proofs.YtdlnmnipnkeabaaGreatDoor
open Go.RowKit
set_option linter.unusedVariables false
end Go.Proofs.YtdlnmnipnkeabaaGreatDoor
namespace Go.Proofs.YtdlnmnipnkeabaaGreatDoor
open Go.RowKit
set_option linter.unusedVariables false
end Go.Proofs.YtdlnmnipnkeabaaGreatDoor
namespace Go.Proofs.YtdlnmnipnkeabaaGreatDoor
open Go.RowKit
set_option linter.unusedVariables false
set_option linter.unusedSimpArgs false
def D8 (W : World) (b : Nat) (k : Int) (u : ByteArray) : Prop := W.cell? ⟨b, 0, none⟩ = some (.int .i64 k) ∧ W.cell? ⟨b, 1, none⟩ = some (.string ⟨#[]⟩) ∧ W.cell? ⟨b, 2, none⟩ = some (.int .u64 0) ∧ W.cell? ⟨b, 3, none⟩ = some (.int .u64 0) ∧ W.cell? ⟨b, 4, none⟩ = some (.string u) ∧ W.cell? ⟨b, 5, none⟩ = some (.slice none 0 0) ∧ W.cell? ⟨b, 6, none⟩ = some (.slice none 0 0) ∧ W.cell? ⟨b, 7, none⟩ = some (.int .i64 0)
theorem D8.up {W W' : World} {b : Nat} {k : Int} {u : ByteArray} (h : D8 W b k u) (hb : Below W.heap.size W W') : D8 W' b k u :=
 ⟨up_cell hb h.1, up_cell hb h.2.1, up_cell hb h.2.2.1, up_cell hb h.2.2.2.1, up_cell hb h.2.2.2.2.1, up_cell hb h.2.2.2.2.2.1, up_cell hb h.2.2.2.2.2.2.1, up_cell hb h.2.2.2.2.2.2.2⟩
theorem D8.new (W : World) (k : Int) (u : ByteArray) : D8 (W.alloc (.cells #[.int .i64 k, .string ⟨#[]⟩, .int .u64 0, .int .u64 0, .string u, .slice none 0 0, .slice none 0 0, .int .i64 0] 29)) W.heap.size k u := by
 refine ⟨?_, ?_, ?_, ?_, ?_, ?_, ?_, ?_⟩
 all_goals simp [go_sem]
theorem D8.lt {W : World} {b : Nat} {k : Int} {u : ByteArray} (h : D8 W b k u) : b < W.heap.size := World.block_lt_of_cell? W _ h.1
theorem D8.range {W : World} {b : Nat} {k : Int} {u : ByteArray} (h : D8 W b k u) : W.rangeAt b 0 [.int .i64 k, .string ⟨#[]⟩, .int .u64 0, .int .u64 0, .string u, .slice none 0 0, .slice none 0 0, .int .i64 0] := fun j v hv => by
 obtain ⟨h0, h1, h2, h3, h4, h5, h6, h7⟩ := h
 rw [Nat.zero_add]
 match j, hv with
 | 0, hv => simp at hv; subst hv; exact h0
 | 1, hv => simp at hv; subst hv; exact h1
 | 2, hv => simp at hv; subst hv; exact h2
 | 3, hv => simp at hv; subst hv; exact h3
 | 4, hv => simp at hv; subst hv; exact h4
 | 5, hv => simp at hv; subst hv; exact h5
 | 6, hv => simp at hv; subst hv; exact h6
 | 7, hv => simp at hv; subst hv; exact h7
theorem txt_in {T : ByteArray} (h : T.size ≤ 4096) : txt T.data.toList = T := by
 unfold txt
 rw [if_neg (by rw [← Lib.size_eq]; omega)]
abbrev PrOf (fmt : ByteArray) (k : Int) (u T : ByteArray) : Prop := ∀ (W : World) (A : Nat), Esc W → KN W → D8 W A k u → Calls Tryz.prog 9 #[.slice none 0 0, .string fmt, .slice (some ⟨A, 0, none⟩) 1 1] W fun e w' => e = .returned (.string T) ∧ Below W.heap.size W w'
theorem pr_text (fmt : ByteArray) (p : Pc) (hps : prs fmt.data.toList = [p]) (hs : fmt.size ≤ 1000) (hk : p.kind = 1) (hw : p.wid.k = 0) (hp : p.prec.k = 0) (hx : p.arg.k = 0) (hx2 : p.wid.a.k = 0) (hx3 : p.prec.a.k = 0) (hv : ¬ p.verb = 37) (hv2 : ¬ p.verb = 84) (u T : ByteArray) (hu : u.size ≤ 1024) (hT : T.size ≤ 4096)
  (hTx : ∀ W, Esc W → Calls Tryz.prog 110 #[.string u, SV (spQ p)] W fun e w' => e = .returned (.tuple #[.string T, .bool true]) ∧ Below W.heap.size W w') : PrOf fmt 16 u T := by
 intro W A he hk' hD
 have := print_1 fmt p hps hs hk hw hp hx hx2 hx3 hv A 1 (Nat.le_refl _) (by unfold maxLen; omega) 16 0 0 0 ⟨#[]⟩ u _ _ T (by omega) W he hk' hD.lt hD.range (flat_X u hu).vo (fun {_ _ _ _ _ _ _ _ _} hE => shown_flat (flat_X u hu) _ rfl (spQ p) (by show ¬ (p.verb : Int) = 84; omega) T hE (fun V hV => shaped_text (spQ p) _ _ u 0 T true V hV hTx))
 rw [txt_in hT] at this
 exact this
theorem wdt_off : wdt (-1) = 0 := by decide
theorem pad_off (s : ByteArray) : padS s false false (-1) = s := padS_short s false false (-1) (by rw [wdt_off]; omega)
theorem cut_off (s : ByteArray) : cutS s (min (-1) 1000) = s := by unfold cutS; rw [if_pos (by decide)]
theorem pr_q (u : ByteArray) (hu : u.size ≤ 900) : PrOf ⟨#[37, 113]⟩ 16 u (quoS u false) := by
 have h4 := quoS_size4 u false
 refine pr_text _ ⟨1, [37, 113], fl0, -1, 113, nb0, nb0, ix0⟩ rfl (by decide) rfl rfl rfl rfl rfl rfl (by decide) (by decide) u _ (by omega) (by omega) (fun W hE => ?_)
 have := text_q u false false false false false (-1) (-1) W hE (by omega) (by decide)
 rw [pad_off, cut_off] at this
 exact this
theorem pr_s (u : ByteArray) (hu : u.size ≤ 900) : PrOf ⟨#[37, 115]⟩ 16 u u := by
 refine pr_text _ ⟨1, [37, 115], fl0, -1, 115, nb0, nb0, ix0⟩ rfl (by decide) rfl rfl rfl rfl rfl rfl (by decide) (by decide) u _ (by omega) (by omega) (fun W hE => ?_)
 have := text_s0 u false false false false (-1) (-1) W hE (by omega) (by decide)
 rw [pad_off, cut_off] at this
 exact this
theorem pr_v (u : ByteArray) (hu : u.size ≤ 900) : PrOf ⟨#[37, 118]⟩ 16 u u := by
 refine pr_text _ ⟨1, [37, 118], fl0, -1, 118, nb0, nb0, ix0⟩ rfl (by decide) rfl rfl rfl rfl rfl rfl (by decide) (by decide) u _ (by omega) (by omega) (fun W hE => ?_)
 have := text_v0 u false false false false (-1) (-1) W hE (by omega) (by decide)
 rw [pad_off, cut_off] at this
 exact this
theorem tcut_any (s : ByteArray) (m : Nat) (hm : m ≤ 100000) : ∃ u : ByteArray, u.size ≤ m ∧ ∀ w, Calls Tryz.prog 12 #[.string s, .int .i64 m] w fun e w' => e = .returned (.string u) ∧ w' = w := by
 by_cases h : (m : Int) < s.size
 ·refine ⟨s.extract 0 m, by rw [ByteArray.size_extract]; omega, ?_⟩
  intro w
  go_enter Tryz.func12, Tryz.ntmps12
  go_wp2
  go_ret
  exact ⟨rfl, rfl⟩
 ·refine ⟨s, by omega, ?_⟩
  intro w
  go_enter Tryz.func12, Tryz.ntmps12
  go_wp2
  go_ret
  exact ⟨rfl, rfl⟩
end Go.Proofs.YtdlnmnipnkeabaaGreatDoor
namespace Go.Proofs.YtdlnmnipnkeabaaGreatDoor
open Go.RowKit
set_option linter.unusedVariables false
set_option linter.unusedSimpArgs false
theorem JT.j1 {h : Hk} {b k C M : Nat} {W : World} (j : JT h b k C M false 0 W) : J1 h b k C M W := by
 obtain ⟨c0, c1, ⟨n, hn, c2⟩, z, m, r, e, d1, d2, d3, d4, d5, d6, d7⟩ := j
 obtain rfl : n = 0 := by omega
 exact ⟨c0, c1, c2, m, r, e, d1, d2, d4, d5⟩
theorem shown_pt {h : Hk} (hh : PlH h) {one : Bool} {a : Int} {lv : Nat} {v : Value} {f : Sq} (hv : ¬ f.verb = 84) {T : ByteArray}
  (hSay : ∀ g W, EK W → Calls Tryz.prog 114 #[.agg h.v.toArray, SV f, .bool (!one), FP g, FS g] W fun e W' => e = .returned (.tuple #[.string T, .bool true]) ∧ Below W.heap.size W W')
  {W : World} {g C M b k : Nat} {l : List UInt8} {dp : Int} {av : Value} {nx : Int} (hJ : J1 h b k C M W) (hp : IsPr W g l (prT C dp av nx)) (hM : M < g) (hlv : g < lv) (hQ : PtQ one a lv W v) :
  Calls Tryz.prog 69 #[.pointer (some ⟨g, 0, none⟩), v, SV f] W fun e w' => e = .returned (.string T) ∧ EK w' ∧ Kx (fun k => k = M) W w' := by
 refine shown_q f hv v g T W fun V hV => written_q f (FA g) v 0 V T (fun V2 hV2 => ?_) (fun V2 hV2 => (shape_pt ((hQ.up hV).up hV2)).mono fun e V' h => h)
 have j2 := (hJ.up hV).up hV2
 have p2 := (hp.below hV).below hV2
 have q2 := (hQ.up hV).up hV2
 have l2 := j2.lt
 have e2 := j2.e.lt
 refine asked_g f v g T V2 (fun k hk => by rw [hk]; exact l2.2.1) (fun _ _ h x => h.ky x (by have := e2.1; omega) (by have := e2.2; omega)) (fun V3 hV3 => ?_)
 exact ask_1 f v 22 ⟨#[]⟩ q2.mk (!one) true hh V3 (p2.below hV3) (j2.up hV3) (by omega) (hSay g) (fun V4 k4 => nilp_pt ((q2.up hV3).kx (k4.mono fun _ _ e => by omega)))
abbrev Qt (c : Nat) (s T : ByteArray) : Prop := ∀ W, Esc W → Calls Tryz.prog 110 #[.string s, SV (bareQ c)] W fun e w' => e = .returned (.tuple #[.string T, .bool true]) ∧ Below W.heap.size W w'
theorem qt_v (s : ByteArray) (hs : s.size ≤ 900) : Qt 118 s s := fun W hE => by
 have := text_v0 s false false false false (-1) (-1) W hE (by omega) (by decide)
 rw [pad_off, cut_off] at this
 exact this
theorem qt_s (s : ByteArray) (hs : s.size ≤ 900) : Qt 115 s s := fun W hE => by
 have := text_s0 s false false false false (-1) (-1) W hE (by omega) (by decide)
 rw [pad_off, cut_off] at this
 exact this
theorem qt_q (s : ByteArray) (hs : s.size ≤ 900) : Qt 113 s (quoS s false) := fun W hE => by
 have := text_q s false false false false false (-1) (-1) W hE (by omega) (by decide)
 rw [pad_off, cut_off] at this
 exact this
theorem print_P {h : Hk} (hh : PlH h) (tb tc : Nat) (htc : 1 ≤ tc) (s : ByteArray) (p : Pc) (hps : prs s.data.toList = [p]) (hs : s.size ≤ 1000) (hk : p.kind = 1) (hw : p.wid.k = 0) (hp : p.prec.k = 0) (hx : p.arg.k = 0) (hx2 : p.wid.a.k = 0) (hx3 : p.prec.a.k = 0) (hv : ¬ (spQ p).verb = 37)
  (A : Nat) (a : Int) (ha : 0 ≤ a ∧ a ≤ 18446744073709551615) (one : Bool) (pa : Option Addr) (pc : Nat) (T : ByteArray) (hT : T.size ≤ 4096) (w : World) (he : EK w) (hA : A < w.heap.size) (htb : tb < w.heap.size) (hr : w.rangeAt tb 0 h.v)
  (hd : w.rangeAt A 0 [.int .i64 22, .string ⟨#[]⟩, .int .u64 a, .int .u64 0, .string ⟨#[]⟩, .slice none 0 0, .slice pa (dPt a one).parts.length pc, .int .i64 1]) (hRd : RdC 2 w (.slice none 0 0) (.slice pa (dPt a one).parts.length pc) (dPt a one))
  (hSh : ∀ {lv : Nat} {v : Value} {W : World} {g C M b k : Nat} {l : List UInt8} {av : Value} {nx : Int}, JT h b k C M false 0 W → IsPr W g l (prT C 0 av nx) → C < g → M < g → g < lv → PtQ one a lv W v → Calls Tryz.prog 69 #[.pointer (some ⟨g, 0, none⟩), v, SV (spQ p)] W fun e w' => e = .returned (.string T) ∧ EK w' ∧ Kx (fun q => q = C ∨ q = M) W w') :
  Calls Tryz.prog 9 #[.slice (some ⟨tb, 0, none⟩) 1 tc, .string s, .slice (some ⟨A, 0, none⟩) 1 1] w fun e w' => e = .returned (.string T) ∧ Below w.heap.size w w' := by
 have hTl : T.data.toList.length ≤ 4096 := by rw [← Lib.size_eq]; exact hT
 have hPr : Calls Tryz.prog 9 #[.slice (some ⟨tb, 0, none⟩) 1 tc, .string s, .slice (some ⟨A, 0, none⟩) 1 1] w fun e w' => e = .returned (.string (txt T.data.toList)) ∧ Below w.heap.size w w' := by
  refine print_any _ (fun a n k hi W => RwP h a n k hi W) s _ _ w ⟨_, _, _, rfl⟩ (fun a n k hi W W' r x => r.kx x) (fun W bW => copiedTable_1 h hh tb tc htc W (fun j u hu => (bW.cell (p := ⟨tb, 0 + j, none⟩) htb).trans (hr j u hu))) (fun a0 n k hi W R h1 h2 bW => ?_)
  obtain ⟨b, rfl, rfl, hb, kb⟩ := R
  have eW := he.up bW
  refine sprintf_t s _ _ _ 1 k W fun W1 C M b1 a1 a2 a3 a4 a5 a6 a7 a8 => ?_
  have e1 := eW.up b1
  have lE := eW.lt
  have hlb := kb.b
  have bw1 := bW.trans (b1.mono bW.size)
  have jJ : JT h b k C M false 0 W1 := JT.of1 a4 a5 a6 a7 a8 (kb.up b1) e1 ⟨a3, by omega, by omega, by have := lE.1; omega, by have := lE.2; omega, by have := lE.1; omega, by have := lE.2; omega⟩
  have hlJ := jJ.lt
  have hBg := begun_P W1 C 0 A 1 1 rfl 22 ⟨#[]⟩ a 0 ⟨#[]⟩ pa (dPt a one).parts.length pc 1 (Nat.lt_of_lt_of_le hA bw1.size) (Nat.le_refl _) (by decide) (fun j u hu => (bw1.cell (p := ⟨A, 0 + j, none⟩) hA).trans (hd j u hu)) (fun lo W v => PtQ one a lo W v) (fun _ _ _ _ q k => q.kx k) (fun W2 hW2 => valueOf_pt a ha one pa pc W2 (hRd.up (bw1.trans (hW2.mono bw1.size))))
  refine (at_R s _ (fun g W => ∃ lo t x, g < lo ∧ BgR W C g 0 [.iface t x] ∧ PtQ one a lo W (.iface t x)) T.data.toList C 0 (by decide) (by decide) (J' := fun _ => True) (P := fun q => q = C ∨ q = M) W1 (by omega) (fun _ _ _ _ => trivial) (hBg.mono ?_) (fun g V hg bV hR => ?_)).mono fun e w' h => ⟨h.1, h.2.2⟩
  ·rintro e w' ⟨g, h1, h2, lo, h3, t, x, h4, h5, h6⟩
   exact ⟨g, h1, h2, ⟨lo, t, x, h3, h4, h5⟩, h6⟩
  obtain ⟨lo, t, x, hlo, ⟨ao, cc, hp0, hc3, hc4, haa⟩, hQ⟩ := hR
  have le1 := e1.lt
  have hE : EnJ (fun W => JT h b k C M false 0 W ∧ PtQ one a lo W (.iface t x)) V g C [] 0 (.slice ao [Value.iface t x].length cc) [Value.iface t x] 1 := ⟨hp0, ⟨jJ.up bV, hQ⟩, fun w w' j k => ⟨j.1.kx (g := g) (by omega) (by omega) (by omega) (by have := le1.1; omega) (by have := le1.2; omega) (kxg k), j.2.kx (k.mono fun _ _ e => by omega)⟩, by omega, ao, cc, rfl, hc3, hc4, haa⟩
  refine (format_J s (by omega) [p] hps (by
   intro q hq
   simp only [List.mem_cons, List.not_mem_nil, or_false] at hq
   subst hq
   exact ⟨hx, hx2, hx3⟩) T.data.toList [] (J' := EK) (P := fun q => q = g ∨ q = C ∨ q = M) (Or.inl rfl) (fun q hq => by omega) hE (nx' := 2)
   ⟨T.data.toList, [], 2, EK, dirJ_at (Or.inl rfl) (fun q hq => by omega) _ _ _ (by show 1 ≤ 1000; decide) p hk hw hp hx hv 0 _ _ rfl T _ _ (fun W l E => ?_), ⟨rfl, rfl, rfl⟩, by simp⟩ (Or.inl (by show 1 ≤ 1; decide)) (by omega) (fun W E => extra_J E (by show ((1 : Nat) : Int) < 2; decide))).mono ?_
  ·refine (hSh E.j.1 E.p (by omega) (by omega) hlo E.j.2).mono ?_
   rintro e V' ⟨h1, h2, h3⟩
   exact ⟨h1, E.turn h3 (fun q hq => by omega) h2 (fun _ _ h x => h.ky x (by have := le1.1; omega) (by have := le1.2; omega)), h3.mono fun _ _ hq => Or.inr hq⟩
  ·rintro e w' ⟨h1, h2, h3⟩
   rw [List.append_nil] at h2
   exact ⟨h1, ⟨_, h2.p⟩, trivial, h3⟩
 rw [txtJ hT] at hPr
 exact hPr
abbrev dsX (s : ByteArray) : Ds := ⟨16, ⟨#[]⟩, 0, 0, s, .no, .no, 0⟩
theorem at_X {h : Hk} {b k C M : Nat} (s : ByteArray) (hs : s.size ≤ 900) (W : World) (D : Nat) (hJ : JT h b k C M true 1 W) (hD : Blk W D (dsX s).v) :
  Calls Tryz.prog 44 #[.pointer (some ⟨C, 0, none⟩), .int .i64 1, .string ⟨#[37, 118]⟩, .slice (some ⟨D, 0, none⟩) 1 1] W fun e W' => e = .returned (.string s) ∧ JT h b k C M true 1 W' ∧ Kx (fun k => k = C) W W' := by
 have lJ := hJ.lt
 have hzl : s.data.toList.length ≤ 900 := by rw [← Lib.size_eq]; exact hs
 have hat := at_J ⟨#[37, 118]⟩ (.slice (some ⟨D, 0, none⟩) 1 1) [VX 0 s] s.data.toList C 1 (by decide) (by decide) (J' := fun W => JT h b k C M true 1 W) (P := fun q => q = C) W (by omega) (fun _ _ j x => j.up x) (begun_raw W C 1 D 1 [(dsX s).v] [VX 0 s] hD.b rfl (by show 1 ≤ 16; decide) (Nat.le_refl _) (by decide) (fun i d hi => ?_) (fun i d u hi hu => ?_)) (fun g V hg bV hR => ?_)
 ·rw [txtJ (by omega)] at hat
  exact hat
 ·match i, hi with
  | 0, hi =>
    simp at hi
    subst hi
    exact ⟨⟨_, _, _, _, _, _, rfl⟩, fun j u hu => by have := hD.range j u hu; simpa using this⟩
 ·match i, hi, hu with
  | 0, hi, hu =>
    simp at hi hu
    subst hi hu
    exact ⟨⟨_, _, rfl⟩, fun V => (flat_X s (by omega)).vo V⟩
 ·obtain ⟨ao, cc, hp, hc1, hc2, ha⟩ := hR
  have hE : EnJ (fun W => JT h b k C M true 1 W) V g C [] 1 (.slice ao [VX 0 s].length cc) [VX 0 s] 1 := ⟨hp, hJ.up bV, fun w w' j x => j.kx (g := g) (by omega) (by omega) (by omega) (by omega) (by omega) (kxg x), by omega, ao, cc, rfl, hc1, hc2, ha⟩
  refine (format_J ⟨#[37, 118]⟩ (by decide) [pV] rfl (by
   intro p hp
   simp only [List.mem_cons, List.not_mem_nil, or_false] at hp
   subst hp
   exact ⟨rfl, rfl, rfl⟩) s.data.toList [] (J' := fun W => JT h b k C M true 1 W) (P := fun q => q = g ∨ q = C) (Or.inl rfl) (fun q hq => by omega) hE (nx' := 2)
   ⟨s.data.toList, [], 2, fun W => JT h b k C M true 1 W, dirJ_at (Or.inl rfl) (fun q hq => by omega) _ _ _ (by show 1 ≤ 1000; decide) pV rfl rfl rfl rfl (by decide) 0 _ _ rfl s _ _ (fun V2 l2 E2 => ?_), ⟨rfl, rfl, rfl⟩, by simp⟩ (Or.inl (by show 1 ≤ 1; decide)) (by omega) (fun V2 E2 => extra_J E2 (by show ((1 : Nat) : Int) < 2; decide))).mono ?_
  ·refine (shown_z (flat_X s (by omega)) _ rfl (bareQ 118) (by decide) s (N := 1) (by decide) E2.p E2.j (fun W hW => shaped_text (bareQ 118) _ _ s 0 s true W hW (qt_v s hs))).mono ?_
   rintro e V' ⟨h1, h2⟩
   exact ⟨h1, E2.up h2, .of_below h2⟩
  ·rintro e w' ⟨h1, h2, h3⟩
   rw [List.append_nil] at h2
   exact ⟨h1, ⟨_, h2.p⟩, h2.j, h3⟩
theorem show_X {h : Hk} {b k C M : Nat} (s : ByteArray) (hs : s.size ≤ 900) {g : Nat} {l : List UInt8} {av : Value} {nx : Int} (R : Nat) (hgC : g ≠ C) :
  ShQ (fun W => JT h b k C M true 0 W ∧ IsPr W g l (prT C 0 av nx)) (fun W => JT h b k C M true 1 W) (fun k => k = C) R g (dsX s) s := fun W _ ⟨hJ, hP⟩ => by
 refine (lshow_J (dsX s) (J' := fun W => JT h b k C M true 1 W) (P := fun k => k = C ∨ k = C) W (fun V bV D hD kD => ?_)).mono fun e W' ⟨h1, h2, h3⟩ => ⟨h1, h2, h3.mono fun _ _ h => h.elim id id⟩
 have jV := hJ.up bV
 obtain ⟨n, hn, c2⟩ := jV.c2
 have hDC : C ≠ D := by have := hJ.lt.1; omega
 refine lprint_J (by decide) (by decide) V (hP.below bV) (by omega) c2 jV.z hgC _ _ _ _ (J' := fun W => JT h b k C M true 1 W) (P := fun k => k = C) hgC ?_
 exact at_X s hs _ D ((jV.more hn c2).up (Below.refl _ _).drew) ((kD.other hDC _).up (Below.refl _ _).drew)
theorem ask_X {h : Hk} (hpl : PlH h) (hk : h.c.k = 2) {s : ByteArray} (hd : h.c.p = dsX s) (hs : s.size ≤ 900) {b k C M g : Nat} {l : List UInt8} {av : Value} {nx : Int} {f : Sq} (hwh : whN h f.verb f.sh = 3) {a : Int} {lv : Nat} {v : Value} (w : World) (hJ : JT h b k C M false 0 w) (hP : IsPr w g l (prT C 0 av nx)) (hC : C < g) (hM : M < g) (hlv : g < lv) (hQ : PtQ true a lv w v) :
  Calls Tryz.prog 86 #[.pointer (some ⟨g, 0, none⟩), v, SV f] w fun e w' => e = .returned (.tuple #[.string (pnJ f.verb (mT 3) s), .bool true]) ∧ JT h b k C M true 1 w' ∧ Kx (fun q => q = C ∨ q = M) w w' := by
 obtain ⟨n, hn, c2⟩ := hJ.c2
 obtain ⟨lC, lM, lb, lE, lK⟩ := hJ.lt
 obtain ⟨d1, d2, d3, d4, d5, d6, d7⟩ := hJ.d
 have hgl := hP.lt
 have hT : Tn (fun W => JT h b k C M true 0 W ∧ IsPr W g l (prT C 0 av nx)) (fun W => JT h b k C M true 1 W) (fun k => k = C) w.heap.size :=
  ⟨fun W W' j x => ⟨j.1.up x, j.2.below x⟩, fun W W' j x => j.kx lC lM lb lE lK x, fun q hq => by rw [hq]; exact lC⟩
 refine (ask_g f v 22 ⟨#[]⟩ hQ.mk false true g C l 0 av nx w hP n (by omega) c2 (T := pnJ f.verb (mT 3) s) (B := fun W => JT h b k C M true 1 W) (P := fun k => k = C) (PM := fun q => q = M) (fun h' lo hi W => h' = h ∧ JT h b k C M true 0 W ∧ IsPr W g l (prT C 0 av nx))
  (fun q hq => ⟨by rw [hq]; exact lM, by rw [hq]; omega⟩) (fun q hq => ⟨by rw [hq]; exact lC, by rw [hq]; omega⟩) (fun V hV => ?_) (fun h' lo hi W W' h1 h2 ⟨e1, e2, e3⟩ x => ⟨e1, ?_, e3.kept x (by omega)⟩) (fun h' lo hi W ⟨e1, e2, e3⟩ h1 h2 h3 => ?_) (fun V kV => nilp_pt (hQ.kx (kV.mono fun _ _ e => by omega)))).mono ?_
 ·have jV := hJ.up hV
  have pV := hP.below hV
  have hVs := hV.size
  refine (row_miss C M _ ⟨_, _, _, rfl⟩ V (fun h' lo hi W => h' = h) (fun h' lo hi W W' e x => e) jV.c0 jV.c1 jV.m d1 (fun V' hV' => (get_pl h hpl b k V' (jV.r.up hV')).mono ?_)).mono ?_
  ·rintro e w' ⟨⟨h', h1, h2⟩, h3⟩
   exact ⟨⟨h', h1, h2⟩, h3⟩
  ·rintro e w' ⟨h', h1, h2, h3, h4⟩
   obtain ⟨lo, hi, a1, a2, a3, a4⟩ := h2.out
   subst a4
   obtain ⟨n', hn', c2'⟩ := jV.c2
   exact ⟨h', h1, Hid.mk' ⟨rfl, ⟨h4.cell jV.c0 (by dsimp only; omega), h4.cell jV.c1 (by dsimp only; omega), ⟨n', hn', h4.cell c2' (by dsimp only; omega)⟩, (World.frozen?_of_block (w := V) (a := ⟨C, 2, none⟩) (h4.block C (lt_of_cell jV.c1) (by omega))).trans jV.z, h3, jV.r.kx h4 (by omega), jV.e.ky h4 (by omega) (by omega), jV.d⟩, pV.kept h4 (by omega)⟩, h4⟩
 ·obtain ⟨n', hn', c2'⟩ := e2.c2
  exact ⟨x.cell e2.c0 (by dsimp only; omega), x.cell e2.c1 (by dsimp only; omega), ⟨n', hn', x.cell c2' (by dsimp only; omega)⟩, (World.frozen?_of_block (w := W) (a := ⟨C, 2, none⟩) (x.block C (lt_of_cell e2.c1) (by omega))).trans e2.z, (x.block M (Array.getElem?_eq_some_iff.1 e2.m).1 (by omega)).trans e2.m, e2.r.kx x (by omega), e2.e.ky x (by omega) (by omega), e2.d⟩
 ·subst e1
  have hQ2 := show_X (h := h') (b := b) (k := k) (C := C) (M := M) s hs (g := g) (l := l) (av := av) (nx := nx) w.heap.size (by omega)
  rw [← hd] at hQ2
  exact sayF_3 hT (x := h'.c) rfl hwh (do_thrJ hT g h'.c hk hpl.c.n hpl.c.p (by omega) (Nat.le_trans (mT_size 3) (by decide)) hQ2) W (Nat.le_trans h1 (Nat.le_trans h2 h3)) ⟨e2, e3⟩
 ·rintro e w' ⟨h1, h2, h3⟩
  exact ⟨h1, h2, h3.mono fun q _ hq => hq.elim Or.inr Or.inl⟩
theorem shown_thX {h : Hk} (hpl : PlH h) (hk : h.c.k = 2) {s : ByteArray} (hd : h.c.p = dsX s) (hs : s.size ≤ 900) {b k C M g : Nat} {l : List UInt8} {av : Value} {nx : Int} {f : Sq} (hv : ¬ f.verb = 84) (hwh : whN h f.verb f.sh = 3) {a : Int} {lv : Nat} {v : Value} (w : World) (hJ : JT h b k C M false 0 w) (hP : IsPr w g l (prT C 0 av nx)) (hC : C < g) (hM : M < g) (hlv : g < lv) (hQ : PtQ true a lv w v) :
  Calls Tryz.prog 69 #[.pointer (some ⟨g, 0, none⟩), v, SV f] w fun e w' => e = .returned (.string (pnJ f.verb (mT 3) s)) ∧ EK w' ∧ Kx (fun q => q = C ∨ q = M) w w' := by
 refine (shown_q (B := fun W => JT h b k C M true 1 W) (P := fun q => q = C ∨ q = M) f hv v g _ w fun V hV => written_q f (FA g) v 0 V _ (fun V2 hV2 => ?_) (fun V2 hV2 => (shape_pt ((hQ.up hV).up hV2)).mono fun e V' h => h)).mono fun e w' h => ⟨h.1, h.2.1.e, h.2.2⟩
 have j2 := (hJ.up hV).up hV2
 have l2 := j2.lt
 exact asked_g f v g _ V2 (fun q hq => by rcases hq with rfl | rfl <;> omega) (fun _ _ j x => j.kx l2.1 l2.2.1 l2.2.2.1 l2.2.2.2.1 l2.2.2.2.2 x) (fun V3 hV3 => ask_X hpl hk hd hs hwh V3 (j2.up hV3) (((hP.below hV).below hV2).below hV3) hC hM hlv (((hQ.up hV).up hV2).up hV3))
end Go.Proofs.YtdlnmnipnkeabaaGreatDoor
