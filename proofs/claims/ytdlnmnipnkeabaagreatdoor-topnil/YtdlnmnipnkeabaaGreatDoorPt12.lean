/- ZNum, PPure, PWalkA: these texts in one. -/
import Derived.Test.YtdlnmnipnkeabaaGreatDoorPt11
import Derived.Test.YtdlnmnipnkeabaaGreatDoorPt1
import Derived.Test.YtdlnmnipnkeabaaGreatDoorPt3
import Derived.Deep.LoopGhost
import Derived.Deep.RegionWith
import Derived.Maps.AppendAt
import Derived.Deep.DeepCutAuto
import Derived.Deep.CutBlock
namespace Go.Proofs.YtdlnmnipnkeabaaGreatDoor
open Go.RowKit
set_option linter.unusedVariables false
set_option linter.unusedSimpArgs false
set_option maxRecDepth 1000000 in
theorem newCall_nil (w : World) : Calls Tryz.prog 43 #[.slice none 0 0] w fun e w' => ∃ C M, e = .returned (.pointer (some ⟨C, 0, none⟩)) ∧ w.heap.size ≤ C ∧ w.heap.size ≤ M ∧ C < w'.heap.size ∧ M < w'.heap.size ∧ IsCall w' C M 0 ∧ Below w.heap.size w w' := by
 have hmm : ∀ w : World, (Instr.makeMap 95 none).run Tryz.prog w = .ok (.map (some w.heap.size)) (w.alloc (.map #[] 0)) := fun w => by kernel_rfl
 go_enter Tryz.func43, Tryz.ntmps43
 go_wp2
 go_ret
 refine ⟨w.heap.size + 1, w.heap.size, rfl, by omega, by omega, by simp, by simp; omega, ⟨by simp [go_sem], by simp [go_sem], by simp [go_sem], ?_⟩, by go_grown⟩
 rw [Below.heap_alloc _ _ _ (by simp), heap_alloc_new]
set_option maxRecDepth 1000000 in
theorem kind_any (k h : Int) (ty : ByteArray) (w : World) : Calls Tryz.prog 376 #[.agg #[.int .i64 k, .string ty, .int .i64 h]] w fun e w' => e = .returned (.int .i64 k) ∧ Below w.heap.size w w' := by
 go_enter Tryz.func376, Tryz.ntmps376
 go_wp2
 go_ret
 exact ⟨rfl, by go_grown⟩
def KdC (t : TypeId) (x : Value) (k : Int) (ty : ByteArray) (h : Int) : Prop := ∀ Z : World, Sem.run Tryz.prog (method 450 t x "Kind") Z = .ok (376, .agg #[.int .i64 k, .string ty, .int .i64 h]) Z
theorem kd_signed (k h : Int) (ty : ByteArray) (v0 : Value) : KdC 160 (.agg #[.int .i64 k, .string ty, .int .i64 h, v0]) k ty h := fun Z => by kernel_rfl
set_option maxRecDepth 1000000 in
theorem numberOf_I (n least : Int) (h0 : 0 ≤ n) (h1 : n ≤ 1000) (hl : least ≤ n) (w : World) : Calls Tryz.prog 128 #[VI 0 n, .int .i64 least] w fun e w' => e = .returned (.tuple #[.int .i64 n, .bool true]) ∧ Below w.heap.size w w' := by
 have hR := raw_I 0 n w h0 (by omega)
 have hkd := kd_signed 6 0 ⟨#[]⟩ (.int .i64 n)
 unfold KdC at hkd
 have hf : ∀ w, (Instr.field 29 (DI 0 n) 2).run Tryz.prog w = .ok (.int .u64 n) w := fun w => by kernel_rfl
 have hk := kind_any 6 0 ⟨#[]⟩
 go_enter Tryz.func128, Tryz.ntmps128
 go_wp2_with (first | (go_at_call 145; refine hR.mono ?_; rintro e V ⟨rfl, hV⟩) | (first | rw [hkd] | skip; go_at_call 376; refine (hk _).mono ?_; rintro e V2 ⟨rfl, hV2⟩))
 go_ret2
 exact ⟨rfl, hV.trans (hV2.mono hV.size)⟩
structure En (w : World) (g C M : Nat) (l : List UInt8) (dp : Int) (av : Value) (vs : List Value) (nx : Int) : Prop where
 v : Env w g C M l 0 dp av nx
 o : 2 < g ∧ 1 < g ∧ C < g ∧ M < g
 a : ∃ a c, av = .slice a vs.length c ∧ vs.length ≤ c ∧ c ≤ maxLen ∧ ∀ (j : Nat) (u : Value), vs[j]? = some u → ∃ A, a = some ⟨A, 0, none⟩ ∧ A ≠ g ∧ w.cell? ⟨A, j, none⟩ = some u
theorem En.kept {w w' : World} {g C M : Nat} {l l' : List UInt8} {dp : Int} {av : Value} {vs : List Value} {nx nx' : Int} (h : En w g C M l dp av vs nx) (k : Kx (fun k => k = g) w w') (p : IsPr w' g l' (prT C dp av nx')) : En w' g C M l' dp av vs nx' := by
 obtain ⟨⟨p0, c, e, kn, n0⟩, ⟨o1, o2, o3, o4⟩, a, c', rfl, hc1, hc2, ha⟩ := h
 refine ⟨⟨p, c.kept k (by omega) (by omega), ⟨Nat.lt_of_lt_of_le e.1 k.size, fun i hi => k.cell (e.2 i hi) (by dsimp only; omega)⟩, fun i s hs => k.cell (kn i s hs) (by dsimp only; omega), n0⟩, ⟨o1, o2, o3, o4⟩, a, c', rfl, hc1, hc2, fun j u hu => ?_⟩
 obtain ⟨A, rfl, hA, hcl⟩ := ha j u hu
 exact ⟨A, rfl, hA, k.cell hcl hA⟩
theorem En.up {w w' : World} {g C M : Nat} {l : List UInt8} {dp : Int} {av : Value} {vs : List Value} {nx : Int} (h : En w g C M l dp av vs nx) (b : Below w.heap.size w w') : En w' g C M l dp av vs nx := h.kept (.of_below b) (h.v.p.below b)
theorem En.lt {w : World} {g C M : Nat} {l : List UInt8} {dp : Int} {av : Value} {vs : List Value} {nx : Int} (h : En w g C M l dp av vs nx) : g < w.heap.size := h.v.p.lt
end Go.Proofs.YtdlnmnipnkeabaaGreatDoor
namespace Go.Proofs.YtdlnmnipnkeabaaGreatDoor
open Go.RowKit
set_option linter.unusedVariables false
set_option linter.unusedSimpArgs false
abbrev Bs := List UInt8
def hd : Bs → Nat
 | [] => 256
 | x :: _ => x.toNat
theorem hd_lt {l : Bs} {c : Nat} (h : hd l = c) (hc : c < 256) : ∃ x, l = x :: l.tail ∧ x.toNat = c := by
 cases l with
 | nil => simp [hd] at h; omega
 | cons x t => exact ⟨x, rfl, h⟩
def nxt : Bs → Nat × Nat
 | [] => (0, 0)
 | x :: t => Lib.decodeL (x :: t)
theorem nxt_ascii (b : UInt8) (t : Bs) (h : b.toNat < 128) : nxt (b :: t) = (b.toNat, 1) := by
 show Lib.decodeL (b :: t) = _
 rw [Lib.decodeL_N]
 unfold Lib.decodeN
 simp [h]
theorem dl_high (b : UInt8) (t : Bs) (h : 128 ≤ b.toNat) : 128 ≤ (Lib.decodeL (b :: t)).1 ∧ 1 ≤ (Lib.decodeL (b :: t)).2 ∧ (Lib.decodeL (b :: t)).2 ≤ (b :: t).length ∧ ∀ i, i < (Lib.decodeL (b :: t)).2 → 128 ≤ ((b :: t).getD i 0).toNat := by
 rw [Lib.decodeL_N]
 have h0 : ((b :: t).getD 0 0).toNat = b.toNat := rfl
 rcases Lib.decodeN_shape (b :: t).length ((b :: t).getD 0 0).toNat ((b :: t).getD 1 0).toNat ((b :: t).getD 2 0).toNat ((b :: t).getD 3 0).toNat with ⟨c, e⟩ | ⟨c1, c2, c3, cv, e⟩ | ⟨c1, c2, c3, c4, cv, cs, e⟩ | ⟨c1, c2, c3, c4, c5, cv, cw, e⟩ | e
 ·omega
 all_goals (rw [e]; dsimp only)
 ·refine ⟨by omega, by omega, by omega, fun i hi => ?_⟩
  rcases (by omega : i = 0 ∨ i = 1) with rfl | rfl <;> omega
 ·refine ⟨by omega, by omega, by omega, fun i hi => ?_⟩
  rcases (by omega : i = 0 ∨ i = 1 ∨ i = 2) with rfl | rfl | rfl <;> omega
 ·refine ⟨by omega, by omega, by omega, fun i hi => ?_⟩
  rcases (by omega : i = 0 ∨ i = 1 ∨ i = 2 ∨ i = 3) with rfl | rfl | rfl | rfl <;> omega
 ·refine ⟨by omega, by omega, by simp, fun i hi => ?_⟩
  obtain rfl : i = 0 := by omega
  omega
theorem nxt_is {l : Bs} {c : Nat} (h1 : 1 ≤ c) (hc : c < 128) : (nxt l).1 = c ↔ hd l = c := by
 cases l with
 | nil => simp [nxt, hd]; omega
 | cons x t =>
   by_cases h : x.toNat < 128
   ·rw [nxt_ascii x t h]; rfl
   ·have := (dl_high x t (by omega)).1
    show (Lib.decodeL (x :: t)).1 = c ↔ x.toNat = c
    omega
theorem nxt_one {l : Bs} {c : Nat} (h : hd l = c) (hc : c < 128) : (nxt l).2 = 1 := by
 obtain ⟨x, e, hx⟩ := hd_lt h (by omega)
 rw [e, nxt_ascii x _ (by omega)]
theorem nxt_le (l : Bs) : (nxt l).2 ≤ l.length := by
 cases l with
 | nil => simp [nxt]
 | cons x t => exact Lib.decodeL_le _ (by simp)
theorem nxt_pos {l : Bs} (h : l ≠ []) : 1 ≤ (nxt l).2 := by
 cases l with
 | nil => exact absurd rfl h
 | cons x t => exact Lib.decodeL_width _
theorem nxt_none (l : Bs) : (nxt l).2 = 0 ↔ l = [] := by
 constructor
 ·intro h
  cases l with
  | nil => rfl
  | cons x t => have := nxt_pos (l := x :: t) (by simp); omega
 ·rintro rfl; rfl
def isDg (x : UInt8) : Bool := decide (48 ≤ x.toNat) && decide (x.toNat ≤ 57)
def dgs (l : Bs) : Bs := l.takeWhile isDg
def aft (l : Bs) : Bs := l.dropWhile isDg
theorem dgs_aft (l : Bs) : dgs l ++ aft l = l := List.takeWhile_append_dropWhile
def dg (n : Nat) : Prop := 48 ≤ n ∧ n ≤ 57
theorem dgs_no {l : Bs} (h : ¬ dg (hd l)) : dgs l = [] ∧ aft l = l := by
 cases l with
 | nil => exact ⟨rfl, rfl⟩
 | cons x t =>
   have hx : isDg x = false := by
    have h' : ¬ (48 ≤ x.toNat ∧ x.toNat ≤ 57) := h
    unfold isDg
    rw [Bool.and_eq_false_iff]
    simp only [decide_eq_false_iff_not]
    omega
   constructor
   ·simp [dgs, List.takeWhile, hx]
   ·simp [aft, List.dropWhile, hx]
theorem dgs_yes {x : UInt8} {t : Bs} (h : dg x.toNat) : dgs (x :: t) = x :: dgs t ∧ aft (x :: t) = aft t := by
 have hx : isDg x = true := by
  unfold isDg; unfold dg at h
  simp [h.1, h.2]
 constructor
 ·simp [dgs, List.takeWhile, hx]
 ·simp [aft, List.dropWhile, hx]
theorem nxt_dg (l : Bs) : (48 ≤ (nxt l).1 ∧ (nxt l).1 ≤ 57) ↔ dg (hd l) := by
 unfold dg
 constructor
 ·rintro ⟨h1, h2⟩
  have := (nxt_is (l := l) (c := (nxt l).1) (by omega) (by omega)).1 rfl
  omega
 ·rintro ⟨h1, h2⟩
  have := (nxt_is (l := l) (c := hd l) (by omega) (by omega)).2 rfl
  omega
def stepV (n : Nat) (x : UInt8) : Nat := 10 * n + (x.toNat - 48)
def valD (ds : Bs) : Nat := ds.foldl stepV 0
def stepC (n : Nat) (x : UInt8) : Nat := if n < 100000000 then 10 * n + (x.toNat - 48) else n
def capD (ds : Bs) : Nat := ds.foldl stepC 0
theorem foldV_ge (ds : Bs) : ∀ n, n ≤ ds.foldl stepV n := by
 induction ds with
 | nil => intro n; exact Nat.le_refl _
 | cons x t ih => intro n; exact Nat.le_trans (by unfold stepV; omega) (ih _)
theorem foldC_big (ds : Bs) : ∀ n, 100000000 ≤ n → ds.foldl stepC n = n := by
 induction ds with
 | nil => intro n _; rfl
 | cons x t ih => intro n h; rw [List.foldl_cons]; unfold stepC; rw [if_neg (by omega)]; exact ih n h
theorem fold_cap (ds : Bs) : ∀ n, ds.foldl stepC n = ds.foldl stepV n ∨ (100000000 ≤ ds.foldl stepC n ∧ 100000000 ≤ ds.foldl stepV n) := by
 induction ds with
 | nil => intro n; exact .inl rfl
 | cons x t ih =>
   intro n
   by_cases h : n < 100000000
   ·rw [List.foldl_cons, List.foldl_cons]
    have : stepC n x = stepV n x := by unfold stepC stepV; rw [if_pos h]
    rw [this]; exact ih _
   ·right
    have h1 := foldC_big (x :: t) n (by omega)
    have h2 := foldV_ge (x :: t) n
    omega
theorem dgs_all (l : Bs) : ∀ x ∈ dgs l, dg x.toNat := by
 induction l with
 | nil => intro x hx; cases hx
 | cons y t ih =>
   intro x hx
   by_cases h : dg y.toNat
   ·rw [(dgs_yes h).1] at hx
    rcases List.mem_cons.1 hx with rfl | hx
    ·exact h
    ·exact ih x hx
   ·rw [(dgs_no (l := y :: t) h).1] at hx; cases hx
theorem foldC_few (ds : Bs) (hd : ∀ x ∈ ds, dg x.toNat) : ∀ n k, n < 10 ^ k → k + ds.length ≤ 9 → ds.foldl stepC n = ds.foldl stepV n := by
 induction ds with
 | nil => intro n k _ _; rfl
 | cons x t ih =>
   intro n k h hk
   rw [List.length_cons] at hk
   have hx := hd x (List.mem_cons_self ..)
   unfold dg at hx
   have h8 : n < 100000000 := Nat.lt_of_lt_of_le h (Nat.pow_le_pow_right (n := 10) (by omega) (show k ≤ 8 by omega))
   have : stepC n x = stepV n x := by unfold stepC stepV; rw [if_pos h8]
   rw [List.foldl_cons, List.foldl_cons, this]
   refine ih (fun y hy => hd y (List.mem_cons_of_mem _ hy)) _ (k + 1) ?_ (by omega)
   unfold stepV
   rw [Nat.pow_succ]
   omega
theorem cap_few {ds : Bs} (hd : ∀ x ∈ ds, dg x.toNat) (h : ds.length ≤ 9) : capD ds = valD ds := foldC_few ds hd 0 0 (by omega) (by omega)
def wN (ds : Bs) : Int := if 1000 < valD ds then -1 else (valD ds : Int)
theorem cap_wide (ds : Bs) : (if 1000 < capD ds then (-1 : Int) else (capD ds : Int)) = wN ds := by
 unfold wN
 rcases fold_cap ds 0 with h | ⟨h1, h2⟩
 ·have : capD ds = valD ds := h
  rw [this]
 ·have a : 100000000 ≤ capD ds := h1
  have b : 100000000 ≤ valD ds := h2
  rw [if_pos (by omega), if_pos (by omega)]
structure Ix where
 k : Nat
 n : Nat
structure Nb where
 k : Nat
 n : Int
 a : Ix
structure Fl where
 p : Bool
 m : Bool
 s : Bool
 b : Bool
 z : Bool
def ix0 : Ix := ⟨0, 0⟩
def ix2 : Ix := ⟨2, 0⟩
def nb0 : Nb := ⟨0, 0, ix0⟩
def fl0 : Fl := ⟨false, false, false, false, false⟩
def ixG (ds : Bs) : Ix := if ds.length ≤ 9 ∧ 0 < valD ds then ⟨1, valD ds⟩ else ix2
def idx (l : Bs) : Ix × Bs :=
 if hd l = 91 then
  (if dgs l.tail ≠ [] ∧ hd (aft l.tail) = 93 then (ixG (dgs l.tail), (aft l.tail).tail) else (ix2, l.tail))
 else (ix0, l)
def spl (x : Ix) : Ix := if x.k = 0 then x else ix2
def flg : Bs → Fl → Fl × Bs
 | [], f => (f, [])
 | x :: t, f =>
   if x.toNat = 43 then flg t ⟨true, f.m, f.s, f.b, f.z⟩
   else if x.toNat = 45 then flg t ⟨f.p, true, f.s, f.b, f.z⟩
   else if x.toNat = 35 then flg t ⟨f.p, f.m, true, f.b, f.z⟩
   else if x.toNat = 32 then flg t ⟨f.p, f.m, f.s, true, f.z⟩
   else if x.toNat = 48 then flg t ⟨f.p, f.m, f.s, f.b, true⟩
   else (f, x :: t)
def wdh (l : Bs) : Nb × Ix × Bs :=
 if hd (idx l).2 = 42 then (⟨2, 0, (idx l).1⟩, ix0, (idx l).2.tail)
 else if 49 ≤ hd (idx l).2 ∧ hd (idx l).2 ≤ 57 then (⟨1, wN (dgs (idx l).2), ix0⟩, spl (idx l).1, aft (idx l).2)
 else (nb0, (idx l).1, (idx l).2)
def prc (l : Bs) : Nb × Ix × Bs :=
 if hd (idx l).2 = 42 then (⟨2, 0, (idx l).1⟩, ix0, (idx l).2.tail)
 else (⟨1, wN (dgs (idx l).2), ix0⟩, (if dgs (idx l).2 = [] then (idx l).1 else spl (idx l).1), aft (idx l).2)
def mid (l : Bs) : Nb × Ix × Nb × Ix × Bs :=
 if hd (wdh l).2.2 = 46 then ((wdh l).1, spl (wdh l).2.1, (prc (wdh l).2.2.tail).1, (prc (wdh l).2.2.tail).2.1, (prc (wdh l).2.2.tail).2.2)
 else ((wdh l).1, (wdh l).2.1, nb0, ix0, (wdh l).2.2)
def sgl (a b c : Ix) : Ix :=
 if a.k = 0 then (if b.k = 0 then (if c.k = 0 then ix0 else c) else (if c.k = 0 then b else ix2))
 else (if b.k = 0 then (if c.k = 0 then a else ix2) else ix2)
structure Pc where
 kind : Nat
 text : Bs
 fl : Fl
 sz : Int
 verb : Nat
 wid : Nb
 prec : Nb
 arg : Ix
def ahd (l : Bs) : Bs := (idx (mid (flg l fl0).2).2.2.2.2).2
def drest (l : Bs) : Bs := (ahd l).drop (nxt (ahd l)).2
def dir (l : Bs) (t : Bs) : Pc :=
 ⟨if (nxt (ahd l)).2 = 0 then 2 else 1, t, (flg l fl0).1, -1, (nxt (ahd l)).1, (mid (flg l fl0).2).1, (mid (flg l fl0).2).2.2.1,
  sgl (mid (flg l fl0).2).2.1 (mid (flg l fl0).2).2.2.2.1 (idx (mid (flg l fl0).2).2.2.2.2).1⟩
def lit (t : Bs) : Pc := ⟨0, t, fl0, 0, 0, nb0, nb0, ix0⟩
def noPc (x : UInt8) : Bool := decide (x.toNat ≠ 37)
def pce (l : Bs) (t : Bs) : Pc := if hd l = 37 then dir l.tail t else lit t
def prest (l : Bs) : Bs := if hd l = 37 then drest l.tail else l.dropWhile noPc
def prsN : Nat → Bs → List Pc
 | 0, _ => []
 | n + 1, l => if l = [] then [] else pce l (l.take (l.length - (prest l).length)) :: prsN n (prest l)
def prs (l : Bs) : List Pc := prsN l.length l
theorem suf_tail {l : Bs} : l.tail <:+ l := by cases l with | nil => exact List.suffix_refl _ | cons x t => exact ⟨[x], rfl⟩
theorem suf_aft (l : Bs) : aft l <:+ l := ⟨dgs l, dgs_aft l⟩
theorem idx_suf (l : Bs) : (idx l).2 <:+ l := by
 unfold idx
 split
 ·split
  ·exact (suf_tail.trans (suf_aft _)).trans suf_tail
  ·exact suf_tail
 ·exact List.suffix_refl _
theorem flg_suf (l : Bs) : ∀ f, (flg l f).2 <:+ l := by
 induction l with
 | nil => intro f; exact List.suffix_refl _
 | cons x t ih =>
   intro f
   have h := fun f => (ih f).trans (⟨[x], rfl⟩ : t <:+ x :: t)
   unfold flg
   repeat' split
   all_goals first | exact h _ | exact List.suffix_refl _
theorem wdh_suf (l : Bs) : (wdh l).2.2 <:+ l := by
 unfold wdh
 repeat' split
 ·exact suf_tail.trans (idx_suf l)
 ·exact (suf_aft _).trans (idx_suf l)
 ·exact idx_suf l
theorem prc_suf (l : Bs) : (prc l).2.2 <:+ l := by
 unfold prc
 split
 ·exact suf_tail.trans (idx_suf l)
 ·exact (suf_aft _).trans (idx_suf l)
theorem mid_suf (l : Bs) : (mid l).2.2.2.2 <:+ l := by
 unfold mid
 split
 ·exact ((prc_suf _).trans suf_tail).trans (wdh_suf l)
 ·exact wdh_suf l
theorem ahd_suf (l : Bs) : ahd l <:+ l := ((idx_suf _).trans (mid_suf _)).trans (flg_suf l fl0)
theorem drest_suf (l : Bs) : drest l <:+ l := (List.drop_suffix _ _).trans (ahd_suf l)
theorem prest_lt {l : Bs} (h : l ≠ []) : (prest l).length < l.length := by
 cases l with
 | nil => exact absurd rfl h
 | cons x t =>
   unfold prest
   split
   ·have := (drest_suf t).length_le
    show (drest t).length < _
    simp; omega
   ·rename_i h37
    have hx : noPc x = true := by unfold noPc; simpa [hd] using h37
    rw [List.dropWhile_cons, if_pos hx]
    have := (List.dropWhile_suffix noPc (l := t)).length_le
    simp; omega
theorem prsN_more : ∀ (n m : Nat) (l : Bs), l.length ≤ n → l.length ≤ m → prsN n l = prsN m l
 | 0, 0, _, _, _ => rfl
 | 0, m + 1, l, h, _ => by
   have : l = [] := List.eq_nil_of_length_eq_zero (by omega)
   subst this; simp [prsN]
 | n + 1, 0, l, _, h => by
   have : l = [] := List.eq_nil_of_length_eq_zero (by omega)
   subst this; simp [prsN]
 | n + 1, m + 1, l, hn, hm => by
   by_cases h : l = []
   ·simp [prsN, h]
   ·have := prest_lt h
    simp only [prsN, if_neg h]
    rw [prsN_more n m _ (by omega) (by omega)]
theorem prs_nil : prs [] = [] := rfl
theorem prs_step {l : Bs} (h : l ≠ []) : prs l = pce l (l.take (l.length - (prest l).length)) :: prs (prest l) := by
 have := prest_lt h
 unfold prs
 obtain ⟨n, hn⟩ : ∃ n, l.length = n + 1 := ⟨l.length - 1, by omega⟩
 rw [hn]
 simp only [prsN, if_neg h]
 rw [← hn, prsN_more n _ _ (by omega) (Nat.le_refl _)]
theorem prs_len (l : Bs) : (prs l).length ≤ l.length := by
 have : ∀ n (l : Bs), (prsN n l).length ≤ n := by
  intro n
  induction n with
  | zero => intro l; simp [prsN]
  | succ n ih =>
    intro l
    unfold prsN
    split
    ·simp
    ·have := ih (prest l); simp; omega
 exact this _ _
end Go.Proofs.YtdlnmnipnkeabaaGreatDoor
namespace Go.Proofs.YtdlnmnipnkeabaaGreatDoor
open Go.RowKit
set_option linter.unusedVariables false
set_option linter.unusedSimpArgs false
structure RdW (s : ByteArray) (R F P : Nat) (l : Bs) (w : World) : Prop where
 a : w.cell? ⟨R, 0, none⟩ = some (.int .i64 (P : Nat))
 n : w.cell? ⟨R, 1, none⟩ = some (.func (.func 61) #[] #[.pointer (some ⟨F, 0, none⟩)])
 f : w.cell? ⟨F, 0, none⟩ = some (.string s)
 z : w.frozen? ⟨R, 0, none⟩ = false
 d : s.data.toList.drop P = l
 e : P + l.length = s.size
 ne : F ≠ R
 m : s.size ≤ 1000000000000
theorem lt_of_cell9 {W : World} {p : Addr} {v : Value} (h : W.cell? p = some v) : p.block < W.heap.size := by
 rcases Nat.lt_or_ge p.block W.heap.size with h1 | h1
 ·exact h1
 ·simp [World.cell?, Array.getElem?_eq_none h1] at h
theorem RdW.up {s : ByteArray} {R F P : Nat} {l : Bs} {w w' : World} (h : RdW s R F P l w) (hb : Below w.heap.size w w') : RdW s R F P l w' :=
 ⟨(hb.cell (lt_of_cell9 h.a)).trans h.a, (hb.cell (lt_of_cell9 h.n)).trans h.n, (hb.cell (lt_of_cell9 h.f)).trans h.f, (hb.frozen (p := ⟨R, 0, none⟩) (lt_of_cell9 h.a)).trans h.z, h.d, h.e, h.ne, h.m⟩
theorem RdW.put {s : ByteArray} {R F P P' : Nat} {l l' : Bs} {w : World} (h : RdW s R F P l w) (hd : s.data.toList.drop P' = l') (he : P' + l'.length = s.size) : RdW s R F P' l' (w.setCell ⟨R, 0, none⟩ (.int .i64 (P' : Nat))) := by
 refine ⟨World.cell?_setCell_same _ _ _ h.a, ?_, ?_, (World.frozen?_setCell _ _ _ _).trans h.z, hd, he, h.ne, h.m⟩
 ·rw [World.cell?_setCell_other _ _ _ _ (by simp)]; exact h.n
 ·rw [World.cell?_setCell_other _ _ _ _ (by intro e; exact h.ne (congrArg Addr.block e).symm)]; exact h.f
theorem gr_below {w w' : World} (hb : Below w.heap.size w w') (row : Option Nat) : w.grownBy w' row := ⟨hb.os, hb.tape, hb.output, hb.size, fun k hk _ => hb.block k hk⟩
theorem gr_refl (w : World) (row : Option Nat) : w.grownBy w row := ⟨rfl, rfl, rfl, Nat.le_refl _, fun _ _ _ => rfl⟩
theorem gr_put {w w' : World} {R o : Nat} (h : w.grownBy w' (some R)) (v : Value) : w.grownBy (w'.setCell ⟨R, o, none⟩ v) (some R) :=
 ⟨h.os, h.tape, h.output, by simpa [World.setCell] using h.size, fun k hk hne => by rw [Below.heap_setCell _ _ _ _ (fun e => hne (by rw [e]))]; exact h.block k hk hne⟩
theorem drop_more {s : ByteArray} {P k : Nat} {l : Bs} (hd : s.data.toList.drop P = l) : s.data.toList.drop (P + k) = l.drop k := by rw [← hd, List.drop_drop]
theorem dec_nxt {s : ByteArray} {P : Nat} {l : Bs} (hd : s.data.toList.drop P = l) (he : P + l.length = s.size) : dec (s.extract P s.size) = nxt l := by
 cases l with
 | nil =>
   rw [dec_nil _ (by rw [tail_size]; simp at he; omega)]; rfl
 | cons x t =>
   rw [dec_tail s P (by simp at he; omega), ← Lib.decodeL_drop, hd]; rfl
set_option maxRecDepth 1000000 in
set_option maxHeartbeats 1600000 in
theorem next_walk {s : ByteArray} {F P : Nat} {l : Bs} {c n : Nat} (hd : s.data.toList.drop P = l) (he : P + l.length = s.size) (hx : nxt l = (c, n)) (w : World) (hf : w.cell? ⟨F, 0, none⟩ = some (.string s)) :
  Calls Tryz.prog 61 #[.int .i64 (P : Nat), .pointer (some ⟨F, 0, none⟩)] w fun e w' => e = .returned (.tuple #[.int .i32 (c : Nat), .int .i64 (n : Nat)]) ∧ Below w.heap.size w w' := by
 have hC := fun w => decode_any (s.extract P s.size) w
 rw [dec_nxt hd he, hx] at hC
 have hP : (P : Int) ≤ s.size := by omega
 clear hx hd he
 go_enter Tryz.func61, Tryz.ntmps61
 go_wp2_with (go_at_call 62; refine (hC _).mono ?_; rintro x w2 ⟨rfl, hb2⟩)
 go_ret2
 exact ⟨rfl, hb2⟩
abbrev NxC (w : World) (F P c n : Nat) : Prop := ∀ x : Cl w, Calls Tryz.prog 61 #[.int .i64 (P : Nat), .pointer (some ⟨F, 0, none⟩)] x.w fun e w' => e = .returned (.tuple #[.int .i32 (c : Nat), .int .i64 (n : Nat)]) ∧ Below x.w.heap.size x.w w'
theorem RdW.next {s : ByteArray} {R F P : Nat} {l : Bs} {w : World} (h : RdW s R F P l w) {c n : Nat} (hx : nxt l = (c, n)) : NxC w F P c n := fun x => next_walk h.d h.e hx x.w (x.cell h.f)
abbrev TkC (s : ByteArray) (R F P : Nat) (l : Bs) (c : Nat) (b : Bool) (P' : Nat) (l' : Bs) : Prop := ∀ w, RdW s R F P l w → Calls Tryz.prog 76 #[.pointer (some ⟨R, 0, none⟩), .int .i32 (c : Nat)] w fun e w' => e = .returned (.bool b) ∧ RdW s R F P' l' w' ∧ w.grownBy w' (some R)
set_option maxRecDepth 1000000 in
set_option maxHeartbeats 1600000 in
theorem take_no {s : ByteArray} {R F P : Nat} {l : Bs} {c : Nat} (h1 : 1 ≤ c) (hc : c < 128) (hh : hd l ≠ c) : TkC s R F P l c false P l := fun w h => by
 obtain ⟨q, n, hx⟩ : ∃ q n, nxt l = (q, n) := ⟨_, _, rfl⟩
 have hq : ¬ (q : Int) = c := by
  have k := (nxt_is (l := l) h1 hc).1
  rw [hx] at k
  exact fun e => hh (k (by dsimp only; omega))
 have hN := h.next hx
 have c0 : ∀ x : Cl w, x.w.cell? ⟨R, 0, none⟩ = some (.int .i64 (P : Nat)) := fun x => x.cell h.a
 have c1 : ∀ x : Cl w, x.w.cell? ⟨R, 1, none⟩ = some (.func (.func 61) #[] #[.pointer (some ⟨F, 0, none⟩)]) := fun x => x.cell h.n
 go_enter Tryz.func76, Tryz.ntmps76
 go_wp2
 refine wp_region_above w (Below.refl _ _) (by kernel_rfl) (by kernel_rfl) ?_
 intro hCl
 repeat (go_big_quiet_step ((go_at_call 61; exact Cl.call (hN _))))
 refine wpQuiet_nil ?_
 intro _ hw'
 obtain ⟨y, hy⟩ := hw'
 subst hy
 go_wp2
 go_ret
 exact ⟨rfl, h.up y.below, gr_below y.below _⟩
set_option maxRecDepth 1000000 in
set_option maxHeartbeats 1600000 in
theorem take_yes {s : ByteArray} {R F P : Nat} {l : Bs} {c : Nat} (h1 : 1 ≤ c) (hc : c < 128) (hh : hd l = c) : TkC s R F P l c true (P + 1) l.tail := fun w h => by
 have hx : nxt l = (c, 1) := by
  have a := (nxt_is (l := l) h1 hc).2 hh
  have b := nxt_one hh hc
  rw [← a, ← b]
 have hN := h.next hx
 have hle : P + 1 ≤ s.size := by
  obtain ⟨x, e, -⟩ := hd_lt hh (by omega)
  have := h.e
  rw [e] at this
  simp at this
  omega
 have hm := h.m
 have c0 : ∀ x : Cl w, x.w.cell? ⟨R, 0, none⟩ = some (.int .i64 (P : Nat)) := fun x => x.cell h.a
 have c1 : ∀ x : Cl w, x.w.cell? ⟨R, 1, none⟩ = some (.func (.func 61) #[] #[.pointer (some ⟨F, 0, none⟩)]) := fun x => x.cell h.n
 have c2 : ∀ x : Cl w, x.w.frozen? ⟨R, 0, none⟩ = false := fun x => (x.below.frozen (p := ⟨R, 0, none⟩) (lt_of_cell9 h.a)).trans h.z
 go_enter Tryz.func76, Tryz.ntmps76
 go_wp2
 refine wp_region_above w (Below.refl _ _) (by kernel_rfl) (by kernel_rfl) ?_
 intro hCl
 repeat (go_big_quiet_step ((go_at_call 61; exact Cl.call (hN _))))
 refine wpQuiet_nil ?_
 intro _ hw'
 obtain ⟨y, hy⟩ := hw'
 subst hy
 go_wp2
 go_ret
 have hr : RdW s R F (P + 1) l.tail (y.w.setCell ⟨R, 0, none⟩ (.int .i64 ((P + 1 : Nat)))) := (h.up y.below).put ((drop_more h.d).trans (by simp)) (by
  obtain ⟨x, e, -⟩ := hd_lt hh (by omega)
  have := h.e
  rw [e] at this
  simp at this ⊢
  omega)
 exact ⟨rfl, hr, gr_put (gr_below y.below _) _⟩
abbrev LtC (s : ByteArray) (R F P : Nat) (l : Bs) : Prop := ∀ w, RdW s R F P l w → Calls Tryz.prog 78 #[.pointer (some ⟨R, 0, none⟩)] w fun e w' => e = .returned (.tuple #[]) ∧ (∃ P', RdW s R F P' (l.dropWhile noPc) w') ∧ w.grownBy w' (some R)
theorem dw_more {l : Bs} (hl : hd l ≠ 37) : (l.drop (nxt l).2).dropWhile noPc = l.dropWhile noPc := by
 cases l with
 | nil => rfl
 | cons x t =>
   have hx : noPc x = true := by unfold noPc; simpa [hd] using hl
   have key : ∀ (k : Nat) (m : Bs), (∀ i, i < k → noPc (m.getD i 0) = true) → k ≤ m.length → (m.drop k).dropWhile noPc = m.dropWhile noPc := by
    intro k
    induction k with
    | zero => intro m _ _; rfl
    | succ k ih =>
      intro m hm hk
      cases m with
      | nil => simp at hk
      | cons y u =>
        have hy : noPc y = true := hm 0 (by omega)
        rw [List.drop_succ_cons, List.dropWhile_cons, if_pos hy]
        exact ih u (fun i hi => by have := hm (i + 1) (by omega); simpa using this) (by simpa using hk)
   refine key _ _ (fun i hi => ?_) (nxt_le _)
   by_cases h : x.toNat < 128
   ·rw [nxt_ascii x t h] at hi
    obtain rfl : i = 0 := by omega
    exact hx
   ·have := (dl_high x t (by omega)).2.2.2 i hi
    unfold noPc
    simp only [decide_eq_true_eq]
    omega
set_option maxRecDepth 1000000 in
set_option maxHeartbeats 1600000 in
theorem literal_any (s : ByteArray) (R F P : Nat) (l : Bs) : LtC s R F P l := fun w h0 => by
 go_enter Tryz.func78, Tryz.ntmps78
 go_wp2
 go_loopg [2, 3] l.length (fun g a b wr => ∃ P' l', RdW s R F P' l' wr ∧ l'.length ≤ g ∧ Hid (l'.dropWhile noPc = l.dropWhile noPc) ∧ w.grownBy wr (some R))
 case atStart => exact ⟨P, l, h0, Nat.le_refl _, rfl, gr_refl _ _⟩
 case round =>
  obtain ⟨P', l', h, hg, HL, hgr⟩ := hrel
  obtain ⟨q, n, hx⟩ : ∃ q n, nxt l' = (q, n) := ⟨_, _, rfl⟩
  have hN := h.next hx
  have hm := h.m
  have he := h.e
  have c0 : ∀ x : Cl wr, x.w.cell? ⟨R, 0, none⟩ = some (.int .i64 (P' : Nat)) := fun x => x.cell h.a
  have c1 : ∀ x : Cl wr, x.w.cell? ⟨R, 1, none⟩ = some (.func (.func 61) #[] #[.pointer (some ⟨F, 0, none⟩)]) := fun x => x.cell h.n
  have c2 : ∀ x : Cl wr, x.w.frozen? ⟨R, 0, none⟩ = false := fun x => (x.below.frozen (p := ⟨R, 0, none⟩) (lt_of_cell9 h.a)).trans h.z
  have hn : n ≤ l'.length := by have := nxt_le l'; rw [hx] at this; exact this
  have HX : Hid (nxt l' = (q, n)) := hx
  clear hx
  go_wp2
  refine wp_region_above wr (Below.refl _ _) (by kernel_rfl) (by kernel_rfl) ?_
  intro hCl
  repeat (go_big_quiet_step ((go_at_call 61; exact Cl.call (hN _))))
  refine wpQuiet_nil ?_
  intro _ hw'
  obtain ⟨y, hy⟩ := hw'
  subst hy
  have fin : n = 0 ∨ q = 37 → (∃ P', RdW s R F P' (l.dropWhile noPc) y.w) ∧ w.grownBy y.w (some R) := fun hq => by
   have e : l' = l.dropWhile noPc := by
    rw [← HL.out]
    rcases hq with hq | hq
    ·have : l' = [] := (nxt_none l').1 (by rw [HX.out]; exact hq)
     rw [this]; rfl
    ·have : hd l' = 37 := (nxt_is (by omega) (by omega)).1 (by rw [HX.out]; exact hq)
     obtain ⟨x, e, hx⟩ := hd_lt this (by omega)
     rw [e, List.dropWhile_cons, if_neg (by unfold noPc; simp [hx])]
   rw [← e]
   exact ⟨⟨P', h.up y.below⟩, hgr.trans (gr_below y.below _)⟩
  by_cases hn0 : n = 0
  ·have hnI : (n : Int) = 0 := by omega
   have := fin (.inl hn0)
   clear hn0
   go_wp2
   refine bodyPost_ret (results_none rfl _ _ _) rfl ?_
   exact ⟨rfl, this⟩
  ·have hnI : ¬ (n : Int) = 0 := by omega
   by_cases hq : q = 37
   ·have hqI : (q : Int) = 37 := by omega
    have := fin (.inr hq)
    clear hq
    have b1 : ((n : Int) == 0) = false := beq_eq_false_iff_ne.2 hnI
    go_wp2
    refine bodyPost_ret (results_none rfl _ _ _) rfl ?_
    exact ⟨rfl, this⟩
   ·have hqI : ¬ (q : Int) = 37 := by omega
    have hr : RdW s R F (P' + n) (l'.drop n) (y.w.setCell ⟨R, 0, none⟩ (.int .i64 ((P' + n : Nat)))) := (h.up y.below).put (drop_more h.d) (by rw [List.length_drop]; omega)
    have HL' : Hid ((l'.drop n).dropWhile noPc = l.dropWhile noPc) := by
     show _ = _
     rw [← HL.out, ← dw_more (l := l') (fun e => hq (by have := (nxt_is (l := l') (c := 37) (by omega) (by omega)).2 e; rw [HX.out] at this; exact this)), HX.out]
    have hlen : (l'.drop n).length ≤ gk - 1 := by rw [List.length_drop]; omega
    clear fin
    have b1 : ((n : Int) == 0) = false := beq_eq_false_iff_ne.2 hnI
    have b2 : ((q : Int) == 37) = false := beq_eq_false_iff_ne.2 hqI
    go_wp2
    go_roundg (gk - 1)
    case measure => omega
    case rel => exact ⟨P' + n, l'.drop n, hr, hlen, HL', gr_put (hgr.trans (gr_below y.below _)) _⟩
abbrev NuC (s : ByteArray) (R F P : Nat) (l : Bs) : Prop := ∀ w, RdW s R F P l w → ∀ P0 l0, s.data.toList.drop P0 = l0 → P0 + l0.length = s.size → Calls Tryz.prog 127 #[.pointer (some ⟨R, 0, none⟩), .int .i64 (P0 : Nat)] w fun e w' => e = .returned (.tuple #[.int .i64 (capD (dgs l0) : Nat), .int .i64 (P0 + (dgs l0).length : Nat)]) ∧ Below w.heap.size w w'
set_option maxRecDepth 1000000 in
set_option maxHeartbeats 1600000 in
theorem pnumber_any (s : ByteArray) (R F P : Nat) (l : Bs) : NuC s R F P l := fun w h P0 l0 hd0 he0 => by
 have hm := h.m
 have c1 : w.cell? ⟨R, 1, none⟩ = some (.func (.func 61) #[] #[.pointer (some ⟨F, 0, none⟩)]) := h.n
 have hR := lt_of_cell9 h.n
 have hF := h.f
 go_enter Tryz.func127, Tryz.ntmps127
 go_wp2
 go_loopg [1, 4, 6, 7] l0.length (fun g av nv x y wr => ∃ (P' n : Nat) (l' : Bs), av = .int .i64 (P' : Nat) ∧ nv = .int .i64 (n : Nat) ∧ Hid (s.data.toList.drop P' = l') ∧ P' + l'.length = s.size ∧ l'.length ≤ g ∧ n < 1000000000 ∧ Hid ((dgs l').foldl stepC n = capD (dgs l0)) ∧ Hid (P' + (dgs l').length = P0 + (dgs l0).length) ∧ Below w.heap.size w wr)
 case atStart => exact ⟨P0, 0, l0, rfl, rfl, hd0, he0, Nat.le_refl _, by omega, rfl, rfl, Below.refl _ _⟩
 case round =>
  obtain ⟨P', n, l', rfl, rfl, HD, he, hg, hn, HC, HP, hb⟩ := hrel
  obtain ⟨q, k, hx⟩ : ∃ q k, nxt l' = (q, k) := ⟨_, _, rfl⟩
  have f1 := (hb.cell hR).trans c1
  have hN := next_walk HD.out he hx wr ((hb.cell (lt_of_cell9 hF)).trans hF)
  have hdg := nxt_dg l'
  rw [hx] at hdg
  dsimp only at hdg
  by_cases hq : 48 ≤ q ∧ q ≤ 57
  ·have hh := hdg.1 hq
   obtain ⟨x, e, hxq⟩ := hd_lt (l := l') rfl (by unfold dg at hh; omega)
   have hxx : nxt l' = (q, 1) := by
    have := nxt_one (l := l') rfl (by unfold dg at hh; omega)
    rw [hx] at this
    dsimp only at this
    rw [hx, this]
   obtain rfl : k = 1 := by rw [hx] at hxx; injection hxx
   have hqx : x.toNat = q := by
    have := (nxt_is (l := l') (c := q) (by omega) (by omega)).1 (by rw [hx])
    omega
   have hlen : l'.length = l'.tail.length + 1 := by rw [e]; rfl
   have hdx : dg x.toNat := by rw [hqx]; exact hq
   obtain ⟨e1, e2⟩ := dgs_yes (t := l'.tail) hdx
   rw [← e] at e1 e2
   have HD' : Hid (s.data.toList.drop (P' + 1) = l'.tail) := (drop_more HD.out).trans (by simp)
   have HP' : Hid (P' + 1 + (dgs l'.tail).length = P0 + (dgs l0).length) := by
    show _ = _
    rw [← HP.out, e1, List.length_cons]; omega
   have q1 : ¬ (q : Int) < 48 := by omega
   have q2 : ¬ 57 < (q : Int) := by omega
   have hC2 := HC.out
   rw [e1, List.foldl_cons] at hC2
   by_cases hn8 : n < 100000000
   ·have HN8 : Hid (n < 100000000) := hn8
    have hs : stepC n x = 10 * n + (q - 48) := by unfold stepC; rw [if_pos hn8, hqx]
    rw [hs] at hC2
    have HC' : Hid ((dgs l'.tail).foldl stepC (10 * n + (q - 48)) = capD (dgs l0)) := hC2
    clear hs hC2 e1 e2 hxx hx hdg e hn8
    go_upto_region 4 with (go_at_call 61; refine hN.mono ?_; rintro e w2 ⟨rfl, hb2⟩)
    generalize hJ : (100000000 : Int) = J
    have hn8I : (n : Int) < J := by have := HN8.out; omega
    clear hJ
    go_wp2
    go_roundg (gk - 1)
    case measure => omega
    case rel => exact ⟨P' + 1, 10 * n + (q - 48), l'.tail, by go_num, by go_num, HD', by omega, by omega, by have := HN8.out; omega, HC', HP', hb.trans (hb2.mono hb.size)⟩
   ·have HN8 : Hid (¬ n < 100000000) := hn8
    have hs : stepC n x = n := by unfold stepC; rw [if_neg hn8]
    rw [hs] at hC2
    have HC' : Hid ((dgs l'.tail).foldl stepC n = capD (dgs l0)) := hC2
    clear hs hC2 e1 e2 hxx hx hdg e hn8
    go_upto_region 4 with (go_at_call 61; refine hN.mono ?_; rintro e w2 ⟨rfl, hb2⟩)
    generalize hJ : (100000000 : Int) = J
    have hn8I : ¬ (n : Int) < J := by have := HN8.out; omega
    clear hJ
    go_wp2
    go_roundg (gk - 1)
    case measure => omega
    case rel => exact ⟨P' + 1, n, l'.tail, by go_num, rfl, HD', by omega, by omega, hn, HC', HP', hb.trans (hb2.mono hb.size)⟩
  ·have hh : ¬ dg (hd l') := fun h => hq (hdg.2 h)
   obtain ⟨e1, e2⟩ := dgs_no hh
   have HF : Hid (n = capD (dgs l0) ∧ P' = P0 + (dgs l0).length) := by
    have a := HC.out
    have b := HP.out
    rw [e1] at a b
    exact ⟨a, b⟩
   clear hdg e1 e2 hx
   by_cases q1 : q < 48
   ·have q1I : (q : Int) < 48 := by omega
    clear hq
    go_wp2_with (go_at_call 61; refine hN.mono ?_; rintro e w2 ⟨rfl, hb2⟩)
    go_ret2
    obtain ⟨a, b⟩ := HF.out
    rw [← a, ← b]
    exact ⟨rfl, hb.trans (hb2.mono hb.size)⟩
   ·have q1I : ¬ (q : Int) < 48 := by omega
    have q2I : 57 < (q : Int) := by omega
    clear hq
    go_wp2_with (go_at_call 61; refine hN.mono ?_; rintro e w2 ⟨rfl, hb2⟩)
    go_ret2
    obtain ⟨a, b⟩ := HF.out
    rw [← a, ← b]
    exact ⟨rfl, hb.trans (hb2.mono hb.size)⟩
end Go.Proofs.YtdlnmnipnkeabaaGreatDoor
