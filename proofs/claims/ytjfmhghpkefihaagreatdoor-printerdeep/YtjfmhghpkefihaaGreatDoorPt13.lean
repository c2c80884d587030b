/- ZNum, PPure: these texts in one. -/
import Derived.Test.YtjfmhghpkefihaaGreatDoorPt12
import Derived.Test.YtjfmhghpkefihaaGreatDoorPt2
namespace Go.Proofs.YtjfmhghpkefihaaGreatDoor
open Go.RowKit
set_option linter.unusedVariables false
set_option linter.unusedSimpArgs false
set_option maxRecDepth 1000000 in
theorem newCall_nil (w : World) : Calls Tryz.prog 13 #[.slice none 0 0] w fun e w' => ∃ C M, e = .returned (.pointer (some ⟨C, 0, none⟩)) ∧ w.heap.size ≤ C ∧ w.heap.size ≤ M ∧ C < w'.heap.size ∧ M < w'.heap.size ∧ IsCall w' C M 0 ∧ Below w.heap.size w w' := by
 have hmm : ∀ w : World, (Instr.makeMap 59 none).run Tryz.prog w = .ok (.map (some w.heap.size)) (w.alloc (.map #[] 0)) := fun w => by kernel_rfl
 go_enter Tryz.func13, Tryz.ntmps13
 go_wp2
 go_ret
 refine ⟨w.heap.size + 1, w.heap.size, rfl, by omega, by omega, by simp, by simp; omega, ⟨by simp [go_sem], by simp [go_sem], by simp [go_sem], ?_⟩, by go_grown⟩
 rw [Below.heap_alloc _ _ _ (by simp), heap_alloc_new]
set_option maxRecDepth 1000000 in
theorem kind_any (k h : Int) (ty : ByteArray) (w : World) : Calls Tryz.prog 353 #[.agg #[.int .i64 k, .string ty, .int .i64 h]] w fun e w' => e = .returned (.int .i64 k) ∧ Below w.heap.size w w' := by
 go_enter Tryz.func353, Tryz.ntmps353
 go_wp2
 go_ret
 exact ⟨rfl, by go_grown⟩
def KdC (t : TypeId) (x : Value) (k : Int) (ty : ByteArray) (h : Int) : Prop := ∀ Z : World, Sem.run Tryz.prog (method 425 t x "Kind") Z = .ok (353, .agg #[.int .i64 k, .string ty, .int .i64 h]) Z
theorem kd_signed (k h : Int) (ty : ByteArray) (v0 : Value) : KdC 141 (.agg #[.int .i64 k, .string ty, .int .i64 h, v0]) k ty h := fun Z => by kernel_rfl
set_option maxRecDepth 1000000 in
theorem numberOf_I (n least : Int) (h0 : 0 ≤ n) (h1 : n ≤ 1000) (hl : least ≤ n) (w : World) : Calls Tryz.prog 155 #[VI 0 n, .int .i64 least] w fun e w' => e = .returned (.tuple #[.int .i64 n, .bool true]) ∧ Below w.heap.size w w' := by
 have hR := raw_I 0 n w h0 (by omega)
 have hkd := kd_signed 6 0 ⟨#[]⟩ (.int .i64 n)
 unfold KdC at hkd
 have hf : ∀ w, (Instr.field 29 (DI 0 n) 2).run Tryz.prog w = .ok (.int .u64 n) w := fun w => by kernel_rfl
 have hk := kind_any 6 0 ⟨#[]⟩
 go_enter Tryz.func155, Tryz.ntmps155
 go_wp2_with (first | (go_at_call 102; refine hR.mono ?_; rintro e V ⟨rfl, hV⟩) | (first | rw [hkd] | skip; go_at_call 353; refine (hk _).mono ?_; rintro e V2 ⟨rfl, hV2⟩))
 go_ret2
 exact ⟨rfl, hV.trans (hV2.mono hV.size)⟩
structure En (w : World) (g C M : Nat) (l : List UInt8) (dp : Int) (av : Value) (vs : List Value) (nx : Int) : Prop where
 v : Env w g C M l 0 dp av nx
 o : 2 < g ∧ 0 < g ∧ C < g ∧ M < g
 a : ∃ a c, av = .slice a vs.length c ∧ vs.length ≤ c ∧ c ≤ maxLen ∧ ∀ (j : Nat) (u : Value), vs[j]? = some u → ∃ A, a = some ⟨A, 0, none⟩ ∧ A ≠ g ∧ w.cell? ⟨A, j, none⟩ = some u
theorem En.kept {w w' : World} {g C M : Nat} {l l' : List UInt8} {dp : Int} {av : Value} {vs : List Value} {nx nx' : Int} (h : En w g C M l dp av vs nx) (k : Kx (fun k => k = g) w w') (p : IsPr w' g l' (prT C dp av nx')) : En w' g C M l' dp av vs nx' := by
 obtain ⟨⟨p0, c, e, kn, n0⟩, ⟨o1, o2, o3, o4⟩, a, c', rfl, hc1, hc2, ha⟩ := h
 refine ⟨⟨p, c.kept k (by omega) (by omega), ⟨Nat.lt_of_lt_of_le e.1 k.size, fun i hi => k.cell (e.2 i hi) (by dsimp only; omega)⟩, fun i s hs => k.cell (kn i s hs) (by dsimp only; omega), n0⟩, ⟨o1, o2, o3, o4⟩, a, c', rfl, hc1, hc2, fun j u hu => ?_⟩
 obtain ⟨A, rfl, hA, hcl⟩ := ha j u hu
 exact ⟨A, rfl, hA, k.cell hcl hA⟩
theorem En.up {w w' : World} {g C M : Nat} {l : List UInt8} {dp : Int} {av : Value} {vs : List Value} {nx : Int} (h : En w g C M l dp av vs nx) (b : Below w.heap.size w w') : En w' g C M l dp av vs nx := h.kept (.of_below b) (h.v.p.below b)
theorem En.lt {w : World} {g C M : Nat} {l : List UInt8} {dp : Int} {av : Value} {vs : List Value} {nx : Int} (h : En w g C M l dp av vs nx) : g < w.heap.size := h.v.p.lt
set_option maxRecDepth 1000000 in
set_option maxHeartbeats 1000000 in
theorem take_next {w : World} {g C M : Nat} {l : List UInt8} {dp : Int} {av : Value} {vs : List Value} (i : Nat) (hE : En w g C M l dp av vs ((i : Int) + 1)) (t : TypeId) (x : Value) (hi : vs[i]? = some (.iface t x)) (m : Int) (hlen : vs.length ≤ 1000) :
  Calls Tryz.prog 67 #[.pointer (some ⟨g, 0, none⟩), .agg #[.int .i64 0, .int .i64 m]] w fun e w' => e = .returned (.tuple #[.iface t x, .bool true]) ∧ En w' g C M l dp av vs ((i : Int) + 2) ∧ Kx (fun k => k = g) w w' := by
 have hil : i < vs.length := (List.getElem?_eq_some_iff.1 hi).1
 obtain ⟨a, c, rfl, hc1, hc2, ha⟩ := hE.a
 obtain ⟨A, rfl, hA, hcl⟩ := ha i _ hi
 obtain ⟨W1, hW1⟩ : ∃ W1, W1 = w.alloc (.cells #[.int .i64 0, .int .i64 m] 82) := ⟨_, rfl⟩
 have b1 : Below w.heap.size w W1 := by rw [hW1]; exact (Below.refl _ _).alloc (Nat.le_refl _) _
 have e1 := hE.up b1
 have q3 : W1.cell? ⟨g, 4100, none⟩ = some (.int .i64 ((i : Int) + 1)) := e1.v.p.tl (i := 3) rfl
 have q2 : W1.cell? ⟨g, 4099, none⟩ = some (.slice (some ⟨A, 0, none⟩) vs.length c) := e1.v.p.tl (i := 2) rfl
 have qf : W1.frozen? ⟨g, 4100, none⟩ = false := e1.v.p.mid.frozen 4100
 have qa := up_cell b1 hcl
 have c0 : W1.cell? ⟨w.heap.size, 0, none⟩ = some (.int .i64 0) := by rw [hW1]; simp [go_sem]
 have c1 : W1.cell? ⟨w.heap.size, 1, none⟩ = some (.int .i64 m) := by rw [hW1]; simp [go_sem]
 obtain ⟨W2, hW2⟩ : ∃ W2, W2 = W1.setCell ⟨g, 4100, none⟩ (.int .i64 ((i : Int) + 2)) := ⟨_, rfl⟩
 have k2 : Kx (fun k => k = g) w W2 := by rw [hW2]; exact (Kx.of_below (P := fun k => k = g) b1).setCell g 4100 (Or.inl rfl) _
 have p2 : IsPr W2 g l (prT C dp (.slice (some ⟨A, 0, none⟩) vs.length c) ((i : Int) + 2)) := by
  have := e1.v.p.put 3 (.int .i64 ((i : Int) + 2))
  rw [hW2]
  exact this
 have q4 : W2.cell? ⟨g, 4099, none⟩ = some (.slice (some ⟨A, 0, none⟩) vs.length c) := p2.tl (i := 2) rfl
 have q5 : W2.cell? ⟨A, i, none⟩ = some (.iface t x) := k2.cell hcl hA
 have hle : ¬ ((i : Int) + 1 > vs.length) := by omega
 have hlI : (i : Int) < vs.length := by omega
 have E2 := hE.kept k2 p2
 have hlenI : (vs.length : Int) ≤ 1000 := by omega
 clear e1 b1 hi ha hcl p2 hE
 go_enter Tryz.func67, Tryz.ntmps67
 go_upto_region 1 with fail
 rw [← hW1]
 clear hW1
 go_upto_region 10 with fail
 rw [show (i : Int) + 1 + 1 = (i : Int) + 2 by omega, ← hW2]
 clear hW2
 go_wp2
 go_ret2
 exact ⟨rfl, E2, k2⟩
end Go.Proofs.YtjfmhghpkefihaaGreatDoor
namespace Go.Proofs.YtjfmhghpkefihaaGreatDoor
open Go.RowKit
set_option linter.unusedVariables false
set_option linter.unusedSimpArgs false
abbrev Bs := List UInt8
def hd : Bs → Nat
 | [] => 256
 | x :: _ => x.toNat
theorem hd_lt {l : Bs} {c : Nat} (h : hd l = c) (hc : c < 256) : ∃ x, l = x :: l.tail ∧ x.toNat = c := by
 cases l with
 | nil => simp [hd] at h; omega
 | cons x t => exact ⟨x, rfl, h⟩
def nxt : Bs → Nat × Nat
 | [] => (0, 0)
 | x :: t => Lib.decodeL (x :: t)
theorem nxt_ascii (b : UInt8) (t : Bs) (h : b.toNat < 128) : nxt (b :: t) = (b.toNat, 1) := by
 show Lib.decodeL (b :: t) = _
 rw [Lib.decodeL_N]
 unfold Lib.decodeN
 simp [h]
theorem dl_high (b : UInt8) (t : Bs) (h : 128 ≤ b.toNat) : 128 ≤ (Lib.decodeL (b :: t)).1 ∧ 1 ≤ (Lib.decodeL (b :: t)).2 ∧ (Lib.decodeL (b :: t)).2 ≤ (b :: t).length ∧ ∀ i, i < (Lib.decodeL (b :: t)).2 → 128 ≤ ((b :: t).getD i 0).toNat := by
 rw [Lib.decodeL_N]
 have h0 : ((b :: t).getD 0 0).toNat = b.toNat := rfl
 rcases Lib.decodeN_shape (b :: t).length ((b :: t).getD 0 0).toNat ((b :: t).getD 1 0).toNat ((b :: t).getD 2 0).toNat ((b :: t).getD 3 0).toNat with ⟨c, e⟩ | ⟨c1, c2, c3, cv, e⟩ | ⟨c1, c2, c3, c4, cv, cs, e⟩ | ⟨c1, c2, c3, c4, c5, cv, cw, e⟩ | e
 ·omega
 all_goals (rw [e]; dsimp only)
 ·refine ⟨by omega, by omega, by omega, fun i hi => ?_⟩
  rcases (by omega : i = 0 ∨ i = 1) with rfl | rfl <;> omega
 ·refine ⟨by omega, by omega, by omega, fun i hi => ?_⟩
  rcases (by omega : i = 0 ∨ i = 1 ∨ i = 2) with rfl | rfl | rfl <;> omega
 ·refine ⟨by omega, by omega, by omega, fun i hi => ?_⟩
  rcases (by omega : i = 0 ∨ i = 1 ∨ i = 2 ∨ i = 3) with rfl | rfl | rfl | rfl <;> omega
 ·refine ⟨by omega, by omega, by simp, fun i hi => ?_⟩
  obtain rfl : i = 0 := by omega
  omega
theorem nxt_is {l : Bs} {c : Nat} (h1 : 1 ≤ c) (hc : c < 128) : (nxt l).1 = c ↔ hd l = c := by
 cases l with
 | nil => simp [nxt, hd]; omega
 | cons x t =>
   by_cases h : x.toNat < 128
   ·rw [nxt_ascii x t h]; rfl
   ·have := (dl_high x t (by omega)).1
    show (Lib.decodeL (x :: t)).1 = c ↔ x.toNat = c
    omega
theorem nxt_one {l : Bs} {c : Nat} (h : hd l = c) (hc : c < 128) : (nxt l).2 = 1 := by
 obtain ⟨x, e, hx⟩ := hd_lt h (by omega)
 rw [e, nxt_ascii x _ (by omega)]
theorem nxt_le (l : Bs) : (nxt l).2 ≤ l.length := by
 cases l with
 | nil => simp [nxt]
 | cons x t => exact Lib.decodeL_le _ (by simp)
theorem nxt_pos {l : Bs} (h : l ≠ []) : 1 ≤ (nxt l).2 := by
 cases l with
 | nil => exact absurd rfl h
 | cons x t => exact Lib.decodeL_width _
theorem nxt_none (l : Bs) : (nxt l).2 = 0 ↔ l = [] := by
 constructor
 ·intro h
  cases l with
  | nil => rfl
  | cons x t => have := nxt_pos (l := x :: t) (by simp); omega
 ·rintro rfl; rfl
def isDg (x : UInt8) : Bool := decide (48 ≤ x.toNat) && decide (x.toNat ≤ 57)
def dgs (l : Bs) : Bs := l.takeWhile isDg
def aft (l : Bs) : Bs := l.dropWhile isDg
theorem dgs_aft (l : Bs) : dgs l ++ aft l = l := List.takeWhile_append_dropWhile
def dg (n : Nat) : Prop := 48 ≤ n ∧ n ≤ 57
theorem dgs_no {l : Bs} (h : ¬ dg (hd l)) : dgs l = [] ∧ aft l = l := by
 cases l with
 | nil => exact ⟨rfl, rfl⟩
 | cons x t =>
   have hx : isDg x = false := by
    have h' : ¬ (48 ≤ x.toNat ∧ x.toNat ≤ 57) := h
    unfold isDg
    rw [Bool.and_eq_false_iff]
    simp only [decide_eq_false_iff_not]
    omega
   constructor
   ·simp [dgs, List.takeWhile, hx]
   ·simp [aft, List.dropWhile, hx]
theorem dgs_yes {x : UInt8} {t : Bs} (h : dg x.toNat) : dgs (x :: t) = x :: dgs t ∧ aft (x :: t) = aft t := by
 have hx : isDg x = true := by
  unfold isDg; unfold dg at h
  simp [h.1, h.2]
 constructor
 ·simp [dgs, List.takeWhile, hx]
 ·simp [aft, List.dropWhile, hx]
theorem nxt_dg (l : Bs) : (48 ≤ (nxt l).1 ∧ (nxt l).1 ≤ 57) ↔ dg (hd l) := by
 unfold dg
 constructor
 ·rintro ⟨h1, h2⟩
  have := (nxt_is (l := l) (c := (nxt l).1) (by omega) (by omega)).1 rfl
  omega
 ·rintro ⟨h1, h2⟩
  have := (nxt_is (l := l) (c := hd l) (by omega) (by omega)).2 rfl
  omega
def stepV (n : Nat) (x : UInt8) : Nat := 10 * n + (x.toNat - 48)
def valD (ds : Bs) : Nat := ds.foldl stepV 0
def stepC (n : Nat) (x : UInt8) : Nat := if n < 100000000 then 10 * n + (x.toNat - 48) else n
def capD (ds : Bs) : Nat := ds.foldl stepC 0
theorem foldV_ge (ds : Bs) : ∀ n, n ≤ ds.foldl stepV n := by
 induction ds with
 | nil => intro n; exact Nat.le_refl _
 | cons x t ih => intro n; exact Nat.le_trans (by unfold stepV; omega) (ih _)
theorem foldC_big (ds : Bs) : ∀ n, 100000000 ≤ n → ds.foldl stepC n = n := by
 induction ds with
 | nil => intro n _; rfl
 | cons x t ih => intro n h; rw [List.foldl_cons]; unfold stepC; rw [if_neg (by omega)]; exact ih n h
theorem fold_cap (ds : Bs) : ∀ n, ds.foldl stepC n = ds.foldl stepV n ∨ (100000000 ≤ ds.foldl stepC n ∧ 100000000 ≤ ds.foldl stepV n) := by
 induction ds with
 | nil => intro n; exact .inl rfl
 | cons x t ih =>
   intro n
   by_cases h : n < 100000000
   ·rw [List.foldl_cons, List.foldl_cons]
    have : stepC n x = stepV n x := by unfold stepC stepV; rw [if_pos h]
    rw [this]; exact ih _
   ·right
    have h1 := foldC_big (x :: t) n (by omega)
    have h2 := foldV_ge (x :: t) n
    omega
theorem dgs_all (l : Bs) : ∀ x ∈ dgs l, dg x.toNat := by
 induction l with
 | nil => intro x hx; cases hx
 | cons y t ih =>
   intro x hx
   by_cases h : dg y.toNat
   ·rw [(dgs_yes h).1] at hx
    rcases List.mem_cons.1 hx with rfl | hx
    ·exact h
    ·exact ih x hx
   ·rw [(dgs_no (l := y :: t) h).1] at hx; cases hx
theorem foldC_few (ds : Bs) (hd : ∀ x ∈ ds, dg x.toNat) : ∀ n k, n < 10 ^ k → k + ds.length ≤ 9 → ds.foldl stepC n = ds.foldl stepV n := by
 induction ds with
 | nil => intro n k _ _; rfl
 | cons x t ih =>
   intro n k h hk
   rw [List.length_cons] at hk
   have hx := hd x (List.mem_cons_self ..)
   unfold dg at hx
   have h8 : n < 100000000 := Nat.lt_of_lt_of_le h (Nat.pow_le_pow_right (n := 10) (by omega) (show k ≤ 8 by omega))
   have : stepC n x = stepV n x := by unfold stepC stepV; rw [if_pos h8]
   rw [List.foldl_cons, List.foldl_cons, this]
   refine ih (fun y hy => hd y (List.mem_cons_of_mem _ hy)) _ (k + 1) ?_ (by omega)
   unfold stepV
   rw [Nat.pow_succ]
   omega
theorem cap_few {ds : Bs} (hd : ∀ x ∈ ds, dg x.toNat) (h : ds.length ≤ 9) : capD ds = valD ds := foldC_few ds hd 0 0 (by omega) (by omega)
def wN (ds : Bs) : Int := if 1000 < valD ds then -1 else (valD ds : Int)
theorem cap_wide (ds : Bs) : (if 1000 < capD ds then (-1 : Int) else (capD ds : Int)) = wN ds := by
 unfold wN
 rcases fold_cap ds 0 with h | ⟨h1, h2⟩
 ·have : capD ds = valD ds := h
  rw [this]
 ·have a : 100000000 ≤ capD ds := h1
  have b : 100000000 ≤ valD ds := h2
  rw [if_pos (by omega), if_pos (by omega)]
structure Ix where
 k : Nat
 n : Nat
structure Nb where
 k : Nat
 n : Int
 a : Ix
structure Fl where
 p : Bool
 m : Bool
 s : Bool
 b : Bool
 z : Bool
def ix0 : Ix := ⟨0, 0⟩
def ix2 : Ix := ⟨2, 0⟩
def nb0 : Nb := ⟨0, 0, ix0⟩
def fl0 : Fl := ⟨false, false, false, false, false⟩
def ixG (ds : Bs) : Ix := if ds.length ≤ 9 ∧ 0 < valD ds then ⟨1, valD ds⟩ else ix2
def idx (l : Bs) : Ix × Bs :=
 if hd l = 91 then
  (if dgs l.tail ≠ [] ∧ hd (aft l.tail) = 93 then (ixG (dgs l.tail), (aft l.tail).tail) else (ix2, l.tail))
 else (ix0, l)
def spl (x : Ix) : Ix := if x.k = 0 then x else ix2
def flg : Bs → Fl → Fl × Bs
 | [], f => (f, [])
 | x :: t, f =>
   if x.toNat = 43 then flg t ⟨true, f.m, f.s, f.b, f.z⟩
   else if x.toNat = 45 then flg t ⟨f.p, true, f.s, f.b, f.z⟩
   else if x.toNat = 35 then flg t ⟨f.p, f.m, true, f.b, f.z⟩
   else if x.toNat = 32 then flg t ⟨f.p, f.m, f.s, true, f.z⟩
   else if x.toNat = 48 then flg t ⟨f.p, f.m, f.s, f.b, true⟩
   else (f, x :: t)
def wdh (l : Bs) : Nb × Ix × Bs :=
 if hd (idx l).2 = 42 then (⟨2, 0, (idx l).1⟩, ix0, (idx l).2.tail)
 else if 49 ≤ hd (idx l).2 ∧ hd (idx l).2 ≤ 57 then (⟨1, wN (dgs (idx l).2), ix0⟩, spl (idx l).1, aft (idx l).2)
 else (nb0, (idx l).1, (idx l).2)
def prc (l : Bs) : Nb × Ix × Bs :=
 if hd (idx l).2 = 42 then (⟨2, 0, (idx l).1⟩, ix0, (idx l).2.tail)
 else (⟨1, wN (dgs (idx l).2), ix0⟩, (if dgs (idx l).2 = [] then (idx l).1 else spl (idx l).1), aft (idx l).2)
def mid (l : Bs) : Nb × Ix × Nb × Ix × Bs :=
 if hd (wdh l).2.2 = 46 then ((wdh l).1, spl (wdh l).2.1, (prc (wdh l).2.2.tail).1, (prc (wdh l).2.2.tail).2.1, (prc (wdh l).2.2.tail).2.2)
 else ((wdh l).1, (wdh l).2.1, nb0, ix0, (wdh l).2.2)
def sgl (a b c : Ix) : Ix :=
 if a.k = 0 then (if b.k = 0 then (if c.k = 0 then ix0 else c) else (if c.k = 0 then b else ix2))
 else (if b.k = 0 then (if c.k = 0 then a else ix2) else ix2)
structure Pc where
 kind : Nat
 text : Bs
 fl : Fl
 sz : Int
 verb : Nat
 wid : Nb
 prec : Nb
 arg : Ix
def ahd (l : Bs) : Bs := (idx (mid (flg l fl0).2).2.2.2.2).2
def drest (l : Bs) : Bs := (ahd l).drop (nxt (ahd l)).2
def dir (l : Bs) (t : Bs) : Pc :=
 ⟨if (nxt (ahd l)).2 = 0 then 2 else 1, t, (flg l fl0).1, -1, (nxt (ahd l)).1, (mid (flg l fl0).2).1, (mid (flg l fl0).2).2.2.1,
  sgl (mid (flg l fl0).2).2.1 (mid (flg l fl0).2).2.2.2.1 (idx (mid (flg l fl0).2).2.2.2.2).1⟩
def lit (t : Bs) : Pc := ⟨0, t, fl0, 0, 0, nb0, nb0, ix0⟩
def noPc (x : UInt8) : Bool := decide (x.toNat ≠ 37)
def pce (l : Bs) (t : Bs) : Pc := if hd l = 37 then dir l.tail t else lit t
def prest (l : Bs) : Bs := if hd l = 37 then drest l.tail else l.dropWhile noPc
def prsN : Nat → Bs → List Pc
 | 0, _ => []
 | n + 1, l => if l = [] then [] else pce l (l.take (l.length - (prest l).length)) :: prsN n (prest l)
def prs (l : Bs) : List Pc := prsN l.length l
theorem suf_tail {l : Bs} : l.tail <:+ l := by cases l with | nil => exact List.suffix_refl _ | cons x t => exact ⟨[x], rfl⟩
theorem suf_aft (l : Bs) : aft l <:+ l := ⟨dgs l, dgs_aft l⟩
theorem idx_suf (l : Bs) : (idx l).2 <:+ l := by
 unfold idx
 split
 ·split
  ·exact (suf_tail.trans (suf_aft _)).trans suf_tail
  ·exact suf_tail
 ·exact List.suffix_refl _
theorem flg_suf (l : Bs) : ∀ f, (flg l f).2 <:+ l := by
 induction l with
 | nil => intro f; exact List.suffix_refl _
 | cons x t ih =>
   intro f
   have h := fun f => (ih f).trans (⟨[x], rfl⟩ : t <:+ x :: t)
   unfold flg
   repeat' split
   all_goals first | exact h _ | exact List.suffix_refl _
theorem wdh_suf (l : Bs) : (wdh l).2.2 <:+ l := by
 unfold wdh
 repeat' split
 ·exact suf_tail.trans (idx_suf l)
 ·exact (suf_aft _).trans (idx_suf l)
 ·exact idx_suf l
theorem prc_suf (l : Bs) : (prc l).2.2 <:+ l := by
 unfold prc
 split
 ·exact suf_tail.trans (idx_suf l)
 ·exact (suf_aft _).trans (idx_suf l)
theorem mid_suf (l : Bs) : (mid l).2.2.2.2 <:+ l := by
 unfold mid
 split
 ·exact ((prc_suf _).trans suf_tail).trans (wdh_suf l)
 ·exact wdh_suf l
theorem ahd_suf (l : Bs) : ahd l <:+ l := ((idx_suf _).trans (mid_suf _)).trans (flg_suf l fl0)
theorem drest_suf (l : Bs) : drest l <:+ l := (List.drop_suffix _ _).trans (ahd_suf l)
theorem prest_lt {l : Bs} (h : l ≠ []) : (prest l).length < l.length := by
 cases l with
 | nil => exact absurd rfl h
 | cons x t =>
   unfold prest
   split
   ·have := (drest_suf t).length_le
    show (drest t).length < _
    simp; omega
   ·rename_i h37
    have hx : noPc x = true := by unfold noPc; simpa [hd] using h37
    rw [List.dropWhile_cons, if_pos hx]
    have := (List.dropWhile_suffix noPc (l := t)).length_le
    simp; omega
theorem prsN_more : ∀ (n m : Nat) (l : Bs), l.length ≤ n → l.length ≤ m → prsN n l = prsN m l
 | 0, 0, _, _, _ => rfl
 | 0, m + 1, l, h, _ => by
   have : l = [] := List.eq_nil_of_length_eq_zero (by omega)
   subst this; simp [prsN]
 | n + 1, 0, l, _, h => by
   have : l = [] := List.eq_nil_of_length_eq_zero (by omega)
   subst this; simp [prsN]
 | n + 1, m + 1, l, hn, hm => by
   by_cases h : l = []
   ·simp [prsN, h]
   ·have := prest_lt h
    simp only [prsN, if_neg h]
    rw [prsN_more n m _ (by omega) (by omega)]
theorem prs_nil : prs [] = [] := rfl
theorem prs_step {l : Bs} (h : l ≠ []) : prs l = pce l (l.take (l.length - (prest l).length)) :: prs (prest l) := by
 have := prest_lt h
 unfold prs
 obtain ⟨n, hn⟩ : ∃ n, l.length = n + 1 := ⟨l.length - 1, by omega⟩
 rw [hn]
 simp only [prsN, if_neg h]
 rw [← hn, prsN_more n _ _ (by omega) (Nat.le_refl _)]
theorem prs_len (l : Bs) : (prs l).length ≤ l.length := by
 have : ∀ n (l : Bs), (prsN n l).length ≤ n := by
  intro n
  induction n with
  | zero => intro l; simp [prsN]
  | succ n ih =>
    intro l
    unfold prsN
    split
    ·simp
    ·have := ih (prest l); simp; omega
 exact this _ _
end Go.Proofs.YtjfmhghpkefihaaGreatDoor
