/- PLive, ZPc, ZDir, ZStar, DCopy: these texts in one. -/
import Derived.Test.YtjfmhghpkefihaaGreatDoorPt18
import Derived.Test.YtjfmhghpkefihaaGreatDoorPt13
import Derived.Test.YtjfmhghpkefihaaGreatDoorPt4
namespace Go.Proofs.YtjfmhghpkefihaaGreatDoor
open Go.RowKit
set_option linter.unusedVariables false
set_option linter.unusedSimpArgs false
theorem own_cell9 {w : World} {b : Nat} {e : TypeId} {z : Nat} {a : Option Addr} {n c : Nat} {xs : List Value} (h : w.ownsRow b e z (.slice a n c) n xs) (hn : 0 < n) : ∃ g, a = some ⟨g, 0, none⟩ ∧ b ≤ g ∧ g < w.heap.size ∧ ∀ j v, xs[j]? = some v → w.cell? ⟨g, j, none⟩ = some v := by
 rcases h.2 with ⟨e, h0⟩ | ⟨g, cap, cur, e, hb, hg, -, -, -, ht⟩
 ·omega
 ·obtain ⟨rfl, -, rfl⟩ := Value.slice.inj e
  have hl := h.lt g rfl
  refine ⟨g, rfl, hb, hl.2, fun j v hv => ?_⟩
  have := h.cells (g := g) rfl j v hv
  rwa [Addr.add_mid, Nat.zero_add] at this
end Go.Proofs.YtjfmhghpkefihaaGreatDoor
namespace Go.Proofs.YtjfmhghpkefihaaGreatDoor
open Go.RowKit
set_option linter.unusedVariables false
set_option linter.unusedSimpArgs false
def RowAt (w : World) (g : Nat) (ps : List Pc) : Prop := ∀ (j : Nat) (p : Pc), ps[j]? = some p → w.rangeAt g (j * 20) (pcV p (ba p.text))
theorem rowP_at : ∀ (ps : List Pc) (j : Nat) (p : Pc), ps[j]? = some p → ∀ i v, (pcV p (ba p.text))[i]? = some v → (rowP ps)[j * 20 + i]? = some v
 | [], _, _, h, _, _, _ => by simp at h
 | q :: t, 0, p, h, i, v, hv => by
   simp at h
   subst h
   have hi : i < (pcV q (ba q.text)).length := (List.getElem?_eq_some_iff.1 hv).1
   rw [rowP, Nat.zero_mul, Nat.zero_add, List.getElem?_append_left hi]
   exact hv
 | q :: t, j + 1, p, h, i, v, hv => by
   have hl : (pcV q (ba q.text)).length = 20 := rfl
   rw [rowP, List.getElem?_append_right (by rw [hl]; omega), hl, show (j + 1) * 20 + i - 20 = j * 20 + i by omega]
   exact rowP_at t j p (by simpa using h) i v hv
theorem own_row {w : World} {b : Nat} {a : Option Addr} {c : Nat} {ps : List Pc} (h : w.ownsRow b 86 20 (.slice a ps.length c) ps.length (rowP ps)) (hn : 0 < ps.length) : ∃ g, a = some ⟨g, 0, none⟩ ∧ b ≤ g ∧ g < w.heap.size ∧ RowAt w g ps := by
 obtain ⟨g, rfl, h1, h2, h3⟩ := own_cell9 h hn
 exact ⟨g, rfl, h1, h2, fun j p hj i v hv => h3 _ _ (rowP_at ps j p hj i v hv)⟩
theorem RowAt.up {w w' : World} {g : Nat} {ps : List Pc} (h : RowAt w g ps) (hg : g < w.heap.size) (hb : Below w.heap.size w w') : RowAt w' g ps := fun j p hj i v hv => (hb.cell (p := ⟨g, j * 20 + i, none⟩) hg).trans (h j p hj i v hv)
theorem RowAt.kept {w w' : World} {g : Nat} {ps : List Pc} (h : RowAt w g ps) (hb : w'.heap[g]? = w.heap[g]?) : RowAt w' g ps := fun j p hj i v hv => (World.cell?_of_block (a := ⟨g, j * 20 + i, none⟩) hb).trans (h j p hj i v hv)
theorem row_Piece : Row 86 20 := ⟨⟨_, Tryz.underlying86, rfl⟩, by kernel_rfl⟩
structure Cls (p : Pc) (t : ByteArray) (H : List Value) : Prop where
 l : H.length = 20
 one : ∀ u ∈ H, u.oneCell' = true
 e : H = pcV p t
theorem Cls.at {p : Pc} {t : ByteArray} {H : List Value} (h : Cls p t H) (w : World) : Blk (w.alloc (.cells H.toArray 86)) w.heap.size H := Blk.new w H 86
set_option maxRecDepth 1000000 in
theorem hasIndex_no (p : Pc) (t : ByteArray) (h1 : p.arg.k = 0) (h2 : p.wid.a.k = 0) (h3 : p.prec.a.k = 0) (w : World) :
  Calls Tryz.prog 33 #[.agg (pcV p t).toArray] w fun e w' => e = .returned (.bool false) ∧ Below w.heap.size w w' := by
 have c1 : (pcV p t)[18]? = some (.int .i64 0) := by unfold pcV pieceV; rw [h1]; rfl
 have c2 : (pcV p t)[12]? = some (.int .i64 0) := by unfold pcV pieceV; rw [h2]; rfl
 have c3 : (pcV p t)[16]? = some (.int .i64 0) := by unfold pcV pieceV; rw [h3]; rfl
 generalize pcV p t = H at *
 obtain ⟨W1, hW1⟩ : ∃ W1, W1 = w.alloc (.cells H.toArray 86) := ⟨_, rfl⟩
 have hB : Blk W1 w.heap.size H := by rw [hW1]; exact Blk.new w H 86
 have b1 : Below w.heap.size w W1 := by rw [hW1]; exact (Below.refl _ _).alloc (Nat.le_refl _) _
 have d1 := hB.c _ _ c1
 have d2 := hB.c _ _ c2
 have d3 := hB.c _ _ c3
 clear hB h1 h2 h3
 go_enter Tryz.func33, Tryz.ntmps33
 go_upto_region 1 with fail
 rw [← hW1]
 clear hW1
 go_wp2
 go_ret
 exact ⟨rfl, b1⟩
set_option maxRecDepth 1000000 in
set_option maxHeartbeats 1000000 in
theorem indexF_no (ps : List Pc) (a : Option Addr) (c : Nat) (w : World) (hlen : ps.length ≤ 100000) (hrow : 0 < ps.length → ∃ g, a = some ⟨g, 0, none⟩ ∧ g < w.heap.size ∧ RowAt w g ps) (hno : ∀ p ∈ ps, p.arg.k = 0 ∧ p.wid.a.k = 0 ∧ p.prec.a.k = 0) :
  Calls Tryz.prog 46 #[.slice a ps.length c, .func (.func 33) #[] #[]] w fun e w' => e = .returned (.int .i64 (-1)) ∧ Below w.heap.size w w' := by
 have hlI : (ps.length : Int) ≤ 100000 := by omega
 go_enter Tryz.func46, Tryz.ntmps46
 go_wp2
 go_loopg [5, 8] ps.length (fun gg z i wr => ∃ j : Nat, i = .int .i64 j ∧ j + gg = ps.length ∧ Below w.heap.size w wr)
 case atStart => exact ⟨0, rfl, Nat.zero_add _, Below.refl _ _⟩
 case round =>
  obtain ⟨j, rfl, hjg, hb⟩ := hrel
  by_cases hlt : j < ps.length
  ·have hltI : (j : Int) < ps.length := by omega
   obtain ⟨g, rfl, hg, hR⟩ := hrow (by omega)
   obtain ⟨p, hp⟩ : ∃ p, ps[j]? = some p := ⟨ps[j], List.getElem?_eq_getElem hlt⟩
   have hr : wr.rangeAt g (j * 20) (pcV p (ba p.text)) := fun i v hv => (hb.cell (p := ⟨g, j * 20 + i, none⟩) hg).trans (hR j p hp i v hv)
   obtain ⟨n1, n2, n3⟩ := hno p (List.mem_of_getElem? hp)
   have hC := hasIndex_no p (ba p.text) n1 n2 n3 wr
   have hl : (pcV p (ba p.text)).length = 20 := rfl
   clear hp hR hno hrow n1 n2 n3
   generalize pcV p (ba p.text) = H at *
   go_wp2_with (first | (refine wpl_ld row_Piece rfl (.tmp 14) rfl rfl hr hl ?_) | (go_at_call 33; refine hC.mono ?_; rintro e V ⟨rfl, bV⟩))
   go_roundg (gk - 1)
   case measure => omega
   case rel => exact ⟨j + 1, by go_num, by omega, hb.trans (bV.mono hb.size)⟩
  ·have hltI : ¬ (j : Int) < ps.length := by omega
   go_wp2
   go_ret
   exact ⟨rfl, hb⟩
theorem contains_no (ps : List Pc) (a : Option Addr) (c : Nat) (w : World) (hlen : ps.length ≤ 100000) (hrow : 0 < ps.length → ∃ g, a = some ⟨g, 0, none⟩ ∧ g < w.heap.size ∧ RowAt w g ps) (hno : ∀ p ∈ ps, p.arg.k = 0 ∧ p.wid.a.k = 0 ∧ p.prec.a.k = 0) :
  Calls Tryz.prog 32 #[.slice a ps.length c, .func (.func 33) #[] #[]] w fun e w' => e = .returned (.bool false) ∧ Below w.heap.size w w' := by
 have hI := indexF_no ps a c w hlen hrow hno
 clear hrow hno
 go_enter Tryz.func32, Tryz.ntmps32
 go_wp2_with (go_at_call 46; refine hI.mono ?_; rintro e V ⟨rfl, bV⟩)
 go_ret
 exact ⟨rfl, bV⟩
set_option maxRecDepth 1000000 in
set_option maxHeartbeats 1000000 in
theorem number_star {w : World} {g C M : Nat} {l : List UInt8} {dp : Int} {av : Value} {vs : List Value} (i : Nat) (hE : En w g C M l dp av vs ((i : Int) + 1)) (n : Int) (hi : vs[i]? = some (VI 0 n)) (hlen : vs.length ≤ 1000) (m0 m1 least : Int) (h0 : 0 ≤ n) (h1 : n ≤ 1000) (hl : least ≤ n) :
  Calls Tryz.prog 109 #[.pointer (some ⟨g, 0, none⟩), .agg #[.int .i64 2, .int .i64 m0, .int .i64 0, .int .i64 m1], .int .i64 least] w fun e w' => e = .returned (.tuple #[.int .i64 n, .bool true]) ∧ En w' g C M l dp av vs ((i : Int) + 2) ∧ Kx (fun k => k = g) w w' := by
 obtain ⟨W1, hW1⟩ : ∃ W1, W1 = w.alloc (.cells #[.int .i64 2, .int .i64 m0, .int .i64 0, .int .i64 m1] 84) := ⟨_, rfl⟩
 have b1 : Below w.heap.size w W1 := by rw [hW1]; exact (Below.refl _ _).alloc (Nat.le_refl _) _
 have c0 : W1.cell? ⟨w.heap.size, 0, none⟩ = some (.int .i64 2) := by rw [hW1]; simp [go_sem]
 have c2 : W1.cell? ⟨w.heap.size, 2, none⟩ = some (.int .i64 0) := by rw [hW1]; simp [go_sem]
 have c3 : W1.cell? ⟨w.heap.size, 3, none⟩ = some (.int .i64 m1) := by rw [hW1]; simp [go_sem]
 have hT := take_next i (hE.up b1) _ _ hi m1 hlen
 have hN := numberOf_I n least h0 h1 hl
 clear hE hi
 go_enter Tryz.func109, Tryz.ntmps109
 go_upto_region 1 with fail
 rw [← hW1]
 clear hW1
 go_wp2_with (first | (go_at_call 67; refine hT.mono ?_; rintro e V ⟨rfl, eV, kV⟩) | (go_at_call 155; refine (hN _).mono ?_; rintro e V2 ⟨rfl, bV⟩))
 go_ret2
 exact ⟨rfl, eV.up bV, ((Kx.of_below b1).trans kV).trans (.of_below bV)⟩
end Go.Proofs.YtjfmhghpkefihaaGreatDoor
namespace Go.Proofs.YtjfmhghpkefihaaGreatDoor
open Go.RowKit
set_option linter.unusedVariables false
set_option linter.unusedSimpArgs false
def spQ (p : Pc) : Sq := ⟨p.fl.p, p.fl.m, p.fl.s, p.fl.b, p.fl.z, p.sz, p.sz, p.verb⟩
def spW (p : Pc) (n : Int) : Sq := ⟨p.fl.p, p.fl.m, p.fl.s, p.fl.b, p.fl.z, n, p.sz, p.verb⟩
set_option maxRecDepth 1000000 in
set_option maxHeartbeats 1000000 in
theorem sized_none (p : Pc) (t : ByteArray) (hw : p.wid.k = 0) (hp : p.prec.k = 0) (g : Nat) (w : World) :
  Calls Tryz.prog 66 #[.pointer (some ⟨g, 0, none⟩), .agg (pcV p t).toArray] w fun e w' => e = .returned (SV (spQ p)) ∧ Below w.heap.size w w' := by
 have c2 : (pcV p t)[2]? = some (.bool (spQ p).p) := rfl
 have c3 : (pcV p t)[3]? = some (.bool (spQ p).mi) := rfl
 have c4 : (pcV p t)[4]? = some (.bool (spQ p).sh) := rfl
 have c5 : (pcV p t)[5]? = some (.bool (spQ p).sp) := rfl
 have c6 : (pcV p t)[6]? = some (.bool (spQ p).z) := rfl
 have c7 : (pcV p t)[7]? = some (.int .i64 (spQ p).wid) := rfl
 have c8 : (pcV p t)[8]? = some (.int .i64 (spQ p).prec) := rfl
 have c9 : (pcV p t)[9]? = some (.int .i32 (spQ p).verb) := rfl
 have c10 : (pcV p t)[10]? = some (.int .i64 0) := by unfold pcV pieceV; rw [hw]; rfl
 have c14 : (pcV p t)[14]? = some (.int .i64 0) := by unfold pcV pieceV; rw [hp]; rfl
 generalize spQ p = f at *
 generalize pcV p t = H at *
 obtain ⟨W1, hW1⟩ : ∃ W1, W1 = w.alloc (.cells H.toArray 86) := ⟨_, rfl⟩
 have hB : Blk W1 w.heap.size H := by rw [hW1]; exact Blk.new w H 86
 have b1 : Below w.heap.size w W1 := by rw [hW1]; exact (Below.refl _ _).alloc (Nat.le_refl _) _
 have s1 : W1.heap.size = w.heap.size + 1 := by rw [hW1]; simp
 have hl : w.heap.size < W1.heap.size := by omega
 have hup : ∀ (i : Nat) (v : Value), H[i]? = some v → ∀ X, Below W1.heap.size W1 X → X.cell? ⟨w.heap.size, i, none⟩ = some v := fun i v h X hX => up_cell hX (hB.c i v h)
 have d2 := hup _ _ c2
 have d3 := hup _ _ c3
 have d4 := hup _ _ c4
 have d5 := hup _ _ c5
 have d6 := hup _ _ c6
 have d7 := hup _ _ c7
 have d8 := hup _ _ c8
 have d9 := hup _ _ c9
 have d10 := hup _ _ c10
 have d14 := hup _ _ c14
 obtain ⟨W2, hW2⟩ : ∃ W2, W2 = W1.alloc (.cells #[.bool false, .bool false, .bool false, .bool false, .bool false, .int .i64 0, .int .i64 0, .int .i32 0] 67) := ⟨_, rfl⟩
 have b2 : Below W1.heap.size W1 W2 := by rw [hW2]; exact (Below.refl _ _).alloc (Nat.le_refl _) _
 obtain ⟨W3, hW3⟩ : ∃ W3, W3 = W2.alloc (.cells #[.bool f.p, .bool f.mi, .bool f.sh, .bool f.sp, .bool f.z, .int .i64 f.wid, .int .i64 f.prec, .int .i32 f.verb] 67) := ⟨_, rfl⟩
 have b3 : Below W2.heap.size W2 W3 := by rw [hW3]; exact (Below.refl _ _).alloc (Nat.le_refl _) _
 have b13 : Below W1.heap.size W1 W3 := b2.trans (b3.mono b2.size)
 have e2 := d2 _ b2
 have e3 := d3 _ b2
 have e4 := d4 _ b2
 have e5 := d5 _ b2
 have e6 := d6 _ b2
 have e7 := d7 _ b2
 have e8 := d8 _ b2
 have e9 := d9 _ b2
 have e10 := d10 _ b13
 have e14 := d14 _ b13
 have z2 : W1.heap.size < W2.heap.size := by rw [hW2]; simp
 clear hB c2 c3 c4 c5 c6 c7 c8 c9 c10 c14 hw hp hup d2 d3 d4 d5 d6 d7 d8 d9 d10 d14
 go_enter Tryz.func66, Tryz.ntmps66
 go_upto_region 1 with fail
 rw [← hW1, ← s1, ← hW2]
 have HW2 : Hid (W2 = _) := hW2
 have HW3 : Hid (W3 = _) := hW3
 have HS : Hid (W1.heap.size = _) := s1
 clear hW1 hW2 hW3 s1
 go_upto_region 2 with fail
 rw [← HW3.out]
 go_upto_region 14 with fail
 clear e2 e3 e4 e5 e6 e7 e8 e9 e10 e14
 rw [HW3.out, HW2.out]
 clear HW3 HW2
 go_wp2
 go_returns
 refine ⟨rfl, ?_⟩
 have : w.heap.size ≤ W1.heap.size := by omega
 go_grown
end Go.Proofs.YtjfmhghpkefihaaGreatDoor
namespace Go.Proofs.YtjfmhghpkefihaaGreatDoor
open Go.RowKit
set_option linter.unusedVariables false
set_option linter.unusedSimpArgs false
theorem Blk.one {w : World} {B : Nat} {vs : List Value} (h : Blk w B vs) (j : Nat) (v : Value) (hj : j < vs.length) : Blk (w.setCell ⟨B, j, none⟩ v) B (vs.set j v) := by
 refine ⟨fun i u hu => ?_, fun i => by rw [World.frozen?_setCell]; exact h.z i, by simpa using h.b⟩
 by_cases e : j = i
 ·subst e
  rw [List.getElem?_set_self hj] at hu
  obtain rfl := Option.some.inj hu
  exact World.cell?_setCell_same w ⟨B, j, none⟩ _ (h.c j _ (List.getElem?_eq_getElem hj))
 ·rw [List.getElem?_set_ne e] at hu
  exact (World.cell?_setCell_other w ⟨B, j, none⟩ ⟨B, i, none⟩ v (fun e' => e (Addr.mk.inj e').2.1)).trans (h.c i u hu)
theorem Blk.far {w : World} {B : Nat} {vs : List Value} (h : Blk w B vs) {B' : Nat} (hne : B' ≠ B) (j : Nat) (v : Value) : Blk (w.setCell ⟨B', j, none⟩ v) B vs :=
 ⟨fun i u hu => (World.cell?_setCell_far w ⟨B', j, none⟩ ⟨B, i, none⟩ v hne).trans (h.c i u hu), fun i => by rw [World.frozen?_setCell]; exact h.z i, by simpa using h.b⟩
theorem Blk.kx {P : Nat → Prop} {w w' : World} {B : Nat} {vs : List Value} (h : Blk w B vs) (k : Kx P w w') (hB : ¬ P B) : Blk w' B vs :=
 ⟨fun i u hu => k.cell (h.c i u hu) hB, fun i => (World.frozen?_of_block (w := w) (a := ⟨B, i, none⟩) (k.block B h.b hB)).trans (h.z i), Nat.lt_of_lt_of_le h.b k.size⟩
theorem Kx.setCells {P : Nat → Prop} {a : World} (B : Nat) (hB : P B ∨ a.heap.size ≤ B) : ∀ (vs : List Value) (o : Nat) (b : World), Kx P a b → Kx P a (b.setCells B o vs)
 | [], _, _, h => h
 | v :: t, o, b, h => Kx.setCells B hB t (o + 1) _ (h.setCell B o hB v)
set_option maxRecDepth 1000000 in
set_option maxHeartbeats 2000000 in
theorem sized_star (p : Pc) (t : ByteArray) (m0 m1 : Int) (hw : (pcV p t)[10]? = some (.int .i64 2)) (hw1 : (pcV p t)[11]? = some (.int .i64 m0)) (hw2 : (pcV p t)[12]? = some (.int .i64 0)) (hw3 : (pcV p t)[13]? = some (.int .i64 m1)) (hp : p.prec.k = 0) (n : Int) (i : Nat) {w : World} {g C M : Nat} {l : List UInt8} {dp : Int} {av : Value} {vs : List Value}
  (hE : En w g C M l dp av vs ((i : Int) + 1)) (hi : vs[i]? = some (VI 0 n)) (hlen : vs.length ≤ 1000) (h0 : 0 ≤ n) (h1 : n ≤ 1000) :
  Calls Tryz.prog 66 #[.pointer (some ⟨g, 0, none⟩), .agg (pcV p t).toArray] w fun e w' => e = .returned (SV (spW p n)) ∧ En w' g C M l dp av vs ((i : Int) + 2) ∧ Kx (fun k => k = g) w w' := by
 have c2 : (pcV p t)[2]? = some (.bool (spQ p).p) := rfl
 have c3 : (pcV p t)[3]? = some (.bool (spQ p).mi) := rfl
 have c4 : (pcV p t)[4]? = some (.bool (spQ p).sh) := rfl
 have c5 : (pcV p t)[5]? = some (.bool (spQ p).sp) := rfl
 have c6 : (pcV p t)[6]? = some (.bool (spQ p).z) := rfl
 have c7 : (pcV p t)[7]? = some (.int .i64 (spQ p).wid) := rfl
 have c8 : (pcV p t)[8]? = some (.int .i64 (spQ p).prec) := rfl
 have c9 : (pcV p t)[9]? = some (.int .i32 (spQ p).verb) := rfl
 have c14 : (pcV p t)[14]? = some (.int .i64 0) := by unfold pcV pieceV; rw [hp]; rfl
 have hspw : spW p n = ⟨(spQ p).p, (spQ p).mi, (spQ p).sh, (spQ p).sp, (spQ p).z, n, (spQ p).prec, (spQ p).verb⟩ := rfl
 rw [hspw]
 clear hspw
 generalize spQ p = f at *
 generalize pcV p t = H at *
 obtain ⟨W1, hW1⟩ : ∃ W1, W1 = w.alloc (.cells H.toArray 86) := ⟨_, rfl⟩
 have hB : Blk W1 w.heap.size H := by rw [hW1]; exact Blk.new w H 86
 have b1 : Below w.heap.size w W1 := by rw [hW1]; exact (Below.refl _ _).alloc (Nat.le_refl _) _
 have s1 : W1.heap.size = w.heap.size + 1 := by rw [hW1]; simp
 have hl : w.heap.size < W1.heap.size := by omega
 obtain ⟨W2, hW2⟩ : ∃ W2, W2 = W1.alloc (.cells [.bool false, .bool false, .bool false, .bool false, .bool false, .int .i64 0, .int .i64 0, .int .i32 0].toArray 67) := ⟨_, rfl⟩
 have b2 : Below W1.heap.size W1 W2 := by rw [hW2]; exact (Below.refl _ _).alloc (Nat.le_refl _) _
 obtain ⟨W3, hW3⟩ : ∃ W3, W3 = W2.alloc (.cells [.bool f.p, .bool f.mi, .bool f.sh, .bool f.sp, .bool f.z, .int .i64 f.wid, .int .i64 f.prec, .int .i32 f.verb].toArray 67) := ⟨_, rfl⟩
 have b3 : Below W2.heap.size W2 W3 := by rw [hW3]; exact (Below.refl _ _).alloc (Nat.le_refl _) _
 have hB2 := hB.up b2
 have hR2 : Blk W2 W1.heap.size [.bool false, .bool false, .bool false, .bool false, .bool false, .int .i64 0, .int .i64 0, .int .i32 0] := by rw [hW2]; exact Blk.new W1 _ 67
 have hR3 := hR2.up b3
 have hB3 := hB2.up b3
 have hF3 : Blk W3 W2.heap.size [.bool f.p, .bool f.mi, .bool f.sh, .bool f.sp, .bool f.z, .int .i64 f.wid, .int .i64 f.prec, .int .i32 f.verb] := by rw [hW3]; exact Blk.new W2 _ 67
 have z2 : W1.heap.size < W2.heap.size := by rw [hW2]; simp
 have hg := hE.lt
 have bw : Below w.heap.size w W3 := (b1.trans (b2.mono b1.size)).trans (b3.mono (by omega))
 have E3 := hE.up bw
 have e2 := hB2.c _ _ c2
 have e3 := hB2.c _ _ c3
 have e4 := hB2.c _ _ c4
 have e5 := hB2.c _ _ c5
 have e6 := hB2.c _ _ c6
 have e7 := hB2.c _ _ c7
 have e8 := hB2.c _ _ c8
 have e9 := hB2.c _ _ c9
 have e10 := hB3.c _ _ hw
 have e11 := hB3.c _ _ hw1
 have e12 := hB3.c _ _ hw2
 have e13 := hB3.c _ _ hw3
 have hN := number_star i E3 n hi hlen m0 m1 (-1000) h0 h1 (by omega)
 clear hB hB2 hR2 c2 c3 c4 c5 c6 c7 c8 c9 hw hw1 hw2 hw3 hp E3 hi b2 b3 b1
 go_enter Tryz.func66, Tryz.ntmps66
 go_upto_region 1 with fail
 rw [← hW1, ← s1, ← hW2]
 have HW3 : Hid (W3 = _) := hW3
 clear hW1 hW2 hW3 s1
 go_upto_region 2 with fail
 rw [← HW3.out]
 clear HW3 e2 e3 e4 e5 e6 e7 e8 e9
 go_upto_region 5 with (go_at_call 109; refine hN.mono ?_; rintro e V ⟨rfl, eV, kV⟩)
 clear e10 e11 e12 e13 hN
 have hBV := hB3.kx kV (by omega)
 have hRV := hR3.kx kV (by omega)
 have hFV := hF3.kx kV (by omega)
 have f5 : V.cell? ⟨W2.heap.size, 5, none⟩ = some (.int .i64 f.wid) := hFV.c 5 _ rfl
 have z5 : V.frozen? ⟨W2.heap.size, 5, none⟩ = false := hFV.z 5
 obtain ⟨V2, hV2⟩ : ∃ V2, V2 = V.setCell ⟨W2.heap.size, 5, none⟩ (.int .i64 n) := ⟨_, rfl⟩
 have hB5 : Blk V2 w.heap.size H := by rw [hV2]; exact hBV.far (by omega) _ _
 have hR5 : Blk V2 W1.heap.size [.bool false, .bool false, .bool false, .bool false, .bool false, .int .i64 0, .int .i64 0, .int .i32 0] := by rw [hV2]; exact hRV.far (by omega) _ _
 have hF5 : Blk V2 W2.heap.size [.bool f.p, .bool f.mi, .bool f.sh, .bool f.sp, .bool f.z, .int .i64 n, .int .i64 f.prec, .int .i32 f.verb] := by rw [hV2]; exact hFV.one 5 _ (by show 5 < 8; decide)
 have g14 := hB5.c _ _ c14
 have k5 : Kx (fun k => k = g) w V2 := by rw [hV2]; exact ((Kx.of_below bw).trans kV).setCell _ _ (Or.inr (by omega)) _
 have p5 : IsPr V2 g l (prT C dp av ((i : Int) + 2)) := eV.v.p.kept (P := fun k => k = W2.heap.size) (by rw [hV2]; exact (Kx.refl (fun k => k = W2.heap.size) _).setCell _ _ (Or.inl rfl) _) (by omega)
 have E5 : En V2 g C M l dp av vs ((i : Int) + 2) := hE.kept k5 p5
 have fin : Blk (V2.setCells W1.heap.size 0 [.bool f.p, .bool f.mi, .bool f.sh, .bool f.sp, .bool f.z, .int .i64 n, .int .i64 f.prec, .int .i32 f.verb]) W1.heap.size [.bool f.p, .bool f.mi, .bool f.sh, .bool f.sp, .bool f.z, .int .i64 n, .int .i64 f.prec, .int .i32 f.verb] := hR5.all _ rfl
 have kf : Kx (fun k => k = g) w (V2.setCells W1.heap.size 0 [.bool f.p, .bool f.mi, .bool f.sh, .bool f.sp, .bool f.z, .int .i64 n, .int .i64 f.prec, .int .i32 f.verb]) := Kx.setCells _ (Or.inr (by omega)) _ _ _ k5
 have pf : IsPr (V2.setCells W1.heap.size 0 [.bool f.p, .bool f.mi, .bool f.sh, .bool f.sp, .bool f.z, .int .i64 n, .int .i64 f.prec, .int .i32 f.verb]) g l (prT C dp av ((i : Int) + 2)) := p5.kept (P := fun k => k = W1.heap.size) (Kx.setCells (P := fun k => k = W1.heap.size) _ (Or.inl rfl) _ _ _ (Kx.refl _ _)) (by omega)
 have Ef := hE.kept kf pf
 clear hBV hRV hFV hB3 hR3 hF3 kV eV bw hB5 k5 p5 E5 pf c14 hE
 go_upto_region 9 with fail
 rw [← hV2]
 clear hV2 f5 z5
 go_upto_region 14 with fail
 go_wp2_with (first
  | (refine wpl_ld row_Spec rfl (.tmp 5) rfl rfl hF5.range rfl ?_)
  | (refine wpl_st row_Spec rfl (.tmp 4) (.tmp 59) rfl rfl rfl hR5 rfl rfl ?_ ?_
     ·intro v hv
      simp only [List.mem_cons, List.not_mem_nil, or_false] at hv
      rcases hv with rfl | rfl | rfl | rfl | rfl | rfl | rfl | rfl <;> rfl
     generalize V2.setCells W1.heap.size 0 _ = Wf at *))
 exact bodyPost_ret (res_row row_Spec Tryz.results66 rfl fin rfl) rfl ⟨rfl, Ef, kf⟩
end Go.Proofs.YtjfmhghpkefihaaGreatDoor
namespace Go.Proofs.YtjfmhghpkefihaaGreatDoor
open Go.RowKit
set_option linter.unusedVariables false
set_option linter.unusedSimpArgs false
set_option maxRecDepth 1000000 in
theorem cloneD_nil (w : World) : Calls Tryz.prog 273 #[.slice none 0 0] w fun e w' => e = .returned (.slice none 0 0) ∧ w' = w := by
 have he : ∀ w, (binOp BinOp.eql 27 (.slice none 0 0) (.slice none 0 0)).run Tryz.prog w = .ok (.bool true) w := fun w => by kernel_rfl
 go_enter Tryz.func273, Tryz.ntmps273
 go_wp2
 go_ret
 exact ⟨rfl, rfl⟩
set_option maxRecDepth 1000000 in
theorem clone_nil (w : World) : Calls Tryz.prog 83 #[.slice none 0 0] w fun e w' => e = .returned (.slice none 0 0) ∧ w' = w := by
 have he : ∀ w, (binOp BinOp.eql 26 (.slice none 0 0) (.slice none 0 0)).run Tryz.prog w = .ok (.bool true) w := fun w => by kernel_rfl
 go_enter Tryz.func83, Tryz.ntmps83
 go_wp2
 go_ret
 exact ⟨rfl, rfl⟩
set_option maxRecDepth 1000000 in
theorem copies_nil (w : World) : Calls Tryz.prog 240 #[.slice none 0 0] w fun e w' => e = .returned (.slice none 0 0) ∧ w' = w := by
 go_enter Tryz.func240, Tryz.ntmps240
 go_wp2_with (go_at_call 273; refine (cloneD_nil _).mono ?_; rintro e w2 ⟨rfl, q2⟩; subst q2)
 refine wp_loop_rounds 1 ?_
 rw [rounds_succ]
 go_wp2
 go_ret
 exact ⟨rfl, rfl⟩
set_option maxRecDepth 1000000 in
set_option maxHeartbeats 4000000 in
theorem copied_nil (d : Ds) (hn : d.ns = .no) (hp : d.ps = .no) (w : World) : Calls Tryz.prog 196 #[.agg d.v.toArray] w fun e w' => e = .returned (.agg d.v.toArray) ∧ Below w.heap.size w w' := by
 obtain ⟨W1, hW1⟩ : ∃ W1, W1 = (w.alloc (.cells d.v.toArray 29)).alloc (.cells #[.int .i64 0, .string ⟨#[]⟩, .int .u64 0, .int .u64 0, .string ⟨#[]⟩, .slice none 0 0, .slice none 0 0, .int .i64 0] 29) := ⟨_, rfl⟩
 have bd : Blk W1 w.heap.size d.v := by rw [hW1]; exact (Blk.new _ _ _).alloc _
 have br : Blk W1 (w.heap.size + 1) Ds.no.v := by
  rw [hW1]
  have := Blk.new (w.alloc (.cells d.v.toArray 29)) Ds.no.v 29
  rwa [show (w.alloc (.cells d.v.toArray 29)).heap.size = w.heap.size + 1 by simp] at this
 have w1 : Below w.heap.size w W1 := by rw [hW1]; exact ((Below.refl _ _).alloc (Nat.le_refl _) _).alloc (by simp) _
 have c5 : W1.cell? ⟨w.heap.size, 5, none⟩ = some (.slice none 0 0) := by
  have := bd.c 5 _ rfl
  rw [hn] at this
  exact this
 have z5 := bd.z 5
 obtain ⟨W2, hW2⟩ : ∃ W2, W2 = W1.setCell ⟨w.heap.size, 5, none⟩ (.slice none 0 0) := ⟨_, rfl⟩
 have b2 : Blk W2 w.heap.size d.v := by
  rw [hW2]
  have := bd.set 5 (by rw [d.len]; omega) (.slice none 0 0)
  rwa [show d.v.set 5 (.slice none 0 0) = d.v by unfold Ds.v; rw [hn]; rfl] at this
 have r2 : Blk W2 (w.heap.size + 1) Ds.no.v := by rw [hW2]; exact br.other (by omega) _
 have w2 : Below w.heap.size w W2 := by rw [hW2]; exact w1.setCell (Nat.le_refl _) _
 have c6 : W2.cell? ⟨w.heap.size, 6, none⟩ = some (.slice none 0 0) := by
  have := b2.c 6 _ rfl
  rw [hp] at this
  exact this
 have z6 := b2.z 6
 obtain ⟨W3, hW3⟩ : ∃ W3, W3 = W2.setCell ⟨w.heap.size, 6, none⟩ (.slice none 0 0) := ⟨_, rfl⟩
 have b3 : Blk W3 w.heap.size d.v := by
  rw [hW3]
  have := b2.set 6 (by rw [d.len]; omega) (.slice none 0 0)
  rwa [show d.v.set 6 (.slice none 0 0) = d.v by unfold Ds.v; rw [hp]; rfl] at this
 have r3 : Blk W3 (w.heap.size + 1) Ds.no.v := by rw [hW3]; exact r2.other (by omega) _
 have w3 : Below w.heap.size w W3 := by rw [hW3]; exact w2.setCell (Nat.le_refl _) _
 have fin : Blk (W3.setCells (w.heap.size + 1) 0 d.v) (w.heap.size + 1) d.v ∧ Below w.heap.size w (W3.setCells (w.heap.size + 1) 0 d.v) := ⟨r3.all _ rfl, xbelow_sc w3 (by omega) _ _⟩
 have hl := d.len
 have h1 := d.one
 have hz : Ds.no.v.length = 8 := rfl
 generalize Ds.no.v = Z at *
 generalize d.v = D at *
 obtain ⟨f1, f2⟩ := fin
 go_enter Tryz.func196, Tryz.ntmps196
 go_upto_region 1 with fail
 rw [← hW1]
 clear hW1
 go_upto_region 2 with (go_at_call 83; refine (clone_nil _).mono ?_; rintro e w9 ⟨rfl, q9⟩; subst q9)
 rw [← hW2]
 clear hW2
 go_upto_region 3 with (go_at_call 240; refine (copies_nil _).mono ?_; rintro e w9 ⟨rfl, q9⟩; subst q9)
 rw [← hW3]
 clear hW3
 go_wp2_with (first
  | (refine wpl_ld row_Desc rfl (.tmp 1) rfl (vs := D) rfl b3.range hl ?_)
  | (refine wpl_st row_Desc rfl (.tmp 2) (.tmp 11) rfl (us := D) rfl rfl r3 hz hl h1 ?_; generalize W3.setCells (w.heap.size + 1) 0 D = Wf at *))
 exact bodyPost_ret (res_row row_Desc Tryz.results196 rfl f1 hl) rfl ⟨rfl, f2⟩
set_option maxRecDepth 1000000 in
set_option maxHeartbeats 4000000 in
theorem cloneD_any (a : Addr) (n c : Nat) (news : List Value) (w : World) (hl : news.length = n * 8) (hc : ∀ j u, news[j]? = some u → w.cell? (a.add j) = some u) (h1 : ∀ u ∈ news, u.oneCell' = true) (hbig : n * 112 ≤ 140737488355328) :
  Calls Tryz.prog 273 #[.slice (some a) n c] w fun e w' => ∃ v', e = .returned v' ∧ w'.ownsRow w.heap.size 29 8 v' n news ∧ Below w.heap.size w w' := by
 have he : ∀ w, (binOp BinOp.eql 27 (.slice (some a) n c) (.slice none 0 0)).run Tryz.prog w = .ok (.bool false) w := fun w => by kernel_rfl
 obtain ⟨i0, hi⟩ : ∃ i0, Tryz.prog.info? 29 = some i0 := ⟨_, rfl⟩
 have hz1 : i0.size = 8 := by
  have : (Tryz.prog.info? 29).map (·.size) = some 8 := by kernel_rfl
  rw [hi] at this; exact Option.some.inj this
 have hz2 : i0.bytes = 112 := by
  have : (Tryz.prog.info? 29).map (·.bytes) = some 112 := by kernel_rfl
  rw [hi] at this; exact Option.some.inj this
 have hz0 : i0.zero = some (.agg Ds.no.v.toArray) := by
  have : (Tryz.prog.info? 29).bind (·.zero) = some (.agg Ds.no.v.toArray) := by kernel_rfl
  rw [hi] at this; exact this
 have hn : n ≤ maxLen := by unfold maxLen; omega
 have ho := World.ownsRow_lit (base := w.heap.size) (e := 29) (size := 8) w #[] 0 (Nat.le_refl _) (by unfold maxLen; omega) rfl
 have hb0 : Below w.heap.size w (w.alloc (.cells #[] 29)) := (Below.refl _ _).alloc (Nat.le_refl _) _
 have hs0 : (w.alloc (.cells #[] 29)).heap.size = w.heap.size + 1 := by simp
 have hc0 : ∀ j u, news[j]? = some u → (w.alloc (.cells #[] 29)).cell? (a.add j) = some u := fun j u hu => (hb0.cell (World.block_lt_of_cell? w _ (hc j u hu))).trans (hc j u hu)
 generalize hW0 : w.alloc (.cells #[] 29) = W0 at *
 go_enter Tryz.func273, Tryz.ntmps273
 go_wp2_with (first
  | (at_builtin; (try rw [hW0]); refine wpList_append_own_at _ rfl _ _ 27 rfl w.heap.size 29 i0 _ 8 112 Tryz.underlying27 hi hz0 hz1 hz2 rfl (by decide) _ _ _ rfl ho a n c news rfl hl hc0 h1 ?c1 ?c2 ?c3 ?_))
 intro v' w' o4 g4 _ hat
 have b4 : Below w.heap.size w w' := hb0.grown g4 (by omega) (fun k hk => by cases hk; exact Nat.le_refl _)
 go_wp2
 go_ret
 refine ⟨_, rfl, ?_, b4⟩
 simpa using o4
set_option maxRecDepth 1000000 in
set_option maxHeartbeats 4000000 in
theorem copiedAct_q (x : Ac) (w : World) (QL : Sl → World → Prop) (hQ : ∀ l W W', QL l W → Kx (fun k => k = w.heap.size ∨ k = w.heap.size + 1) W W' → QL l W')
  (hP0 : ∀ V, Below w.heap.size w V → w.heap.size + 2 ≤ V.heap.size → Calls Tryz.prog 240 #[.slice x.l.a x.l.n x.l.c] V fun e W' => (∃ l' : Sl, e = .returned (.slice l'.a l'.n l'.c) ∧ QL l' W') ∧ Below V.heap.size V W')
  (hD0 : ∀ V, Calls Tryz.prog 196 #[.agg x.p.v.toArray] V fun e W' => e = .returned (.agg x.p.v.toArray) ∧ Below V.heap.size V W') :
  Calls Tryz.prog 190 #[.agg x.v.toArray] w fun e w' => (∃ l' : Sl, e = .returned (.agg (Ac.v ⟨x.k, x.t, x.f, l', x.p⟩).toArray) ∧ QL l' w') ∧ Below w.heap.size w w' := by
 obtain ⟨W1, hW1⟩ : ∃ W1, W1 = (w.alloc (.cells x.v.toArray 31)).alloc (.cells #[.int .i64 0, .string ⟨#[]⟩, .string ⟨#[]⟩, .slice none 0 0, .int .i64 0, .string ⟨#[]⟩, .int .u64 0, .int .u64 0, .string ⟨#[]⟩, .slice none 0 0, .slice none 0 0, .int .i64 0] 31) := ⟨_, rfl⟩
 have bd : Blk W1 w.heap.size x.v := by rw [hW1]; exact (Blk.new _ _ _).alloc _
 have br : Blk W1 (w.heap.size + 1) Ac.no.v := by
  rw [hW1]
  have := Blk.new (w.alloc (.cells x.v.toArray 31)) Ac.no.v 31
  rwa [show (w.alloc (.cells x.v.toArray 31)).heap.size = w.heap.size + 1 by simp] at this
 have w1 : Below w.heap.size w W1 := by rw [hW1]; exact ((Below.refl _ _).alloc (Nat.le_refl _) _).alloc (by simp) _
 have c3 : W1.cell? ⟨w.heap.size, 3, none⟩ = some (.slice x.l.a x.l.n x.l.c) := bd.c 3 _ rfl
 have hs1 : w.heap.size + 2 ≤ W1.heap.size := by rw [hW1]; simp
 have hP := hP0 W1 w1 hs1
 have hz : Ac.no.v.length = 12 := rfl
 clear hP0
 go_enter Tryz.func190, Tryz.ntmps190
 go_upto_region 1 with fail
 rw [← hW1]
 clear hW1
 go_upto_region 2 with (go_at_call 240; refine hP.mono ?_; rintro e W2 ⟨⟨s1, rfl, ql⟩, q2⟩; have b2 := bd.up q2; have c2 := b2.c 3 _ rfl; have z2 := b2.z 3)
 have r2 := br.up q2
 have w2 : Below w.heap.size w W2 := w1.trans (q2.mono w1.size)
 have b3 : Blk (W2.setCell ⟨w.heap.size, 3, none⟩ (.slice s1.a s1.n s1.c)) w.heap.size (Ac.v ⟨x.k, x.t, x.f, s1, x.p⟩) := b2.set 3 (by rw [x.len]; omega) _
 have r3 : Blk (W2.setCell ⟨w.heap.size, 3, none⟩ (.slice s1.a s1.n s1.c)) (w.heap.size + 1) Ac.no.v := r2.other (by omega) _
 have w3 : Below w.heap.size w (W2.setCell ⟨w.heap.size, 3, none⟩ (.slice s1.a s1.n s1.c)) := w2.setCell (Nat.le_refl _) _
 have ql3 : QL s1 (W2.setCell ⟨w.heap.size, 3, none⟩ (.slice s1.a s1.n s1.c)) := hQ _ _ _ ql ((Kx.refl _ _).setCell _ _ (Or.inl (Or.inl rfl)) _)
 clear ql
 generalize W2.setCell ⟨w.heap.size, 3, none⟩ (.slice s1.a s1.n s1.c) = W3 at *
 clear b2 c2 z2 r2 w2 q2 bd br w1 c3 hP
 have b3' : Blk W3 w.heap.size ([.int .i64 x.k, .string x.t, .string x.f, .slice s1.a s1.n s1.c] ++ (x.p.v ++ [])) := by rw [List.append_nil]; exact b3
 have rp : W3.rangeAt w.heap.size 4 x.p.v := Blk.mid b3' rfl
 have hD3 := hD0 W3
 have hlp := x.p.len
 clear hD0
 have fin : ∀ (V : World), Below W3.heap.size W3 V → V.there w.heap.size 4 8 ∧ Blk (V.setCells w.heap.size 4 x.p.v) w.heap.size (Ac.v ⟨x.k, x.t, x.f, s1, x.p⟩) ∧ Blk (V.setCells w.heap.size 4 x.p.v) (w.heap.size + 1) Ac.no.v ∧ Below w.heap.size w (V.setCells w.heap.size 4 x.p.v) ∧ QL s1 (V.setCells w.heap.size 4 x.p.v) := fun V hV => by
  have bV := b3'.up hV
  have h2 := Blk.put (p := [.int .i64 x.k, .string x.t, .string x.f, .slice s1.a s1.n s1.c]) (cs := x.p.v) (q := []) bV x.p.v rfl
  rw [List.append_nil] at h2
  exact ⟨Blk.thereMid (p := [.int .i64 x.k, .string x.t, .string x.f, .slice s1.a s1.n s1.c]) (cs := x.p.v) (q := []) bV, h2, (r3.up hV).oth (by omega) _ _, xbelow_sc (w3.trans (hV.mono w3.size)) (Nat.le_refl _) _ _, hQ _ _ _ (hQ _ _ _ ql3 (.of_below hV)) (Kx.setCells _ (Or.inl (Or.inl rfl)) _ _ _ (Kx.refl _ _))⟩
 have hd2 := x.p.one
 go_upto_region 3 with (first
  | (refine wpl_ld row_Desc rfl (.tmp 7) rfl (vs := x.p.v) rfl rp hlp ?_)
  | (go_at_call 196; refine hD3.mono ?_; rintro e W4 ⟨rfl, q4⟩; obtain ⟨th4, b5, r5, w5, ql5⟩ := fin W4 q4)
  | (refine wpl_stm row_Desc rfl (.tmp 10) (.tmp 9) rfl (us := x.p.v) rfl rfl th4 hlp hd2 ?_; generalize W4.setCells w.heap.size 4 x.p.v = W5 at *))
 try simp only [Act.put]
 clear fin th4 q4 rp b3 b3' r3 w3 hD3 ql3
 have ql6 : QL s1 (W5.setCells (w.heap.size + 1) 0 (Ac.v ⟨x.k, x.t, x.f, s1, x.p⟩)) := hQ _ _ _ ql5 (Kx.setCells _ (Or.inl (Or.inr rfl)) _ _ _ (Kx.refl _ _))
 have f1 : Blk (W5.setCells (w.heap.size + 1) 0 (Ac.v ⟨x.k, x.t, x.f, s1, x.p⟩)) (w.heap.size + 1) (Ac.v ⟨x.k, x.t, x.f, s1, x.p⟩) := r5.all _ rfl
 have f2 : Below w.heap.size w (W5.setCells (w.heap.size + 1) 0 (Ac.v ⟨x.k, x.t, x.f, s1, x.p⟩)) := xbelow_sc w5 (by omega) _ _
 obtain ⟨x', hx'⟩ : ∃ x' : Ac, x' = ⟨x.k, x.t, x.f, s1, x.p⟩ := ⟨_, rfl⟩
 have HX : Hid (x' = _) := hx'
 rw [← hx'] at b5 f1 f2 ql6
 clear hx'
 go_wp2_with (first
  | (refine wpl_ld row_Act rfl (.tmp 1) rfl (vs := x'.v) rfl b5.range x'.len ?_)
  | (refine wpl_st row_Act rfl (.tmp 2) (.tmp 11) rfl (us := x'.v) rfl rfl r5 hz x'.len x'.one ?_; generalize W5.setCells (w.heap.size + 1) 0 x'.v = Wf at *))
 exact bodyPost_ret (res_row row_Act Tryz.results190 rfl f1 x'.len) rfl ⟨⟨s1, by rw [HX.out], ql6⟩, f2⟩
end Go.Proofs.YtjfmhghpkefihaaGreatDoor
