/- PWalkH, PWalkI: these texts in one. -/
import Derived.Test.YtdlnmnipnkeabaaGreatDoorPt15
namespace Go.Proofs.YtdlnmnipnkeabaaGreatDoor
open Go.RowKit
set_option linter.unusedVariables false
set_option linter.unusedSimpArgs false
def pieceV (k : Nat) (t : ByteArray) (f : Fl) (sz : Int) (v : Nat) (a b : Nb) (x : Ix) : List Value :=
 [.int .i64 (k : Nat), .string t, .bool f.p, .bool f.m, .bool f.s, .bool f.b, .bool f.z, .int .i64 sz, .int .i64 sz, .int .i32 (v : Nat),
  .int .i64 (a.k : Nat), .int .i64 a.n, .int .i64 (a.a.k : Nat), .int .i64 (a.a.n : Nat), .int .i64 (b.k : Nat), .int .i64 b.n, .int .i64 (b.a.k : Nat), .int .i64 (b.a.n : Nat), .int .i64 (x.k : Nat), .int .i64 (x.n : Nat)]
def pcV (p : Pc) (t : ByteArray) : List Value := pieceV p.kind t p.fl p.sz p.verb p.wid p.prec p.arg
structure StD (w0 : World) (s : ByteArray) (R F B B4 : Nat) (pv : List Value) (x4 x5 : Ix) (P : Nat) (l : Bs) (w : World) : Prop where
 r : RdW s R F P l w
 a : Bx w w0.heap.size (pieceV 0 ⟨#[]⟩ fl0 0 0 nb0 nb0 ix0)
 p : Bx w B pv
 b : Bx w B4 [.int .i64 (x4.k : Nat), .int .i64 (x4.n : Nat)]
 c : Bx w (B4 + 1) [.int .i64 (x5.k : Nat), .int .i64 (x5.n : Nat)]
 g : w0.grownBy w (some R)
 nR : R < w0.heap.size
 nF : F < w0.heap.size
 nB : w0.heap.size < B
 n4 : B < B4
section
variable {w0 : World} {s : ByteArray} {R F B B4 : Nat} {pv : List Value} {x4 x5 : Ix} {P P' : Nat} {l l' : Bs} {w w' : World}
theorem StD.up (h : StD w0 s R F B B4 pv x4 x5 P l w) (hb : Below w.heap.size w w') : StD w0 s R F B B4 pv x4 x5 P l w' :=
 ⟨h.r.up hb, h.a.up hb, h.p.up hb, h.b.up hb, h.c.up hb, h.g.trans (gr_below hb _), h.nR, h.nF, h.nB, h.n4⟩
theorem StD.go (h : StD w0 s R F B B4 pv x4 x5 P l w) (hr : RdW s R F P' l' w') (hg : w.grownBy w' (some R)) : StD w0 s R F B B4 pv x4 x5 P' l' w' := by
 have h1 := h.nR
 have h3 := h.nB
 have h4 := h.n4
 exact ⟨hr, h.a.grown hg (by omega), h.p.grown hg (by omega), h.b.grown hg (by omega), h.c.grown hg (by omega), h.g.trans hg, h.nR, h.nF, h.nB, h.n4⟩
theorem StD.setP (h : StD w0 s R F B B4 pv x4 x5 P l w) (i : Nat) (hi : i < pv.length) (v : Value) : StD w0 s R F B B4 (pv.set i v) x4 x5 P l (w.setCell ⟨B, i, none⟩ v) := by
 have h1 := h.nR
 have h2 := h.nF
 have h3 := h.nB
 have h4 := h.n4
 exact ⟨h.r.grown (by omega) (by omega) _, h.a.other (by omega) _, h.p.set i hi v, h.b.other (by omega) _, h.c.other (by omega) _, gr_own h.g (by omega) _, h1, h2, h3, h.n4⟩
theorem StD.set4 (h : StD w0 s R F B B4 pv x4 x5 P l w) (x : Ix) : StD w0 s R F B B4 pv x x5 P l ((w.setCell ⟨B4, 0, none⟩ (.int .i64 (x.k : Nat))).setCell ⟨B4, 1, none⟩ (.int .i64 (x.n : Nat))) := by
 have h1 := h.nR
 have h2 := h.nF
 have h3 := h.nB
 have h4 := h.n4
 exact ⟨(h.r.grown (by omega) (by omega) _).grown (by omega) (by omega) _, (h.a.other (by omega) _).other (by omega) _, (h.p.other (by omega) _).other (by omega) _, (h.b.set 0 (by simp) _).set 1 (by simp) _, (h.c.other (by omega) _).other (by omega) _, gr_own (gr_own h.g (by omega) _) (by omega) _, h1, h2, h3, h.n4⟩
theorem StD.set5 (h : StD w0 s R F B B4 pv x4 x5 P l w) (x : Ix) : StD w0 s R F B B4 pv x4 x P l ((w.setCell ⟨B4 + 1, 0, none⟩ (.int .i64 (x.k : Nat))).setCell ⟨B4 + 1, 1, none⟩ (.int .i64 (x.n : Nat))) := by
 have h1 := h.nR
 have h2 := h.nF
 have h3 := h.nB
 have h4 := h.n4
 exact ⟨(h.r.grown (by omega) (by omega) _).grown (by omega) (by omega) _, (h.a.other (by omega) _).other (by omega) _, (h.p.other (by omega) _).other (by omega) _, (h.b.other (by omega) _).other (by omega) _, (h.c.set 0 (by simp) _).set 1 (by simp) _, gr_own (gr_own h.g (by omega) _) (by omega) _, h1, h2, h3, h.n4⟩
theorem StD.put (h : StD w0 s R F B B4 pv x4 x5 P l w) (hd : s.data.toList.drop P' = l') (he : P' + l'.length = s.size) : StD w0 s R F B B4 pv x4 x5 P' l' (w.setCell ⟨R, 0, none⟩ (.int .i64 (P' : Nat))) :=
 h.go (h.r.put hd he) (gr_put (gr_refl _ _) _)
variable {k v : Nat} {t : ByteArray} {f : Fl} {sz : Int} {na nb : Nb} {x : Ix}
theorem StD.setW (h : StD w0 s R F B B4 (pieceV k t f sz v na nb x) x4 x5 P l w) (a : Nb) : StD w0 s R F B B4 (pieceV k t f sz v a nb x) x4 x5 P l ((((w.setCell ⟨B, 10, none⟩ (.int .i64 (a.k : Nat))).setCell ⟨B, 11, none⟩ (.int .i64 a.n)).setCell ⟨B, 12, none⟩ (.int .i64 (a.a.k : Nat))).setCell ⟨B, 13, none⟩ (.int .i64 (a.a.n : Nat))) :=
 (((h.setP 10 (by simp [pieceV]) _).setP 11 (by simp [pieceV]) _).setP 12 (by simp [pieceV]) _).setP 13 (by simp [pieceV]) _
theorem StD.setR (h : StD w0 s R F B B4 (pieceV k t f sz v na nb x) x4 x5 P l w) (a : Nb) : StD w0 s R F B B4 (pieceV k t f sz v na a x) x4 x5 P l ((((w.setCell ⟨B, 14, none⟩ (.int .i64 (a.k : Nat))).setCell ⟨B, 15, none⟩ (.int .i64 a.n)).setCell ⟨B, 16, none⟩ (.int .i64 (a.a.k : Nat))).setCell ⟨B, 17, none⟩ (.int .i64 (a.a.n : Nat))) :=
 (((h.setP 14 (by simp [pieceV]) _).setP 15 (by simp [pieceV]) _).setP 16 (by simp [pieceV]) _).setP 17 (by simp [pieceV]) _
theorem StD.setA (h : StD w0 s R F B B4 (pieceV k t f sz v na nb x) x4 x5 P l w) (a : Ix) : StD w0 s R F B B4 (pieceV k t f sz v na nb a) x4 x5 P l ((w.setCell ⟨B, 18, none⟩ (.int .i64 (a.k : Nat))).setCell ⟨B, 19, none⟩ (.int .i64 (a.n : Nat))) :=
 (h.setP 18 (by simp [pieceV]) _).setP 19 (by simp [pieceV]) _
theorem StD.setK (h : StD w0 s R F B B4 (pieceV k t f sz v na nb x) x4 x5 P l w) (k' : Nat) : StD w0 s R F B B4 (pieceV k' t f sz v na nb x) x4 x5 P l (w.setCell ⟨B, 0, none⟩ (.int .i64 (k' : Nat))) := h.setP 0 (by simp [pieceV]) _
theorem StD.setV (h : StD w0 s R F B B4 (pieceV k t f sz v na nb x) x4 x5 P l w) (v' : Nat) : StD w0 s R F B B4 (pieceV k t f sz v' na nb x) x4 x5 P l (w.setCell ⟨B, 9, none⟩ (.int .i32 (v' : Nat))) := h.setP 9 (by simp [pieceV]) _
theorem StD.idx (h : StD w0 s R F B B4 pv x4 x5 P l w) :
  (w.cell? ⟨B4, 0, none⟩ = some (.int .i64 (x4.k : Nat)) ∧ w.cell? ⟨B4, 1, none⟩ = some (.int .i64 (x4.n : Nat))) ∧ (w.cell? ⟨B4 + 1, 0, none⟩ = some (.int .i64 (x5.k : Nat)) ∧ w.cell? ⟨B4 + 1, 1, none⟩ = some (.int .i64 (x5.n : Nat))) ∧
  ((∀ i, w.frozen? ⟨B, i, none⟩ = false) ∧ (∀ i, w.frozen? ⟨B4, i, none⟩ = false) ∧ (∀ i, w.frozen? ⟨B4 + 1, i, none⟩ = false)) ∧
  (w.cell? ⟨R, 0, none⟩ = some (.int .i64 (P : Nat)) ∧ w.cell? ⟨R, 1, none⟩ = some (.func (.func 61) #[] #[.pointer (some ⟨F, 0, none⟩)]) ∧ w.cell? ⟨F, 0, none⟩ = some (.string s) ∧ w.frozen? ⟨R, 0, none⟩ = false) :=
 ⟨h.b.two, h.c.two, ⟨h.p.z, h.b.z, h.c.z⟩, h.r.a, h.r.n, h.r.f, h.r.z⟩
theorem bx20 (h : Bx w B (pieceV k t f sz v na nb x)) : w.cell? ⟨B, 0, none⟩ = some (.int .i64 (k : Nat)) ∧ w.cell? ⟨B, 1, none⟩ = some (.string t) ∧ w.cell? ⟨B, 2, none⟩ = some (.bool f.p) ∧ w.cell? ⟨B, 3, none⟩ = some (.bool f.m) ∧ w.cell? ⟨B, 4, none⟩ = some (.bool f.s) ∧ w.cell? ⟨B, 5, none⟩ = some (.bool f.b) ∧ w.cell? ⟨B, 6, none⟩ = some (.bool f.z) ∧ w.cell? ⟨B, 7, none⟩ = some (.int .i64 sz) ∧ w.cell? ⟨B, 8, none⟩ = some (.int .i64 sz) ∧ w.cell? ⟨B, 9, none⟩ = some (.int .i32 (v : Nat)) ∧ w.cell? ⟨B, 10, none⟩ = some (.int .i64 (na.k : Nat)) ∧ w.cell? ⟨B, 11, none⟩ = some (.int .i64 na.n) ∧ w.cell? ⟨B, 12, none⟩ = some (.int .i64 (na.a.k : Nat)) ∧ w.cell? ⟨B, 13, none⟩ = some (.int .i64 (na.a.n : Nat)) ∧ w.cell? ⟨B, 14, none⟩ = some (.int .i64 (nb.k : Nat)) ∧ w.cell? ⟨B, 15, none⟩ = some (.int .i64 nb.n) ∧ w.cell? ⟨B, 16, none⟩ = some (.int .i64 (nb.a.k : Nat)) ∧ w.cell? ⟨B, 17, none⟩ = some (.int .i64 (nb.a.n : Nat)) ∧ w.cell? ⟨B, 18, none⟩ = some (.int .i64 (x.k : Nat)) ∧ w.cell? ⟨B, 19, none⟩ = some (.int .i64 (x.n : Nat)) :=
 ⟨h.c 0 _ rfl, h.c 1 _ rfl, h.c 2 _ rfl, h.c 3 _ rfl, h.c 4 _ rfl, h.c 5 _ rfl, h.c 6 _ rfl, h.c 7 _ rfl, h.c 8 _ rfl, h.c 9 _ rfl, h.c 10 _ rfl, h.c 11 _ rfl, h.c 12 _ rfl, h.c 13 _ rfl, h.c 14 _ rfl, h.c 15 _ rfl, h.c 16 _ rfl, h.c 17 _ rfl, h.c 18 _ rfl, h.c 19 _ rfl⟩
end
abbrev DrC (s : ByteArray) (R F P : Nat) (l : Bs) : Prop := ∀ w, RdW s R F P l w → Calls Tryz.prog 77 #[.pointer (some ⟨R, 0, none⟩)] w fun e w' => e = .returned (.agg (pcV (dir l []) ⟨#[]⟩).toArray) ∧ (∃ P', RdW s R F P' (drest l) w') ∧ w.grownBy w' (some R)
theorem beg1 {w : World} {s : ByteArray} {R F P P' : Nat} {l l' : Bs} {f : Fl} {w2 W1 : World} (h : RdW s R F P l w) (e1 : W1 = w.alloc (.cells (pieceV 0 ⟨#[]⟩ fl0 0 0 nb0 nb0 ix0).toArray 119)) (hr : RdW s R F P' l' w2) (hg : W1.grownBy w2 (some R)) :
  let V := (w2.alloc (.cells (pieceV 0 ⟨#[]⟩ fl0 0 0 nb0 nb0 ix0).toArray 119)).setCells w2.heap.size 0 (pieceV 1 ⟨#[]⟩ f (-1) 0 nb0 nb0 ix0)
  RdW s R F P' l' V ∧ Bx V w.heap.size (pieceV 0 ⟨#[]⟩ fl0 0 0 nb0 nb0 ix0) ∧ Bx V w2.heap.size (pieceV 1 ⟨#[]⟩ f (-1) 0 nb0 nb0 ix0) ∧ w.grownBy V (some R) ∧ R < w.heap.size ∧ F < w.heap.size ∧ w.heap.size < w2.heap.size ∧ w2.heap.size < V.heap.size := by
 have hs1 : W1.heap.size = w.heap.size + 1 := by rw [e1]; simp
 have hb1 : Below w.heap.size w W1 := by rw [e1]; exact (Below.refl _ _).alloc (Nat.le_refl _) _
 have hx1 : Bx W1 w.heap.size (pieceV 0 ⟨#[]⟩ fl0 0 0 nb0 nb0 ix0) := by rw [e1]; exact Bx.new _ _ _
 have hRw : R < w.heap.size := lt_of_cell9 h.a
 have hFw : F < w.heap.size := lt_of_cell9 h.f
 have al : ∀ V o, Below (World.heap V).size V (V.alloc o) := fun V o => (Below.refl _ _).alloc (Nat.le_refl _) _
 have hsz := hg.size
 have q1 : Bx (w2.alloc (.cells (pieceV 0 ⟨#[]⟩ fl0 0 0 nb0 nb0 ix0).toArray 119)) w2.heap.size _ := Bx.new _ _ _
 refine ⟨(hr.up (al _ _)).sc (by omega) (by omega) _ _, ((hx1.grown hg (by omega)).up (al _ _)).oth (by omega) _ _, q1.all _ rfl, gr_sc ((gr_below hb1 _).trans (hg.trans (gr_alloc (gr_refl _ _) _))) (by omega) _ _, hRw, hFw, by omega, ?_⟩
 rw [sc_size]; simp
theorem beg2 {w V : World} {s : ByteArray} {R F B P : Nat} {l : Bs} {pv : List Value} (hr : RdW s R F P l V) (ha : Bx V w.heap.size (pieceV 0 ⟨#[]⟩ fl0 0 0 nb0 nb0 ix0)) (hp : Bx V B pv) (hg : w.grownBy V (some R)) (h1 : R < w.heap.size) (h2 : F < w.heap.size) (h3 : w.heap.size < B) (h4 : B < V.heap.size) :
  StD w s R F B V.heap.size pv ix0 ix0 P l ((V.alloc (.cells #[.int .i64 0, .int .i64 0] 115)).alloc (.cells #[.int .i64 0, .int .i64 0] 115)) := by
 have al : ∀ V o, Below (World.heap V).size V (V.alloc o) := fun V o => (Below.refl _ _).alloc (Nat.le_refl _) _
 have q2 : Bx (V.alloc (.cells #[.int .i64 0, .int .i64 0] 115)) V.heap.size [.int .i64 0, .int .i64 0] := Bx.new _ _ _
 have q3 : Bx ((V.alloc (.cells #[.int .i64 0, .int .i64 0] 115)).alloc (.cells #[.int .i64 0, .int .i64 0] 115)) (V.heap.size + 1) [.int .i64 0, .int .i64 0] := by
  have := Bx.new (V.alloc (.cells #[.int .i64 0, .int .i64 0] 115)) [.int .i64 0, .int .i64 0] 115
  simpa using this
 exact ⟨(hr.up (al _ _)).up (al _ _), (ha.up (al _ _)).up (al _ _), (hp.up (al _ _)).up (al _ _), q2.up (al _ _), q3, gr_alloc (gr_alloc hg _) _, h1, h2, h3, h4⟩
theorem pv_one (k : Nat) (t : ByteArray) (f : Fl) (sz : Int) (v : Nat) (a b : Nb) (x : Ix) : ∀ u ∈ pieceV k t f sz v a b x, u.oneCell' = true := by
 intro u hu
 simp only [pieceV, List.mem_cons, List.not_mem_nil, or_false] at hu
 rcases hu with rfl | rfl | rfl | rfl | rfl | rfl | rfl | rfl | rfl | rfl | rfl | rfl | rfl | rfl | rfl | rfl | rfl | rfl | rfl | rfl <;> rfl
set_option maxRecDepth 1000000 in
set_option maxHeartbeats 4000000 in
theorem dir_plain {s : ByteArray} {R F P : Nat} {l l1 l3 l4 : Bs} {f : Fl} {a b : Nb} {x4 x5 x y : Ix}
  (hF : ∀ w, RdW s R F P l w → Calls Tryz.prog 101 #[.pointer (some ⟨R, 0, none⟩)] w fun e w' => e = .returned (.agg #[.bool f.p, .bool f.m, .bool f.s, .bool f.b, .bool f.z, .int .i64 (-1), .int .i64 (-1), .int .i32 0]) ∧ (∃ P', RdW s R F P' l1 w') ∧ w.grownBy w' (some R))
  (hW : ∀ P w, RdW s R F P l1 w → Calls Tryz.prog 102 #[.pointer (some ⟨R, 0, none⟩)] w fun e w' => e = .returned (.tuple #[.agg #[.int .i64 (a.k : Nat), .int .i64 a.n, .int .i64 (a.a.k : Nat), .int .i64 (a.a.n : Nat)], .agg #[.int .i64 (x4.k : Nat), .int .i64 (x4.n : Nat)]]) ∧ (∃ P', RdW s R F P' l3 w') ∧ w.grownBy w' (some R))
  (hh : hd l3 ≠ 46) (eb : b = nb0) (e5 : x5 = ix0)
  (hI : ∀ P, IdC s R F P l3 x l4) (hS : ∀ (w : World) (B cp : Nat), Bx w B [.int .i64 (x4.k : Nat), .int .i64 (x4.n : Nat), .int .i64 (x5.k : Nat), .int .i64 (x5.n : Nat), .int .i64 (x.k : Nat), .int .i64 (x.n : Nat)] → Calls Tryz.prog 105 #[.slice (some ⟨B, 0, none⟩) 3 cp] w fun e w' => e = .returned (.agg #[.int .i64 (y.k : Nat), .int .i64 (y.n : Nat)]) ∧ Below w.heap.size w w')
  {rk rv : Nat} (hR : (if (nxt l4).2 = 0 then (2 : Nat) else 1) = rk) (hV : (nxt l4).1 = rv)
  (w : World) (h : RdW s R F P l w) : Calls Tryz.prog 77 #[.pointer (some ⟨R, 0, none⟩)] w fun e w' => e = .returned (.agg (pieceV rk ⟨#[]⟩ f (-1) rv a b y).toArray) ∧ (∃ P', RdW s R F P' (l4.drop (nxt l4).2) w') ∧ w.grownBy w' (some R) := by
 have hT := fun P1 => take_no (s := s) (R := R) (F := F) (P := P1) (l := l3) (c := 46) (by omega) (by omega) hh
 obtain ⟨W1, hW1⟩ : ∃ W1, W1 = w.alloc (.cells #[.int .i64 0, .string ⟨#[]⟩, .bool false, .bool false, .bool false, .bool false, .bool false, .int .i64 0, .int .i64 0, .int .i32 0, .int .i64 0, .int .i64 0, .int .i64 0, .int .i64 0, .int .i64 0, .int .i64 0, .int .i64 0, .int .i64 0, .int .i64 0, .int .i64 0] 119) := ⟨_, rfl⟩
 have h1 : RdW s R F P l W1 := h.up (by rw [hW1]; exact (Below.refl _ _).alloc (Nat.le_refl _) _)
 have beg := fun (P1 : Nat) (w2 : World) (hr : RdW s R F P1 l1 w2) (hg : W1.grownBy w2 (some R)) => beg1 (f := f) h (hW1.trans rfl) hr hg
 go_enter Tryz.func77, Tryz.ntmps77
 go_upto_region 1 with fail
 rw [← hW1]
 clear hW1
 go_upto_region 2 with (first
  | (go_at_call 101; refine (hF _ h1).mono ?_; rintro e w2 ⟨rfl, ⟨P1, h2⟩, g2⟩; have s3 := beg P1 w2 h2 g2)
  | (refine wpl_store20 rfl (.tmp 3) (.tmp 10) rfl (us := pieceV 1 ⟨#[]⟩ f (-1) 0 nb0 nb0 ix0) rfl rfl (Bx.new w2 (pieceV 0 ⟨#[]⟩ fl0 0 0 nb0 nb0 ix0) 119) rfl rfl (pv_one _ _ _ _ _ _ _ _) ?_))
 generalize hVe : (w2.alloc (.cells #[.int .i64 0, .string ⟨#[]⟩, .bool false, .bool false, .bool false, .bool false, .bool false, .int .i64 0, .int .i64 0, .int .i32 0, .int .i64 0, .int .i64 0, .int .i64 0, .int .i64 0, .int .i64 0, .int .i64 0, .int .i64 0, .int .i64 0, .int .i64 0, .int .i64 0] 119)).setCells w2.heap.size 0 (pieceV 1 ⟨#[]⟩ f (-1) 0 nb0 nb0 ix0) = V2
 have s3' : RdW s R F P1 l1 V2 ∧ Bx V2 w.heap.size (pieceV 0 ⟨#[]⟩ fl0 0 0 nb0 nb0 ix0) ∧ Bx V2 w2.heap.size (pieceV 1 ⟨#[]⟩ f (-1) 0 nb0 nb0 ix0) ∧ w.grownBy V2 (some R) ∧ R < w.heap.size ∧ F < w.heap.size ∧ w.heap.size < w2.heap.size ∧ w2.heap.size < V2.heap.size := by rw [← hVe]; exact s3
 clear s3 hVe beg hF h2 g2 h1
 generalize w2.heap.size = B at *
 obtain ⟨v1, v2, v3, v4, v5, v6, v7, v8⟩ := s3'
 have sA := beg2 v1 v2 v3 v4 v5 v6 v7 v8
 clear v1 v2 v3 v4 v5 v6 v7 v8
 go_upto_region 3 with fail
 generalize (V2.alloc (.cells #[.int .i64 0, .int .i64 0] 115)).alloc (.cells #[.int .i64 0, .int .i64 0] 115) = W3 at *
 generalize V2.heap.size = B4 at *
 go_upto_region 4 with (go_at_call 102; refine (hW _ _ sA.r).mono ?_; rintro e w4 ⟨rfl, ⟨P2, h4⟩, g4⟩; have s4 := sA.go h4 g4; obtain ⟨m0, m1, m2, m3, m4, m5, m6, m7, m8, m9, m10, m11, m12, m13, m14, m15, m16, m17, m18, m19⟩ := bx20 s4.p; obtain ⟨⟨b0, b1⟩, ⟨c0, c1⟩, ⟨z0, z1, z2⟩, -⟩ := s4.idx; have nn := s4.n4)
 have s5 := (s4.setW a).set4 x4
 generalize (((((w4.setCell ⟨B, 10, none⟩ (.int .i64 (a.k : Nat))).setCell ⟨B, 11, none⟩ (.int .i64 a.n)).setCell ⟨B, 12, none⟩ (.int .i64 (a.a.k : Nat))).setCell ⟨B, 13, none⟩ (.int .i64 (a.a.n : Nat))).setCell ⟨B4, 0, none⟩ (.int .i64 (x4.k : Nat))).setCell ⟨B4, 1, none⟩ (.int .i64 (x4.n : Nat)) = W5 at *
 clear m0 m1 m2 m3 m4 m5 m6 m7 m8 m9 m10 m11 m12 m13 m14 m15 m16 m17 m18 m19 b0 b1 c0 c1 z0 z1 z2 s4 h4 g4 sA hW
 go_upto_region 7 with (go_at_call 76; refine (hT _ _ s5.r).mono ?_; rintro e WC ⟨rfl, h6, g6⟩; have s6 := s5.go h6 g6)
 have sC : StD w s R F B B4 (pieceV 1 ⟨#[]⟩ f (-1) 0 a b ix0) x4 x5 P2 l3 WC := by rw [eb, e5]; exact s6
 clear h6 g6 s5 hT s6 eb e5
 generalize P2 = P3 at *
 obtain ⟨⟨b0, b1⟩, ⟨c0, c1⟩, ⟨z0, z1, z2⟩, ⟨d0, d1, d2, d3⟩⟩ := sC.idx
 have hIv : ∀ V, StD w s R F B B4 (pieceV 1 ⟨#[]⟩ f (-1) 0 a b ix0) x4 x5 P3 l3 V → Calls Tryz.prog 106 #[.pointer (some ⟨R, 0, none⟩)] V fun e w' => e = .returned (.agg #[.int .i64 (x.k : Nat), .int .i64 (x.n : Nat)]) ∧ ∃ P4, StD w s R F B B4 (pieceV 1 ⟨#[]⟩ f (-1) 0 a b ix0) x4 x5 P4 l4 w' := fun V hV => (hI P3 V hV.r).mono fun e w' ⟨e1, ⟨P4, e2⟩, e3⟩ => ⟨e1, P4, hV.go e2 e3⟩
 have hSv : ∀ V P4, StD w s R F B B4 (pieceV 1 ⟨#[]⟩ f (-1) 0 a b ix0) x4 x5 P4 l4 V → Calls Tryz.prog 105 #[.slice (some ⟨V.heap.size, 0, none⟩) 3 3] (V.alloc (.cells #[.int .i64 (x4.k : Nat), .int .i64 (x4.n : Nat), .int .i64 (x5.k : Nat), .int .i64 (x5.n : Nat), .int .i64 (x.k : Nat), .int .i64 (x.n : Nat)] 115)) fun e w' => e = .returned (.agg #[.int .i64 (y.k : Nat), .int .i64 (y.n : Nat)]) ∧ StD w s R F B B4 (pieceV 1 ⟨#[]⟩ f (-1) 0 a b ix0) x4 x5 P4 l4 w' := fun V P4 hV =>
  (hS _ V.heap.size 3 (Bx.new V _ _)).mono fun e w' ⟨e1, e2⟩ => ⟨e1, (hV.up ((Below.refl _ _).alloc (Nat.le_refl _) _)).up e2⟩
 have sD : StD w s R F B B4 (pieceV 1 ⟨#[]⟩ f (-1) 0 a b ix0) x4 x5 P3 l3 WC.drew := sC.up ((Below.refl _ _).drew)
 go_cut [30] (fun _ wx => ∃ P4, StD w s R F B B4 (pieceV 1 ⟨#[]⟩ f (-1) 0 a b y) x4 x5 P4 l4 wx)
 case first =>
  go_region_with (first
   | (go_at_call 106; refine (hIv _ (by assumption)).mono ?_; rintro e w6 ⟨rfl, ⟨P4, s7⟩⟩; obtain ⟨⟨e0, e1⟩, ⟨f0, f1⟩, ⟨g0, g1, g2⟩, -⟩ := s7.idx)
   | (go_at_call 105; refine (hSv _ _ (by assumption)).mono ?_; rintro e w7 ⟨rfl, s8⟩; obtain ⟨⟨h0, h1⟩, ⟨i0, i1⟩, ⟨j0, j1, j2⟩, -⟩ := s8.idx; obtain ⟨m0, m1, m2, m3, m4, m5, m6, m7, m8, m9, m10, m11, m12, m13, m14, m15, m16, m17, m18, m19⟩ := bx20 s8.p))
  all_goals (go_wp2_with fail; go_meet; exact ⟨P4, s8.setA y⟩)
 case rest =>
  obtain ⟨P4, sE⟩ := hcut
  clear hIv hSv sD b0 b1 c0 c1 z0 z1 z2 d0 d1 d2 d3 sC
  obtain ⟨q, n, hx⟩ : ∃ q n, nxt l4 = (q, n) := ⟨_, _, rfl⟩
  have hN := sE.r.next hx
  have hm := sE.r.m
  have he := sE.r.e
  have hn : n ≤ l4.length := by have := nxt_le l4; rw [hx] at this; exact this
  have HX : Hid (nxt l4 = (q, n)) := hx
  clear hx
  have c0 : ∀ x : Cl wc, x.w.cell? ⟨R, 0, none⟩ = some (.int .i64 (P4 : Nat)) := fun x => x.cell sE.r.a
  have c1 : ∀ x : Cl wc, x.w.cell? ⟨R, 1, none⟩ = some (.func (.func 61) #[] #[.pointer (some ⟨F, 0, none⟩)]) := fun x => x.cell sE.r.n
  go_wp2
  refine wp_region_above wc (Below.refl _ _) (by kernel_rfl) (by kernel_rfl) ?_
  intro hCl
  repeat (go_big_quiet_step ((go_at_call 61; exact Cl.call (hN _))))
  refine wpQuiet_nil ?_
  intro _ hw'
  obtain ⟨yy, hy⟩ := hw'
  subst hy
  have sF := sE.up yy.below
  clear c0 c1 hN hCl
  have hd' : s.data.toList.drop (P4 + n) = l4.drop n := drop_more sE.r.d
  have he' : P4 + n + (l4.drop n).length = s.size := by rw [List.length_drop]; omega
  have n1 := sF.nR
  have n2 := sF.nF
  have n3 := sF.nB
  have n4 : ¬ B = R := by omega
  have n5 : ¬ R = B := by omega
  generalize yy.w = V at *
  obtain ⟨m0, m1, m2, m3, m4, m5, m6, m7, m8, m9, m10, m11, m12, m13, m14, m15, m16, m17, m18, m19⟩ := bx20 sF.p
  have mz := sF.p.z
  have r0 := sF.r.a
  have r1 := sF.r.z
  by_cases hn0 : n = 0
  ·subst hn0
   have hn0 : (0 : Nat) = 0 := rfl
   have sG := ((sF.setK 2).setV q).put hd' he'
   rw [Nat.add_zero] at sG
   have hPb : (P4 : Int) ≤ 1000000000000 := by omega
   have HK : Hid (rk = 2 ∧ rv = q ∧ nxt l4 = (q, 0)) := ⟨by rw [← hR, HX.out]; exact if_pos hn0, by rw [← hV, HX.out], HX.out⟩
   clear HX hn0 sE sF hR hV he' hd' he hn hm
   go_upto_region 13 with fail
   have sH : StD w s R F B B4 (pieceV 2 ⟨#[]⟩ f (-1) q a b y) x4 x5 (P4) (l4.drop 0) (((V.setCell ⟨B, 0, none⟩ (.int .i64 2)).setCell ⟨B, 9, none⟩ (.int .i32 (q : Nat))).setCell ⟨R, 0, none⟩ (.int .i64 (P4 : Nat))) := sG
   clear sG
   generalize ((V.setCell ⟨B, 0, none⟩ (.int .i64 2)).setCell ⟨B, 9, none⟩ (.int .i32 (q : Nat))).setCell ⟨R, 0, none⟩ (.int .i64 (P4 : Nat)) = W6 at *
   clear m0 m1 m2 m3 m4 m5 m6 m7 m8 m9 m10 m11 m12 m13 m14 m15 m16 m17 m18 m19 mz r0 r1
   refine wp_region_lit ?_
   refine wpl_load20 rfl (.tmp 3) rfl rfl sH.p rfl ?_
   refine wpl_store20 rfl (.tmp 2) (.tmp 60) rfl (us := pieceV 2 ⟨#[]⟩ f (-1) q a b y) rfl rfl sH.a rfl rfl (pv_one _ _ _ _ _ _ _ _) ?_
   refine wpList_nil ?_
   have fA : Bx (W6.setCells w.heap.size 0 (pieceV 2 ⟨#[]⟩ f (-1) q a b y)) w.heap.size (pieceV 2 ⟨#[]⟩ f (-1) q a b y) := sH.a.all _ rfl
   have fR : RdW s R F (P4) (l4.drop 0) (W6.setCells w.heap.size 0 (pieceV 2 ⟨#[]⟩ f (-1) q a b y)) := sH.r.sc (by omega) (by omega) _ _
   have fG : w.grownBy (W6.setCells w.heap.size 0 (pieceV 2 ⟨#[]⟩ f (-1) q a b y)) (some R) := gr_sc sH.g (Nat.le_refl _) _ _
   generalize W6.setCells w.heap.size 0 (pieceV 2 ⟨#[]⟩ f (-1) q a b y) = Wf at *
   generalize Value.agg (pieceV 2 ⟨#[]⟩ f (-1) q a b y).toArray = pvv
   clear sH
   go_wp2
   refine bodyPost_ret (res20 Tryz.results77 rfl fA rfl) rfl ?_
   obtain ⟨t1, t2, t3⟩ := HK.out
   rw [t1, t2, t3]
   exact ⟨rfl, ⟨P4, fR⟩, fG⟩
  ·have hnI : ¬ (n : Int) = 0 := by omega
   have hnb : ((n : Int) == 0) = false := beq_eq_false_iff_ne.2 hnI
   have sG := (sF.setV q).put hd' he'
   have hPb : (P4 : Int) + n ≤ 1000000000000 := by omega
   have e9 : ((P4 + n : Nat) : Int) = (P4 : Int) + n := by omega
   rw [e9] at sG
   clear e9
   have HK : Hid (rk = 1 ∧ rv = q ∧ nxt l4 = (q, n)) := ⟨by rw [← hR, HX.out]; exact if_neg hn0, by rw [← hV, HX.out], HX.out⟩
   clear HX hn0 sE sF hR hV he' hd' he hn hm
   go_upto_region 13 with fail
   have sH : StD w s R F B B4 (pieceV 1 ⟨#[]⟩ f (-1) q a b y) x4 x5 (P4 + n) (l4.drop n) ((V.setCell ⟨B, 9, none⟩ (.int .i32 (q : Nat))).setCell ⟨R, 0, none⟩ (.int .i64 ((P4 : Int) + n))) := sG
   clear sG
   generalize (V.setCell ⟨B, 9, none⟩ (.int .i32 (q : Nat))).setCell ⟨R, 0, none⟩ (.int .i64 ((P4 : Int) + n)) = W6 at *
   clear m0 m1 m2 m3 m4 m5 m6 m7 m8 m9 m10 m11 m12 m13 m14 m15 m16 m17 m18 m19 mz r0 r1
   refine wp_region_lit ?_
   refine wpl_load20 rfl (.tmp 3) rfl rfl sH.p rfl ?_
   refine wpl_store20 rfl (.tmp 2) (.tmp 60) rfl (us := pieceV 1 ⟨#[]⟩ f (-1) q a b y) rfl rfl sH.a rfl rfl (pv_one _ _ _ _ _ _ _ _) ?_
   refine wpList_nil ?_
   have fA : Bx (W6.setCells w.heap.size 0 (pieceV 1 ⟨#[]⟩ f (-1) q a b y)) w.heap.size (pieceV 1 ⟨#[]⟩ f (-1) q a b y) := sH.a.all _ rfl
   have fR : RdW s R F (P4 + n) (l4.drop n) (W6.setCells w.heap.size 0 (pieceV 1 ⟨#[]⟩ f (-1) q a b y)) := sH.r.sc (by omega) (by omega) _ _
   have fG : w.grownBy (W6.setCells w.heap.size 0 (pieceV 1 ⟨#[]⟩ f (-1) q a b y)) (some R) := gr_sc sH.g (Nat.le_refl _) _ _
   generalize W6.setCells w.heap.size 0 (pieceV 1 ⟨#[]⟩ f (-1) q a b y) = Wf at *
   generalize Value.agg (pieceV 1 ⟨#[]⟩ f (-1) q a b y).toArray = pvv
   clear sH
   go_wp2
   refine bodyPost_ret (res20 Tryz.results77 rfl fA rfl) rfl ?_
   obtain ⟨t1, t2, t3⟩ := HK.out
   rw [t1, t2, t3]
   exact ⟨rfl, ⟨P4 + n, fR⟩, fG⟩
end Go.Proofs.YtdlnmnipnkeabaaGreatDoor
namespace Go.Proofs.YtdlnmnipnkeabaaGreatDoor
open Go.RowKit
set_option linter.unusedVariables false
set_option linter.unusedSimpArgs false
set_option maxRecDepth 1000000 in
set_option maxHeartbeats 4000000 in
theorem dir_point {s : ByteArray} {R F P : Nat} {l l1 l2 l3 l4 : Bs} {f : Fl} {a b : Nb} {x3 x4 x5 x y : Ix}
  (hF : ∀ w, RdW s R F P l w → Calls Tryz.prog 101 #[.pointer (some ⟨R, 0, none⟩)] w fun e w' => e = .returned (.agg #[.bool f.p, .bool f.m, .bool f.s, .bool f.b, .bool f.z, .int .i64 (-1), .int .i64 (-1), .int .i32 0]) ∧ (∃ P', RdW s R F P' l1 w') ∧ w.grownBy w' (some R))
  (hW : ∀ P w, RdW s R F P l1 w → Calls Tryz.prog 102 #[.pointer (some ⟨R, 0, none⟩)] w fun e w' => e = .returned (.tuple #[.agg #[.int .i64 (a.k : Nat), .int .i64 a.n, .int .i64 (a.a.k : Nat), .int .i64 (a.a.n : Nat)], .agg #[.int .i64 (x3.k : Nat), .int .i64 (x3.n : Nat)]]) ∧ (∃ P', RdW s R F P' l2 w') ∧ w.grownBy w' (some R))
  (hh : hd l2 = 46) (hSp : ∀ w, Calls Tryz.prog 103 #[.agg #[.int .i64 (x3.k : Nat), .int .i64 (x3.n : Nat)]] w fun e w' => e = .returned (.agg #[.int .i64 (x4.k : Nat), .int .i64 (x4.n : Nat)]) ∧ Below w.heap.size w w')
  (hP : ∀ P w, RdW s R F P l2.tail w → Calls Tryz.prog 104 #[.pointer (some ⟨R, 0, none⟩)] w fun e w' => e = .returned (.tuple #[.agg #[.int .i64 (b.k : Nat), .int .i64 b.n, .int .i64 (b.a.k : Nat), .int .i64 (b.a.n : Nat)], .agg #[.int .i64 (x5.k : Nat), .int .i64 (x5.n : Nat)]]) ∧ (∃ P', RdW s R F P' l3 w') ∧ w.grownBy w' (some R))
  (hI : ∀ P, IdC s R F P l3 x l4) (hS : ∀ (w : World) (B cp : Nat), Bx w B [.int .i64 (x4.k : Nat), .int .i64 (x4.n : Nat), .int .i64 (x5.k : Nat), .int .i64 (x5.n : Nat), .int .i64 (x.k : Nat), .int .i64 (x.n : Nat)] → Calls Tryz.prog 105 #[.slice (some ⟨B, 0, none⟩) 3 cp] w fun e w' => e = .returned (.agg #[.int .i64 (y.k : Nat), .int .i64 (y.n : Nat)]) ∧ Below w.heap.size w w')
  {rk rv : Nat} (hR : (if (nxt l4).2 = 0 then (2 : Nat) else 1) = rk) (hV : (nxt l4).1 = rv)
  (w : World) (h : RdW s R F P l w) : Calls Tryz.prog 77 #[.pointer (some ⟨R, 0, none⟩)] w fun e w' => e = .returned (.agg (pieceV rk ⟨#[]⟩ f (-1) rv a b y).toArray) ∧ (∃ P', RdW s R F P' (l4.drop (nxt l4).2) w') ∧ w.grownBy w' (some R) := by
 have hT := fun P1 => take_yes (s := s) (R := R) (F := F) (P := P1) (l := l2) (c := 46) (by omega) (by omega) hh
 obtain ⟨W1, hW1⟩ : ∃ W1, W1 = w.alloc (.cells #[.int .i64 0, .string ⟨#[]⟩, .bool false, .bool false, .bool false, .bool false, .bool false, .int .i64 0, .int .i64 0, .int .i32 0, .int .i64 0, .int .i64 0, .int .i64 0, .int .i64 0, .int .i64 0, .int .i64 0, .int .i64 0, .int .i64 0, .int .i64 0, .int .i64 0] 119) := ⟨_, rfl⟩
 have h1 : RdW s R F P l W1 := h.up (by rw [hW1]; exact (Below.refl _ _).alloc (Nat.le_refl _) _)
 have beg := fun (P1 : Nat) (w2 : World) (hr : RdW s R F P1 l1 w2) (hg : W1.grownBy w2 (some R)) => beg1 (f := f) h (hW1.trans rfl) hr hg
 go_enter Tryz.func77, Tryz.ntmps77
 go_upto_region 1 with fail
 rw [← hW1]
 clear hW1
 go_upto_region 2 with (first
  | (go_at_call 101; refine (hF _ h1).mono ?_; rintro e w2 ⟨rfl, ⟨P1, h2⟩, g2⟩; have s3 := beg P1 w2 h2 g2)
  | (refine wpl_store20 rfl (.tmp 3) (.tmp 10) rfl (us := pieceV 1 ⟨#[]⟩ f (-1) 0 nb0 nb0 ix0) rfl rfl (Bx.new w2 (pieceV 0 ⟨#[]⟩ fl0 0 0 nb0 nb0 ix0) 119) rfl rfl (pv_one _ _ _ _ _ _ _ _) ?_))
 generalize hVe : (w2.alloc (.cells #[.int .i64 0, .string ⟨#[]⟩, .bool false, .bool false, .bool false, .bool false, .bool false, .int .i64 0, .int .i64 0, .int .i32 0, .int .i64 0, .int .i64 0, .int .i64 0, .int .i64 0, .int .i64 0, .int .i64 0, .int .i64 0, .int .i64 0, .int .i64 0, .int .i64 0] 119)).setCells w2.heap.size 0 (pieceV 1 ⟨#[]⟩ f (-1) 0 nb0 nb0 ix0) = V2
 have s3' : RdW s R F P1 l1 V2 ∧ Bx V2 w.heap.size (pieceV 0 ⟨#[]⟩ fl0 0 0 nb0 nb0 ix0) ∧ Bx V2 w2.heap.size (pieceV 1 ⟨#[]⟩ f (-1) 0 nb0 nb0 ix0) ∧ w.grownBy V2 (some R) ∧ R < w.heap.size ∧ F < w.heap.size ∧ w.heap.size < w2.heap.size ∧ w2.heap.size < V2.heap.size := by rw [← hVe]; exact s3
 clear s3 hVe beg hF h2 g2 h1
 generalize w2.heap.size = B at *
 obtain ⟨v1, v2, v3, v4, v5, v6, v7, v8⟩ := s3'
 have sA := beg2 v1 v2 v3 v4 v5 v6 v7 v8
 clear v1 v2 v3 v4 v5 v6 v7 v8
 go_upto_region 3 with fail
 generalize (V2.alloc (.cells #[.int .i64 0, .int .i64 0] 115)).alloc (.cells #[.int .i64 0, .int .i64 0] 115) = W3 at *
 generalize V2.heap.size = B4 at *
 go_upto_region 4 with (go_at_call 102; refine (hW _ _ sA.r).mono ?_; rintro e w4 ⟨rfl, ⟨P2, h4⟩, g4⟩; have s4 := sA.go h4 g4; obtain ⟨m0, m1, m2, m3, m4, m5, m6, m7, m8, m9, m10, m11, m12, m13, m14, m15, m16, m17, m18, m19⟩ := bx20 s4.p; obtain ⟨⟨b0, b1⟩, ⟨c0, c1⟩, ⟨z0, z1, z2⟩, -⟩ := s4.idx; have nn := s4.n4)
 have s5 := (s4.setW a).set4 x3
 generalize (((((w4.setCell ⟨B, 10, none⟩ (.int .i64 (a.k : Nat))).setCell ⟨B, 11, none⟩ (.int .i64 a.n)).setCell ⟨B, 12, none⟩ (.int .i64 (a.a.k : Nat))).setCell ⟨B, 13, none⟩ (.int .i64 (a.a.n : Nat))).setCell ⟨B4, 0, none⟩ (.int .i64 (x3.k : Nat))).setCell ⟨B4, 1, none⟩ (.int .i64 (x3.n : Nat)) = W5 at *
 clear m0 m1 m2 m3 m4 m5 m6 m7 m8 m9 m10 m11 m12 m13 m14 m15 m16 m17 m18 m19 b0 b1 c0 c1 z0 z1 z2 s4 h4 g4 sA hW
 obtain ⟨⟨b0, b1⟩, -, ⟨z0, z1, z2⟩, -⟩ := s5.idx
 go_upto_region 6 with (first
  | (go_at_call 76; refine (hT _ _ s5.r).mono ?_; rintro e w6 ⟨rfl, h6, g6⟩; have s6 := s5.go h6 g6; obtain ⟨⟨e0, e1⟩, -, ⟨f0, f1, f2⟩, -⟩ := s6.idx)
  | (go_at_call 103; refine (hSp _).mono ?_; rintro e w7 ⟨rfl, hb7⟩; have s7 := s6.up hb7; obtain ⟨⟨i0, i1⟩, -, ⟨j0, j1, j2⟩, -⟩ := s7.idx))
 have s8 := s7.set4 x4
 generalize (w7.setCell ⟨B4, 0, none⟩ (.int .i64 (x4.k : Nat))).setCell ⟨B4, 1, none⟩ (.int .i64 (x4.n : Nat)) = W8 at *
 clear b0 b1 z0 z1 z2 e0 e1 f0 f1 f2 i0 i1 j0 j1 j2 s7 s6 s5 h6 g6 hb7 hT hSp
 go_upto_region 7 with (go_at_call 104; refine (hP _ _ s8.r).mono ?_; rintro e w9 ⟨rfl, ⟨P3, h9⟩, g9⟩; have s9 := s8.go h9 g9; obtain ⟨m0, m1, m2, m3, m4, m5, m6, m7, m8, m9, m10, m11, m12, m13, m14, m15, m16, m17, m18, m19⟩ := bx20 s9.p; obtain ⟨⟨b0, b1⟩, ⟨c0, c1⟩, ⟨z0, z1, z2⟩, -⟩ := s9.idx)
 have sC := (s9.setR b).set5 x5
 generalize (((((w9.setCell ⟨B, 14, none⟩ (.int .i64 (b.k : Nat))).setCell ⟨B, 15, none⟩ (.int .i64 b.n)).setCell ⟨B, 16, none⟩ (.int .i64 (b.a.k : Nat))).setCell ⟨B, 17, none⟩ (.int .i64 (b.a.n : Nat))).setCell ⟨B4 + 1, 0, none⟩ (.int .i64 (x5.k : Nat))).setCell ⟨B4 + 1, 1, none⟩ (.int .i64 (x5.n : Nat)) = WC at *
 clear m0 m1 m2 m3 m4 m5 m6 m7 m8 m9 m10 m11 m12 m13 m14 m15 m16 m17 m18 m19 b0 b1 c0 c1 z0 z1 z2 s9 h9 g9 s8 hP
 obtain ⟨⟨b0, b1⟩, ⟨c0, c1⟩, ⟨z0, z1, z2⟩, ⟨d0, d1, d2, d3⟩⟩ := sC.idx
 have hIv : ∀ V, StD w s R F B B4 (pieceV 1 ⟨#[]⟩ f (-1) 0 a b ix0) x4 x5 P3 l3 V → Calls Tryz.prog 106 #[.pointer (some ⟨R, 0, none⟩)] V fun e w' => e = .returned (.agg #[.int .i64 (x.k : Nat), .int .i64 (x.n : Nat)]) ∧ ∃ P4, StD w s R F B B4 (pieceV 1 ⟨#[]⟩ f (-1) 0 a b ix0) x4 x5 P4 l4 w' := fun V hV => (hI P3 V hV.r).mono fun e w' ⟨e1, ⟨P4, e2⟩, e3⟩ => ⟨e1, P4, hV.go e2 e3⟩
 have hSv : ∀ V P4, StD w s R F B B4 (pieceV 1 ⟨#[]⟩ f (-1) 0 a b ix0) x4 x5 P4 l4 V → Calls Tryz.prog 105 #[.slice (some ⟨V.heap.size, 0, none⟩) 3 3] (V.alloc (.cells #[.int .i64 (x4.k : Nat), .int .i64 (x4.n : Nat), .int .i64 (x5.k : Nat), .int .i64 (x5.n : Nat), .int .i64 (x.k : Nat), .int .i64 (x.n : Nat)] 115)) fun e w' => e = .returned (.agg #[.int .i64 (y.k : Nat), .int .i64 (y.n : Nat)]) ∧ StD w s R F B B4 (pieceV 1 ⟨#[]⟩ f (-1) 0 a b ix0) x4 x5 P4 l4 w' := fun V P4 hV =>
  (hS _ V.heap.size 3 (Bx.new V _ _)).mono fun e w' ⟨e1, e2⟩ => ⟨e1, (hV.up ((Below.refl _ _).alloc (Nat.le_refl _) _)).up e2⟩
 have sD : StD w s R F B B4 (pieceV 1 ⟨#[]⟩ f (-1) 0 a b ix0) x4 x5 P3 l3 WC.drew := sC.up ((Below.refl _ _).drew)
 go_cut [30] (fun _ wx => ∃ P4, StD w s R F B B4 (pieceV 1 ⟨#[]⟩ f (-1) 0 a b y) x4 x5 P4 l4 wx)
 case first =>
  go_region_with (first
   | (go_at_call 106; refine (hIv _ (by assumption)).mono ?_; rintro e w6 ⟨rfl, ⟨P4, s7⟩⟩; obtain ⟨⟨e0, e1⟩, ⟨f0, f1⟩, ⟨g0, g1, g2⟩, -⟩ := s7.idx)
   | (go_at_call 105; refine (hSv _ _ (by assumption)).mono ?_; rintro e w7 ⟨rfl, s8⟩; obtain ⟨⟨h0, h1⟩, ⟨i0, i1⟩, ⟨j0, j1, j2⟩, -⟩ := s8.idx; obtain ⟨m0, m1, m2, m3, m4, m5, m6, m7, m8, m9, m10, m11, m12, m13, m14, m15, m16, m17, m18, m19⟩ := bx20 s8.p))
  all_goals (go_wp2_with fail; go_meet; exact ⟨P4, s8.setA y⟩)
 case rest =>
  obtain ⟨P4, sE⟩ := hcut
  clear hIv hSv sD b0 b1 c0 c1 z0 z1 z2 d0 d1 d2 d3 sC
  obtain ⟨q, n, hx⟩ : ∃ q n, nxt l4 = (q, n) := ⟨_, _, rfl⟩
  have hN := sE.r.next hx
  have hm := sE.r.m
  have he := sE.r.e
  have hn : n ≤ l4.length := by have := nxt_le l4; rw [hx] at this; exact this
  have HX : Hid (nxt l4 = (q, n)) := hx
  clear hx
  have c0 : ∀ x : Cl wc, x.w.cell? ⟨R, 0, none⟩ = some (.int .i64 (P4 : Nat)) := fun x => x.cell sE.r.a
  have c1 : ∀ x : Cl wc, x.w.cell? ⟨R, 1, none⟩ = some (.func (.func 61) #[] #[.pointer (some ⟨F, 0, none⟩)]) := fun x => x.cell sE.r.n
  go_wp2
  refine wp_region_above wc (Below.refl _ _) (by kernel_rfl) (by kernel_rfl) ?_
  intro hCl
  repeat (go_big_quiet_step ((go_at_call 61; exact Cl.call (hN _))))
  refine wpQuiet_nil ?_
  intro _ hw'
  obtain ⟨yy, hy⟩ := hw'
  subst hy
  have sF := sE.up yy.below
  clear c0 c1 hN hCl
  have hd' : s.data.toList.drop (P4 + n) = l4.drop n := drop_more sE.r.d
  have he' : P4 + n + (l4.drop n).length = s.size := by rw [List.length_drop]; omega
  have n1 := sF.nR
  have n2 := sF.nF
  have n3 := sF.nB
  have n4 : ¬ B = R := by omega
  have n5 : ¬ R = B := by omega
  generalize yy.w = V at *
  obtain ⟨m0, m1, m2, m3, m4, m5, m6, m7, m8, m9, m10, m11, m12, m13, m14, m15, m16, m17, m18, m19⟩ := bx20 sF.p
  have mz := sF.p.z
  have r0 := sF.r.a
  have r1 := sF.r.z
  by_cases hn0 : n = 0
  ·subst hn0
   have hn0 : (0 : Nat) = 0 := rfl
   have sG := ((sF.setK 2).setV q).put hd' he'
   rw [Nat.add_zero] at sG
   have hPb : (P4 : Int) ≤ 1000000000000 := by omega
   have HK : Hid (rk = 2 ∧ rv = q ∧ nxt l4 = (q, 0)) := ⟨by rw [← hR, HX.out]; exact if_pos hn0, by rw [← hV, HX.out], HX.out⟩
   clear HX hn0 sE sF hR hV he' hd' he hn hm
   go_upto_region 13 with fail
   have sH : StD w s R F B B4 (pieceV 2 ⟨#[]⟩ f (-1) q a b y) x4 x5 (P4) (l4.drop 0) (((V.setCell ⟨B, 0, none⟩ (.int .i64 2)).setCell ⟨B, 9, none⟩ (.int .i32 (q : Nat))).setCell ⟨R, 0, none⟩ (.int .i64 (P4 : Nat))) := sG
   clear sG
   generalize ((V.setCell ⟨B, 0, none⟩ (.int .i64 2)).setCell ⟨B, 9, none⟩ (.int .i32 (q : Nat))).setCell ⟨R, 0, none⟩ (.int .i64 (P4 : Nat)) = W6 at *
   clear m0 m1 m2 m3 m4 m5 m6 m7 m8 m9 m10 m11 m12 m13 m14 m15 m16 m17 m18 m19 mz r0 r1
   refine wp_region_lit ?_
   refine wpl_load20 rfl (.tmp 3) rfl rfl sH.p rfl ?_
   refine wpl_store20 rfl (.tmp 2) (.tmp 60) rfl (us := pieceV 2 ⟨#[]⟩ f (-1) q a b y) rfl rfl sH.a rfl rfl (pv_one _ _ _ _ _ _ _ _) ?_
   refine wpList_nil ?_
   have fA : Bx (W6.setCells w.heap.size 0 (pieceV 2 ⟨#[]⟩ f (-1) q a b y)) w.heap.size (pieceV 2 ⟨#[]⟩ f (-1) q a b y) := sH.a.all _ rfl
   have fR : RdW s R F (P4) (l4.drop 0) (W6.setCells w.heap.size 0 (pieceV 2 ⟨#[]⟩ f (-1) q a b y)) := sH.r.sc (by omega) (by omega) _ _
   have fG : w.grownBy (W6.setCells w.heap.size 0 (pieceV 2 ⟨#[]⟩ f (-1) q a b y)) (some R) := gr_sc sH.g (Nat.le_refl _) _ _
   generalize W6.setCells w.heap.size 0 (pieceV 2 ⟨#[]⟩ f (-1) q a b y) = Wf at *
   generalize Value.agg (pieceV 2 ⟨#[]⟩ f (-1) q a b y).toArray = pvv
   clear sH
   go_wp2
   refine bodyPost_ret (res20 Tryz.results77 rfl fA rfl) rfl ?_
   obtain ⟨t1, t2, t3⟩ := HK.out
   rw [t1, t2, t3]
   exact ⟨rfl, ⟨P4, fR⟩, fG⟩
  ·have hnI : ¬ (n : Int) = 0 := by omega
   have hnb : ((n : Int) == 0) = false := beq_eq_false_iff_ne.2 hnI
   have sG := (sF.setV q).put hd' he'
   have hPb : (P4 : Int) + n ≤ 1000000000000 := by omega
   have e9 : ((P4 + n : Nat) : Int) = (P4 : Int) + n := by omega
   rw [e9] at sG
   clear e9
   have HK : Hid (rk = 1 ∧ rv = q ∧ nxt l4 = (q, n)) := ⟨by rw [← hR, HX.out]; exact if_neg hn0, by rw [← hV, HX.out], HX.out⟩
   clear HX hn0 sE sF hR hV he' hd' he hn hm
   go_upto_region 13 with fail
   have sH : StD w s R F B B4 (pieceV 1 ⟨#[]⟩ f (-1) q a b y) x4 x5 (P4 + n) (l4.drop n) ((V.setCell ⟨B, 9, none⟩ (.int .i32 (q : Nat))).setCell ⟨R, 0, none⟩ (.int .i64 ((P4 : Int) + n))) := sG
   clear sG
   generalize (V.setCell ⟨B, 9, none⟩ (.int .i32 (q : Nat))).setCell ⟨R, 0, none⟩ (.int .i64 ((P4 : Int) + n)) = W6 at *
   clear m0 m1 m2 m3 m4 m5 m6 m7 m8 m9 m10 m11 m12 m13 m14 m15 m16 m17 m18 m19 mz r0 r1
   refine wp_region_lit ?_
   refine wpl_load20 rfl (.tmp 3) rfl rfl sH.p rfl ?_
   refine wpl_store20 rfl (.tmp 2) (.tmp 60) rfl (us := pieceV 1 ⟨#[]⟩ f (-1) q a b y) rfl rfl sH.a rfl rfl (pv_one _ _ _ _ _ _ _ _) ?_
   refine wpList_nil ?_
   have fA : Bx (W6.setCells w.heap.size 0 (pieceV 1 ⟨#[]⟩ f (-1) q a b y)) w.heap.size (pieceV 1 ⟨#[]⟩ f (-1) q a b y) := sH.a.all _ rfl
   have fR : RdW s R F (P4 + n) (l4.drop n) (W6.setCells w.heap.size 0 (pieceV 1 ⟨#[]⟩ f (-1) q a b y)) := sH.r.sc (by omega) (by omega) _ _
   have fG : w.grownBy (W6.setCells w.heap.size 0 (pieceV 1 ⟨#[]⟩ f (-1) q a b y)) (some R) := gr_sc sH.g (Nat.le_refl _) _ _
   generalize W6.setCells w.heap.size 0 (pieceV 1 ⟨#[]⟩ f (-1) q a b y) = Wf at *
   generalize Value.agg (pieceV 1 ⟨#[]⟩ f (-1) q a b y).toArray = pvv
   clear sH
   go_wp2
   refine bodyPost_ret (res20 Tryz.results77 rfl fA rfl) rfl ?_
   obtain ⟨t1, t2, t3⟩ := HK.out
   rw [t1, t2, t3]
   exact ⟨rfl, ⟨P4 + n, fR⟩, fG⟩
end Go.Proofs.YtdlnmnipnkeabaaGreatDoor
