/- PWalkI, PWalkJ, PWalkK: these texts in one. -/
import Derived.Test.YtjfmhghpkefihaaGreatDoorPt17
import Derived.Great.BuildSlice
import Derived.OwnWalk
import Derived.Laws.EntriesVeiled
namespace Go.Proofs.YtjfmhghpkefihaaGreatDoor
open Go.RowKit
set_option linter.unusedVariables false
set_option linter.unusedSimpArgs false
set_option maxRecDepth 1000000 in
set_option maxHeartbeats 4000000 in
theorem dir_point {s : ByteArray} {R F P : Nat} {l l1 l2 l3 l4 : Bs} {f : Fl} {a b : Nb} {x3 x4 x5 x y : Ix}
  (hF : ∀ w, RdW s R F P l w → Calls Tryz.prog 103 #[.pointer (some ⟨R, 0, none⟩)] w fun e w' => e = .returned (.agg #[.bool f.p, .bool f.m, .bool f.s, .bool f.b, .bool f.z, .int .i64 (-1), .int .i64 (-1), .int .i32 0]) ∧ (∃ P', RdW s R F P' l1 w') ∧ w.grownBy w' (some R))
  (hW : ∀ P w, RdW s R F P l1 w → Calls Tryz.prog 104 #[.pointer (some ⟨R, 0, none⟩)] w fun e w' => e = .returned (.tuple #[.agg #[.int .i64 (a.k : Nat), .int .i64 a.n, .int .i64 (a.a.k : Nat), .int .i64 (a.a.n : Nat)], .agg #[.int .i64 (x3.k : Nat), .int .i64 (x3.n : Nat)]]) ∧ (∃ P', RdW s R F P' l2 w') ∧ w.grownBy w' (some R))
  (hh : hd l2 = 46) (hSp : ∀ w, Calls Tryz.prog 105 #[.agg #[.int .i64 (x3.k : Nat), .int .i64 (x3.n : Nat)]] w fun e w' => e = .returned (.agg #[.int .i64 (x4.k : Nat), .int .i64 (x4.n : Nat)]) ∧ Below w.heap.size w w')
  (hP : ∀ P w, RdW s R F P l2.tail w → Calls Tryz.prog 106 #[.pointer (some ⟨R, 0, none⟩)] w fun e w' => e = .returned (.tuple #[.agg #[.int .i64 (b.k : Nat), .int .i64 b.n, .int .i64 (b.a.k : Nat), .int .i64 (b.a.n : Nat)], .agg #[.int .i64 (x5.k : Nat), .int .i64 (x5.n : Nat)]]) ∧ (∃ P', RdW s R F P' l3 w') ∧ w.grownBy w' (some R))
  (hI : ∀ P, IdC s R F P l3 x l4) (hS : ∀ (w : World) (B cp : Nat), Bx w B [.int .i64 (x4.k : Nat), .int .i64 (x4.n : Nat), .int .i64 (x5.k : Nat), .int .i64 (x5.n : Nat), .int .i64 (x.k : Nat), .int .i64 (x.n : Nat)] → Calls Tryz.prog 107 #[.slice (some ⟨B, 0, none⟩) 3 cp] w fun e w' => e = .returned (.agg #[.int .i64 (y.k : Nat), .int .i64 (y.n : Nat)]) ∧ Below w.heap.size w w')
  {rk rv : Nat} (hR : (if (nxt l4).2 = 0 then (2 : Nat) else 1) = rk) (hV : (nxt l4).1 = rv)
  (w : World) (h : RdW s R F P l w) : Calls Tryz.prog 64 #[.pointer (some ⟨R, 0, none⟩)] w fun e w' => e = .returned (.agg (pieceV rk ⟨#[]⟩ f (-1) rv a b y).toArray) ∧ (∃ P', RdW s R F P' (l4.drop (nxt l4).2) w') ∧ w.grownBy w' (some R) := by
 have hT := fun P1 => take_yes (s := s) (R := R) (F := F) (P := P1) (l := l2) (c := 46) (by omega) (by omega) hh
 obtain ⟨W1, hW1⟩ : ∃ W1, W1 = w.alloc (.cells #[.int .i64 0, .string ⟨#[]⟩, .bool false, .bool false, .bool false, .bool false, .bool false, .int .i64 0, .int .i64 0, .int .i32 0, .int .i64 0, .int .i64 0, .int .i64 0, .int .i64 0, .int .i64 0, .int .i64 0, .int .i64 0, .int .i64 0, .int .i64 0, .int .i64 0] 86) := ⟨_, rfl⟩
 have h1 : RdW s R F P l W1 := h.up (by rw [hW1]; exact (Below.refl _ _).alloc (Nat.le_refl _) _)
 have beg := fun (P1 : Nat) (w2 : World) (hr : RdW s R F P1 l1 w2) (hg : W1.grownBy w2 (some R)) => beg1 (f := f) h (hW1.trans rfl) hr hg
 go_enter Tryz.func64, Tryz.ntmps64
 go_upto_region 1 with fail
 rw [← hW1]
 clear hW1
 go_upto_region 2 with (first
  | (go_at_call 103; refine (hF _ h1).mono ?_; rintro e w2 ⟨rfl, ⟨P1, h2⟩, g2⟩; have s3 := beg P1 w2 h2 g2)
  | (refine wpl_store20 rfl (.tmp 3) (.tmp 10) rfl (us := pieceV 1 ⟨#[]⟩ f (-1) 0 nb0 nb0 ix0) rfl rfl (Bx.new w2 (pieceV 0 ⟨#[]⟩ fl0 0 0 nb0 nb0 ix0) 86) rfl rfl (pv_one _ _ _ _ _ _ _ _) ?_))
 generalize hVe : (w2.alloc (.cells #[.int .i64 0, .string ⟨#[]⟩, .bool false, .bool false, .bool false, .bool false, .bool false, .int .i64 0, .int .i64 0, .int .i32 0, .int .i64 0, .int .i64 0, .int .i64 0, .int .i64 0, .int .i64 0, .int .i64 0, .int .i64 0, .int .i64 0, .int .i64 0, .int .i64 0] 86)).setCells w2.heap.size 0 (pieceV 1 ⟨#[]⟩ f (-1) 0 nb0 nb0 ix0) = V2
 have s3' : RdW s R F P1 l1 V2 ∧ Bx V2 w.heap.size (pieceV 0 ⟨#[]⟩ fl0 0 0 nb0 nb0 ix0) ∧ Bx V2 w2.heap.size (pieceV 1 ⟨#[]⟩ f (-1) 0 nb0 nb0 ix0) ∧ w.grownBy V2 (some R) ∧ R < w.heap.size ∧ F < w.heap.size ∧ w.heap.size < w2.heap.size ∧ w2.heap.size < V2.heap.size := by rw [← hVe]; exact s3
 clear s3 hVe beg hF h2 g2 h1
 generalize w2.heap.size = B at *
 obtain ⟨v1, v2, v3, v4, v5, v6, v7, v8⟩ := s3'
 have sA := beg2 v1 v2 v3 v4 v5 v6 v7 v8
 clear v1 v2 v3 v4 v5 v6 v7 v8
 go_upto_region 3 with fail
 generalize (V2.alloc (.cells #[.int .i64 0, .int .i64 0] 82)).alloc (.cells #[.int .i64 0, .int .i64 0] 82) = W3 at *
 generalize V2.heap.size = B4 at *
 go_upto_region 4 with (go_at_call 104; refine (hW _ _ sA.r).mono ?_; rintro e w4 ⟨rfl, ⟨P2, h4⟩, g4⟩; have s4 := sA.go h4 g4; obtain ⟨m0, m1, m2, m3, m4, m5, m6, m7, m8, m9, m10, m11, m12, m13, m14, m15, m16, m17, m18, m19⟩ := bx20 s4.p; obtain ⟨⟨b0, b1⟩, ⟨c0, c1⟩, ⟨z0, z1, z2⟩, -⟩ := s4.idx; have nn := s4.n4)
 have s5 := (s4.setW a).set4 x3
 generalize (((((w4.setCell ⟨B, 10, none⟩ (.int .i64 (a.k : Nat))).setCell ⟨B, 11, none⟩ (.int .i64 a.n)).setCell ⟨B, 12, none⟩ (.int .i64 (a.a.k : Nat))).setCell ⟨B, 13, none⟩ (.int .i64 (a.a.n : Nat))).setCell ⟨B4, 0, none⟩ (.int .i64 (x3.k : Nat))).setCell ⟨B4, 1, none⟩ (.int .i64 (x3.n : Nat)) = W5 at *
 clear m0 m1 m2 m3 m4 m5 m6 m7 m8 m9 m10 m11 m12 m13 m14 m15 m16 m17 m18 m19 b0 b1 c0 c1 z0 z1 z2 s4 h4 g4 sA hW
 obtain ⟨⟨b0, b1⟩, -, ⟨z0, z1, z2⟩, -⟩ := s5.idx
 go_upto_region 6 with (first
  | (go_at_call 63; refine (hT _ _ s5.r).mono ?_; rintro e w6 ⟨rfl, h6, g6⟩; have s6 := s5.go h6 g6; obtain ⟨⟨e0, e1⟩, -, ⟨f0, f1, f2⟩, -⟩ := s6.idx)
  | (go_at_call 105; refine (hSp _).mono ?_; rintro e w7 ⟨rfl, hb7⟩; have s7 := s6.up hb7; obtain ⟨⟨i0, i1⟩, -, ⟨j0, j1, j2⟩, -⟩ := s7.idx))
 have s8 := s7.set4 x4
 generalize (w7.setCell ⟨B4, 0, none⟩ (.int .i64 (x4.k : Nat))).setCell ⟨B4, 1, none⟩ (.int .i64 (x4.n : Nat)) = W8 at *
 clear b0 b1 z0 z1 z2 e0 e1 f0 f1 f2 i0 i1 j0 j1 j2 s7 s6 s5 h6 g6 hb7 hT hSp
 go_upto_region 7 with (go_at_call 106; refine (hP _ _ s8.r).mono ?_; rintro e w9 ⟨rfl, ⟨P3, h9⟩, g9⟩; have s9 := s8.go h9 g9; obtain ⟨m0, m1, m2, m3, m4, m5, m6, m7, m8, m9, m10, m11, m12, m13, m14, m15, m16, m17, m18, m19⟩ := bx20 s9.p; obtain ⟨⟨b0, b1⟩, ⟨c0, c1⟩, ⟨z0, z1, z2⟩, -⟩ := s9.idx)
 have sC := (s9.setR b).set5 x5
 generalize (((((w9.setCell ⟨B, 14, none⟩ (.int .i64 (b.k : Nat))).setCell ⟨B, 15, none⟩ (.int .i64 b.n)).setCell ⟨B, 16, none⟩ (.int .i64 (b.a.k : Nat))).setCell ⟨B, 17, none⟩ (.int .i64 (b.a.n : Nat))).setCell ⟨B4 + 1, 0, none⟩ (.int .i64 (x5.k : Nat))).setCell ⟨B4 + 1, 1, none⟩ (.int .i64 (x5.n : Nat)) = WC at *
 clear m0 m1 m2 m3 m4 m5 m6 m7 m8 m9 m10 m11 m12 m13 m14 m15 m16 m17 m18 m19 b0 b1 c0 c1 z0 z1 z2 s9 h9 g9 s8 hP
 obtain ⟨⟨b0, b1⟩, ⟨c0, c1⟩, ⟨z0, z1, z2⟩, ⟨d0, d1, d2, d3⟩⟩ := sC.idx
 have hIv : ∀ V, StD w s R F B B4 (pieceV 1 ⟨#[]⟩ f (-1) 0 a b ix0) x4 x5 P3 l3 V → Calls Tryz.prog 108 #[.pointer (some ⟨R, 0, none⟩)] V fun e w' => e = .returned (.agg #[.int .i64 (x.k : Nat), .int .i64 (x.n : Nat)]) ∧ ∃ P4, StD w s R F B B4 (pieceV 1 ⟨#[]⟩ f (-1) 0 a b ix0) x4 x5 P4 l4 w' := fun V hV => (hI P3 V hV.r).mono fun e w' ⟨e1, ⟨P4, e2⟩, e3⟩ => ⟨e1, P4, hV.go e2 e3⟩
 have hSv : ∀ V P4, StD w s R F B B4 (pieceV 1 ⟨#[]⟩ f (-1) 0 a b ix0) x4 x5 P4 l4 V → Calls Tryz.prog 107 #[.slice (some ⟨V.heap.size, 0, none⟩) 3 3] (V.alloc (.cells #[.int .i64 (x4.k : Nat), .int .i64 (x4.n : Nat), .int .i64 (x5.k : Nat), .int .i64 (x5.n : Nat), .int .i64 (x.k : Nat), .int .i64 (x.n : Nat)] 82)) fun e w' => e = .returned (.agg #[.int .i64 (y.k : Nat), .int .i64 (y.n : Nat)]) ∧ StD w s R F B B4 (pieceV 1 ⟨#[]⟩ f (-1) 0 a b ix0) x4 x5 P4 l4 w' := fun V P4 hV =>
  (hS _ V.heap.size 3 (Bx.new V _ _)).mono fun e w' ⟨e1, e2⟩ => ⟨e1, (hV.up ((Below.refl _ _).alloc (Nat.le_refl _) _)).up e2⟩
 have sD : StD w s R F B B4 (pieceV 1 ⟨#[]⟩ f (-1) 0 a b ix0) x4 x5 P3 l3 WC.drew := sC.up ((Below.refl _ _).drew)
 go_cut [30] (fun _ wx => ∃ P4, StD w s R F B B4 (pieceV 1 ⟨#[]⟩ f (-1) 0 a b y) x4 x5 P4 l4 wx)
 case first =>
  go_region_with (first
   | (go_at_call 108; refine (hIv _ (by assumption)).mono ?_; rintro e w6 ⟨rfl, ⟨P4, s7⟩⟩; obtain ⟨⟨e0, e1⟩, ⟨f0, f1⟩, ⟨g0, g1, g2⟩, -⟩ := s7.idx)
   | (go_at_call 107; refine (hSv _ _ (by assumption)).mono ?_; rintro e w7 ⟨rfl, s8⟩; obtain ⟨⟨h0, h1⟩, ⟨i0, i1⟩, ⟨j0, j1, j2⟩, -⟩ := s8.idx; obtain ⟨m0, m1, m2, m3, m4, m5, m6, m7, m8, m9, m10, m11, m12, m13, m14, m15, m16, m17, m18, m19⟩ := bx20 s8.p))
  all_goals (go_wp2_with fail; go_meet; exact ⟨P4, s8.setA y⟩)
 case rest =>
  obtain ⟨P4, sE⟩ := hcut
  clear hIv hSv sD b0 b1 c0 c1 z0 z1 z2 d0 d1 d2 d3 sC
  obtain ⟨q, n, hx⟩ : ∃ q n, nxt l4 = (q, n) := ⟨_, _, rfl⟩
  have hN := sE.r.next hx
  have hm := sE.r.m
  have he := sE.r.e
  have hn : n ≤ l4.length := by have := nxt_le l4; rw [hx] at this; exact this
  have HX : Hid (nxt l4 = (q, n)) := hx
  clear hx
  have c0 : ∀ x : Cl wc, x.w.cell? ⟨R, 0, none⟩ = some (.int .i64 (P4 : Nat)) := fun x => x.cell sE.r.a
  have c1 : ∀ x : Cl wc, x.w.cell? ⟨R, 1, none⟩ = some (.func (.func 41) #[] #[.pointer (some ⟨F, 0, none⟩)]) := fun x => x.cell sE.r.n
  go_wp2
  refine wp_region_above wc (Below.refl _ _) (by kernel_rfl) (by kernel_rfl) ?_
  intro hCl
  repeat (go_big_quiet_step ((go_at_call 41; exact Cl.call (hN _))))
  refine wpQuiet_nil ?_
  intro _ hw'
  obtain ⟨yy, hy⟩ := hw'
  subst hy
  have sF := sE.up yy.below
  clear c0 c1 hN hCl
  have hd' : s.data.toList.drop (P4 + n) = l4.drop n := drop_more sE.r.d
  have he' : P4 + n + (l4.drop n).length = s.size := by rw [List.length_drop]; omega
  have n1 := sF.nR
  have n2 := sF.nF
  have n3 := sF.nB
  have n4 : ¬ B = R := by omega
  have n5 : ¬ R = B := by omega
  generalize yy.w = V at *
  obtain ⟨m0, m1, m2, m3, m4, m5, m6, m7, m8, m9, m10, m11, m12, m13, m14, m15, m16, m17, m18, m19⟩ := bx20 sF.p
  have mz := sF.p.z
  have r0 := sF.r.a
  have r1 := sF.r.z
  by_cases hn0 : n = 0
  ·subst hn0
   have hn0 : (0 : Nat) = 0 := rfl
   have sG := ((sF.setK 2).setV q).put hd' he'
   rw [Nat.add_zero] at sG
   have hPb : (P4 : Int) ≤ 1000000000000 := by omega
   have HK : Hid (rk = 2 ∧ rv = q ∧ nxt l4 = (q, 0)) := ⟨by rw [← hR, HX.out]; exact if_pos hn0, by rw [← hV, HX.out], HX.out⟩
   clear HX hn0 sE sF hR hV he' hd' he hn hm
   go_upto_region 13 with fail
   have sH : StD w s R F B B4 (pieceV 2 ⟨#[]⟩ f (-1) q a b y) x4 x5 (P4) (l4.drop 0) (((V.setCell ⟨B, 0, none⟩ (.int .i64 2)).setCell ⟨B, 9, none⟩ (.int .i32 (q : Nat))).setCell ⟨R, 0, none⟩ (.int .i64 (P4 : Nat))) := sG
   clear sG
   generalize ((V.setCell ⟨B, 0, none⟩ (.int .i64 2)).setCell ⟨B, 9, none⟩ (.int .i32 (q : Nat))).setCell ⟨R, 0, none⟩ (.int .i64 (P4 : Nat)) = W6 at *
   clear m0 m1 m2 m3 m4 m5 m6 m7 m8 m9 m10 m11 m12 m13 m14 m15 m16 m17 m18 m19 mz r0 r1
   refine wp_region_lit ?_
   refine wpl_load20 rfl (.tmp 3) rfl rfl sH.p rfl ?_
   refine wpl_store20 rfl (.tmp 2) (.tmp 60) rfl (us := pieceV 2 ⟨#[]⟩ f (-1) q a b y) rfl rfl sH.a rfl rfl (pv_one _ _ _ _ _ _ _ _) ?_
   refine wpList_nil ?_
   have fA : Bx (W6.setCells w.heap.size 0 (pieceV 2 ⟨#[]⟩ f (-1) q a b y)) w.heap.size (pieceV 2 ⟨#[]⟩ f (-1) q a b y) := sH.a.all _ rfl
   have fR : RdW s R F (P4) (l4.drop 0) (W6.setCells w.heap.size 0 (pieceV 2 ⟨#[]⟩ f (-1) q a b y)) := sH.r.sc (by omega) (by omega) _ _
   have fG : w.grownBy (W6.setCells w.heap.size 0 (pieceV 2 ⟨#[]⟩ f (-1) q a b y)) (some R) := gr_sc sH.g (Nat.le_refl _) _ _
   generalize W6.setCells w.heap.size 0 (pieceV 2 ⟨#[]⟩ f (-1) q a b y) = Wf at *
   generalize Value.agg (pieceV 2 ⟨#[]⟩ f (-1) q a b y).toArray = pvv
   clear sH
   go_wp2
   refine bodyPost_ret (res20 Tryz.results64 rfl fA rfl) rfl ?_
   obtain ⟨t1, t2, t3⟩ := HK.out
   rw [t1, t2, t3]
   exact ⟨rfl, ⟨P4, fR⟩, fG⟩
  ·have hnI : ¬ (n : Int) = 0 := by omega
   have hnb : ((n : Int) == 0) = false := beq_eq_false_iff_ne.2 hnI
   have sG := (sF.setV q).put hd' he'
   have hPb : (P4 : Int) + n ≤ 1000000000000 := by omega
   have e9 : ((P4 + n : Nat) : Int) = (P4 : Int) + n := by omega
   rw [e9] at sG
   clear e9
   have HK : Hid (rk = 1 ∧ rv = q ∧ nxt l4 = (q, n)) := ⟨by rw [← hR, HX.out]; exact if_neg hn0, by rw [← hV, HX.out], HX.out⟩
   clear HX hn0 sE sF hR hV he' hd' he hn hm
   go_upto_region 13 with fail
   have sH : StD w s R F B B4 (pieceV 1 ⟨#[]⟩ f (-1) q a b y) x4 x5 (P4 + n) (l4.drop n) ((V.setCell ⟨B, 9, none⟩ (.int .i32 (q : Nat))).setCell ⟨R, 0, none⟩ (.int .i64 ((P4 : Int) + n))) := sG
   clear sG
   generalize (V.setCell ⟨B, 9, none⟩ (.int .i32 (q : Nat))).setCell ⟨R, 0, none⟩ (.int .i64 ((P4 : Int) + n)) = W6 at *
   clear m0 m1 m2 m3 m4 m5 m6 m7 m8 m9 m10 m11 m12 m13 m14 m15 m16 m17 m18 m19 mz r0 r1
   refine wp_region_lit ?_
   refine wpl_load20 rfl (.tmp 3) rfl rfl sH.p rfl ?_
   refine wpl_store20 rfl (.tmp 2) (.tmp 60) rfl (us := pieceV 1 ⟨#[]⟩ f (-1) q a b y) rfl rfl sH.a rfl rfl (pv_one _ _ _ _ _ _ _ _) ?_
   refine wpList_nil ?_
   have fA : Bx (W6.setCells w.heap.size 0 (pieceV 1 ⟨#[]⟩ f (-1) q a b y)) w.heap.size (pieceV 1 ⟨#[]⟩ f (-1) q a b y) := sH.a.all _ rfl
   have fR : RdW s R F (P4 + n) (l4.drop n) (W6.setCells w.heap.size 0 (pieceV 1 ⟨#[]⟩ f (-1) q a b y)) := sH.r.sc (by omega) (by omega) _ _
   have fG : w.grownBy (W6.setCells w.heap.size 0 (pieceV 1 ⟨#[]⟩ f (-1) q a b y)) (some R) := gr_sc sH.g (Nat.le_refl _) _ _
   generalize W6.setCells w.heap.size 0 (pieceV 1 ⟨#[]⟩ f (-1) q a b y) = Wf at *
   generalize Value.agg (pieceV 1 ⟨#[]⟩ f (-1) q a b y).toArray = pvv
   clear sH
   go_wp2
   refine bodyPost_ret (res20 Tryz.results64 rfl fA rfl) rfl ?_
   obtain ⟨t1, t2, t3⟩ := HK.out
   rw [t1, t2, t3]
   exact ⟨rfl, ⟨P4 + n, fR⟩, fG⟩
end Go.Proofs.YtjfmhghpkefihaaGreatDoor
namespace Go.Proofs.YtjfmhghpkefihaaGreatDoor
open Go.RowKit
set_option linter.unusedVariables false
set_option linter.unusedSimpArgs false
theorem directive_any (s : ByteArray) (R F P : Nat) (l : Bs) : DrC s R F P l := fun w h => by
 have hF := flags_any s R F P l
 have hW := fun P => pwidth_any s R F P (flg l fl0).2
 have hS := fun a b c => single_any a b c
 by_cases hp : hd (wdh (flg l fl0).2).2.2 = 46
 ·have hm : mid (flg l fl0).2 = ((wdh (flg l fl0).2).1, spl (wdh (flg l fl0).2).2.1, (prc (wdh (flg l fl0).2).2.2.tail).1, (prc (wdh (flg l fl0).2).2.2.tail).2.1, (prc (wdh (flg l fl0).2).2.2.tail).2.2) := if_pos hp
  unfold drest dir ahd pcV
  rw [hm]
  dsimp only
  exact dir_point hF hW hp (spoilt_any _) (fun P => pprec_any s R F P _) (fun P => index_any s R F P _) (single_any _ _ _) rfl rfl w h
 ·have hm : mid (flg l fl0).2 = ((wdh (flg l fl0).2).1, (wdh (flg l fl0).2).2.1, nb0, ix0, (wdh (flg l fl0).2).2.2) := if_neg hp
  unfold drest dir ahd pcV
  rw [hm]
  dsimp only
  exact dir_plain hF hW hp rfl rfl (fun P => index_any s R F P _) (single_any _ _ _) rfl rfl w h
abbrev PiC (s : ByteArray) (R F P : Nat) (l : Bs) : Prop := ∀ w, RdW s R F P l w → Calls Tryz.prog 43 #[.pointer (some ⟨R, 0, none⟩)] w fun e w' => e = .returned (.agg (pcV (pce l []) ⟨#[]⟩).toArray) ∧ (∃ P', RdW s R F P' (prest l) w') ∧ w.grownBy w' (some R)
set_option maxRecDepth 1000000 in
set_option maxHeartbeats 4000000 in
theorem piece_dir {s : ByteArray} {R F P : Nat} {l l2 : Bs} {pv : List Value} (hh : hd l = 37) (hD : ∀ P w, RdW s R F P l.tail w → Calls Tryz.prog 64 #[.pointer (some ⟨R, 0, none⟩)] w fun e w' => e = .returned (.agg pv.toArray) ∧ (∃ P', RdW s R F P' l2 w') ∧ w.grownBy w' (some R)) (hl : pv.length = 20) (h1 : ∀ v ∈ pv, v.oneCell' = true)
  (w : World) (h : RdW s R F P l w) : Calls Tryz.prog 43 #[.pointer (some ⟨R, 0, none⟩)] w fun e w' => e = .returned (.agg pv.toArray) ∧ (∃ P', RdW s R F P' l2 w') ∧ w.grownBy w' (some R) := by
 have hT := take_yes (s := s) (R := R) (F := F) (P := P) (l := l) (c := 37) (by omega) (by omega) hh
 obtain ⟨W1, hW1⟩ : ∃ W1, W1 = w.alloc (.cells #[.int .i64 0, .string ⟨#[]⟩, .bool false, .bool false, .bool false, .bool false, .bool false, .int .i64 0, .int .i64 0, .int .i32 0, .int .i64 0, .int .i64 0, .int .i64 0, .int .i64 0, .int .i64 0, .int .i64 0, .int .i64 0, .int .i64 0, .int .i64 0, .int .i64 0] 86) := ⟨_, rfl⟩
 have hx1 : Bx W1 w.heap.size (pieceV 0 ⟨#[]⟩ fl0 0 0 nb0 nb0 ix0) := by rw [hW1]; exact Bx.new _ _ _
 have hb1 : Below w.heap.size w W1 := by rw [hW1]; exact (Below.refl _ _).alloc (Nat.le_refl _) _
 have h2 := h.up hb1
 have hRw : R < w.heap.size := lt_of_cell9 h.a
 have hFw : F < w.heap.size := lt_of_cell9 h.f
 have n1 : w.heap.size ≠ R := by omega
 have n2 : w.heap.size ≠ F := by omega
 go_enter Tryz.func43, Tryz.ntmps43
 go_upto_region 1 with fail
 rw [← hW1]
 clear hW1
 go_upto_region 2 with (go_at_call 63; refine (hT _ h2).mono ?_; rintro e w3 ⟨rfl, h3, g3⟩; have hx3 := hx1.grown g3 n1)
 go_wp2_with (first
  | (go_at_call 64; refine (hD _ _ h3).mono ?_; rintro e w4 ⟨rfl, ⟨P4, h4⟩, g4⟩; have hx4 := hx3.grown g4 n1; generalize hpv : pv.toArray = pa at *)
  | (refine wpl_store20 rfl (.tmp 2) (.tmp 6) rfl (us := pv) rfl (by rw [hpv]; rfl) hx4 rfl hl h1 ?_; have fA : Bx (w4.setCells w.heap.size 0 pv) w.heap.size pv := hx4.all _ hl; have fR : RdW s R F P4 l2 (w4.setCells w.heap.size 0 pv) := h4.sc n1 n2 _ _; have fG : w.grownBy (w4.setCells w.heap.size 0 pv) (some R) := gr_sc ((gr_below hb1 _).trans (g3.trans g4)) (Nat.le_refl _) _ _; generalize w4.setCells w.heap.size 0 pv = Wf at *))
 refine bodyPost_ret (res20 Tryz.results43 rfl fA hl) rfl ?_
 rw [hpv]
 exact ⟨rfl, ⟨P4, fR⟩, fG⟩
set_option maxRecDepth 1000000 in
set_option maxHeartbeats 4000000 in
theorem piece_lit {s : ByteArray} {R F P : Nat} {l : Bs} (hh : hd l ≠ 37) (w : World) (h : RdW s R F P l w) : Calls Tryz.prog 43 #[.pointer (some ⟨R, 0, none⟩)] w fun e w' => e = .returned (.agg (pieceV 0 ⟨#[]⟩ fl0 0 0 nb0 nb0 ix0).toArray) ∧ (∃ P', RdW s R F P' (l.dropWhile noPc) w') ∧ w.grownBy w' (some R) := by
 have hT := take_no (s := s) (R := R) (F := F) (P := P) (l := l) (c := 37) (by omega) (by omega) hh
 have hL := literal_any s R F P l
 obtain ⟨W1, hW1⟩ : ∃ W1, W1 = w.alloc (.cells #[.int .i64 0, .string ⟨#[]⟩, .bool false, .bool false, .bool false, .bool false, .bool false, .int .i64 0, .int .i64 0, .int .i32 0, .int .i64 0, .int .i64 0, .int .i64 0, .int .i64 0, .int .i64 0, .int .i64 0, .int .i64 0, .int .i64 0, .int .i64 0, .int .i64 0] 86) := ⟨_, rfl⟩
 have hx1 : Bx W1 w.heap.size (pieceV 0 ⟨#[]⟩ fl0 0 0 nb0 nb0 ix0) := by rw [hW1]; exact Bx.new _ _ _
 have hb1 : Below w.heap.size w W1 := by rw [hW1]; exact (Below.refl _ _).alloc (Nat.le_refl _) _
 have h2 := h.up hb1
 have hRw : R < w.heap.size := lt_of_cell9 h.a
 have hFw : F < w.heap.size := lt_of_cell9 h.f
 have n1 : w.heap.size ≠ R := by omega
 have n2 : w.heap.size ≠ F := by omega
 go_enter Tryz.func43, Tryz.ntmps43
 go_upto_region 1 with fail
 rw [← hW1]
 clear hW1
 go_upto_region 4 with (first
  | (go_at_call 63; refine (hT _ h2).mono ?_; rintro e w3 ⟨rfl, h3, g3⟩; have hx3 := hx1.grown g3 n1)
  | (go_at_call 65; refine (hL _ h3).mono ?_; rintro e w4 ⟨rfl, ⟨P4, h4⟩, g4⟩; have hx4 := hx3.grown g4 n1))
 go_wp2_with (refine wpl_store20 rfl (.tmp 2) (.tmp 9) rfl (us := pieceV 0 ⟨#[]⟩ fl0 0 0 nb0 nb0 ix0) rfl rfl hx4 rfl rfl (pv_one _ _ _ _ _ _ _ _) ?_; have fA : Bx (w4.setCells w.heap.size 0 (pieceV 0 ⟨#[]⟩ fl0 0 0 nb0 nb0 ix0)) w.heap.size (pieceV 0 ⟨#[]⟩ fl0 0 0 nb0 nb0 ix0) := hx4.all _ rfl; have fR : RdW s R F P4 (l.dropWhile noPc) (w4.setCells w.heap.size 0 (pieceV 0 ⟨#[]⟩ fl0 0 0 nb0 nb0 ix0)) := h4.sc n1 n2 _ _; have fG : w.grownBy (w4.setCells w.heap.size 0 (pieceV 0 ⟨#[]⟩ fl0 0 0 nb0 nb0 ix0)) (some R) := gr_sc ((gr_below hb1 _).trans (g3.trans g4)) (Nat.le_refl _) _ _; generalize w4.setCells w.heap.size 0 (pieceV 0 ⟨#[]⟩ fl0 0 0 nb0 nb0 ix0) = Wf at *)
 refine bodyPost_ret (res20 Tryz.results43 rfl fA rfl) rfl ?_
 exact ⟨rfl, ⟨P4, fR⟩, fG⟩
theorem piece_any (s : ByteArray) (R F P : Nat) (l : Bs) : PiC s R F P l := fun w h => by
 unfold pce prest
 by_cases hh : hd l = 37
 ·rw [if_pos hh, if_pos hh]
  exact piece_dir hh (fun P => directive_any s R F P l.tail) rfl (pv_one _ _ _ _ _ _ _ _) w h
 ·rw [if_neg hh, if_neg hh]
  exact piece_lit hh w h
end Go.Proofs.YtjfmhghpkefihaaGreatDoor
namespace Go.Proofs.YtjfmhghpkefihaaGreatDoor
open Go.RowKit
set_option linter.unusedVariables false
set_option linter.unusedSimpArgs false
def ba (l : Bs) : ByteArray := ⟨l.toArray⟩
def rowP : List Pc → List Value
 | [] => []
 | p :: t => pcV p (ba p.text) ++ rowP t
theorem rowP_snoc : ∀ (ps : List Pc) (p : Pc), rowP (ps ++ [p]) = rowP ps ++ pcV p (ba p.text)
 | [], p => by simp [rowP]
 | q :: t, p => by rw [List.cons_append, rowP, rowP, rowP_snoc t p, List.append_assoc]
theorem pcV_one (p : Pc) (t : ByteArray) : ∀ u ∈ pcV p t, u.oneCell' = true := pv_one _ _ _ _ _ _ _ _
theorem pcV_text (l a b : Bs) (t : ByteArray) : pcV (pce l a) t = pcV (pce l b) t := by
 unfold pce
 split <;> rfl
theorem pce_text (l a : Bs) : (pce l a).text = a := by
 unfold pce
 split <;> rfl
theorem ext_at {s : ByteArray} {P P' : Nat} {l l' : Bs} (hd : s.data.toList.drop P = l) (he : P + l.length = s.size) (he' : P' + l'.length = s.size) : s.extract P P' = ba (l.take (l.length - l'.length)) := by
 have hl : (s.extract P P').data.toList = l.take (l.length - l'.length) := by
  rw [← hd]
  rw [show (s.extract P P').data = s.data.extract P P' by simp [ByteArray.data_extract]]
  rw [Array.toList_extract]
  rw [List.extract_eq_take_drop, hd]
  congr 1
  omega
 unfold ba
 rw [← hl]
theorem build20 (p : Pc) (t : ByteArray) : ∀ (ie : TypeInfo) (z : Value), Tryz.prog.info? 86 = some ie → ie.zero = some z → Instr.fill (fun i => some (i * ie.size, ie.size)) ((Array.range (1 * ie.size)).map (z.cells[· % z.cells.size]!)) [(0, .agg (pcV p t).toArray)] = some (pcV p t).toArray := by
 intro ie z h1 h2
 have hs : ie.size = 20 := by have := info20; rw [h1] at this; exact Option.some.inj this
 have hz : z = .agg (pieceV 0 ⟨#[]⟩ fl0 0 0 nb0 nb0 ix0).toArray := by
  have : (Tryz.prog.info? 86).bind (·.zero) = some (.agg (pieceV 0 ⟨#[]⟩ fl0 0 0 nb0 nb0 ix0).toArray) := by kernel_rfl
  rw [h1] at this
  exact Option.some.inj (h2.symm.trans this)
 rw [hs]
 have h := Great.fill_whole (s := 20) (by omega) [Value.agg (pcV p t).toArray] ((Array.range (1 * 20)).map (z.cells[· % z.cells.size]!)) (fun v hv => by simp at hv; subst hv; rfl) (by simp)
 simpa [Value.cells] using h
theorem wpl_build20 {ops : Array Oper} {rest : List Oper} {op : Oper} {a : Act} {w : World} {Q : Exit → Act → World → Prop} (hgd : op.guard = none) (x : Operand) (ho : op.op = .buildSlice 79 1 #[(0, x)]) (p : Pc) (t : ByteArray)
  (hx : a.eval x = .agg (pcV p t).toArray)
  (h : wpList Tryz.prog ops Q rest (a.put op.dst (.slice (some ⟨w.heap.size, 0, none⟩) 1 1)) (w.alloc (.cells (pcV p t).toArray 86))) : wpList Tryz.prog ops Q (op :: rest) a w := by
 obtain ⟨ie, hi, -⟩ := Option.map_eq_some_iff.1 info20
 have hs : ie.size = 20 := by have := info20; rw [hi] at this; exact Option.some.inj this
 obtain ⟨z, hz⟩ : ∃ z, ie.zero = some z := by
  have : (Tryz.prog.info? 86).bind (·.zero) = some (.agg (pieceV 0 ⟨#[]⟩ fl0 0 0 nb0 nb0 ix0).toArray) := by kernel_rfl
  rw [hi] at this
  exact ⟨_, this⟩
 refine wpList_buildSlice hgd 79 86 1 #[(0, x)] ho _ ie z Tryz.underlying79 hi hz (by rw [hs]; decide) (by rw [hs]; decide) ?_ h
 have := build20 p t ie z hi hz
 simpa [hx] using this
def PsC (s : ByteArray) : Prop := ∀ w : World, Calls Tryz.prog 30 #[.string s] w fun e w' => ∃ v, e = .returned v ∧ w'.ownsRow w.heap.size 86 20 v (prs s.data.toList).length (rowP (prs s.data.toList)) ∧ Below w.heap.size w w'
theorem own_mono9 {w : World} {b b' : Nat} {e : TypeId} {z : Nat} {v : Value} {n : Nat} {xs : List Value} (h : w.ownsRow b e z v n xs) (hb : b' ≤ b) : w.ownsRow b' e z v n xs := by
 obtain ⟨h1, h2⟩ := h
 refine ⟨h1, ?_⟩
 rcases h2 with h2 | ⟨g, cap, cur, hv, hg, r⟩
 ·exact .inl h2
 ·exact .inr ⟨g, cap, cur, hv, Nat.le_trans hb hg, r⟩
theorem own_slice9 {w : World} {b : Nat} {e : TypeId} {z : Nat} {v : Value} {n : Nat} {xs : List Value} (h : w.ownsRow b e z v n xs) : ∃ a c, v = .slice a n c ∧ n ≤ c ∧ c ≤ maxLen := by
 rcases h.2 with ⟨rfl, rfl⟩ | ⟨g, cap, cur, rfl, -, -, h4, h5, -⟩
 ·exact ⟨none, 0, rfl, by omega, by omega⟩
 ·exact ⟨_, _, rfl, h4, h5⟩
theorem gr_scs (w : World) (B o : Nat) (vs : List Value) : w.grownBy (w.setCells B o vs) (some B) := by
 obtain ⟨h1, h2, h3⟩ := sc_rest B vs w o
 exact ⟨h1, h2, h3, by rw [sc_size]; exact Nat.le_refl _, fun k hk hne => sc_heap B k (fun e => hne (by rw [e])) _ _ _⟩
theorem gr_sets (w : World) (B o : Nat) (v : Value) : w.grownBy (w.setCell ⟨B, o, none⟩ v) (some B) := gr_put (gr_refl _ _) _
theorem own_far {w w' : World} {b B : Nat} {e : TypeId} {z : Nat} {v : Value} {n : Nat} {xs : List Value} (h : w.ownsRow b e z v n xs) (hg : w.grownBy w' (some B)) (hB : B < b ∨ w.heap.size ≤ B) : w'.ownsRow b e z v n xs :=
 h.kept hg (.inr fun e => by
  have := h.lt B e
  omega)
set_option maxRecDepth 1000000 in
set_option maxHeartbeats 4000000 in
theorem parse_any (s : ByteArray) (hs : s.size ≤ 1000000) : PsC s := fun w => by
 obtain ⟨i0, hi⟩ : ∃ i0, Tryz.prog.info? 86 = some i0 := ⟨_, rfl⟩
 have hz0 : i0.zero = some (.agg (pieceV 0 ⟨#[]⟩ fl0 0 0 nb0 nb0 ix0).toArray) := by
  have : (Tryz.prog.info? 86).bind (·.zero) = some (.agg (pieceV 0 ⟨#[]⟩ fl0 0 0 nb0 nb0 ix0).toArray) := by kernel_rfl
  rw [hi] at this; exact this
 have hz1 : i0.size = 20 := by
  have := info20
  rw [hi] at this; exact Option.some.inj this
 have hz2 : i0.bytes = 136 := by
  have : (Tryz.prog.info? 86).map (·.bytes) = some 136 := by kernel_rfl
  rw [hi] at this; exact Option.some.inj this
 obtain ⟨W1, hW1⟩ : ∃ W1, W1 = (w.alloc (.cells #[.string s] 9)).alloc (.cells #[.int .i64 0, .func (.func 41) #[] #[.pointer (some ⟨w.heap.size, 0, none⟩)]] 101) := ⟨_, rfl⟩
 have hb1 : Below w.heap.size w W1 := by rw [hW1]; go_grown
 have hr1 : RdW s (w.heap.size + 1) w.heap.size 0 s.data.toList W1 := by
  rw [hW1]
  exact ⟨by simp, by simp, by simp, by simp, rfl, by rw [list_len]; omega, by omega, by omega⟩
 have hsz1 : W1.heap.size = w.heap.size + 2 := by rw [hW1]; simp
 have hlen := list_len s
 have hsI : (s.size : Int) ≤ 1000000 := by omega
 go_enter Tryz.func30, Tryz.ntmps30
 go_wp2
 rw [← hW1]
 clear hW1
 have HL : Hid (s.data.toList.length = s.size) := hlen
 clear hlen
 generalize hR : w.heap.size + 1 = R at *
 generalize hF : w.heap.size = F at *
 go_loopg [4, 5, 6] s.size (fun g pv bv qv wr => ∃ (P : Nat) (l : Bs) (ps : List Pc), RdW s R F P l wr ∧ l.length ≤ g ∧ Hid (prs s.data.toList = ps ++ prs l) ∧ ps.length ≤ P ∧ wr.ownsRow (F + 2) 86 20 pv ps.length (rowP ps) ∧ Below F w wr ∧ F + 2 ≤ wr.heap.size)
 case atStart => exact ⟨0, s.data.toList, [], hr1, by rw [HL.out]; exact Nat.le_refl _, rfl, Nat.le_refl _, World.ownsRow_nil _ _ _ _, hb1, by omega⟩
 case round =>
  obtain ⟨P, l, ps, h, hg, HP, hpl, hown, hbl, hsz⟩ := hrel
  clear hr1 hsz1 hb1
  obtain ⟨ao, ca, rfl, -, -⟩ := own_slice9 hown
  have r0 := h.a
  have f0 := h.f
  have he := h.e
  by_cases hl : l = []
  ·have hPs : ¬ (P : Int) < s.size := by rw [hl] at he; simp at he; omega
   have HF : Hid (prs s.data.toList = ps) := by
    show _ = _
    rw [HP.out, hl, prs_nil, List.append_nil]
   go_wp2
   go_ret
   rw [HF.out]
   exact ⟨_, rfl, own_mono9 hown (by omega), hbl⟩
  ·have hll := List.length_pos_iff.2 hl
   have hPs : (P : Int) < s.size := by omega
   have hlt := prest_lt hl
   have hFR : F ≠ R := h.ne
   have hPc := piece_any s R F P l
   obtain ⟨l1, hl1⟩ : ∃ l1, prest l = l1 := ⟨_, rfl⟩
   have HN : Hid (prs s.data.toList = (ps ++ [pce l (l.take (l.length - l1.length))]) ++ prs l1) := by
    show _ = _
    rw [HP.out, prs_step hl, hl1, List.append_assoc]
    rfl
   have HT := fun t => pcV_text l [] (l.take (l.length - l1.length)) t
   have HX := pce_text l (l.take (l.length - l1.length))
   unfold PiC at hPc
   rw [hl1] at hPc hlt
   generalize pce l (l.take (l.length - l1.length)) = pq at *
   generalize pce l [] = pc at *
   have HT' : Hid (∀ t, pcV pc t = pcV pq t) := HT
   have HX' : Hid (pq.text = l.take (l.length - l1.length)) := HX
   clear HT HX hl1 HP
   have hRb : R < F + 2 := by omega
   go_upto_region 6 with (first
    | (go_at_call 43; refine (hPc _ h).mono ?_; rintro e w1 ⟨rfl, ⟨P1, h1⟩, g1⟩; have o1 := own_far hown g1 (.inl hRb); have b1 : Below F w w1 := hbl.trans ⟨g1.os, g1.tape, g1.output, g1.size, fun k hk => g1.block k (by omega) (by simp; omega)⟩; have z1 := g1.size)
    | (refine wpl_store20 rfl (.tmp 6) (.tmp 16) rfl (us := pcV pc ⟨#[]⟩) rfl rfl (Bx.new w1 (pieceV 0 ⟨#[]⟩ fl0 0 0 nb0 nb0 ix0) 86) rfl rfl (pcV_one _ _) ?_))
   have al : Below w1.heap.size w1 (w1.alloc (.cells #[.int .i64 0, .string ⟨#[]⟩, .bool false, .bool false, .bool false, .bool false, .bool false, .int .i64 0, .int .i64 0, .int .i32 0, .int .i64 0, .int .i64 0, .int .i64 0, .int .i64 0, .int .i64 0, .int .i64 0, .int .i64 0, .int .i64 0, .int .i64 0, .int .i64 0] 86)) := (Below.refl _ _).alloc (Nat.le_refl _) _
   have q1 : ∀ k, (Value.slice ao ps.length ca).ownBlock = some k → k < w1.heap.size := fun k e => (o1.lt k e).2
   have lF : F < w1.heap.size := by omega
   have lR : R < w1.heap.size := by omega
   have p2 : Bx ((w1.alloc (.cells #[.int .i64 0, .string ⟨#[]⟩, .bool false, .bool false, .bool false, .bool false, .bool false, .int .i64 0, .int .i64 0, .int .i32 0, .int .i64 0, .int .i64 0, .int .i64 0, .int .i64 0, .int .i64 0, .int .i64 0, .int .i64 0, .int .i64 0, .int .i64 0, .int .i64 0] 86)).setCells w1.heap.size 0 (pcV pc ⟨#[]⟩)) w1.heap.size (pcV pc ⟨#[]⟩) := Bx.all (Bx.new w1 (pieceV 0 ⟨#[]⟩ fl0 0 0 nb0 nb0 ix0) 86) _ rfl
   have r2 : RdW s R F P1 l1 ((w1.alloc (.cells #[.int .i64 0, .string ⟨#[]⟩, .bool false, .bool false, .bool false, .bool false, .bool false, .int .i64 0, .int .i64 0, .int .i32 0, .int .i64 0, .int .i64 0, .int .i64 0, .int .i64 0, .int .i64 0, .int .i64 0, .int .i64 0, .int .i64 0, .int .i64 0, .int .i64 0] 86)).setCells w1.heap.size 0 (pcV pc ⟨#[]⟩)) := (h1.up al).sc (by omega) (by omega) _ _
   have o2 : ((w1.alloc (.cells #[.int .i64 0, .string ⟨#[]⟩, .bool false, .bool false, .bool false, .bool false, .bool false, .int .i64 0, .int .i64 0, .int .i32 0, .int .i64 0, .int .i64 0, .int .i64 0, .int .i64 0, .int .i64 0, .int .i64 0, .int .i64 0, .int .i64 0, .int .i64 0, .int .i64 0] 86)).setCells w1.heap.size 0 (pcV pc ⟨#[]⟩)).ownsRow (F + 2) 86 20 (.slice ao ps.length ca) ps.length (rowP ps) := (o1.alloc _).kept (gr_scs _ _ _ _) (.inr fun e => by have := q1 _ e; omega)
   have b2 : Below F w ((w1.alloc (.cells #[.int .i64 0, .string ⟨#[]⟩, .bool false, .bool false, .bool false, .bool false, .bool false, .int .i64 0, .int .i64 0, .int .i32 0, .int .i64 0, .int .i64 0, .int .i64 0, .int .i64 0, .int .i64 0, .int .i64 0, .int .i64 0, .int .i64 0, .int .i64 0, .int .i64 0] 86)).setCells w1.heap.size 0 (pcV pc ⟨#[]⟩)) := below_sc (b1.alloc (by omega) _) (by omega) _ _
   have z2 : F + 2 ≤ ((w1.alloc (.cells #[.int .i64 0, .string ⟨#[]⟩, .bool false, .bool false, .bool false, .bool false, .bool false, .int .i64 0, .int .i64 0, .int .i32 0, .int .i64 0, .int .i64 0, .int .i64 0, .int .i64 0, .int .i64 0, .int .i64 0, .int .i64 0, .int .i64 0, .int .i64 0, .int .i64 0] 86)).setCells w1.heap.size 0 (pcV pc ⟨#[]⟩)).heap.size := by rw [sc_size]; simp; omega
   generalize (w1.alloc (.cells #[.int .i64 0, .string ⟨#[]⟩, .bool false, .bool false, .bool false, .bool false, .bool false, .int .i64 0, .int .i64 0, .int .i32 0, .int .i64 0, .int .i64 0, .int .i64 0, .int .i64 0, .int .i64 0, .int .i64 0, .int .i64 0, .int .i64 0, .int .i64 0, .int .i64 0] 86)).setCells w1.heap.size 0 (pcV pc ⟨#[]⟩) = W2 at *
   generalize w1.heap.size = Bp at *
   generalize Value.agg (pcV pc ⟨#[]⟩).toArray = pav
   have a2 := r2.a
   have f2 := r2.f
   have t2 := p2.c 1 _ rfl
   have tz := p2.z
   have he2 := r2.e
   have hPP : (P : Int) ≤ P1 := by omega
   have hPS : (P1 : Int) ≤ s.size := by omega
   clear r0 f0 o1 b1 z1 h1 g1 al hPc hown hbl hsz
   go_upto_region 7 with fail
   have p3 : Bx (W2.setCell ⟨Bp, 1, none⟩ (.string (s.extract P P1))) Bp (pcV pc (s.extract P P1)) := p2.set 1 (by simp [pcV, pieceV]) _
   have r3 : RdW s R F P1 l1 (W2.setCell ⟨Bp, 1, none⟩ (.string (s.extract P P1))) := r2.grown (by omega) (by omega) _
   have o3 : (W2.setCell ⟨Bp, 1, none⟩ (.string (s.extract P P1))).ownsRow (F + 2) 86 20 (.slice ao ps.length ca) ps.length (rowP ps) := o2.kept (gr_sets _ _ _ _) (.inr fun e => by have := q1 _ e; omega)
   have b3 : Below F w (W2.setCell ⟨Bp, 1, none⟩ (.string (s.extract P P1))) := b2.setCell (by dsimp only; omega) _
   have z3 : F + 2 ≤ (W2.setCell ⟨Bp, 1, none⟩ (.string (s.extract P P1))).heap.size := by simpa [World.setCell] using z2
   generalize W2.setCell ⟨Bp, 1, none⟩ (.string (s.extract P P1)) = W3 at *
   have hext : s.extract P P1 = ba pq.text := by rw [HX'.out]; exact ext_at h.d h.e he2
   generalize s.extract P P1 = T at *
   have HE : Hid (T = ba pq.text) := hext
   clear hext a2 f2 t2 tz r2 b2 z2 o2 p2 q1
   have hpl2 : ps.length ≤ 1000000 := by omega
   go_wp2_with (first
    | (refine wpl_load20 rfl (.tmp 6) rfl rfl p3 rfl ?_)
    | (refine wpl_build20 rfl (.tmp 24) rfl pc T rfl ?_; generalize Value.agg (pcV pc T).toArray = pbv)
    | (at_builtin; refine wpList_append_own_at _ rfl _ _ 79 rfl (F + 2) 86 i0 _ 20 136 Tryz.underlying79 hi hz0 hz1 hz2 rfl (by decide) _ _ _ rfl (o3.alloc _) ⟨W3.heap.size, 0, none⟩ 1 1 (pcV pc T) rfl rfl ?c1 ?c2 ?c3 ?c4 ?c5 ?_))
   case c1 =>
    intro j u hj
    rw [Addr.add_mid, Nat.zero_add]
    exact (Bx.new W3 (pcV pc T) 86).c j u hj
   case c2 => exact pcV_one _ _
   case c3 => unfold maxLen; omega
   case c4 => omega
   case c5 => simp; omega
   intro v' w4 o4 g4 _ hat
   have b4 : Below F w w4 := (b3.alloc (by omega) _).grown g4 (by simp; omega) (fun k hk => by have := (o3.lt k hk).1; omega)
   have r4 : RdW s R F P1 l1 w4 := by
    have r3' := r3.up ((Below.refl W3.heap.size W3).alloc (Nat.le_refl _) (.cells (pcV pc T).toArray 86))
    have hne : ∀ k, k < F + 2 → some k ≠ (Value.slice ao ps.length ca).ownBlock := fun k hk e => by have := (o3.lt k e.symm).1; omega
    have kR := g4.block R (by simp; have := lt_of_cell9 r3.a; dsimp only at this; omega) (hne R hRb)
    have kF := g4.block F (by simp; omega) (hne F (by omega))
    exact ⟨(World.cell?_of_block (a := ⟨R, 0, none⟩) kR).trans r3'.a, (World.cell?_of_block (a := ⟨R, 1, none⟩) kR).trans r3'.n, (World.cell?_of_block (a := ⟨F, 0, none⟩) kF).trans r3'.f, (World.frozen?_of_block (a := ⟨R, 0, none⟩) kR).trans r3'.z, r3.d, r3.e, r3.ne, r3.m⟩
   have z4 : F + 2 ≤ w4.heap.size := by have := g4.size; simp at this; omega
   have o5 : w4.ownsRow (F + 2) 86 20 v' (ps ++ [pq]).length (rowP (ps ++ [pq])) := by
    rw [rowP_snoc, List.length_append, ← HE.out, ← HT'.out]
    exact o4
   obtain ⟨ao', c', rfl, -, -⟩ := own_slice9 o4
   clear o4 g4 hat o3 p3 r3 b3 z3
   go_wp2
   go_roundg (gk - 1)
   case measure => omega
   case rel => exact ⟨P1, l1, ps ++ [pq], r4, by omega, HN, by simp; omega, o5, b4, z4⟩
end Go.Proofs.YtjfmhghpkefihaaGreatDoor
