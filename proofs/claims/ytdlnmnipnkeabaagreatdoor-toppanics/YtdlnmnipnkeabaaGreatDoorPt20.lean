/- DRowB, ZDirB, ZLit, ZFmt, BExtra, ZExt, ZList: these texts in one. -/
import Derived.Test.YtdlnmnipnkeabaaGreatDoorPt18
import Derived.Test.YtdlnmnipnkeabaaGreatDoorPt16
import Derived.Test.YtdlnmnipnkeabaaGreatDoorPt17
import Derived.Deep.RegionHeld
import Derived.Deep.LoopGhost
import Derived.Deep.RegionWith
import Derived.Deep.DeepCutAuto
import Derived.Deep.CutBlock
import Derived.Maps.AppendAt
import Derived.OwnWalk
namespace Go.Proofs.YtdlnmnipnkeabaaGreatDoor
open Go.RowKit
set_option linter.unusedVariables false
set_option linter.unusedSimpArgs false
set_option maxRecDepth 1000000 in
set_option maxHeartbeats 8000000 in
theorem row_hit (C M : Nat) (h : Hk) (w : World) (c1 : w.cell? ⟨C, 1, none⟩ = some (.map (some M))) (hM : w.heap[M]? = some (.map (oneE (.agg h.v.toArray)) 1)) :
  Calls Tryz.prog 112 #[.pointer (some ⟨C, 0, none⟩), .int .i64 1] w fun e w' => e = .returned (.tuple #[.agg h.v.toArray, .bool true]) ∧ Below w.heap.size w w' := by
 have hz : hk0.v.length = 48 := rfl
 have ha0 := fun w => zero_hk w
 have hoz := hk0.one
 have hl := h.len
 have ho := h.one
 have hlk := fun W hh => look_one W M (.agg h.v.toArray) hh
 obtain ⟨W1, hW1⟩ : ∃ W1, W1 = w.alloc (.cells hk0.v.toArray 34) := ⟨_, rfl⟩
 have b1 : Below w.heap.size w W1 := by rw [hW1]; exact (Below.refl _ _).alloc (Nat.le_refl _) _
 have k1 : Blk W1 w.heap.size hk0.v := by rw [hW1]; exact Blk.new w hk0.v 34
 have hM1 := (b1.block M (Array.getElem?_eq_some_iff.1 hM).1).trans hM
 have hl1 := hlk W1 hM1
 have d1 := up_cell b1 c1
 generalize h.v = H at *
 generalize hk0.v = ZV at *
 have k2 : Blk (W1.alloc (.cells ZV.toArray 34)) W1.heap.size ZV := Blk.new W1 ZV 34
 have b3 : Below W1.heap.size W1 ((W1.alloc (.cells ZV.toArray 34)).setCells W1.heap.size 0 H) := xbelow_sc ((Below.refl _ _).alloc (Nat.le_refl _) _) (Nat.le_refl _) _ _
 have k3 : Blk ((W1.alloc (.cells ZV.toArray 34)).setCells W1.heap.size 0 H) W1.heap.size H := k2.all _ (by rw [hl, hz])
 clear hlk hM hM1 c1
 go_enter Tryz.func112, Tryz.ntmps112
 go_upto_region 1 with (refine wpl_allocz ha0 rfl rfl ?_)
 rw [← hW1]
 clear hW1
 go_upto_region 2 with (first | (refine wpl_allocz ha0 rfl rfl ?_) | (refine wpl_st row_Hook rfl (.tmp 6) (.tmp 17) rfl (us := H) rfl rfl k2 hz hl ho ?_; generalize (W1.alloc (.cells ZV.toArray 34)).setCells W1.heap.size 0 H = W3 at *))
 have j3 := k1.up b3
 have bw3 : Below w.heap.size w W3 := b1.trans (b3.mono b1.size)
 have f1 : Blk (W3.setCells w.heap.size 0 H) w.heap.size H := j3.all _ (by rw [hl, hz])
 have f2 : Below w.heap.size w (W3.setCells w.heap.size 0 H) := xbelow_sc bw3 (Nat.le_refl _) _ _
 clear hl1 d1 k2 k1 b3
 go_wp2_with (first
  | (refine wpl_ld row_Hook rfl (.tmp 6) rfl rfl k3.range hl ?_)
  | (refine wpl_st row_Hook rfl (.tmp 4) (.tmp 20) rfl (us := H) rfl rfl j3 hz hl ho ?_; generalize W3.setCells w.heap.size 0 H = Wf at *))
 exact bodyPost_ret (res_row2 row_Hook Tryz.results112 rfl rfl f1 hl) rfl ⟨rfl, f2⟩
theorem set_other (w : World) (M k : Nat) (o : Obj) (hne : k ≠ M) : ({ w with heap := w.heap.setIfInBounds M o } : World).heap[k]? = w.heap[k]? := by
 simp [Array.getElem?_setIfInBounds, Ne.symm hne]
theorem set_kx (w : World) (M : Nat) (o : Obj) : Kx (fun k => k = M) w { w with heap := w.heap.setIfInBounds M o } :=
 ⟨rfl, rfl, rfl, by simp, fun k _ hk => set_other w M k o hk⟩
set_option maxRecDepth 1000000 in
set_option maxHeartbeats 8000000 in
theorem row_miss (C M : Nat) (tb : Value) (ht : ∃ a n c, tb = .slice a n c) (w : World) (QH : Hk → Nat → Nat → World → Prop) (hQ : ∀ h' lo hi W W', QH h' lo hi W → Kx (fun k => k = M ∨ (w.heap.size ≤ k ∧ k < lo) ∨ hi ≤ k) W W' → QH h' lo hi W')
  (c0 : w.cell? ⟨C, 0, none⟩ = some tb) (c1 : w.cell? ⟨C, 1, none⟩ = some (.map (some M))) (hM : w.heap[M]? = some (.map #[] 0)) (hCM : C ≠ M)
  (hG0 : ∀ V, Below w.heap.size w V → Calls Tryz.prog 140 #[tb, .int .i64 1] V fun e w' => (∃ h' : Hk, e = .returned (.tuple #[.agg h'.v.toArray, .bool true]) ∧ Hid (QH h' V.heap.size w'.heap.size w')) ∧ Below V.heap.size V w') :
  Calls Tryz.prog 112 #[.pointer (some ⟨C, 0, none⟩), .int .i64 1] w fun e w' => ∃ h' : Hk, e = .returned (.tuple #[.agg h'.v.toArray, .bool true]) ∧ Hid (∃ lo hi, w.heap.size ≤ lo ∧ lo ≤ hi ∧ hi ≤ w'.heap.size ∧ QH h' lo hi w') ∧ w'.heap[M]? = some (.map (oneE (.agg h'.v.toArray)) 1) ∧ Kx (fun k => k = M) w w' := by
 obtain ⟨ta, tn, tc, rfl⟩ := ht
 have hz : hk0.v.length = 48 := rfl
 have ha0 := fun w => zero_hk w
 have hoz := hk0.one
 have hlk := fun W hh => look_none W M 1 hh
 have hlM := (Array.getElem?_eq_some_iff.1 hM).1
 have hCl : C < w.heap.size := World.block_lt_of_cell? w _ c0
 obtain ⟨W1, hW1⟩ : ∃ W1, W1 = w.alloc (.cells hk0.v.toArray 34) := ⟨_, rfl⟩
 have b1 : Below w.heap.size w W1 := by rw [hW1]; exact (Below.refl _ _).alloc (Nat.le_refl _) _
 have k1 : Blk W1 w.heap.size hk0.v := by rw [hW1]; exact Blk.new w hk0.v 34
 have hM1 := (b1.block M hlM).trans hM
 have hl1 := hlk W1 hM1
 have d1 := up_cell b1 c1
 have d0 := up_cell b1 c0
 have s1 : W1.heap.size = w.heap.size + 1 := by rw [hW1]; simp
 have hs1 : w.heap.size < W1.heap.size := by omega
 clear s1
 generalize hk0.v = ZV at *
 have k2 : Blk (W1.alloc (.cells ZV.toArray 34)) W1.heap.size ZV := Blk.new W1 ZV 34
 have b3 : Below W1.heap.size W1 ((W1.alloc (.cells ZV.toArray 34)).setCells W1.heap.size 0 ZV) := xbelow_sc ((Below.refl _ _).alloc (Nat.le_refl _) _) (Nat.le_refl _) _ _
 clear hlk
 go_enter Tryz.func112, Tryz.ntmps112
 go_upto_region 1 with (refine wpl_allocz ha0 rfl rfl ?_)
 rw [← hW1]
 clear hW1
 go_upto_region 2 with (first | (refine wpl_allocz ha0 rfl rfl ?_) | (refine wpl_st row_Hook rfl (.tmp 6) (.tmp 17) rfl (us := ZV) rfl rfl k2 hz hz hoz ?_; generalize (W1.alloc (.cells ZV.toArray 34)).setCells W1.heap.size 0 ZV = W3 at *))
 have j3 := k1.up b3
 have bw3 : Below w.heap.size w W3 := b1.trans (b3.mono b1.size)
 have e0 := up_cell bw3 c0
 have hG := hG0 W3 bw3
 clear hl1 d1 d0 k2 k1 b3 hM1 hG0
 go_upto_region 5 with (first
  | (go_at_call 140; refine hG.mono ?_; rintro e W4 ⟨⟨h', rfl, hq⟩, b4⟩; have hl := h'.len; have ho := h'.one; have k5 : Blk (W4.alloc (.cells ZV.toArray 34)) W4.heap.size ZV := Blk.new W4 ZV 34; have b6 : Below W4.heap.size W4 ((W4.alloc (.cells ZV.toArray 34)).setCells W4.heap.size 0 h'.v) := xbelow_sc ((Below.refl _ _).alloc (Nat.le_refl _) _) (Nat.le_refl _) _ _; have k6 : Blk ((W4.alloc (.cells ZV.toArray 34)).setCells W4.heap.size 0 h'.v) W4.heap.size h'.v := k5.all _ (by rw [hl, hz]))
  | (refine wpl_allocz ha0 rfl rfl ?_)
  | (refine wpl_st row_Hook rfl (.tmp 8) (.tmp 28) rfl (us := h'.v) rfl rfl k5 hz hl ho ?_; generalize (W4.alloc (.cells ZV.toArray 34)).setCells W4.heap.size 0 h'.v = W6 at *))
 have b36 : Below W3.heap.size W3 W6 := b4.trans (b6.mono b4.size)
 have bw6 : Below w.heap.size w W6 := bw3.trans (b36.mono bw3.size)
 have j6 := j3.up b36
 have q6 : QH h' W3.heap.size W4.heap.size W6 := hQ _ _ _ _ _ hq.out (.of_below b6)
 have z6 : W4.heap.size ≤ W6.heap.size := b6.size
 have hW34 : W3.heap.size ≤ W4.heap.size := b4.size
 have hj3 : w.heap.size < W3.heap.size := j3.b
 clear hq hG e0 j3 k5 b6 b4 b36
 go_upto_region 6 with fail
 obtain ⟨Yd, hYd⟩ : ∃ Yd, Yd = W6.drew := ⟨_, rfl⟩
 have bY : Below W6.heap.size W6 Yd := by rw [hYd]; exact (Below.refl _ _).drew
 have bwY := bw6.trans (bY.mono bw6.size)
 have kY := k6.up bY
 have jY := j6.up bY
 have qY : QH h' W3.heap.size W4.heap.size Yd := hQ _ _ _ _ _ q6 (.of_below bY)
 have y1 := up_cell bwY c1
 have yM := (bwY.block M hlM).trans hM
 have hup := upd_first Yd M (.agg h'.v.toArray) yM
 obtain ⟨Y2, hY2⟩ : ∃ Y2, Y2 = ({ Yd with heap := Yd.heap.setIfInBounds M (.map (oneE (.agg h'.v.toArray)) 1) } : World) := ⟨_, rfl⟩
 have x2 : Kx (fun k => k = M) Yd Y2 := by rw [hY2]; exact set_kx Yd M _
 have q2 : QH h' W3.heap.size W4.heap.size Y2 := hQ _ _ _ _ _ qY (x2.mono (fun k _ h => Or.inl h))
 have kx : Kx (fun k => k = M) w Y2 := (Kx.of_below bwY).trans x2
 have hMY : M < Yd.heap.size := Nat.lt_of_lt_of_le hlM bwY.size
 have hM2 : Y2.heap[M]? = some (.map (oneE (.agg h'.v.toArray)) 1) := by rw [hY2]; simp [hMY]
 have k2 := kY.kx x2 (by omega)
 have j2 := jY.kx x2 (by omega)
 have y2 := x2.cell y1 (by dsimp only; omega)
 rw [← hY2] at hup
 clear hY2
 have f1 : Blk (Y2.setCells w.heap.size 0 h'.v) w.heap.size h'.v := j2.all _ (by rw [hl, hz])
 have f2 : Kx (fun k => k = M) w (Y2.setCells w.heap.size 0 h'.v) := Kx.setCells _ (Or.inr (Nat.le_refl _)) _ _ _ kx
 have f3 : (Y2.setCells w.heap.size 0 h'.v).heap[M]? = some (.map (oneE (.agg h'.v.toArray)) 1) := ((Kx.setCells (P := fun k => k = w.heap.size) _ (Or.inl rfl) _ _ _ (Kx.refl _ _)).block M (Nat.lt_of_lt_of_le hMY x2.size) (by omega)).trans hM2
 have g4 := hQ _ _ _ _ _ q2 (Kx.setCells (P := fun k => k = M ∨ (w.heap.size ≤ k ∧ k < W3.heap.size) ∨ W4.heap.size ≤ k) w.heap.size (Or.inl (Or.inr (Or.inl ⟨Nat.le_refl _, hj3⟩))) h'.v 0 Y2 (Kx.refl _ _))
 have f4 : Hid (∃ lo hi, w.heap.size ≤ lo ∧ lo ≤ hi ∧ hi ≤ (Y2.setCells w.heap.size 0 h'.v).heap.size ∧ QH h' lo hi (Y2.setCells w.heap.size 0 h'.v)) := ⟨_, _, Nat.le_of_lt hj3, hW34, Nat.le_trans z6 (Nat.le_trans bY.size (Nat.le_trans x2.size (Kx.setCells (P := fun k => k = w.heap.size) _ (Or.inl rfl) h'.v 0 Y2 (Kx.refl _ _)).size)), g4⟩
 clear g4
 clear q2 kx hM2 x2 jY hQ qY
 generalize hHv : h'.v = H at *
 have HH : Hid (h'.v = H) := hHv
 clear hHv
 refine wp_region_held_drew (S := fun w' : World => w'.cell? ⟨C, 1, none⟩ = some (.map (some M)) ∧ w'.rangeAt W4.heap.size 0 H) (by kernel_rfl) (by rw [← hYd]; exact ⟨y1, kY.range⟩) ?_
 rw [← hYd]
 clear hYd q6 k6 j6
 intro hS
 refine tk 0 (.pointer (some ⟨C, 0, none⟩)) rfl (by kernel_rfl) (fun _ _ _ h => h) (by rfl) (by assumption) ?_ ?_
 ·intro w5 hSw
  obtain ⟨s0, s1⟩ := hSw
  go_simp
 try simp only [Act.put, List.getElem_toArray, List.getElem_cons_zero, List.getElem_cons_succ, List.setIfInBounds_toArray, List.set_cons_zero, List.set_cons_succ, List.length_cons]
 refine tk 1 (.pointer (some ⟨C, 0, none⟩)) rfl (by kernel_rfl) (fun _ _ _ h => h) (by rfl) (by assumption) ?_ ?_
 ·intro w5 hSw
  obtain ⟨s0, s1⟩ := hSw
  go_simp
 try simp only [Act.put, List.getElem_toArray, List.getElem_cons_zero, List.getElem_cons_succ, List.setIfInBounds_toArray, List.set_cons_zero, List.set_cons_succ, List.length_cons]
 refine tk 2 (.pointer (some ⟨C, 1, none⟩)) rfl (by kernel_rfl) (fun _ _ _ h => h) (by rfl) (by assumption) ?_ ?_
 ·intro w5 hSw
  obtain ⟨s0, s1⟩ := hSw
  go_simp
 try simp only [Act.put, List.getElem_toArray, List.getElem_cons_zero, List.getElem_cons_succ, List.setIfInBounds_toArray, List.set_cons_zero, List.set_cons_succ, List.length_cons]
 refine tk 3 (.map (some M)) rfl (by kernel_rfl) (fun _ _ _ h => h) (by rfl) (by assumption) ?_ ?_
 ·intro w5 hSw
  obtain ⟨s0, s1⟩ := hSw
  go_simp
 try simp only [Act.put, List.getElem_toArray, List.getElem_cons_zero, List.getElem_cons_succ, List.setIfInBounds_toArray, List.set_cons_zero, List.set_cons_succ, List.length_cons]
 refine tk 4 (.int .i64 1) rfl (by kernel_rfl) (fun _ _ _ h => h) (by rfl) (by assumption) ?_ ?_
 ·intro w5 hSw
  obtain ⟨s0, s1⟩ := hSw
  go_simp
 try simp only [Act.put, List.getElem_toArray, List.getElem_cons_zero, List.getElem_cons_succ, List.setIfInBounds_toArray, List.set_cons_zero, List.set_cons_succ, List.length_cons]
 refine wpAnyH_take (i := 5) (v := .agg H.toArray) rfl (by kernel_rfl) (by kernel_rfl) (by kernel_rfl) (fun _ _ _ h => h) ?_ (by assumption) ?_
 ·obtain ⟨⟨dd, r1, r2⟩, r3⟩ := row_Hook
  exact yieldsIf_load_mid rfl 34 (.tmp 8) rfl W4.heap.size 0 rfl H dd (fun _ h => h.2) r1 r2 (by rw [hl]; exact r3)
 try simp only [Act.put, List.getElem_toArray, List.getElem_cons_zero, List.getElem_cons_succ, List.setIfInBounds_toArray, List.set_cons_zero, List.set_cons_succ, List.length_cons]
 refine rd1 6 (by kernel_rfl) rfl fun K hK => ?_
 go_simp
 refine hK.out _ _ ⟨y2, k2.range⟩ (fun _ => ?_)
 clear hK hup hS kY y1 yM
 try simp only [Act.put, List.getElem_toArray, List.getElem_cons_zero, List.getElem_cons_succ, List.setIfInBounds_toArray, List.set_cons_zero, List.set_cons_succ, List.length_cons]
 refine wpAnyH_done (by kernel_rfl) ?_ _
 go_wp2_with (first
  | (refine wpl_ld row_Hook rfl (.tmp 8) rfl rfl k2.range hl ?_)
  | (refine wpl_st row_Hook rfl (.tmp 4) (.tmp 37) rfl (us := H) rfl rfl j2 hz hl ho ?_; generalize Y2.setCells w.heap.size 0 H = Wf at *))
 exact bodyPost_ret (res_row2 row_Hook Tryz.results112 rfl rfl f1 hl) rfl ⟨h', by rw [HH.out]; rfl, f4, by rw [HH.out]; exact f3, f2⟩
end Go.Proofs.YtdlnmnipnkeabaaGreatDoor
namespace Go.Proofs.YtdlnmnipnkeabaaGreatDoor
open Go.RowKit
set_option linter.unusedVariables false
set_option linter.unusedSimpArgs false
theorem pcV_len (p : Pc) (t : ByteArray) : (pcV p t).length = 20 := rfl
end Go.Proofs.YtdlnmnipnkeabaaGreatDoor
namespace Go.Proofs.YtdlnmnipnkeabaaGreatDoor
open Go.RowKit
set_option linter.unusedVariables false
set_option linter.unusedSimpArgs false
end Go.Proofs.YtdlnmnipnkeabaaGreatDoor
namespace Go.Proofs.YtdlnmnipnkeabaaGreatDoor
open Go.RowKit
set_option linter.unusedVariables false
set_option linter.unusedSimpArgs false
theorem zero_pc (w : World) : (zeroValue 119).run Tryz.prog w = .ok (.agg (pieceV 0 ⟨#[]⟩ fl0 0 0 nb0 nb0 ix0).toArray) w := by kernel_rfl
def noIx (p : Pc) : Prop := p.arg.k = 0 ∧ p.wid.a.k = 0 ∧ p.prec.a.k = 0
end Go.Proofs.YtdlnmnipnkeabaaGreatDoor
namespace Go.Proofs.YtdlnmnipnkeabaaGreatDoor
open Go.RowKit
set_option linter.unusedVariables false
set_option linter.unusedSimpArgs false
end Go.Proofs.YtdlnmnipnkeabaaGreatDoor
namespace Go.Proofs.YtdlnmnipnkeabaaGreatDoor
open Go.RowKit
set_option linter.unusedVariables false
set_option linter.unusedSimpArgs false
end Go.Proofs.YtdlnmnipnkeabaaGreatDoor
namespace Go.Proofs.YtdlnmnipnkeabaaGreatDoor
open Go.RowKit
set_option linter.unusedVariables false
set_option linter.unusedSimpArgs false
def KdQ (t : TypeId) (x : Value) (k : Int) : Prop := ∃ (ty : ByteArray) (h : Int), ∀ Z : World, Sem.run Tryz.prog (method 550 t x "Kind") Z = .ok (376, .agg #[.int .i64 k, .string ty, .int .i64 h]) Z
theorem kq_I (h n : Int) : KdQ 160 (.agg #[.int .i64 6, .string ⟨#[]⟩, .int .i64 h, .int .i64 n]) 6 := ⟨⟨#[]⟩, h, fun Z => by kernel_rfl⟩
structure It where
 t : TypeId
 x : Value
 k : Int
 T : ByteArray
abbrev It.v (q : It) : Value := .iface q.t q.x
theorem En.arg {w : World} {g C M A n c : Nat} {l : List UInt8} {dp : Int} {vs : List Value} {nx : Int} (h : En w g C M l dp (.slice (some ⟨A, 0, none⟩) n c) vs nx) {j : Nat} {u : Value} (hj : vs[j]? = some u) : w.cell? ⟨A, j, none⟩ = some u := by
 obtain ⟨a, c', e, h1, h2, ha⟩ := h.a
 injection e with e1 e2 e3
 obtain ⟨A', rfl, -, hc⟩ := ha j u hj
 injection e1 with e1
 injection e1 with e1
 subst e1
 exact hc
end Go.Proofs.YtdlnmnipnkeabaaGreatDoor
