/- DRowB, XName, DHk, ZDirB, ZLit, ZFmt, RRune, ABad, BExtra, ZExt, ZList, DAsk, DTree, VVal: these texts in one. -/
import Derived.Test.YtdlnmnipnkeabaaGreatDoorPt18
import Derived.Test.YtdlnmnipnkeabaaGreatDoorPt2
import Derived.Test.YtdlnmnipnkeabaaGreatDoorPt10
import Derived.Test.YtdlnmnipnkeabaaGreatDoorPt17
import Derived.Test.YtdlnmnipnkeabaaGreatDoorPt3
import Derived.Test.YtdlnmnipnkeabaaGreatDoorPt1
import Derived.Test.YtdlnmnipnkeabaaGreatDoorShelf
import Derived.Handy
import Derived.Deep.RegionHeld
import Derived.Deep.LoopGhost
import Derived.Deep.RegionWith
import Derived.Deep.DeepCutAuto
import Derived.Deep.CutBlock
import Derived.Maps.AppendAt
import Derived.OwnWalk
import Derived.Test.YtdlnmnipnkeabaaGreatDoorVMade
import Derived.Test.YtdlnmnipnkeabaaGreatDoorVBuild
import Derived.WalkSmall
namespace Go.Proofs.YtdlnmnipnkeabaaGreatDoor
open Go.RowKit
set_option linter.unusedVariables false
set_option linter.unusedSimpArgs false
theorem set_other (w : World) (M k : Nat) (o : Obj) (hne : k ≠ M) : ({ w with heap := w.heap.setIfInBounds M o } : World).heap[k]? = w.heap[k]? := by
 simp [Array.getElem?_setIfInBounds, Ne.symm hne]
theorem set_kx (w : World) (M : Nat) (o : Obj) : Kx (fun k => k = M) w { w with heap := w.heap.setIfInBounds M o } :=
 ⟨rfl, rfl, rfl, by simp, fun k _ hk => set_other w M k o hk⟩
set_option maxRecDepth 1000000 in
set_option maxHeartbeats 8000000 in
theorem row_miss (C M : Nat) (tb : Value) (ht : ∃ a n c, tb = .slice a n c) (w : World) (QH : Hk → Nat → Nat → World → Prop) (hQ : ∀ h' lo hi W W', QH h' lo hi W → Kx (fun k => k = M ∨ (w.heap.size ≤ k ∧ k < lo) ∨ hi ≤ k) W W' → QH h' lo hi W')
  (c0 : w.cell? ⟨C, 0, none⟩ = some tb) (c1 : w.cell? ⟨C, 1, none⟩ = some (.map (some M))) (hM : w.heap[M]? = some (.map #[] 0)) (hCM : C ≠ M)
  (hG0 : ∀ V, Below w.heap.size w V → Calls Tryz.prog 140 #[tb, .int .i64 1] V fun e w' => (∃ h' : Hk, e = .returned (.tuple #[.agg h'.v.toArray, .bool true]) ∧ Hid (QH h' V.heap.size w'.heap.size w')) ∧ Below V.heap.size V w') :
  Calls Tryz.prog 112 #[.pointer (some ⟨C, 0, none⟩), .int .i64 1] w fun e w' => ∃ h' : Hk, e = .returned (.tuple #[.agg h'.v.toArray, .bool true]) ∧ Hid (∃ lo hi, w.heap.size ≤ lo ∧ lo ≤ hi ∧ hi ≤ w'.heap.size ∧ QH h' lo hi w') ∧ w'.heap[M]? = some (.map (oneE (.agg h'.v.toArray)) 1) ∧ Kx (fun k => k = M) w w' := by
 obtain ⟨ta, tn, tc, rfl⟩ := ht
 have hz : hk0.v.length = 48 := rfl
 have ha0 := fun w => zero_hk w
 have hoz := hk0.one
 have hlk := fun W hh => look_none W M 1 hh
 have hlM := (Array.getElem?_eq_some_iff.1 hM).1
 have hCl : C < w.heap.size := World.block_lt_of_cell? w _ c0
 obtain ⟨W1, hW1⟩ : ∃ W1, W1 = w.alloc (.cells hk0.v.toArray 34) := ⟨_, rfl⟩
 have b1 : Below w.heap.size w W1 := by rw [hW1]; exact (Below.refl _ _).alloc (Nat.le_refl _) _
 have k1 : Blk W1 w.heap.size hk0.v := by rw [hW1]; exact Blk.new w hk0.v 34
 have hM1 := (b1.block M hlM).trans hM
 have hl1 := hlk W1 hM1
 have d1 := up_cell b1 c1
 have d0 := up_cell b1 c0
 have s1 : W1.heap.size = w.heap.size + 1 := by rw [hW1]; simp
 have hs1 : w.heap.size < W1.heap.size := by omega
 clear s1
 generalize hk0.v = ZV at *
 have k2 : Blk (W1.alloc (.cells ZV.toArray 34)) W1.heap.size ZV := Blk.new W1 ZV 34
 have b3 : Below W1.heap.size W1 ((W1.alloc (.cells ZV.toArray 34)).setCells W1.heap.size 0 ZV) := xbelow_sc ((Below.refl _ _).alloc (Nat.le_refl _) _) (Nat.le_refl _) _ _
 clear hlk
 go_enter Tryz.func112, Tryz.ntmps112
 go_upto_region 1 with (refine wpl_allocz ha0 rfl rfl ?_)
 rw [← hW1]
 clear hW1
 go_upto_region 2 with (first | (refine wpl_allocz ha0 rfl rfl ?_) | (refine wpl_st row_Hook rfl (.tmp 6) (.tmp 17) rfl (us := ZV) rfl rfl k2 hz hz hoz ?_; generalize (W1.alloc (.cells ZV.toArray 34)).setCells W1.heap.size 0 ZV = W3 at *))
 have j3 := k1.up b3
 have bw3 : Below w.heap.size w W3 := b1.trans (b3.mono b1.size)
 have e0 := up_cell bw3 c0
 have hG := hG0 W3 bw3
 clear hl1 d1 d0 k2 k1 b3 hM1 hG0
 go_upto_region 5 with (first
  | (go_at_call 140; refine hG.mono ?_; rintro e W4 ⟨⟨h', rfl, hq⟩, b4⟩; have hl := h'.len; have ho := h'.one; have k5 : Blk (W4.alloc (.cells ZV.toArray 34)) W4.heap.size ZV := Blk.new W4 ZV 34; have b6 : Below W4.heap.size W4 ((W4.alloc (.cells ZV.toArray 34)).setCells W4.heap.size 0 h'.v) := xbelow_sc ((Below.refl _ _).alloc (Nat.le_refl _) _) (Nat.le_refl _) _ _; have k6 : Blk ((W4.alloc (.cells ZV.toArray 34)).setCells W4.heap.size 0 h'.v) W4.heap.size h'.v := k5.all _ (by rw [hl, hz]))
  | (refine wpl_allocz ha0 rfl rfl ?_)
  | (refine wpl_st row_Hook rfl (.tmp 8) (.tmp 28) rfl (us := h'.v) rfl rfl k5 hz hl ho ?_; generalize (W4.alloc (.cells ZV.toArray 34)).setCells W4.heap.size 0 h'.v = W6 at *))
 have b36 : Below W3.heap.size W3 W6 := b4.trans (b6.mono b4.size)
 have bw6 : Below w.heap.size w W6 := bw3.trans (b36.mono bw3.size)
 have j6 := j3.up b36
 have q6 : QH h' W3.heap.size W4.heap.size W6 := hQ _ _ _ _ _ hq.out (.of_below b6)
 have z6 : W4.heap.size ≤ W6.heap.size := b6.size
 have hW34 : W3.heap.size ≤ W4.heap.size := b4.size
 have hj3 : w.heap.size < W3.heap.size := j3.b
 clear hq hG e0 j3 k5 b6 b4 b36
 go_upto_region 6 with fail
 obtain ⟨Yd, hYd⟩ : ∃ Yd, Yd = W6.drew := ⟨_, rfl⟩
 have bY : Below W6.heap.size W6 Yd := by rw [hYd]; exact (Below.refl _ _).drew
 have bwY := bw6.trans (bY.mono bw6.size)
 have kY := k6.up bY
 have jY := j6.up bY
 have qY : QH h' W3.heap.size W4.heap.size Yd := hQ _ _ _ _ _ q6 (.of_below bY)
 have y1 := up_cell bwY c1
 have yM := (bwY.block M hlM).trans hM
 have hup := upd_first Yd M (.agg h'.v.toArray) yM
 obtain ⟨Y2, hY2⟩ : ∃ Y2, Y2 = ({ Yd with heap := Yd.heap.setIfInBounds M (.map (oneE (.agg h'.v.toArray)) 1) } : World) := ⟨_, rfl⟩
 have x2 : Kx (fun k => k = M) Yd Y2 := by rw [hY2]; exact set_kx Yd M _
 have q2 : QH h' W3.heap.size W4.heap.size Y2 := hQ _ _ _ _ _ qY (x2.mono (fun k _ h => Or.inl h))
 have kx : Kx (fun k => k = M) w Y2 := (Kx.of_below bwY).trans x2
 have hMY : M < Yd.heap.size := Nat.lt_of_lt_of_le hlM bwY.size
 have hM2 : Y2.heap[M]? = some (.map (oneE (.agg h'.v.toArray)) 1) := by rw [hY2]; simp [hMY]
 have k2 := kY.kx x2 (by omega)
 have j2 := jY.kx x2 (by omega)
 have y2 := x2.cell y1 (by dsimp only; omega)
 rw [← hY2] at hup
 clear hY2
 have f1 : Blk (Y2.setCells w.heap.size 0 h'.v) w.heap.size h'.v := j2.all _ (by rw [hl, hz])
 have f2 : Kx (fun k => k = M) w (Y2.setCells w.heap.size 0 h'.v) := Kx.setCells _ (Or.inr (Nat.le_refl _)) _ _ _ kx
 have f3 : (Y2.setCells w.heap.size 0 h'.v).heap[M]? = some (.map (oneE (.agg h'.v.toArray)) 1) := ((Kx.setCells (P := fun k => k = w.heap.size) _ (Or.inl rfl) _ _ _ (Kx.refl _ _)).block M (Nat.lt_of_lt_of_le hMY x2.size) (by omega)).trans hM2
 have g4 := hQ _ _ _ _ _ q2 (Kx.setCells (P := fun k => k = M ∨ (w.heap.size ≤ k ∧ k < W3.heap.size) ∨ W4.heap.size ≤ k) w.heap.size (Or.inl (Or.inr (Or.inl ⟨Nat.le_refl _, hj3⟩))) h'.v 0 Y2 (Kx.refl _ _))
 have f4 : Hid (∃ lo hi, w.heap.size ≤ lo ∧ lo ≤ hi ∧ hi ≤ (Y2.setCells w.heap.size 0 h'.v).heap.size ∧ QH h' lo hi (Y2.setCells w.heap.size 0 h'.v)) := ⟨_, _, Nat.le_of_lt hj3, hW34, Nat.le_trans z6 (Nat.le_trans bY.size (Nat.le_trans x2.size (Kx.setCells (P := fun k => k = w.heap.size) _ (Or.inl rfl) h'.v 0 Y2 (Kx.refl _ _)).size)), g4⟩
 clear g4
 clear q2 kx hM2 x2 jY hQ qY
 generalize hHv : h'.v = H at *
 have HH : Hid (h'.v = H) := hHv
 clear hHv
 refine wp_region_held_drew (S := fun w' : World => w'.cell? ⟨C, 1, none⟩ = some (.map (some M)) ∧ w'.rangeAt W4.heap.size 0 H) (by kernel_rfl) (by rw [← hYd]; exact ⟨y1, kY.range⟩) ?_
 rw [← hYd]
 clear hYd q6 k6 j6
 intro hS
 refine tk 0 (.pointer (some ⟨C, 0, none⟩)) rfl (by kernel_rfl) (fun _ _ _ h => h) (by rfl) (by assumption) ?_ ?_
 ·intro w5 hSw
  obtain ⟨s0, s1⟩ := hSw
  go_simp
 try simp only [Act.put, List.getElem_toArray, List.getElem_cons_zero, List.getElem_cons_succ, List.setIfInBounds_toArray, List.set_cons_zero, List.set_cons_succ, List.length_cons]
 refine tk 1 (.pointer (some ⟨C, 0, none⟩)) rfl (by kernel_rfl) (fun _ _ _ h => h) (by rfl) (by assumption) ?_ ?_
 ·intro w5 hSw
  obtain ⟨s0, s1⟩ := hSw
  go_simp
 try simp only [Act.put, List.getElem_toArray, List.getElem_cons_zero, List.getElem_cons_succ, List.setIfInBounds_toArray, List.set_cons_zero, List.set_cons_succ, List.length_cons]
 refine tk 2 (.pointer (some ⟨C, 1, none⟩)) rfl (by kernel_rfl) (fun _ _ _ h => h) (by rfl) (by assumption) ?_ ?_
 ·intro w5 hSw
  obtain ⟨s0, s1⟩ := hSw
  go_simp
 try simp only [Act.put, List.getElem_toArray, List.getElem_cons_zero, List.getElem_cons_succ, List.setIfInBounds_toArray, List.set_cons_zero, List.set_cons_succ, List.length_cons]
 refine tk 3 (.map (some M)) rfl (by kernel_rfl) (fun _ _ _ h => h) (by rfl) (by assumption) ?_ ?_
 ·intro w5 hSw
  obtain ⟨s0, s1⟩ := hSw
  go_simp
 try simp only [Act.put, List.getElem_toArray, List.getElem_cons_zero, List.getElem_cons_succ, List.setIfInBounds_toArray, List.set_cons_zero, List.set_cons_succ, List.length_cons]
 refine tk 4 (.int .i64 1) rfl (by kernel_rfl) (fun _ _ _ h => h) (by rfl) (by assumption) ?_ ?_
 ·intro w5 hSw
  obtain ⟨s0, s1⟩ := hSw
  go_simp
 try simp only [Act.put, List.getElem_toArray, List.getElem_cons_zero, List.getElem_cons_succ, List.setIfInBounds_toArray, List.set_cons_zero, List.set_cons_succ, List.length_cons]
 refine wpAnyH_take (i := 5) (v := .agg H.toArray) rfl (by kernel_rfl) (by kernel_rfl) (by kernel_rfl) (fun _ _ _ h => h) ?_ (by assumption) ?_
 ·obtain ⟨⟨dd, r1, r2⟩, r3⟩ := row_Hook
  exact yieldsIf_load_mid rfl 34 (.tmp 8) rfl W4.heap.size 0 rfl H dd (fun _ h => h.2) r1 r2 (by rw [hl]; exact r3)
 try simp only [Act.put, List.getElem_toArray, List.getElem_cons_zero, List.getElem_cons_succ, List.setIfInBounds_toArray, List.set_cons_zero, List.set_cons_succ, List.length_cons]
 refine rd1 6 (by kernel_rfl) rfl fun K hK => ?_
 go_simp
 refine hK.out _ _ ⟨y2, k2.range⟩ (fun _ => ?_)
 clear hK hup hS kY y1 yM
 try simp only [Act.put, List.getElem_toArray, List.getElem_cons_zero, List.getElem_cons_succ, List.setIfInBounds_toArray, List.set_cons_zero, List.set_cons_succ, List.length_cons]
 refine wpAnyH_done (by kernel_rfl) ?_ _
 go_wp2_with (first
  | (refine wpl_ld row_Hook rfl (.tmp 8) rfl rfl k2.range hl ?_)
  | (refine wpl_st row_Hook rfl (.tmp 4) (.tmp 37) rfl (us := H) rfl rfl j2 hz hl ho ?_; generalize Y2.setCells w.heap.size 0 H = Wf at *))
 exact bodyPost_ret (res_row2 row_Hook Tryz.results112 rfl rfl f1 hl) rfl ⟨h', by rw [HH.out]; rfl, f4, by rw [HH.out]; exact f3, f2⟩
end Go.Proofs.YtdlnmnipnkeabaaGreatDoor
namespace Go.Proofs.YtdlnmnipnkeabaaGreatDoor
open Go.RowKit
set_option linter.unusedVariables false
set_option linter.unusedSimpArgs false
def mT (n : Int) : ByteArray := if n = 1 then ⟨#[70, 111, 114, 109, 97, 116]⟩ else if n = 2 then ⟨#[71, 111, 83, 116, 114, 105, 110, 103]⟩ else if n = 3 then ⟨#[69, 114, 114, 111, 114]⟩ else if n = 4 then ⟨#[83, 116, 114, 105, 110, 103]⟩ else ⟨#[]⟩
theorem mT_size (n : Int) : (mT n).size ≤ 8 := by
 unfold mT
 repeat' split
 all_goals decide
set_option maxRecDepth 1000000 in
theorem method_any (n : Int) (w : World) : Calls Tryz.prog 144 #[.int .i64 n] w fun e w' => e = .returned (.string (mT n)) ∧ w' = w := by
 by_cases e1 : n = 1
 ·subst e1
  go_enter Tryz.func144, Tryz.ntmps144
  go_wp2
  go_ret
  exact ⟨rfl, rfl⟩
 ·skip
  by_cases e2 : n = 2
  ·subst e2
   go_enter Tryz.func144, Tryz.ntmps144
   go_wp2
   go_ret
   exact ⟨rfl, rfl⟩
  ·skip
   by_cases e3 : n = 3
   ·subst e3
    go_enter Tryz.func144, Tryz.ntmps144
    go_wp2
    go_ret
    exact ⟨rfl, rfl⟩
   ·skip
    by_cases e4 : n = 4
    ·subst e4
     go_enter Tryz.func144, Tryz.ntmps144
     go_wp2
     go_ret
     exact ⟨rfl, rfl⟩
    ·skip
     rw [show mT n = ⟨#[]⟩ by unfold mT; rw [if_neg e1, if_neg e2, if_neg e3, if_neg e4]]
     go_enter Tryz.func144, Tryz.ntmps144
     go_wp2
     go_ret
     exact ⟨rfl, rfl⟩
end Go.Proofs.YtdlnmnipnkeabaaGreatDoor
namespace Go.Proofs.YtdlnmnipnkeabaaGreatDoor
open Go.RowKit
set_option linter.unusedVariables false
set_option linter.unusedSimpArgs false
abbrev FP (g : Nat) : Value := .func (.func 116) #[.pointer (some ⟨g, 0, none⟩)] #[]
abbrev FS (g : Nat) : Value := .func (.func 117) #[.pointer (some ⟨g, 0, none⟩)] #[]
theorem ieql_n (w : World) : (binOp BinOp.eql 20 .nilIface .nilIface).run Tryz.prog w = .ok (.bool true) w := by kernel_rfl
structure Tn (A B : World → Prop) (P : Nat → Prop) (R : Nat) : Prop where
 a : ∀ W W', A W → Below W.heap.size W W' → A W'
 b : ∀ W W', B W → Kx (fun k => R ≤ k) W W' → B W'
 p : ∀ k, P k → k < R
theorem Tn.up {A B : World → Prop} {P : Nat → Prop} {R : Nat} (h : Tn A B P R) {W W' : World} (hb : B W) (b : Below W.heap.size W W') : B W' := h.b W W' hb (.of_below b)
end Go.Proofs.YtdlnmnipnkeabaaGreatDoor
namespace Go.Proofs.YtdlnmnipnkeabaaGreatDoor
open Go.RowKit
set_option linter.unusedVariables false
set_option linter.unusedSimpArgs false
theorem pcV_len (p : Pc) (t : ByteArray) : (pcV p t).length = 20 := rfl
end Go.Proofs.YtdlnmnipnkeabaaGreatDoor
namespace Go.Proofs.YtdlnmnipnkeabaaGreatDoor
open Go.RowKit
set_option linter.unusedVariables false
set_option linter.unusedSimpArgs false
end Go.Proofs.YtdlnmnipnkeabaaGreatDoor
namespace Go.Proofs.YtdlnmnipnkeabaaGreatDoor
open Go.RowKit
set_option linter.unusedVariables false
set_option linter.unusedSimpArgs false
theorem zero_pc (w : World) : (zeroValue 119).run Tryz.prog w = .ok (.agg (pieceV 0 ⟨#[]⟩ fl0 0 0 nb0 nb0 ix0).toArray) w := by kernel_rfl
def noIx (p : Pc) : Prop := p.arg.k = 0 ∧ p.wid.a.k = 0 ∧ p.prec.a.k = 0
end Go.Proofs.YtdlnmnipnkeabaaGreatDoor
namespace Go.Proofs.YtdlnmnipnkeabaaGreatDoor
open Go.RowKit
end Go.Proofs.YtdlnmnipnkeabaaGreatDoor
namespace Go.Proofs.YtdlnmnipnkeabaaGreatDoor
open Go.RowKit
set_option linter.unusedVariables false
set_option linter.unusedSimpArgs false
theorem ba_extB {a b : ByteArray} (h : a.data.toList = b.data.toList) : a = b := by
 apply ByteArray.ext; apply Array.ext'; exact h
def bT (V L : List UInt8) : ByteArray := ⟨([37, 33] ++ V ++ [40] ++ L ++ [41]).toArray⟩
theorem bT_list (V L : List UInt8) : (bT V L).data.toList = [37, 33] ++ V ++ [40] ++ L ++ [41] := by simp [bT]
theorem bT_size (V L : List UInt8) : (bT V L).size = V.length + L.length + 4 := by rw [← list_len, bT_list]; simp; omega
theorem join_none (xs : List (List UInt8)) : Lib.join xs [] = xs.flatten := by
 cases xs with
 | nil => rfl
 | cons x r => rw [Lib.join_cons]; simp [Lib.joinTail]
abbrev BtC (v : ByteArray) (w : World) (bk n c : Nat) (L : List UInt8) : Prop := Calls Tryz.prog 18 #[.string v, .slice (some ⟨bk, 0, none⟩) n c] w fun e w' => e = .returned (.string (bT v.data.toList L)) ∧ Below w.heap.size w w'
set_option maxRecDepth 1000000 in
set_option maxHeartbeats 2000000 in
theorem btext_any {v : ByteArray} {xs : List ByteArray} {bk c : Nat} {w : World} {L : List UInt8} (hv : v.size ≤ 1000) (hc : ∀ (j : Nat) x, xs[j]? = some x → w.cell? ⟨bk, j, none⟩ = some (.string x)) (hbk : bk < w.heap.size) (hN : xs.length ≤ 1000) (hcap : xs.length ≤ c) (hL : xs.flatMap (·.data.toList) = L) (hz : L.length ≤ 100000) : BtC v w bk xs.length c L := by
 have hj : Lib.join (xs.map (·.data.toList)) [] = L := by rw [join_none, ← hL]; rfl
 have hJ := Tryz.strings_Join bk 0 c xs ⟨#[]⟩ w (fun j x h => by rw [Nat.zero_add]; exact hc j x h) hbk (by omega) hcap (by rw [show (⟨#[]⟩ : ByteArray).data.toList = [] from rfl, hj]; omega)
 rw [show (⟨#[]⟩ : ByteArray).data.toList = [] from rfl, hj] at hJ
 have hs : (⟨L.toArray⟩ : ByteArray).size = L.length := by rw [← list_len]
 have HF : Hid ((((⟨#[37, 33]⟩ ++ v) ++ ⟨#[40]⟩) ++ (⟨L.toArray⟩ : ByteArray)) ++ ⟨#[41]⟩ = bT v.data.toList L) := by
  refine ba_extB ?_
  rw [bT_list]
  simp only [app_list]
 have hvI : (v.size : Int) ≤ 1000 := by omega
 have hlI : ((⟨L.toArray⟩ : ByteArray).size : Int) ≤ 100000 := by omega
 generalize (⟨L.toArray⟩ : ByteArray) = J at *
 clear hj hL hc hs hv
 go_enter Tryz.func18, Tryz.ntmps18
 go_wp2_with (go_at_call 23; refine hJ.mono ?_; rintro e w2 ⟨rfl, hb2⟩)
 go_ret
 rw [HF.out]
 exact ⟨rfl, hb2⟩
def vB (c : Int) : List UInt8 := (Utf8.encode c).data.toList
theorem vB_size (c : Int) : (Utf8.encode c).size ≤ 4 := enc_size_le c
end Go.Proofs.YtdlnmnipnkeabaaGreatDoor
namespace Go.Proofs.YtdlnmnipnkeabaaGreatDoor
open Go.RowKit
set_option linter.unusedVariables false
set_option linter.unusedSimpArgs false
end Go.Proofs.YtdlnmnipnkeabaaGreatDoor
namespace Go.Proofs.YtdlnmnipnkeabaaGreatDoor
open Go.RowKit
set_option linter.unusedVariables false
set_option linter.unusedSimpArgs false
end Go.Proofs.YtdlnmnipnkeabaaGreatDoor
namespace Go.Proofs.YtdlnmnipnkeabaaGreatDoor
open Go.RowKit
set_option linter.unusedVariables false
set_option linter.unusedSimpArgs false
def KdQ (t : TypeId) (x : Value) (k : Int) : Prop := ∃ (ty : ByteArray) (h : Int), ∀ Z : World, Sem.run Tryz.prog (method 550 t x "Kind") Z = .ok (376, .agg #[.int .i64 k, .string ty, .int .i64 h]) Z
structure It where
 t : TypeId
 x : Value
 k : Int
 T : ByteArray
abbrev It.v (q : It) : Value := .iface q.t q.x
theorem En.arg {w : World} {g C M A n c : Nat} {l : List UInt8} {dp : Int} {vs : List Value} {nx : Int} (h : En w g C M l dp (.slice (some ⟨A, 0, none⟩) n c) vs nx) {j : Nat} {u : Value} (hj : vs[j]? = some u) : w.cell? ⟨A, j, none⟩ = some u := by
 obtain ⟨a, c', e, h1, h2, ha⟩ := h.a
 injection e with e1 e2 e3
 obtain ⟨A', rfl, -, hc⟩ := ha j u hj
 injection e1 with e1
 injection e1 with e1
 subst e1
 exact hc
end Go.Proofs.YtdlnmnipnkeabaaGreatDoor
namespace Go.Proofs.YtdlnmnipnkeabaaGreatDoor
open Go.RowKit
set_option linter.unusedVariables false
set_option linter.unusedSimpArgs false
end Go.Proofs.YtdlnmnipnkeabaaGreatDoor
namespace Go.Proofs.YtdlnmnipnkeabaaGreatDoor
open Go.RowKit
set_option linter.unusedVariables false
set_option linter.unusedSimpArgs false
set_option maxRecDepth 1000000 in
set_option maxHeartbeats 2000000 in
theorem written_q {B : World → Prop} {P : Nat → Prop} (f : Sq) (ask v : Value) (depth : Int) (w : World) (T : ByteArray)
  (hA0 : ∀ W, Below w.heap.size w W → Calls Tryz.prog 137 #[WV f ask, v] W fun e W' => e = .returned (.tuple #[.string T, .bool true]) ∧ B W' ∧ Kx P W W')
  (hS : ∀ W, Below w.heap.size w W → Calls Tryz.prog 135 #[v] W fun e W' => (∃ t x, e = .returned (.iface t x)) ∧ Below W.heap.size W W') :
  Calls Tryz.prog 111 #[WV f ask, v, .int .i64 depth] w fun e w' => e = .returned (.string T) ∧ B w' ∧ Kx P w w' := by
 have hne : ∀ (t : TypeId) (x : Value) w, (binOp .eql 20 (.iface t x) .nilIface).run Tryz.prog w = .ok (.bool false) w := fun t x w => by kernel_rfl
 obtain ⟨W1, hW1⟩ : ∃ W1, W1 = w.alloc (.cells #[.bool f.p, .bool f.mi, .bool f.sh, .bool f.sp, .bool f.z, .int .i64 f.wid, .int .i64 f.prec, .int .i32 f.verb, ask] 200) := ⟨_, rfl⟩
 have b1 : Below w.heap.size w W1 := by rw [hW1]; exact (Below.refl _ _).alloc (Nat.le_refl _) _
 have a1 : At9 W1 w.heap.size f ask := by
  rw [hW1]
  refine ⟨?_, ?_, ?_, ?_, ?_, ?_, ?_, ?_, ?_⟩
  all_goals simp [go_sem]
 have hS1 := hS W1 b1
 go_enter Tryz.func111, Tryz.ntmps111
 go_upto_region 1 with fail
 rw [← hW1]
 clear hW1
 obtain ⟨X, hX⟩ : ∃ X, w.heap.size = X := ⟨_, rfl⟩
 have HX : Unit → w.heap.size = X := fun _ => hX
 rw [hX] at a1
 simp only [hX]
 clear hX hS
 go_upto_region 2 with (go_at_call 135; refine hS1.mono ?_; rintro e W2 ⟨⟨t, x, rfl⟩, b2⟩)
 have b02 : Below w.heap.size w W2 := b1.trans (b2.mono b1.size)
 have hA := hA0 W2 b02
 have a2 := a1.up b2
 obtain ⟨q0, q1, q2, q3, q4, q5, q6, q7, q8⟩ := id a2
 clear hS1
 go_wp2_with (go_at_call 137; refine hA.mono ?_; rintro e W3 ⟨rfl, h3, b3⟩)
 go_ret
 exact ⟨rfl, h3, (Kx.of_below b02).trans b3⟩
set_option maxRecDepth 1000000 in
theorem show_q {B : World → Prop} {P : Nat → Prop} (f : Sq) (hv : ¬ f.verb = 84) (v ask : Value) (T : ByteArray) (w : World) (ha : ∃ a b c, ask = .func a b c)
  (hW : ∀ W, Below w.heap.size w W → Calls Tryz.prog 111 #[WV f ask, v, .int .i64 0] W fun e w' => e = .returned (.string T) ∧ B w' ∧ Kx P W w') :
  Calls Tryz.prog 85 #[v, SV f, ask] w fun e w' => e = .returned (.string T) ∧ B w' ∧ Kx P w w' := by
 obtain ⟨a, b, c, rfl⟩ := ha
 obtain ⟨W1, hW1⟩ : ∃ W1, W1 = w.alloc (.cells #[.bool f.p, .bool f.mi, .bool f.sh, .bool f.sp, .bool f.z, .int .i64 f.wid, .int .i64 f.prec, .int .i32 f.verb] 113) := ⟨_, rfl⟩
 have b1 : Below w.heap.size w W1 := by rw [hW1]; exact (Below.refl _ _).alloc (Nat.le_refl _) _
 have q0 : W1.cell? ⟨w.heap.size, 0, none⟩ = some (.bool f.p) ∧ W1.cell? ⟨w.heap.size, 1, none⟩ = some (.bool f.mi) ∧ W1.cell? ⟨w.heap.size, 2, none⟩ = some (.bool f.sh) ∧ W1.cell? ⟨w.heap.size, 3, none⟩ = some (.bool f.sp) ∧ W1.cell? ⟨w.heap.size, 4, none⟩ = some (.bool f.z) ∧ W1.cell? ⟨w.heap.size, 5, none⟩ = some (.int .i64 f.wid) ∧ W1.cell? ⟨w.heap.size, 6, none⟩ = some (.int .i64 f.prec) ∧ W1.cell? ⟨w.heap.size, 7, none⟩ = some (.int .i32 f.verb) := by
  rw [hW1]
  refine ⟨?_, ?_, ?_, ?_, ?_, ?_, ?_, ?_⟩
  all_goals simp [go_sem]
 obtain ⟨q0, q1, q2, q3, q4, q5, q6, q7⟩ := q0
 have hW1c := hW W1 b1
 go_enter Tryz.func85, Tryz.ntmps85
 go_upto_region 1 with fail
 rw [← hW1]
 clear hW1 hW
 go_wp2_with (go_at_call 111; refine hW1c.mono ?_; rintro e W2 ⟨rfl, h2, r2⟩)
 go_ret
 exact ⟨rfl, h2, (Kx.of_below b1).trans r2⟩
set_option maxRecDepth 1000000 in
theorem shown_q {B : World → Prop} {P : Nat → Prop} (f : Sq) (hv : ¬ f.verb = 84) (v : Value) (g : Nat) (T : ByteArray) (w : World)
  (hW : ∀ W, Below w.heap.size w W → Calls Tryz.prog 111 #[WV f (FA g), v, .int .i64 0] W fun e w' => e = .returned (.string T) ∧ B w' ∧ Kx P W w') :
  Calls Tryz.prog 69 #[.pointer (some ⟨g, 0, none⟩), v, SV f] w fun e w' => e = .returned (.string T) ∧ B w' ∧ Kx P w w' := by
 have hmf : ∀ (fn : Fn) (first cap : Array Value) (w : World), (Instr.makeFunc fn first cap).run Tryz.prog w = .ok (.func fn first cap) w := fun _ _ _ _ => rfl
 obtain ⟨W1, hW1⟩ : ∃ W1, W1 = w.alloc (.cells #[.bool f.p, .bool f.mi, .bool f.sh, .bool f.sp, .bool f.z, .int .i64 f.wid, .int .i64 f.prec, .int .i32 f.verb] 113) := ⟨_, rfl⟩
 have b1 : Below w.heap.size w W1 := by rw [hW1]; exact (Below.refl _ _).alloc (Nat.le_refl _) _
 have q0 : W1.cell? ⟨w.heap.size, 0, none⟩ = some (.bool f.p) ∧ W1.cell? ⟨w.heap.size, 1, none⟩ = some (.bool f.mi) ∧ W1.cell? ⟨w.heap.size, 2, none⟩ = some (.bool f.sh) ∧ W1.cell? ⟨w.heap.size, 3, none⟩ = some (.bool f.sp) ∧ W1.cell? ⟨w.heap.size, 4, none⟩ = some (.bool f.z) ∧ W1.cell? ⟨w.heap.size, 5, none⟩ = some (.int .i64 f.wid) ∧ W1.cell? ⟨w.heap.size, 6, none⟩ = some (.int .i64 f.prec) ∧ W1.cell? ⟨w.heap.size, 7, none⟩ = some (.int .i32 f.verb) := by
  rw [hW1]
  refine ⟨?_, ?_, ?_, ?_, ?_, ?_, ?_, ?_⟩
  all_goals simp [go_sem]
 obtain ⟨q0, q1, q2, q3, q4, q5, q6, q7⟩ := q0
 have hS := show_q f hv v (FA g) T W1 ⟨_, _, _, rfl⟩ fun W hW' => hW W (b1.trans (hW'.mono b1.size))
 go_enter Tryz.func69, Tryz.ntmps69
 go_upto_region 1 with fail
 rw [← hW1]
 clear hW1 hW
 go_wp2_with (go_at_call 85; refine hS.mono ?_; rintro e W2 ⟨rfl, h2, r2⟩)
 go_ret
 exact ⟨rfl, h2, (Kx.of_below b1).trans r2⟩
end Go.Proofs.YtdlnmnipnkeabaaGreatDoor
namespace Go.Proofs.YtdlnmnipnkeabaaGreatDoor
open Go.RowKit
set_option linter.unusedVariables false
def nodes : D → List D
 | ⟨kind, ty, bits, imag, text, names, parts, hook⟩ => ⟨kind, ty, bits, imag, text, names, parts, hook⟩ :: (if great kind then parts.flatMap fun x => nodes x else [])
def Vals (R : Value → D → Prop) (S : Nat → Prop) (W : World) (a : Option Addr) (l : List D) : Prop :=
 ∀ (i : Nat) (y : D), l[i]? = some y → ∃ b off t u, a = some ⟨b, off, none⟩ ∧ S b ∧ W.cell? ⟨b, off + i, none⟩ = some (.iface t u) ∧ R (.iface t u) y
def StrsS (S : Nat → Prop) (W : World) (a : Option Addr) (l : List ByteArray) : Prop :=
 ∀ (i : Nat) (s : ByteArray), l[i]? = some s → ∃ b off, a = some ⟨b, off, none⟩ ∧ S b ∧ W.cell? ⟨b, off + i, none⟩ = some (.string s)
def Ents (R : Value → D → Prop) (S : Nat → Prop) (W : World) (a : Option Addr) (l : List (D × D)) : Prop :=
 ∀ (i : Nat) (p : D × D), l[i]? = some p → ∃ b off t u t' u', a = some ⟨b, off, none⟩ ∧ S b ∧ W.cell? ⟨b, off + i * 2, none⟩ = some (.iface t u) ∧ W.cell? ⟨b, off + i * 2 + 1, none⟩ = some (.iface t' u') ∧ R (.iface t u) p.1 ∧ R (.iface t' u') p.2
def VlC (sr : List D → List (D × D)) : Nat → (Nat → Prop) → World → Value → D → Prop
 | 0, _, _, _, _ => False
 | n + 1, S, W, v, d =>
   if d.kind ≤ 17 then v = mdV d
   else if d.kind = 18 then ∃ na nc fa fc, v = .iface 175 (.agg #[.int .i64 d.kind, .string d.ty, .int .i64 d.hook, .slice na d.names.length nc, .slice fa d.parts.length fc]) ∧ d.names.length ≤ nc ∧ nc ≤ maxLen ∧ d.parts.length ≤ fc ∧ fc ≤ maxLen ∧ StrsS S W na d.names ∧ Vals (VlC sr n S W) S W fa d.parts
   else if d.kind = 21 then ∃ fa fc, v = .iface 181 (.agg #[.int .i64 d.kind, .string d.ty, .int .i64 d.hook, .slice fa (sr d.parts).length fc]) ∧ (sr d.parts).length ≤ fc ∧ fc ≤ maxLen ∧ Ents (VlC sr n S W) S W fa (sr d.parts)
   else if d.kind = 22 then ∃ fa fc, v = .iface 183 (.agg #[.int .i64 d.kind, .string d.ty, .int .i64 d.hook, .int .u64 d.bits, .slice fa d.parts.length fc]) ∧ d.parts.length ≤ fc ∧ fc ≤ maxLen ∧ Vals (VlC sr n S W) S W fa d.parts
   else ∃ fa fc, v = .iface 177 (.agg #[.int .i64 d.kind, .string d.ty, .int .i64 d.hook, .slice fa d.parts.length fc]) ∧ d.parts.length ≤ fc ∧ fc ≤ maxLen ∧ Vals (VlC sr n S W) S W fa d.parts
def Kept (S S' : Nat → Prop) (W W' : World) : Prop := ∀ b, S b → b < W.heap.size → S' b ∧ ∀ o, W'.cell? ⟨b, o, none⟩ = W.cell? ⟨b, o, none⟩
theorem Kept.at {S S' : Nat → Prop} {W W' : World} (h : Kept S S' W W') {b o : Nat} {v : Value} (hs : S b) (hc : W.cell? ⟨b, o, none⟩ = some v) : S' b ∧ W'.cell? ⟨b, o, none⟩ = some v :=
 let ⟨h1, h2⟩ := h b hs (lt_of_cell hc); ⟨h1, (h2 o).trans hc⟩
theorem Vals.turn {R R' : Value → D → Prop} {S S' : Nat → Prop} {W W' : World} {a : Option Addr} {l : List D} (h : Vals R S W a l) (hk : Kept S S' W W') (hR : ∀ v y, R v y → R' v y) : Vals R' S' W' a l := by
 intro i y hy
 obtain ⟨b, off, t, u, h1, h2, h3, h4⟩ := h i y hy
 obtain ⟨k1, k2⟩ := hk.at h2 h3
 exact ⟨b, off, t, u, h1, k1, k2, hR _ _ h4⟩
theorem Ents.turn {R R' : Value → D → Prop} {S S' : Nat → Prop} {W W' : World} {a : Option Addr} {l : List (D × D)} (h : Ents R S W a l) (hk : Kept S S' W W') (hR : ∀ v y, R v y → R' v y) : Ents R' S' W' a l := by
 intro i y hy
 obtain ⟨b, off, t, u, t', u', h1, h2, h3, h4, h5, h6⟩ := h i y hy
 obtain ⟨k1, k2⟩ := hk.at h2 h3
 exact ⟨b, off, t, u, t', u', h1, k1, k2, (hk.at h2 h4).2, hR _ _ h5, hR _ _ h6⟩
theorem StrsS.turn {S S' : Nat → Prop} {W W' : World} {a : Option Addr} {l : List ByteArray} (h : StrsS S W a l) (hk : Kept S S' W W') : StrsS S' W' a l := by
 intro i y hy
 obtain ⟨b, off, h1, h2, h3⟩ := h i y hy
 obtain ⟨k1, k2⟩ := hk.at h2 h3
 exact ⟨b, off, h1, k1, k2⟩
theorem VlC.turn {sr : List D → List (D × D)} {S S' : Nat → Prop} {W W' : World} (hk : Kept S S' W W') : ∀ {n : Nat} {v : Value} {d : D}, VlC sr n S W v d → VlC sr n S' W' v d
 | 0, _, _, h => h
 | n + 1, v, d, h => by
   unfold VlC at h ⊢
   split at h
   ·rw [if_pos (by assumption)]; exact h
   rw [if_neg (by assumption)]
   split at h
   ·rw [if_pos (by assumption)]
    obtain ⟨na, nc, fa, fc, h1, h2, h3, h4, h5, h6, h7⟩ := h
    exact ⟨na, nc, fa, fc, h1, h2, h3, h4, h5, h6.turn hk, h7.turn hk fun v y => VlC.turn hk⟩
   rw [if_neg (by assumption)]
   split at h
   ·rw [if_pos (by assumption)]
    obtain ⟨fa, fc, h1, h4, h5, h7⟩ := h
    exact ⟨fa, fc, h1, h4, h5, h7.turn hk fun v y => VlC.turn hk⟩
   rw [if_neg (by assumption)]
   split at h
   ·rw [if_pos (by assumption)]
    obtain ⟨fa, fc, h1, h4, h5, h7⟩ := h
    exact ⟨fa, fc, h1, h4, h5, h7.turn hk fun v y => VlC.turn hk⟩
   rw [if_neg (by assumption)]
   obtain ⟨fa, fc, h1, h4, h5, h7⟩ := h
   exact ⟨fa, fc, h1, h4, h5, h7.turn hk fun v y => VlC.turn hk⟩
theorem Kept.below {S S' : Nat → Prop} {W W' : World} (h : Below W.heap.size W W') (hS : ∀ b, S b → b < W.heap.size → S' b) : Kept S S' W W' := fun b hb hl => ⟨hS b hb hl, fun o => h.cell hl⟩
def MadeC (sr : List D → List (D × D)) (tw : D → Bool) (n : Nat) (W0 : World) (x : D) : Prop :=
 ∀ (nv pv : Value) (W : Cl W0), RdC n W0 nv pv x → Calls Tryz.prog 75 #[DV x nv pv] W.w fun e W' => Below W.w.heap.size W.w W' ∧
   ((tw x = false ∧ ∃ t y, e = .returned (.iface t y) ∧ VlC sr n (fun b => W.w.heap.size ≤ b) W' (.iface t y) x) ∨ (tw x = true ∧ e = .panicked (PE 5)))
theorem own_ge8 {w : World} {B : Nat} {e : TypeId} {ao : Option Addr} {n c : Nat} {us : List Value} (h : w.ownsRow B e 1 (.slice ao n c) n us) : ∀ k, Value.ownBlock (.slice ao n c) = some k → B ≤ k := by
 intro k hk
 rcases h.2 with ⟨h1, -⟩ | ⟨g, cap, cur, h1, hB, -⟩
 ·cases h1; cases hk
 ·cases h1
  have : g = k := Option.some.inj hk
  omega
theorem own_lt8 {w : World} {B : Nat} {e : TypeId} {ao : Option Addr} {n c : Nat} {us : List Value} (h : w.ownsRow B e 1 (.slice ao n c) n us) : ∀ k, Value.ownBlock (.slice ao n c) = some k → k < w.heap.size := by
 intro k hk
 rcases h.2 with ⟨h1, -⟩ | ⟨g, cap, cur, h1, hB, hg, -⟩
 ·cases h1; cases hk
 ·cases h1
  have : g = k := Option.some.inj hk
  have := (Array.getElem?_eq_some_iff.1 hg).1
  omega
theorem own_up8 {w w' : World} {B : Nat} {e : TypeId} {v : Value} {n : Nat} {us : List Value} (h : w.ownsRow B e 1 v n us) (b : Below w.heap.size w w') : w'.ownsRow B e 1 v n us := by
 refine ⟨h.1, ?_⟩
 rcases h.2 with h1 | ⟨g, cap, cur, h1, hB, hg, k⟩
 ·exact .inl h1
 ·exact .inr ⟨g, cap, cur, h1, hB, (b.block g (Array.getElem?_eq_some_iff.1 hg).1).trans hg, k⟩
theorem own_slice8 {w : World} {B : Nat} {e : TypeId} {v : Value} {n : Nat} {us : List Value} (h : w.ownsRow B e 1 v n us) : ∃ ao c, v = .slice ao n c ∧ n ≤ c ∧ c ≤ maxLen := by
 rcases h.2 with ⟨h1, rfl⟩ | ⟨g, cap, cur, h1, hB, hg, k1, k2, -⟩
 ·exact ⟨none, 0, h1, Nat.le_refl _, Nat.zero_le _⟩
 ·exact ⟨_, cap, h1, k1, k2⟩
end Go.Proofs.YtdlnmnipnkeabaaGreatDoor
