/- JHk, XBad: these texts in one. -/
import Derived.Test.YtdlnmnipnkeabaaGreatDoorPt19
namespace Go.Proofs.YtdlnmnipnkeabaaGreatDoor
open Go.RowKit
set_option linter.unusedVariables false
set_option linter.unusedSimpArgs false
theorem doV_1 {x : Ac} (h : x.k = 1) (g : Value) : doV x g = .func (.func 229) #[.agg (x.v ++ [g]).toArray] #[] := if_pos h
abbrev spL (f : Sq) : List Value := [.bool f.p, .bool f.mi, .bool f.sh, .bool f.sp, .bool f.z, .int .i64 f.wid, .int .i64 f.prec, .int .i32 f.verb]
abbrev FnC (A B : World → Prop) (P : Nat → Prop) (f : Nat) (args : Array Value) (v : Value) : Prop := ∀ W, A W → Calls Tryz.prog f args W fun e W' => e = .returned v ∧ B W' ∧ Kx P W W'
abbrev DoQ (A B : World → Prop) (P : Nat → Prop) (R g : Nat) (x : Ac) (np : Bool) (v : Int) (m T : ByteArray) (ok : Bool) : Prop := ∀ W, R ≤ W.heap.size → A W → Calls Tryz.prog 142 #[.agg x.v.toArray, .bool np, .int .i32 v, .string m, FP g, FS g] W fun e w' => e = .returned (.tuple #[.string T, .bool ok]) ∧ B w' ∧ Kx P W w'
set_option maxRecDepth 1000000 in
set_option maxHeartbeats 8000000 in
theorem caught_J {A B : World → Prop} {P : Nat → Prop} {R : Nat} (hT : Tn A B P R) {S : Value} {T : ByteArray} (h : FnC A B P 229 #[S] (.string T)) (w : World) (hR : R ≤ w.heap.size) (hq : A w) :
  Calls Tryz.prog 185 #[.func (.func 229) #[S] #[]] w fun e w' => e = .returned (.tuple #[.string T, .nilIface]) ∧ B w' ∧ Kx P w w' := by
 obtain ⟨W1, hW1⟩ : ∃ W1, W1 = w.alloc (.cells #[.nilIface] 20) := ⟨_, rfl⟩
 have hb : Blk W1 w.heap.size [.nilIface] := by rw [hW1]; exact Blk.new _ _ _
 have hw1 : Below w.heap.size w W1 := by rw [hW1]; exact (Below.refl _ _).alloc (Nat.le_refl _) _
 have hne : ¬ P w.heap.size := fun h => by have := hT.p _ h; omega
 have hmf : ∀ (fn : Fn) (first cap : Array Value) (w : World), (Instr.makeFunc fn first cap).run Tryz.prog w = .ok (.func fn first cap) w := fun _ _ _ _ => rfl
 have hc := h W1 (hT.a _ _ hq hw1)
 go_enter_defers Tryz.func185, Tryz.ntmps185
 go_upto_region 1 with fail
 rw [← hW1]
 clear hW1
 go_wp2_with fail
 refine hc.mono ?_
 rintro e W2 ⟨rfl, q2, g2⟩
 have b2 := hb.kx g2 hne
 have c2 := b2.c 0 _ rfl
 have z2 := b2.z 0
 go_wp2
 refine leaves_cons (f := 232) (args := #[.pointer (some ⟨w.heap.size, 0, none⟩)]) (by simp) (by simp [go_sem]) ?_
 have b3 := b2.set 0 (by simp) .nilIface
 refine (xcatch_idle _ _ _ (b3.c 0 _ rfl) (b3.z 0)).mono ?_
 rintro e u' w'' ⟨rfl, rfl, rfl⟩
 have b4 := b3.set 0 (by simp) .nilIface
 have r0 := b4.c 0 _ rfl
 refine ⟨.tuple #[.string T, .nilIface], ?_, rfl, hT.b _ _ q2 (((Kx.refl _ _).setCell _ _ (Or.inl hR) _).setCell _ _ (Or.inl hR) _), (((Kx.of_below hw1).trans g2).setCell _ _ (Or.inr (Nat.le_refl _)) _).setCell _ _ (Or.inr (Nat.le_refl _)) _⟩
 simp [results, Tryz.results185, go_sem, r0]
set_option maxRecDepth 1000000 in
set_option maxHeartbeats 8000000 in
theorem do_f {A B : World → Prop} {P : Nat → Prop} {R : Nat} (hT : Tn A B P R) (g : Nat) (x : Ac) {v : Int} {m T : ByteArray} {np : Bool} (hk : doV x (FP g) = .func (.func 229) #[.agg (x.v ++ [FP g]).toArray] #[]) (h : FnC A B P 229 #[.agg (x.v ++ [FP g]).toArray] (.string T)) : DoQ A B P R g x np v m T true := fun w hR hq => by
 obtain ⟨M, hM⟩ : ∃ M, M = x.v ++ [FP g] := ⟨_, rfl⟩
 have hD : ∀ w, Calls Tryz.prog 184 #[.agg M.toArray] w fun e w' => e = .returned (doV x (FP g)) ∧ Below w.heap.size w w' := by rw [hM]; exact fun w => does_any x (FP g) w
 have hB : ∀ w, (Instr.build 288 #[(0, .agg x.v.toArray), (1, FP g)]).run Tryz.prog w = .ok (.agg M.toArray) w := by rw [hM]; exact fun w => bld_script1 x (FP g) ⟨_, _, _, rfl⟩ w
 rw [hk, ← hM] at hD
 have hC : ∀ W, R ≤ W.heap.size → A W → Calls Tryz.prog 185 #[.func (.func 229) #[.agg M.toArray] #[]] W fun e w' => e = .returned (.tuple #[.string T, .nilIface]) ∧ B w' ∧ Kx P W w' := fun W hr hW => by rw [hM]; exact caught_J hT h W hr hW
 have hf := fun w => feql_fstr (.func 229) #[.agg M.toArray] #[] w
 have hi := fun w => ieql_n w
 clear hk h
 obtain ⟨W1, hW1⟩ : ∃ W1, W1 = w.alloc (.cells x.v.toArray 31) := ⟨_, rfl⟩
 have hb : Blk W1 w.heap.size x.v := by rw [hW1]; exact Blk.new _ _ _
 have w1 : Below w.heap.size w W1 := by rw [hW1]; exact (Below.refl _ _).alloc (Nat.le_refl _) _
 have hl := x.len
 generalize hL : x.v = L at *
 clear hM hL
 go_enter Tryz.func142, Tryz.ntmps142
 go_upto_region 1 with fail
 rw [← hW1]
 clear hW1
 go_upto_region 2 with (first
  | (refine wpl_ld row_Act rfl (.tmp 6) rfl (vs := L) rfl hb.range hl ?_)
  | (refine wpl_bld rfl _ _ rfl [(0, .agg L.toArray), (1, FP g)] rfl (hB _) ?_)
  | (go_at_call 184; refine (hD _).mono ?_; rintro e w2 ⟨rfl, b2⟩))
 have q2 := hT.a _ _ (hT.a _ _ hq w1) b2
 have bw2 : Below w.heap.size w w2 := w1.trans (b2.mono w1.size)
 have hR2 : R ≤ w2.heap.size := Nat.le_trans hR bw2.size
 go_wp2_with (go_at_call 185; refine (hC _ hR2 q2).mono ?_; rintro e w3 ⟨rfl, q3, g3⟩)
 go_ret2
 exact ⟨rfl, q3, (Kx.of_below bw2).trans g3⟩
set_option maxRecDepth 1000000 in
set_option maxHeartbeats 8000000 in
theorem sayJ_3 {A B : World → Prop} {P : Nat → Prop} {R : Nat} (hT : Tn A B P R) {g : Nat} {h : Hk} {f : Sq} {np : Bool} {T : ByteArray} {x : Ac} (hx : hat h 3 = x) (hn : whN h f.verb f.sh = 3) (hDo : DoQ A B P R g x np f.verb (mT 3) T true) {T2 : ByteArray} {b2 : Bool} (hTx : ∀ W, B W → Calls Tryz.prog 110 #[.string T, SV f] W fun e w' => e = .returned (.tuple #[.string T2, .bool b2]) ∧ Below W.heap.size W w') (w : World) (hR : R ≤ w.heap.size) (hq : A w) :
  Calls Tryz.prog 114 #[.agg h.v.toArray, SV f, .bool np, FP g, FS g] w fun e w' => e = .returned (.tuple #[.string T2, .bool true]) ∧ B w' ∧ Kx P w w' := by
 change Calls Tryz.prog 114 #[.agg h.v.toArray, .agg (spL f).toArray, .bool np, FP g, FS g] w _
 have hW := fun w => which_any h f.verb f.sh w
 rw [hn] at hW
 clear hn
 have hact := fun w => act_any h 3 w
 rw [hx] at hact
 have hMethod : ∀ w, Calls Tryz.prog 144 #[.int .i64 3] w fun e w' => e = .returned (.string (mT 3)) ∧ Below w.heap.size w w' := fun w => (method_any 3 w).mono (fun e w' ⟨e1, e2⟩ => ⟨e1, by rw [e2]; exact Below.refl _ _⟩)
 obtain ⟨W1, hW1⟩ : ∃ W1, W1 = (w.alloc (.cells h.v.toArray 34)).alloc (.cells (spL f).toArray 113) := ⟨_, rfl⟩
 have bh : Blk W1 w.heap.size h.v := by rw [hW1]; exact (Blk.new _ _ _).alloc _
 have bf : Blk W1 (w.heap.size + 1) (spL f) := by
  rw [hW1]
  have := Blk.new (w.alloc (.cells h.v.toArray 34)) (spL f) 113
  rwa [show (w.alloc (.cells h.v.toArray 34)).heap.size = w.heap.size + 1 by simp] at this
 have w1 : Below w.heap.size w W1 := by rw [hW1]; exact ((Below.refl _ _).alloc (Nat.le_refl _) _).alloc (by simp) _
 have cv : W1.cell? ⟨w.heap.size + 1, 7, none⟩ = some (.int .i32 f.verb) := bf.c 7 _ rfl
 have cs : W1.cell? ⟨w.heap.size + 1, 2, none⟩ = some (.bool f.sh) := bf.c 2 _ rfl
 have hl := h.len
 have hlf : (spL f).length = 8 := rfl
 have q1 := hT.a _ _ hq w1
 have n0 : ¬ P w.heap.size := fun h => by have := hT.p _ h; omega
 have n1 : ¬ P (w.heap.size + 1) := fun h => by have := hT.p _ h; omega
 have hrow := row_Hook
 have hrf := row_Spec
 replace hTx : ∀ W, B W → Calls Tryz.prog 110 #[.string T, .agg (spL f).toArray] W fun e w' => e = .returned (.tuple #[.string T2, .bool b2]) ∧ Below W.heap.size W w' := hTx
 unfold DoQ at hDo
 clear hx
 generalize x.v = XV at *
 generalize mT 3 = m at *
 generalize h.v = H at *
 generalize spL f = G at *
 generalize f.verb = v at *
 generalize f.sh = sh at *
 have f1 : ∀ V, Kx P W1 V → (fun w' : World => w'.rangeAt w.heap.size 0 H ∧ w'.cell? ⟨w.heap.size + 1, 7, none⟩ = some (.int .i32 v)) V ∧ Blk V (w.heap.size + 1) G := fun V gV => ⟨⟨(bh.kx gV n0).range, gV.cell cv n1⟩, bf.kx gV n1⟩
 go_enter Tryz.func114, Tryz.ntmps114
 go_upto_region 1 with fail
 rw [← hW1]
 clear hW1
 go_upto_region 4 with (first
  | (refine wpl_ld row_Hook rfl (.tmp 5) rfl (vs := H) rfl bh.range hl ?_)
  | (go_at_call 141; refine (hW _).mono ?_; rintro e W2 ⟨rfl, bw2⟩))
 have q2 := hT.a _ _ q1 bw2
 have b02 : Below w.heap.size w W2 := w1.trans (bw2.mono w1.size)
 have bD : Below W2.heap.size W2 W2.drew := (Below.refl W2.heap.size W2).drew
 have gD : Kx P W2 W2.drew := .of_below bD
 have qD := hT.a _ _ q2 bD
 have f0 : ∀ V, Kx P W2 V → (fun w' : World => w'.rangeAt w.heap.size 0 H ∧ w'.cell? ⟨w.heap.size + 1, 7, none⟩ = some (.int .i32 v)) V := fun V gV => (f1 V ((Kx.of_below bw2).trans gV)).1
 have f2 : ∀ V, Kx P W2 V → Blk V (w.heap.size + 1) G := fun V gV => (f1 V ((Kx.of_below bw2).trans gV)).2
 have hR2 : R ≤ W2.heap.size := Nat.le_trans hR b02.size
 clear f1 bh bf cv cs
 refine wp_region_held_drew (S := fun w' => w'.rangeAt w.heap.size 0 H ∧ w'.cell? ⟨w.heap.size + 1, 7, none⟩ = some (.int .i32 v)) (by kernel_rfl) (f0 _ gD) ?_
 intro hS
 refine wpAnyH_take (i := 0) (v := .agg H.toArray) rfl (by kernel_rfl) (by kernel_rfl) (by kernel_rfl) (fun _ _ _ h => h) ?_ (by assumption) ?_
 ·obtain ⟨⟨dd, r1, r2⟩, r3⟩ := hrow
  exact yieldsIf_load_mid rfl 34 (.tmp 5) rfl w.heap.size 0 rfl H dd (fun _ h => h.1) r1 r2 (by rw [hl]; exact r3)
 try simp only [Act.put, List.getElem_toArray, List.getElem_cons_zero, List.getElem_cons_succ, List.setIfInBounds_toArray, List.set_cons_zero, List.set_cons_succ, List.length_cons]
 refine tk 1 (.int .i64 3) rfl (by kernel_rfl) (fun _ _ _ h => h) (by rfl) (by assumption) ?_ ?_
 ·intro w5 hSw
  obtain ⟨s0, s1⟩ := hSw
  go_simp
 try simp only [Act.put, List.getElem_toArray, List.getElem_cons_zero, List.getElem_cons_succ, List.setIfInBounds_toArray, List.set_cons_zero, List.set_cons_succ, List.length_cons]
 refine tk 3 (.bool np) rfl (by kernel_rfl) (fun _ _ _ h => h) (by rfl) (by assumption) ?_ ?_
 ·intro w5 hSw
  obtain ⟨s0, s1⟩ := hSw
  go_simp
 try simp only [Act.put, List.getElem_toArray, List.getElem_cons_zero, List.getElem_cons_succ, List.setIfInBounds_toArray, List.set_cons_zero, List.set_cons_succ, List.length_cons]
 refine tk 4 (.pointer (some ⟨w.heap.size + 1, 7, none⟩)) rfl (by kernel_rfl) (fun _ _ _ h => h) (by rfl) (by assumption) ?_ ?_
 ·intro w5 hSw
  obtain ⟨s0, s1⟩ := hSw
  go_simp
 try simp only [Act.put, List.getElem_toArray, List.getElem_cons_zero, List.getElem_cons_succ, List.setIfInBounds_toArray, List.set_cons_zero, List.set_cons_succ, List.length_cons]
 refine tk 5 (.int .i32 v) rfl (by kernel_rfl) (fun _ _ _ h => h) (by rfl) (by assumption) ?_ ?_
 ·intro w5 hSw
  obtain ⟨s0, s1⟩ := hSw
  go_simp
 try simp only [Act.put, List.getElem_toArray, List.getElem_cons_zero, List.getElem_cons_succ, List.setIfInBounds_toArray, List.set_cons_zero, List.set_cons_succ, List.length_cons]
 refine tk 6 (.int .i64 3) rfl (by kernel_rfl) (fun _ _ _ h => h) (by rfl) (by assumption) ?_ ?_
 ·intro w5 hSw
  obtain ⟨s0, s1⟩ := hSw
  go_simp
 try simp only [Act.put, List.getElem_toArray, List.getElem_cons_zero, List.getElem_cons_succ, List.setIfInBounds_toArray, List.set_cons_zero, List.set_cons_succ, List.length_cons]
 refine tk 8 (FP g) rfl (by kernel_rfl) (fun _ _ _ h => h) (by rfl) (by assumption) ?_ ?_
 ·intro w5 hSw
  obtain ⟨s0, s1⟩ := hSw
  go_simp
 try simp only [Act.put, List.getElem_toArray, List.getElem_cons_zero, List.getElem_cons_succ, List.setIfInBounds_toArray, List.set_cons_zero, List.set_cons_succ, List.length_cons]
 refine tk 9 (FS g) rfl (by kernel_rfl) (fun _ _ _ h => h) (by rfl) (by assumption) ?_ ?_
 ·intro w5 hSw
  obtain ⟨s0, s1⟩ := hSw
  go_simp
 try simp only [Act.put, List.getElem_toArray, List.getElem_cons_zero, List.getElem_cons_succ, List.setIfInBounds_toArray, List.set_cons_zero, List.set_cons_succ, List.length_cons]
 refine rd1 2 (by kernel_rfl) rfl fun K hK => ?_
 go_simp
 refine (hact _).mono ?_
 rintro e Z1 ⟨rfl, bz1⟩
 have gz1 : Kx P W2 Z1 := gD.trans (.of_below bz1)
 have qz1 := hT.a _ _ qD bz1
 refine hK.out _ _ (f0 Z1 gz1) (fun _ => ?_)
 try simp only [Act.put, List.getElem_toArray, List.getElem_cons_zero, List.getElem_cons_succ, List.setIfInBounds_toArray, List.set_cons_zero, List.set_cons_succ, List.length_cons]
 refine rd1 7 (by kernel_rfl) rfl fun K1 hK1 => ?_
 go_simp
 refine (hMethod _).mono ?_
 rintro e Z2 ⟨rfl, bz2⟩
 have gz2 : Kx P W2 Z2 := gz1.trans (.of_below bz2)
 have qz2 := hT.a _ _ qz1 bz2
 refine hK1.out _ _ (f0 Z2 gz2) (fun _ => ?_)
 try simp only [Act.put, List.getElem_toArray, List.getElem_cons_zero, List.getElem_cons_succ, List.setIfInBounds_toArray, List.set_cons_zero, List.set_cons_succ, List.length_cons]
 refine rd1 10 (by kernel_rfl) rfl fun K2 hK2 => ?_
 go_simp
 refine (hDo Z2 (Nat.le_trans hR2 gz2.size) qz2).mono ?_
 rintro e Z3 ⟨rfl, q3, g3⟩
 have gz3 : Kx P W2 Z3 := gz2.trans g3
 refine hK2.out _ _ (f0 Z3 gz3) (fun hHeld => ?_)
 clear hK hK1 hK2
 try simp only [Act.put, List.getElem_toArray, List.getElem_cons_zero, List.getElem_cons_succ, List.setIfInBounds_toArray, List.set_cons_zero, List.set_cons_succ, List.length_cons]
 refine tk 11 (.tuple #[.string T, .bool true]) rfl (by kernel_rfl) (fun _ _ _ h => h) (by rfl) (by assumption) ?_ ?_
 ·intro w5 hSw
  obtain ⟨s0, s1⟩ := hSw
  go_simp
 try simp only [Act.put, List.getElem_toArray, List.getElem_cons_zero, List.getElem_cons_succ, List.setIfInBounds_toArray, List.set_cons_zero, List.set_cons_succ, List.length_cons]
 refine tk 12 (.string T) rfl (by kernel_rfl) (fun _ _ _ h => h) (by rfl) (by assumption) ?_ ?_
 ·intro w5 hSw
  obtain ⟨s0, s1⟩ := hSw
  go_simp
 try simp only [Act.put, List.getElem_toArray, List.getElem_cons_zero, List.getElem_cons_succ, List.setIfInBounds_toArray, List.set_cons_zero, List.set_cons_succ, List.length_cons]
 refine tk 13 (.bool true) rfl (by kernel_rfl) (fun _ _ _ h => h) (by rfl) (by assumption) ?_ ?_
 ·intro w5 hSw
  obtain ⟨s0, s1⟩ := hSw
  go_simp
 try simp only [Act.put, List.getElem_toArray, List.getElem_cons_zero, List.getElem_cons_succ, List.setIfInBounds_toArray, List.set_cons_zero, List.set_cons_succ, List.length_cons]
 refine tk 14 (.string T) rfl (by kernel_rfl) (fun _ _ _ h => h) (by rfl) (by assumption) ?_ ?_
 ·intro w5 hSw
  obtain ⟨s0, s1⟩ := hSw
  go_simp
 try simp only [Act.put, List.getElem_toArray, List.getElem_cons_zero, List.getElem_cons_succ, List.setIfInBounds_toArray, List.set_cons_zero, List.set_cons_succ, List.length_cons]
 refine tk 15 (.bool true) rfl (by kernel_rfl) (fun _ _ _ h => h) (by rfl) (by assumption) ?_ ?_
 ·intro w5 hSw
  obtain ⟨s0, s1⟩ := hSw
  go_simp
 try simp only [Act.put, List.getElem_toArray, List.getElem_cons_zero, List.getElem_cons_succ, List.setIfInBounds_toArray, List.set_cons_zero, List.set_cons_succ, List.length_cons]
 refine wpAnyH_done (by kernel_rfl) ?_ _
 have bG := f2 Z3 gz3
 have hTx3 := hTx Z3 q3
 clear f0 f2
 go_wp2_with (first
  | (refine wpl_ld hrf rfl (.tmp 6) rfl (vs := G) rfl bG.range hlf ?_)
  | (go_at_call 110; refine hTx3.mono ?_; rintro e W7 ⟨rfl, b7⟩))
 go_ret2
 exact ⟨rfl, hT.up q3 b7, ((Kx.of_below b02).trans gz3).trans (.of_below b7)⟩
end Go.Proofs.YtdlnmnipnkeabaaGreatDoor
namespace Go.Proofs.YtdlnmnipnkeabaaGreatDoor
open Go.RowKit
set_option linter.unusedVariables false
set_option linter.unusedSimpArgs false
set_option maxRecDepth 1000000 in
set_option maxHeartbeats 2000000 in
theorem bpanic_big (c : Int) (a : ByteArray) (ha : a.size ≤ 1000) (b : ByteArray) (hb : b.size ≤ 9000) (w : World) : Calls Tryz.prog 14 #[.int .i32 c, .string a, .string b] w fun e w' => e = .returned (.string (bT (vB c) ([80, 65, 78, 73, 67, 61] ++ a.data.toList ++ [32, 109, 101, 116, 104, 111, 100, 58, 32] ++ b.data.toList))) ∧ Below w.heap.size w w' := by
 have hR := fun w => rune_any c w
 have hv := vB_size c
 obtain ⟨W1, hW1⟩ : ∃ W1, W1 = w.alloc (.cells #[.string ⟨#[80, 65, 78, 73, 67, 61]⟩, .string a, .string ⟨#[32, 109, 101, 116, 104, 111, 100, 58, 32]⟩, .string b] 9) := ⟨_, rfl⟩
 have hb1 : Below w.heap.size w W1 := by rw [hW1]; exact (Below.refl _ _).alloc (Nat.le_refl _) _
 have hT : BtC (Utf8.encode c) W1 w.heap.size 4 4 ([80, 65, 78, 73, 67, 61] ++ a.data.toList ++ [32, 109, 101, 116, 104, 111, 100, 58, 32] ++ b.data.toList) := btext_any (xs := [(⟨#[80, 65, 78, 73, 67, 61]⟩ : ByteArray), (a : ByteArray), (⟨#[32, 109, 101, 116, 104, 111, 100, 58, 32]⟩ : ByteArray), (b : ByteArray)]) (by omega) (fun j x hj => by
   have hblk : W1.heap[w.heap.size]? = some (.cells #[.string ⟨#[80, 65, 78, 73, 67, 61]⟩, .string a, .string ⟨#[32, 109, 101, 116, 104, 111, 100, 58, 32]⟩, .string b] 9) := by rw [hW1]; exact heap_alloc_new w _
   rw [cell_of_row W1 w.heap.size j _ _ (0, 0) hblk]
   show (([(⟨#[80, 65, 78, 73, 67, 61]⟩ : ByteArray), (a : ByteArray), (⟨#[32, 109, 101, 116, 104, 111, 100, 58, 32]⟩ : ByteArray), (b : ByteArray)].map Value.string).toArray)[j]? = _
   rw [List.getElem?_toArray, List.getElem?_map, hj]
   rfl) (by rw [hW1]; simp) (by simp) (by simp) (by simp) (by have := list_len a; have := list_len b;  first | (simp; done) | (simp; omega))
 unfold BtC at hT
 change Calls Tryz.prog 18 #[.string (Utf8.encode c), .slice (some ⟨w.heap.size, 0, none⟩) 4 4] W1 fun e w' => e = .returned (.string (bT (vB c) ([80, 65, 78, 73, 67, 61] ++ a.data.toList ++ [32, 109, 101, 116, 104, 111, 100, 58, 32] ++ b.data.toList))) ∧ Below W1.heap.size W1 w' at hT
 generalize Utf8.encode c = E at *
 generalize bT (vB c) ([80, 65, 78, 73, 67, 61] ++ a.data.toList ++ [32, 109, 101, 116, 104, 111, 100, 58, 32] ++ b.data.toList) = RR at *
 go_enter Tryz.func14, Tryz.ntmps14
 go_wp2_with (first
  | (go_at_call 10; refine (hR _).mono ?_; rintro e w2 ⟨rfl, hw2⟩; subst w2)
  | (go_at_call 18; rw [← hW1]; refine hT.mono ?_; rintro e w3 ⟨rfl, hb3⟩))
 go_ret
 exact ⟨rfl, hb1.trans (hb3.mono hb1.size)⟩
end Go.Proofs.YtdlnmnipnkeabaaGreatDoor
