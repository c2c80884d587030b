/- JAsk, JTree: these texts in one. -/
import Derived.Test.YtdlnmnipnkeabaaGreatDoorPt19
import Derived.Test.YtdlnmnipnkeabaaGreatDoorPt22
namespace Go.Proofs.YtdlnmnipnkeabaaGreatDoor
open Go.RowKit
set_option linter.unusedVariables false
set_option linter.unusedSimpArgs false
set_option maxRecDepth 1000000 in
set_option maxHeartbeats 8000000 in
theorem ask_g (f : Sq) (v : Value) (k0 : Int) (ty0 : ByteArray) (hm0 : MkC v k0 ty0 1) (np ok : Bool) (g C : Nat) (l : List UInt8) (dp : Int) (av : Value) (nx : Int) (w : World) (hp : IsPr w g l (prT C dp av nx)) (n : Nat) (hn : n < 131072) (hc2 : w.cell? ⟨C, 2, none⟩ = some (.int .i64 n)) {T : ByteArray} {B : World → Prop} {P PM : Nat → Prop} (RS : Hk → Nat → Nat → World → Prop)
  (hPM : ∀ k, PM k → k < w.heap.size ∧ k ≠ g) (hPP : ∀ k, P k → k < w.heap.size ∧ k ≠ g)
  (hR : ∀ V, Below w.heap.size w V → Calls Tryz.prog 112 #[.pointer (some ⟨C, 0, none⟩), .int .i64 1] V fun e V' => ∃ h' : Hk, e = .returned (.tuple #[.agg h'.v.toArray, .bool true]) ∧ Hid (RS h' V.heap.size V'.heap.size V') ∧ Kx PM V V')
  (hRS : ∀ h' lo hi W W', w.heap.size ≤ lo → lo ≤ hi → RS h' lo hi W → Kx (fun k => (w.heap.size ≤ k ∧ k < lo) ∨ hi ≤ k) W W' → RS h' lo hi W')
  (hSay : ∀ h' lo hi W, RS h' lo hi W → w.heap.size ≤ lo → lo ≤ hi → hi ≤ W.heap.size → Calls Tryz.prog 114 #[.agg h'.v.toArray, SV f, .bool np, FP g, FS g] W fun e W' => e = .returned (.tuple #[.string T, .bool ok]) ∧ B W' ∧ Kx P W W') (hNP : ∀ W, Kx PM w W → Calls Tryz.prog 115 #[v] W fun e w' => e = .returned (.bool np) ∧ Below W.heap.size W w') :
  Calls Tryz.prog 86 #[.pointer (some ⟨g, 0, none⟩), v, SV f] w fun e w' => e = .returned (.tuple #[.string T, .bool ok]) ∧ B w' ∧ Kx (fun k => PM k ∨ P k) w w' := by
 have hgl := hp.lt
 have hz : hk0.v.length = 48 := rfl
 have ha0 := fun w => zero_hk w
 have hH := fun W => hook_of v k0 ty0 1 hm0 W
 clear hm0
 generalize hk0.v = ZV at *
 obtain ⟨p, mi, sh, sp, z, wid, prec, verb⟩ := f
 try dsimp only at hSay ⊢
 obtain ⟨W1, hW1⟩ : ∃ W1, W1 = w.alloc (.cells [.bool p, .bool mi, .bool sh, .bool sp, .bool z, .int .i64 wid, .int .i64 prec, .int .i32 verb].toArray 113) := ⟨_, rfl⟩
 have b1 : Below w.heap.size w W1 := by rw [hW1]; exact (Below.refl _ _).alloc (Nat.le_refl _) _
 have k1 : Blk W1 w.heap.size [.bool p, .bool mi, .bool sh, .bool sp, .bool z, .int .i64 wid, .int .i64 prec, .int .i32 verb] := by rw [hW1]; exact Blk.new w _ 113
 have z1 : w.heap.size < W1.heap.size := k1.b
 have p1 := hp.below b1
 have q0 : W1.cell? ⟨g, 4097, none⟩ = some (.pointer (some ⟨C, 0, none⟩)) := p1.tl (i := 0) rfl
 have q2 := up_cell b1 hc2
 have hnb : ((n : Int) == 131072) = false := by simp; omega
 go_enter Tryz.func86, Tryz.ntmps86
 go_upto_region 1 with fail
 rw [← hW1]
 clear hW1 hp hc2
 go_upto_region 3 with fail
 go_cut [8, 9] (fun z8 z9 wx => ∃ (V : World) (B8 : Nat) (h' : Hk) (lo hi : Nat), V = wx ∧ z8 = .pointer (some ⟨B8, 0, none⟩) ∧ z9 = .bool true ∧ w.heap.size < B8 ∧ Blk V B8 h'.v ∧ Hid (RS h' lo hi V) ∧ w.heap.size ≤ lo ∧ lo ≤ hi ∧ hi ≤ V.heap.size ∧ Kx PM W1 V)
 case first =>
  obtain ⟨Yd, hYd⟩ : ∃ Yd, Yd = W1.drew := ⟨_, rfl⟩
  have bY : Below W1.heap.size W1 Yd := by rw [hYd]; exact (Below.refl _ _).drew
  have sY : Yd.cell? ⟨g, 4097, none⟩ = some (.pointer (some ⟨C, 0, none⟩)) := up_cell bY q0
  refine wp_region_held_drew (S := fun w' : World => w'.cell? ⟨g, 4097, none⟩ = some (.pointer (some ⟨C, 0, none⟩))) (by kernel_rfl) (by exact q0) ?_
  rw [← hYd]
  have hup : ∀ {w1 w2 : World}, (fun w' : World => w'.cell? ⟨g, 4097, none⟩ = some (.pointer (some ⟨C, 0, none⟩))) w1 → Below w1.heap.size w1 w2 → (fun w' : World => w'.cell? ⟨g, 4097, none⟩ = some (.pointer (some ⟨C, 0, none⟩))) w2 := fun h hb => up_cell hb h
  have hupR : ∀ {w1 w2 : World}, (fun w' : World => w'.cell? ⟨g, 4097, none⟩ = some (.pointer (some ⟨C, 0, none⟩))) w1 → Kx PM w1 w2 → (fun w' : World => w'.cell? ⟨g, 4097, none⟩ = some (.pointer (some ⟨C, 0, none⟩))) w2 := fun h hb => hb.cell h (fun hp => (hPM _ hp).2 rfl)
  have bwY : Below w.heap.size w Yd := b1.trans (bY.mono b1.size)
  clear hYd p1 q0 q2
  intro hS
  refine tk 0 (.pointer (some ⟨g, 0, none⟩)) rfl (by kernel_rfl) (fun _ _ _ h => h) (by rfl) (by assumption) ?_ ?_
  ·intro w5 s0
   go_simp
  try simp only [Act.put, List.getElem_toArray, List.getElem_cons_zero, List.getElem_cons_succ, List.setIfInBounds_toArray, List.set_cons_zero, List.set_cons_succ, List.length_cons]
  refine tk 1 (.pointer (some ⟨g, 0, none⟩)) rfl (by kernel_rfl) (fun _ _ _ h => h) (by rfl) (by assumption) ?_ ?_
  ·intro w5 s0
   go_simp
  try simp only [Act.put, List.getElem_toArray, List.getElem_cons_zero, List.getElem_cons_succ, List.setIfInBounds_toArray, List.set_cons_zero, List.set_cons_succ, List.length_cons]
  refine tk 2 (.pointer (some ⟨g, 4097, none⟩)) rfl (by kernel_rfl) (fun _ _ _ h => h) (by rfl) (by assumption) ?_ ?_
  ·intro w5 s0
   go_simp
  try simp only [Act.put, List.getElem_toArray, List.getElem_cons_zero, List.getElem_cons_succ, List.setIfInBounds_toArray, List.set_cons_zero, List.set_cons_succ, List.length_cons]
  refine tk 3 (.pointer (some ⟨C, 0, none⟩)) rfl (by kernel_rfl) (fun _ _ _ h => h) (by rfl) (by assumption) ?_ ?_
  ·intro w5 s0
   go_simp
  try simp only [Act.put, List.getElem_toArray, List.getElem_cons_zero, List.getElem_cons_succ, List.setIfInBounds_toArray, List.set_cons_zero, List.set_cons_succ, List.length_cons]
  refine tk 4 (v) rfl (by kernel_rfl) (fun _ _ _ h => h) (by rfl) (by assumption) ?_ ?_
  ·intro w5 s0
   go_simp
  try simp only [Act.put, List.getElem_toArray, List.getElem_cons_zero, List.getElem_cons_succ, List.setIfInBounds_toArray, List.set_cons_zero, List.set_cons_succ, List.length_cons]
  refine wpAnyH_ready (rs := [5, 10]) (by kernel_rfl) (by simp) ?_
  refine AllReadyH.cons rfl (fun K5 hK5 => ?_) (AllReadyH.cons rfl (fun K10 hK10 => ?_) AllReadyH.nil)
  ·go_simp
   refine (hH Yd).mono ?_
   rintro e W2 ⟨rfl, b2⟩
   have sW2 := hup sY b2
   refine hK5.out _ _ sW2 (fun _ => ?_)
   clear hK5
   try simp only [Act.put, List.getElem_toArray, List.getElem_cons_zero, List.getElem_cons_succ, List.setIfInBounds_toArray, List.set_cons_zero, List.set_cons_succ, List.length_cons]
   have q2 : Below w.heap.size w W2 := bwY.trans (b2.mono bwY.size)
   have b12 : Below W1.heap.size W1 W2 := bY.trans (b2.mono bY.size)
   refine wpAnyH_ready (rs := [6, 10]) (by kernel_rfl) (by simp) ?_
   refine AllReadyH.cons rfl (fun K6 hK6 => ?_) (AllReadyH.cons rfl (fun K10 hK10 => ?_) AllReadyH.nil)
   ·go_simp
    refine (hR W2 q2).mono ?_
    rintro e W3 ⟨h', rfl, hrs, x3⟩
    have sW3 := hupR sW2 x3
    have hl := h'.len
    have ho := h'.one
    refine hK6.out _ _ sW3 (fun _ => ?_)
    clear hK6
    try simp only [Act.put, List.getElem_toArray, List.getElem_cons_zero, List.getElem_cons_succ, List.setIfInBounds_toArray, List.set_cons_zero, List.set_cons_succ, List.length_cons]
    refine tk 7 (.tuple #[.agg h'.v.toArray, .bool true]) rfl (by kernel_rfl) (fun _ _ _ h => h) (by rfl) (by assumption) ?_ ?_
    ·intro w5 s0
     go_simp
    try simp only [Act.put, List.getElem_toArray, List.getElem_cons_zero, List.getElem_cons_succ, List.setIfInBounds_toArray, List.set_cons_zero, List.set_cons_succ, List.length_cons]
    refine tk 8 (.agg h'.v.toArray) rfl (by kernel_rfl) (fun _ _ _ h => h) (by rfl) (by assumption) ?_ ?_
    ·intro w5 s0
     go_simp
    try simp only [Act.put, List.getElem_toArray, List.getElem_cons_zero, List.getElem_cons_succ, List.setIfInBounds_toArray, List.set_cons_zero, List.set_cons_succ, List.length_cons]
    refine tk 9 (.bool true) rfl (by kernel_rfl) (fun _ _ _ h => h) (by rfl) (by assumption) ?_ ?_
    ·intro w5 s0
     go_simp
    try simp only [Act.put, List.getElem_toArray, List.getElem_cons_zero, List.getElem_cons_succ, List.setIfInBounds_toArray, List.set_cons_zero, List.set_cons_succ, List.length_cons]
    refine rd1 10 (by kernel_rfl) rfl fun K10 hK10 => ?_
    obtain ⟨W4, hW4⟩ : ∃ W4, W4 = W3.alloc (.cells ZV.toArray 34) := ⟨_, rfl⟩
    have kA : Blk W4 W3.heap.size ZV := by rw [hW4]; exact Blk.new W3 ZV 34
    have bW4 : Below W3.heap.size W3 W4 := by rw [hW4]; exact (Below.refl _ _).alloc (Nat.le_refl _) _
    have sW4 := hup sW3 bW4
    rw [if_pos (by rfl)]
    refine wp_allocz ha0 rfl ?_
    rw [← hW4]
    refine hK10.out _ _ sW4 (fun _ => ?_)
    clear hK10 hW4
    try simp only [Act.put, List.getElem_toArray, List.getElem_cons_zero, List.getElem_cons_succ, List.setIfInBounds_toArray, List.set_cons_zero, List.set_cons_succ, List.length_cons]
    have zq := q2.size
    have zA : W1.heap.size ≤ W3.heap.size := Nat.le_trans b12.size x3.size
    have th := kA.there
    rw [hz] at th
    obtain ⟨W9, hW9⟩ : ∃ W9, W9 = W4.setCells W3.heap.size 0 h'.v := ⟨_, rfl⟩
    have s9 : W9.cell? ⟨g, 4097, none⟩ = some (.pointer (some ⟨C, 0, none⟩)) := by rw [hW9]; exact (World.cell?_of_block (w := W4) (a := ⟨g, 4097, none⟩) (xsc_heap _ _ (by dsimp only; omega) _ _ _)).trans sW4
    have k9 : Blk W9 W3.heap.size h'.v := by rw [hW9]; exact kA.all _ (by rw [hl, hz])
    have zl : w.heap.size ≤ W2.heap.size := by omega
    have zh : W2.heap.size ≤ W3.heap.size := x3.size
    have r9 : RS h' W2.heap.size W3.heap.size W9 := by rw [hW9]; exact hRS _ _ _ _ _ zl zh (hRS _ _ _ _ _ zl zh hrs.out (.of_below bW4)) (Kx.setCells (P := fun k => (w.heap.size ≤ k ∧ k < W2.heap.size) ∨ W3.heap.size ≤ k) _ (Or.inl (Or.inr (Nat.le_refl _))) _ _ _ (Kx.refl _ _))
    have y9 : W3.heap.size ≤ W9.heap.size := by rw [hW9]; exact Nat.le_trans (bW4.size) (Kx.setCells (P := fun k => k = W3.heap.size) _ (Or.inl rfl) h'.v 0 W4 (Kx.refl _ _)).size
    have x9 : Kx PM W1 W9 := by rw [hW9]; exact Kx.setCells _ (Or.inr zA) _ _ _ (((Kx.of_below b12).trans x3).trans (.of_below bW4))
    have z9 : w.heap.size < W3.heap.size := by omega
    refine rd1 11 (by kernel_rfl) rfl fun K11 hK11 => ?_
    rw [if_pos (by rfl)]
    refine wp_store_mid 34 (.tmp 8) (.tmp 26) rfl W3.heap.size 0 h'.v.toArray rfl rfl (by simpa [hl] using th) (by simp [hl, row_Hook.2]) (all_oneCell_toArray ho) ?_
    rw [show h'.v.toArray.toList = h'.v from rfl, ← hW9]
    refine hK11.out _ _ s9 (fun _ => ?_)
    clear hK11 hW9
    try simp only [Act.put, List.getElem_toArray, List.getElem_cons_zero, List.getElem_cons_succ, List.setIfInBounds_toArray, List.set_cons_zero, List.set_cons_succ, List.length_cons]
    refine rd1 12 (by kernel_rfl) rfl fun K12 hK12 => ?_
    go_simp
    refine hK12.out _ _ s9 (fun _ => ?_)
    clear hK12
    try simp only [Act.put, List.getElem_toArray, List.getElem_cons_zero, List.getElem_cons_succ, List.setIfInBounds_toArray, List.set_cons_zero, List.set_cons_succ, List.length_cons]
    refine wpAnyH_done (by kernel_rfl) ?_ _
    go_wp2_with fail
    go_meet
    exact ⟨W9, W3.heap.size, h', _, _, rfl, rfl, rfl, z9, k9, r9, zl, zh, y9, x9⟩
   ·obtain ⟨W4, hW4⟩ : ∃ W4, W4 = W2.alloc (.cells ZV.toArray 34) := ⟨_, rfl⟩
    have kA : Blk W4 W2.heap.size ZV := by rw [hW4]; exact Blk.new W2 ZV 34
    have bW4 : Below W2.heap.size W2 W4 := by rw [hW4]; exact (Below.refl _ _).alloc (Nat.le_refl _) _
    have sW4 := hup sW2 bW4
    rw [if_pos (by rfl)]
    refine wp_allocz ha0 rfl ?_
    rw [← hW4]
    refine hK10.out _ _ sW4 (fun _ => ?_)
    clear hK10 hW4
    try simp only [Act.put, List.getElem_toArray, List.getElem_cons_zero, List.getElem_cons_succ, List.setIfInBounds_toArray, List.set_cons_zero, List.set_cons_succ, List.length_cons]
    have q4 : Below w.heap.size w W4 := q2.trans (bW4.mono q2.size)
    refine rd1 6 (by kernel_rfl) rfl fun K6 hK6 => ?_
    go_simp
    refine (hR W4 q4).mono ?_
    rintro e W3 ⟨h', rfl, hrs, x3⟩
    have sW3 := hupR sW4 x3
    have hl := h'.len
    have ho := h'.one
    refine hK6.out _ _ sW3 (fun _ => ?_)
    clear hK6
    try simp only [Act.put, List.getElem_toArray, List.getElem_cons_zero, List.getElem_cons_succ, List.setIfInBounds_toArray, List.set_cons_zero, List.set_cons_succ, List.length_cons]
    refine tk 7 (.tuple #[.agg h'.v.toArray, .bool true]) rfl (by kernel_rfl) (fun _ _ _ h => h) (by rfl) (by assumption) ?_ ?_
    ·intro w5 s0
     go_simp
    try simp only [Act.put, List.getElem_toArray, List.getElem_cons_zero, List.getElem_cons_succ, List.setIfInBounds_toArray, List.set_cons_zero, List.set_cons_succ, List.length_cons]
    refine tk 8 (.agg h'.v.toArray) rfl (by kernel_rfl) (fun _ _ _ h => h) (by rfl) (by assumption) ?_ ?_
    ·intro w5 s0
     go_simp
    try simp only [Act.put, List.getElem_toArray, List.getElem_cons_zero, List.getElem_cons_succ, List.setIfInBounds_toArray, List.set_cons_zero, List.set_cons_succ, List.length_cons]
    refine tk 9 (.bool true) rfl (by kernel_rfl) (fun _ _ _ h => h) (by rfl) (by assumption) ?_ ?_
    ·intro w5 s0
     go_simp
    try simp only [Act.put, List.getElem_toArray, List.getElem_cons_zero, List.getElem_cons_succ, List.setIfInBounds_toArray, List.set_cons_zero, List.set_cons_succ, List.length_cons]
    have kB := kA.kx x3 (fun hp => by have := (hPM _ hp).1; have := q2.size; omega)
    have zq := q4.size
    have zr := q2.size
    have zs : W2.heap.size < W4.heap.size := kA.b
    have zA : W1.heap.size ≤ W2.heap.size := b12.size
    have th := kB.there
    rw [hz] at th
    obtain ⟨W9, hW9⟩ : ∃ W9, W9 = W3.setCells W2.heap.size 0 h'.v := ⟨_, rfl⟩
    have s9 : W9.cell? ⟨g, 4097, none⟩ = some (.pointer (some ⟨C, 0, none⟩)) := by rw [hW9]; exact (World.cell?_of_block (w := W3) (a := ⟨g, 4097, none⟩) (xsc_heap _ _ (by dsimp only; omega) _ _ _)).trans sW3
    have k9 : Blk W9 W2.heap.size h'.v := by rw [hW9]; exact kB.all _ (by rw [hl, hz])
    have zl : w.heap.size ≤ W4.heap.size := by omega
    have zh : W4.heap.size ≤ W3.heap.size := x3.size
    have r9 : RS h' W4.heap.size W3.heap.size W9 := by rw [hW9]; exact hRS _ _ _ _ _ zl zh (hrs.out) (Kx.setCells (P := fun k => (w.heap.size ≤ k ∧ k < W4.heap.size) ∨ W3.heap.size ≤ k) _ (Or.inl (Or.inl ⟨by omega, by omega⟩)) _ _ _ (Kx.refl _ _))
    have y9 : W3.heap.size ≤ W9.heap.size := by rw [hW9]; exact Nat.le_trans (Nat.le_refl _) (Kx.setCells (P := fun k => k = W2.heap.size) _ (Or.inl rfl) h'.v 0 W3 (Kx.refl _ _)).size
    have x9 : Kx PM W1 W9 := by rw [hW9]; exact Kx.setCells _ (Or.inr zA) _ _ _ (((Kx.of_below b12).trans (.of_below bW4)).trans x3)
    have z9 : w.heap.size < W2.heap.size := by omega
    refine rd1 11 (by kernel_rfl) rfl fun K11 hK11 => ?_
    rw [if_pos (by rfl)]
    refine wp_store_mid 34 (.tmp 8) (.tmp 26) rfl W2.heap.size 0 h'.v.toArray rfl rfl (by simpa [hl] using th) (by simp [hl, row_Hook.2]) (all_oneCell_toArray ho) ?_
    rw [show h'.v.toArray.toList = h'.v from rfl, ← hW9]
    refine hK11.out _ _ s9 (fun _ => ?_)
    clear hK11 hW9
    try simp only [Act.put, List.getElem_toArray, List.getElem_cons_zero, List.getElem_cons_succ, List.setIfInBounds_toArray, List.set_cons_zero, List.set_cons_succ, List.length_cons]
    refine rd1 12 (by kernel_rfl) rfl fun K12 hK12 => ?_
    go_simp
    refine hK12.out _ _ s9 (fun _ => ?_)
    clear hK12
    try simp only [Act.put, List.getElem_toArray, List.getElem_cons_zero, List.getElem_cons_succ, List.setIfInBounds_toArray, List.set_cons_zero, List.set_cons_succ, List.length_cons]
    refine wpAnyH_done (by kernel_rfl) ?_ _
    go_wp2_with fail
    go_meet
    exact ⟨W9, W2.heap.size, h', _, _, rfl, rfl, rfl, z9, k9, r9, zl, zh, y9, x9⟩
  ·obtain ⟨W4, hW4⟩ : ∃ W4, W4 = Yd.alloc (.cells ZV.toArray 34) := ⟨_, rfl⟩
   have kA : Blk W4 Yd.heap.size ZV := by rw [hW4]; exact Blk.new Yd ZV 34
   have bW4 : Below Yd.heap.size Yd W4 := by rw [hW4]; exact (Below.refl _ _).alloc (Nat.le_refl _) _
   have sW4 := hup sY bW4
   rw [if_pos (by rfl)]
   refine wp_allocz ha0 rfl ?_
   rw [← hW4]
   refine hK10.out _ _ sW4 (fun _ => ?_)
   clear hK10 hW4
   try simp only [Act.put, List.getElem_toArray, List.getElem_cons_zero, List.getElem_cons_succ, List.setIfInBounds_toArray, List.set_cons_zero, List.set_cons_succ, List.length_cons]
   have q4 : Below w.heap.size w W4 := bwY.trans (bW4.mono bwY.size)
   refine rd1 5 (by kernel_rfl) rfl fun K5 hK5 => ?_
   go_simp
   refine (hH W4).mono ?_
   rintro e W2 ⟨rfl, b2⟩
   have sW2 := hup sW4 b2
   refine hK5.out _ _ sW2 (fun _ => ?_)
   clear hK5
   try simp only [Act.put, List.getElem_toArray, List.getElem_cons_zero, List.getElem_cons_succ, List.setIfInBounds_toArray, List.set_cons_zero, List.set_cons_succ, List.length_cons]
   have q2 : Below w.heap.size w W2 := q4.trans (b2.mono q4.size)
   refine rd1 6 (by kernel_rfl) rfl fun K6 hK6 => ?_
   go_simp
   refine (hR W2 q2).mono ?_
   rintro e W3 ⟨h', rfl, hrs, x3⟩
   have sW3 := hupR sW2 x3
   have hl := h'.len
   have ho := h'.one
   refine hK6.out _ _ sW3 (fun _ => ?_)
   clear hK6
   try simp only [Act.put, List.getElem_toArray, List.getElem_cons_zero, List.getElem_cons_succ, List.setIfInBounds_toArray, List.set_cons_zero, List.set_cons_succ, List.length_cons]
   refine tk 7 (.tuple #[.agg h'.v.toArray, .bool true]) rfl (by kernel_rfl) (fun _ _ _ h => h) (by rfl) (by assumption) ?_ ?_
   ·intro w5 s0
    go_simp
   try simp only [Act.put, List.getElem_toArray, List.getElem_cons_zero, List.getElem_cons_succ, List.setIfInBounds_toArray, List.set_cons_zero, List.set_cons_succ, List.length_cons]
   refine tk 8 (.agg h'.v.toArray) rfl (by kernel_rfl) (fun _ _ _ h => h) (by rfl) (by assumption) ?_ ?_
   ·intro w5 s0
    go_simp
   try simp only [Act.put, List.getElem_toArray, List.getElem_cons_zero, List.getElem_cons_succ, List.setIfInBounds_toArray, List.set_cons_zero, List.set_cons_succ, List.length_cons]
   refine tk 9 (.bool true) rfl (by kernel_rfl) (fun _ _ _ h => h) (by rfl) (by assumption) ?_ ?_
   ·intro w5 s0
    go_simp
   try simp only [Act.put, List.getElem_toArray, List.getElem_cons_zero, List.getElem_cons_succ, List.setIfInBounds_toArray, List.set_cons_zero, List.set_cons_succ, List.length_cons]
   have kB := (kA.up b2).kx x3 (fun hp => by have := (hPM _ hp).1; have := bwY.size; omega)
   have zq := q2.size
   have zr := bwY.size
   have zs : Yd.heap.size < W4.heap.size := kA.b
   have zt := b2.size
   have zA : W1.heap.size ≤ Yd.heap.size := bY.size
   have th := kB.there
   rw [hz] at th
   obtain ⟨W9, hW9⟩ : ∃ W9, W9 = W3.setCells Yd.heap.size 0 h'.v := ⟨_, rfl⟩
   have s9 : W9.cell? ⟨g, 4097, none⟩ = some (.pointer (some ⟨C, 0, none⟩)) := by rw [hW9]; exact (World.cell?_of_block (w := W3) (a := ⟨g, 4097, none⟩) (xsc_heap _ _ (by dsimp only; omega) _ _ _)).trans sW3
   have k9 : Blk W9 Yd.heap.size h'.v := by rw [hW9]; exact kB.all _ (by rw [hl, hz])
   have zl : w.heap.size ≤ W2.heap.size := by omega
   have zh : W2.heap.size ≤ W3.heap.size := x3.size
   have r9 : RS h' W2.heap.size W3.heap.size W9 := by rw [hW9]; exact hRS _ _ _ _ _ zl zh (hrs.out) (Kx.setCells (P := fun k => (w.heap.size ≤ k ∧ k < W2.heap.size) ∨ W3.heap.size ≤ k) _ (Or.inl (Or.inl ⟨by omega, by omega⟩)) _ _ _ (Kx.refl _ _))
   have y9 : W3.heap.size ≤ W9.heap.size := by rw [hW9]; exact Nat.le_trans (Nat.le_refl _) (Kx.setCells (P := fun k => k = Yd.heap.size) _ (Or.inl rfl) h'.v 0 W3 (Kx.refl _ _)).size
   have x9 : Kx PM W1 W9 := by rw [hW9]; exact Kx.setCells _ (Or.inr zA) _ _ _ (((Kx.of_below bY).trans ((Kx.of_below bW4).trans (.of_below b2))).trans x3)
   have z9 : w.heap.size < Yd.heap.size := by omega
   refine rd1 11 (by kernel_rfl) rfl fun K11 hK11 => ?_
   rw [if_pos (by rfl)]
   refine wp_store_mid 34 (.tmp 8) (.tmp 26) rfl Yd.heap.size 0 h'.v.toArray rfl rfl (by simpa [hl] using th) (by simp [hl, row_Hook.2]) (all_oneCell_toArray ho) ?_
   rw [show h'.v.toArray.toList = h'.v from rfl, ← hW9]
   refine hK11.out _ _ s9 (fun _ => ?_)
   clear hK11 hW9
   try simp only [Act.put, List.getElem_toArray, List.getElem_cons_zero, List.getElem_cons_succ, List.setIfInBounds_toArray, List.set_cons_zero, List.set_cons_succ, List.length_cons]
   refine rd1 12 (by kernel_rfl) rfl fun K12 hK12 => ?_
   go_simp
   refine hK12.out _ _ s9 (fun _ => ?_)
   clear hK12
   try simp only [Act.put, List.getElem_toArray, List.getElem_cons_zero, List.getElem_cons_succ, List.setIfInBounds_toArray, List.set_cons_zero, List.set_cons_succ, List.length_cons]
   refine wpAnyH_done (by kernel_rfl) ?_ _
   go_wp2_with fail
   go_meet
   exact ⟨W9, Yd.heap.size, h', _, _, rfl, rfl, rfl, z9, k9, r9, zl, zh, y9, x9⟩
 case rest =>
  obtain ⟨V, B8, h', lo, hi, rfl, rfl, rfl, zB, k8, r8, zl, zh, zv, x8⟩ := hcut
  have kS := k1.kx x8 (fun hp => by have := (hPM _ hp).1; omega)
  have hmf : ∀ (fn : Fn) (first cap : Array Value) (w : World), (Instr.makeFunc fn first cap).run Tryz.prog w = .ok (.func fn first cap) w := fun _ _ _ _ => rfl
  have hl := h'.len
  obtain ⟨Yd, hYd⟩ : ∃ Yd, Yd = V.drew := ⟨_, rfl⟩
  have bY : Below V.heap.size V Yd := by rw [hYd]; exact (Below.refl _ _).drew
  have rY : RS h' lo hi Yd := hRS _ _ _ _ _ zl zh r8.out (.of_below bY)
  have zvY : hi ≤ Yd.heap.size := Nat.le_trans zv bY.size
  have zY : w.heap.size ≤ Yd.heap.size := Nat.le_trans (Nat.le_of_lt z1) (Nat.le_trans x8.size bY.size)
  have xY : Kx PM W1 Yd := x8.trans (.of_below bY)
  have f0 : ∀ X, Kx P Yd X → (fun w' : World => w'.rangeAt B8 0 h'.v ∧ w'.cell? ⟨w.heap.size, 0, none⟩ = some (.bool p) ∧ w'.cell? ⟨w.heap.size, 1, none⟩ = some (.bool mi) ∧ w'.cell? ⟨w.heap.size, 2, none⟩ = some (.bool sh) ∧ w'.cell? ⟨w.heap.size, 3, none⟩ = some (.bool sp) ∧ w'.cell? ⟨w.heap.size, 4, none⟩ = some (.bool z) ∧ w'.cell? ⟨w.heap.size, 5, none⟩ = some (.int .i64 wid) ∧ w'.cell? ⟨w.heap.size, 6, none⟩ = some (.int .i64 prec) ∧ w'.cell? ⟨w.heap.size, 7, none⟩ = some (.int .i32 verb)) X := fun X hX => by
   have a1 := (k8.up bY).kx hX (fun hp => by have := (hPP _ hp).1; omega)
   have a2 := (kS.up bY).kx hX (fun hp => by have := (hPP _ hp).1; omega)
   exact ⟨a1.range, a2.c 0 _ rfl, a2.c 1 _ rfl, a2.c 2 _ rfl, a2.c 3 _ rfl, a2.c 4 _ rfl, a2.c 5 _ rfl, a2.c 6 _ rfl, a2.c 7 _ rfl⟩
  have hSy := fun X (hb : Below Yd.heap.size Yd X) => hSay h' lo hi X (hRS _ _ _ _ _ zl zh rY (.of_below hb)) zl zh (Nat.le_trans zvY hb.size)
  have hrow := row_Hook
  clear hSay hR r8 rY k8 kS q0 q2 p1 hH ha0
  generalize h'.v = H at *
  go_wp2
  refine wp_region_held_drew (S := fun w' : World => w'.rangeAt B8 0 H ∧ w'.cell? ⟨w.heap.size, 0, none⟩ = some (.bool p) ∧ w'.cell? ⟨w.heap.size, 1, none⟩ = some (.bool mi) ∧ w'.cell? ⟨w.heap.size, 2, none⟩ = some (.bool sh) ∧ w'.cell? ⟨w.heap.size, 3, none⟩ = some (.bool sp) ∧ w'.cell? ⟨w.heap.size, 4, none⟩ = some (.bool z) ∧ w'.cell? ⟨w.heap.size, 5, none⟩ = some (.int .i64 wid) ∧ w'.cell? ⟨w.heap.size, 6, none⟩ = some (.int .i64 prec) ∧ w'.cell? ⟨w.heap.size, 7, none⟩ = some (.int .i32 verb)) (by kernel_rfl) (by rw [← hYd]; exact f0 Yd (Kx.refl _ _)) ?_
  rw [← hYd]
  clear hYd
  intro hS
  refine wpAnyH_take (i := 0) (v := .agg H.toArray) rfl (by kernel_rfl) (by kernel_rfl) (by kernel_rfl) (fun _ _ _ h => h) ?_ (by assumption) ?_
  ·obtain ⟨⟨dd, r1, r2⟩, r3⟩ := hrow
   exact yieldsIf_load_mid rfl 34 (.tmp 8) rfl B8 0 rfl H dd (fun _ h => h.1) r1 r2 (by rw [hl]; exact r3)
  try simp only [Act.put, List.getElem_toArray, List.getElem_cons_zero, List.getElem_cons_succ, List.setIfInBounds_toArray, List.set_cons_zero, List.set_cons_succ, List.length_cons]
  refine tk 1 (.agg #[.bool p, .bool mi, .bool sh, .bool sp, .bool z, .int .i64 wid, .int .i64 prec, .int .i32 verb]) rfl (by kernel_rfl) (fun _ _ _ h => h) (by rfl) (by assumption) ?_ ?_
  ·intro w5 s0
   obtain ⟨u0, u1, u2, u3, u4, u5, u6, u7, u8⟩ := s0
   go_simp
  try simp only [Act.put, List.getElem_toArray, List.getElem_cons_zero, List.getElem_cons_succ, List.setIfInBounds_toArray, List.set_cons_zero, List.set_cons_succ, List.length_cons]
  refine tk 2 (v) rfl (by kernel_rfl) (fun _ _ _ h => h) (by rfl) (by assumption) ?_ ?_
  ·intro w5 s0
   go_simp
  try simp only [Act.put, List.getElem_toArray, List.getElem_cons_zero, List.getElem_cons_succ, List.setIfInBounds_toArray, List.set_cons_zero, List.set_cons_succ, List.length_cons]
  refine tk 4 (.pointer (some ⟨g, 0, none⟩)) rfl (by kernel_rfl) (fun _ _ _ h => h) (by rfl) (by assumption) ?_ ?_
  ·intro w5 s0
   go_simp
  try simp only [Act.put, List.getElem_toArray, List.getElem_cons_zero, List.getElem_cons_succ, List.setIfInBounds_toArray, List.set_cons_zero, List.set_cons_succ, List.length_cons]
  refine tk 5 (FP g) rfl (by kernel_rfl) (fun _ _ _ h => h) (by rfl) (by assumption) ?_ ?_
  ·intro w5 s0
   go_simp
  try simp only [Act.put, List.getElem_toArray, List.getElem_cons_zero, List.getElem_cons_succ, List.setIfInBounds_toArray, List.set_cons_zero, List.set_cons_succ, List.length_cons]
  refine tk 6 (.pointer (some ⟨g, 0, none⟩)) rfl (by kernel_rfl) (fun _ _ _ h => h) (by rfl) (by assumption) ?_ ?_
  ·intro w5 s0
   go_simp
  try simp only [Act.put, List.getElem_toArray, List.getElem_cons_zero, List.getElem_cons_succ, List.setIfInBounds_toArray, List.set_cons_zero, List.set_cons_succ, List.length_cons]
  refine tk 7 (FS g) rfl (by kernel_rfl) (fun _ _ _ h => h) (by rfl) (by assumption) ?_ ?_
  ·intro w5 s0
   go_simp
  try simp only [Act.put, List.getElem_toArray, List.getElem_cons_zero, List.getElem_cons_succ, List.setIfInBounds_toArray, List.set_cons_zero, List.set_cons_succ, List.length_cons]
  refine rd1 3 (by kernel_rfl) rfl fun K3 hK3 => ?_
  go_simp
  refine (hNP Yd ((Kx.of_below b1).trans xY)).mono ?_
  rintro e Z1 ⟨rfl, c1⟩
  refine hK3.out _ _ (f0 Z1 (.of_below c1)) (fun _ => ?_)
  clear hK3
  try simp only [Act.put, List.getElem_toArray, List.getElem_cons_zero, List.getElem_cons_succ, List.setIfInBounds_toArray, List.set_cons_zero, List.set_cons_succ, List.length_cons]
  refine rd1 8 (by kernel_rfl) rfl fun K8 hK8 => ?_
  go_simp
  refine (hSy Z1 c1).mono ?_
  rintro e Z2 ⟨rfl, bZ, xZ⟩
  refine hK8.out _ _ (f0 Z2 ((Kx.of_below c1).trans xZ)) (fun _ => ?_)
  clear hK8 hSy hNP
  try simp only [Act.put, List.getElem_toArray, List.getElem_cons_zero, List.getElem_cons_succ, List.setIfInBounds_toArray, List.set_cons_zero, List.set_cons_succ, List.length_cons]
  refine tk 9 (.string T) rfl (by kernel_rfl) (fun _ _ _ h => h) (by rfl) (by assumption) ?_ ?_
  ·intro w5 s0
   go_simp
  try simp only [Act.put, List.getElem_toArray, List.getElem_cons_zero, List.getElem_cons_succ, List.setIfInBounds_toArray, List.set_cons_zero, List.set_cons_succ, List.length_cons]
  refine tk 10 (.bool ok) rfl (by kernel_rfl) (fun _ _ _ h => h) (by rfl) (by assumption) ?_ ?_
  ·intro w5 s0
   go_simp
  try simp only [Act.put, List.getElem_toArray, List.getElem_cons_zero, List.getElem_cons_succ, List.setIfInBounds_toArray, List.set_cons_zero, List.set_cons_succ, List.length_cons]
  refine tk 11 (.string T) rfl (by kernel_rfl) (fun _ _ _ h => h) (by rfl) (by assumption) ?_ ?_
  ·intro w5 s0
   go_simp
  try simp only [Act.put, List.getElem_toArray, List.getElem_cons_zero, List.getElem_cons_succ, List.setIfInBounds_toArray, List.set_cons_zero, List.set_cons_succ, List.length_cons]
  refine tk 12 (.bool ok) rfl (by kernel_rfl) (fun _ _ _ h => h) (by rfl) (by assumption) ?_ ?_
  ·intro w5 s0
   go_simp
  try simp only [Act.put, List.getElem_toArray, List.getElem_cons_zero, List.getElem_cons_succ, List.setIfInBounds_toArray, List.set_cons_zero, List.set_cons_succ, List.length_cons]
  refine wpAnyH_done (by kernel_rfl) ?_ _
  have hfin : Kx (fun k => PM k ∨ P k) w Z2 := ((Kx.of_below b1).trans (xY.mono (fun _ _ h => Or.inl h))).trans ((Kx.of_below c1).trans (xZ.mono (fun _ _ h => Or.inr h)))
  clear f0 xY xZ x8
  go_wp2
  go_ret2
  exact ⟨rfl, bZ, hfin⟩
end Go.Proofs.YtdlnmnipnkeabaaGreatDoor
namespace Go.Proofs.YtdlnmnipnkeabaaGreatDoor
open Go.RowKit
set_option linter.unusedVariables false
set_option linter.unusedSimpArgs false
set_option maxRecDepth 1000000 in
set_option maxHeartbeats 4000000 in
theorem asked_g {ok : Bool} {B : World → Prop} {P : Nat → Prop} (f : Sq) (v : Value) (g : Nat) (T : ByteArray) (w : World) (hP : ∀ k, P k → k < w.heap.size) (hB : ∀ W W', B W → Kx (fun k => w.heap.size ≤ k) W W' → B W') (hA : ∀ W, Below w.heap.size w W → Calls Tryz.prog 86 #[.pointer (some ⟨g, 0, none⟩), v, SV f] W fun e w' => e = .returned (.tuple #[.string T, .bool ok]) ∧ B w' ∧ Kx P W w') :
  Calls Tryz.prog 137 #[WV f (FA g), v] w fun e w' => e = .returned (.tuple #[.string T, .bool ok]) ∧ B w' ∧ Kx P w w' := by
 have hq : ∀ w, (binOp .eql 151 (FA g) .nilFunc).run Tryz.prog w = .ok (.bool false) w := fun w => by kernel_rfl
 have hmf : ∀ (fn : Fn) (first cap : Array Value) (w : World), (Instr.makeFunc fn first cap).run Tryz.prog w = .ok (.func fn first cap) w := fun _ _ _ _ => rfl
 obtain ⟨W1, hW1⟩ : ∃ W1, W1 = ((w.alloc (.cells #[.bool f.p, .bool f.mi, .bool f.sh, .bool f.sp, .bool f.z, .int .i64 f.wid, .int .i64 f.prec, .int .i32 f.verb, FA g] 200)).alloc (.cells #[.string ⟨#[]⟩] 9)).alloc (.cells #[.bool false] 4) := ⟨_, rfl⟩
 have b1 : Below w.heap.size w W1 := by rw [hW1]; exact (((Below.refl _ _).alloc (Nat.le_refl _) _).alloc (by simp) _).alloc (by simp; omega) _
 have a1 : At9 W1 w.heap.size f (FA g) := by
  rw [hW1]
  refine ⟨?_, ?_, ?_, ?_, ?_, ?_, ?_, ?_, ?_⟩
  all_goals simp [go_sem]
 have s1 : W1.cell? ⟨w.heap.size + 1, 0, none⟩ = some (.string ⟨#[]⟩) := by rw [hW1]; simp [go_sem]
 have s2 : W1.cell? ⟨w.heap.size + 1 + 1, 0, none⟩ = some (.bool false) := by rw [hW1]; simp [go_sem]
 have y1 : W1.frozen? ⟨w.heap.size + 1, 0, none⟩ = false := by
  rw [hW1, frozen?_alloc_cells, frozen?_alloc_cells, frozen?_alloc_cells]
  exact frozen_none _ _ (by show w.heap.size ≤ w.heap.size + 1; omega)
 have y2 : W1.frozen? ⟨w.heap.size + 1 + 1, 0, none⟩ = false := by
  rw [hW1, frozen?_alloc_cells, frozen?_alloc_cells, frozen?_alloc_cells]
  exact frozen_none _ _ (by show w.heap.size ≤ w.heap.size + 1 + 1; omega)
 have hO := hA W1 b1
 have l1 := lt_of_cell s1
 have l2 := lt_of_cell s2
 obtain ⟨q0, q1, q2, q3, q4, q5, q6, q7, q8⟩ := a1
 go_enter_defers Tryz.func137, Tryz.ntmps137
 go_upto_region 1 with fail
 rw [← hW1]
 clear hW1 hA
 go_wp2_with fail
 refine hO.mono ?_
 rintro e W2 ⟨rfl, hBB, b2⟩
 have k1 := b2.cell s1 (fun h => by have := hP _ h; dsimp only at this; omega)
 have k2 := b2.cell s2 (fun h => by have := hP _ h; dsimp only at this; omega)
 have x1 : W2.frozen? ⟨w.heap.size + 1, 0, none⟩ = false := (World.frozen?_of_block (w := W1) (a := ⟨w.heap.size + 1, 0, none⟩) (b2.block _ l1 (fun h => by have := hP _ h; dsimp only at this; omega))).trans y1
 have x2 : W2.frozen? ⟨w.heap.size + 1 + 1, 0, none⟩ = false := (World.frozen?_of_block (w := W1) (a := ⟨w.heap.size + 1 + 1, 0, none⟩) (b2.block _ l2 (fun h => by have := hP _ h; dsimp only at this; omega))).trans y2
 have bw2 : Kx P w W2 := (Kx.of_below b1).trans b2
 have k2' : ∀ u, (W2.setCell ⟨w.heap.size + 1, 0, none⟩ u).cell? ⟨w.heap.size + 1 + 1, 0, none⟩ = some (.bool false) := fun u => (World.cell?_of_block (w := W2) (Below.heap_setCell _ _ _ _ (by show w.heap.size + 1 + 1 ≠ w.heap.size + 1; omega))).trans k2
 have x2' : ∀ u, (W2.setCell ⟨w.heap.size + 1, 0, none⟩ u).frozen? ⟨w.heap.size + 1 + 1, 0, none⟩ = false := fun u => by rw [World.frozen?_setCell]; exact x2
 have e1 : ∀ u x, ((W2.setCell ⟨w.heap.size + 1, 0, none⟩ u).setCell ⟨w.heap.size + 1 + 1, 0, none⟩ x).cell? ⟨w.heap.size + 1, 0, none⟩ = some u := fun u x => (World.cell?_of_block (w := W2.setCell ⟨w.heap.size + 1, 0, none⟩ u) (Below.heap_setCell _ _ _ _ (by show w.heap.size + 1 ≠ w.heap.size + 1 + 1; omega))).trans (cs_same8 _ _ _ (by rw [k1]; rfl))
 have e2 : ∀ u x, ((W2.setCell ⟨w.heap.size + 1, 0, none⟩ u).setCell ⟨w.heap.size + 1 + 1, 0, none⟩ x).cell? ⟨w.heap.size + 1 + 1, 0, none⟩ = some x := fun u x => cs_same8 _ _ _ (by rw [k2']; rfl)
 clear hO s1 s2 y1 y2 q0 q1 q2 q3 q4 q5 q6 q7 q8 hq
 go_wp2
 refine leaves_cons (f := 166) (args := #[.pointer (some ⟨w.heap.size + 1, 0, none⟩), .pointer (some ⟨w.heap.size + 1 + 1, 0, none⟩)]) (by simp) (by simp [go_sem]) ?_
 refine (catch14_idle _ _ _).mono ?_
 rintro e u' w'' ⟨rfl, rfl, rfl⟩
 refine ⟨.tuple #[.string T, .bool ok], ?_, rfl, hB _ _ hBB (((Kx.refl _ _).setCell _ _ (Or.inl (by omega)) _).setCell _ _ (Or.inl (by omega)) _), (bw2.setCell _ _ (Or.inr (by omega)) _).setCell _ _ (Or.inr (by omega)) _⟩
 simp [results, Tryz.results137, go_sem, e1, e2]
end Go.Proofs.YtdlnmnipnkeabaaGreatDoor
