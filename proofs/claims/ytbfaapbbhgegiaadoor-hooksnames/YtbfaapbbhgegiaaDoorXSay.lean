/- Package hooks: Say. -/
import Derived.Test.YtbfaapbbhgegiaaDoorXDoB
import Derived.Test.YtbfaapbbhgegiaaDoorXName
namespace Go.Proofs.YtbfaapbbhgegiaaDoor
open Go.RowKit
set_option linter.unusedVariables false
set_option linter.unusedSimpArgs false

/-- A spec. -/
structure Sp where
  p : Bool
  mi : Bool
  sh : Bool
  sp : Bool
  z : Bool
  wid : Int
  prec : Int
  verb : Int
def Sp.v (f : Sp) : List Value := [.bool f.p, .bool f.mi, .bool f.sh, .bool f.sp, .bool f.z, .int .i64 f.wid, .int .i64 f.prec, .int .i32 f.verb]
theorem Sp.len (f : Sp) : f.v.length = 8 := rfl
abbrev sArgs (h : Hk) (f : Sp) (np : Bool) (X : Nat) : Array Value := #[.agg h.v.toArray, .agg f.v.toArray, .bool np, prF X, shF X]
/-- Do of the method that is asked. -/
def DoC (w0 : World) (X : Nat) (p s p' s' : Int) (x : Ac) (np : Bool) (v : Int) (m T : ByteArray) (ok : Bool) : Prop := ∀ W, w0.grownBy W (some X) → Aq W X p s → Calls Tryd.prog 19 (dArgs x np v m X) W fun e w' => e = .returned (.tuple #[.string T, .bool ok]) ∧ Aq w' X p' s' ∧ W.grownBy w' (some X)
set_option maxRecDepth 1000000 in
set_option maxHeartbeats 4000000 in
theorem say_none {X : Nat} {p s : Int} (h : Hk) (f : Sp) (np : Bool) (hn : whN h f.verb f.sh = 0) (w : World) (hq : Aq w X p s) : Calls Tryd.prog 24 (sArgs h f np X) w fun e w' => e = .returned (.tuple #[.string ⟨#[]⟩, .bool false]) ∧ Aq w' X p s ∧ w.grownBy w' (some X) := by
  have hW := fun w => which_any h f.verb f.sh w
  rw [hn] at hW
  clear hn
  have hX := hq.b
  obtain ⟨W1, hW1⟩ : ∃ W1, W1 = (w.alloc (.cells h.v.toArray 30)).alloc (.cells f.v.toArray 52) := ⟨_, rfl⟩
  have bh : Blk W1 w.heap.size h.v := by rw [hW1]; exact (Blk.new _ _ _).alloc _
  have bf : Blk W1 (w.heap.size + 1) f.v := by
    rw [hW1]
    have := Blk.new (w.alloc (.cells h.v.toArray 30)) f.v 52
    rwa [show (w.alloc (.cells h.v.toArray 30)).heap.size = w.heap.size + 1 by simp] at this
  have w1 : Below w.heap.size w W1 := by rw [hW1]; exact ((Below.refl _ _).alloc (Nat.le_refl _) _).alloc (by simp) _
  have q1 := hq.up w1
  have g1 : w.grownBy W1 (some X) := xgr_below w1 _
  have cv : W1.cell? ⟨w.heap.size + 1, 7, none⟩ = some (.int .i32 f.verb) := bf.c 7 _ rfl
  have cs : W1.cell? ⟨w.heap.size + 1, 2, none⟩ = some (.bool f.sh) := bf.c 2 _ rfl
  have hl := h.len
  have hlf := f.len
  unfold sArgs
  generalize h.v = H at *
  generalize f.v = G at *
  generalize f.verb = v at *
  generalize f.sh = sh at *
  go_enter Tryd.func24, Tryd.ntmps24
  go_upto_region 1 with fail
  rw [← hW1]
  clear hW1
  go_wp2_with (first
    | (refine wpl_ld row_Hook rfl (.tmp 5) rfl (vs := H) rfl bh.range hl ?_)
    | (go_at_call 9; refine (hW _).mono ?_; rintro e w2 ⟨rfl, b2⟩))
  go_ret2
  exact ⟨rfl, q1.up b2, g1.trans (xgr_below b2 _)⟩
set_option maxRecDepth 1000000 in
set_option maxHeartbeats 8000000 in
theorem say_1 {w0 : World} {X : Nat} {p s p' s' : Int} {h : Hk} {f : Sp} {np : Bool} {T : ByteArray} (hn : whN h f.verb f.sh = 1) (hDo' : DoC w0 X p s p' s' (hat h 1) np f.verb (mT 1) T true) (w : World) (hg : w0.grownBy w (some X)) (hq : Aq w X p s) : Calls Tryd.prog 24 (sArgs h f np X) w fun e w' => e = .returned (.tuple #[.string T, .bool true]) ∧ Aq w' X p' s' ∧ w.grownBy w' (some X) := by
  have hW := fun w => which_any h f.verb f.sh w
  rw [hn] at hW
  clear hn
  have hact := fun w => act_any h 1 w
  have hMethod : ∀ w, Calls Tryd.prog 16 #[.int .i64 1] w fun e w' => e = .returned (.string (mT 1)) ∧ Below w.heap.size w w' := fun w => (method_any 1 w).mono (fun e w' ⟨e1, e2⟩ => ⟨e1, by rw [e2]; exact Below.refl _ _⟩)
  have hDo := hDo'
  unfold DoC dArgs at hDo
  clear hDo'
  have hX := hq.b
  obtain ⟨W1, hW1⟩ : ∃ W1, W1 = (w.alloc (.cells h.v.toArray 30)).alloc (.cells f.v.toArray 52) := ⟨_, rfl⟩
  have bh : Blk W1 w.heap.size h.v := by rw [hW1]; exact (Blk.new _ _ _).alloc _
  have bf : Blk W1 (w.heap.size + 1) f.v := by
    rw [hW1]
    have := Blk.new (w.alloc (.cells h.v.toArray 30)) f.v 52
    rwa [show (w.alloc (.cells h.v.toArray 30)).heap.size = w.heap.size + 1 by simp] at this
  have w1 : Below w.heap.size w W1 := by rw [hW1]; exact ((Below.refl _ _).alloc (Nat.le_refl _) _).alloc (by simp) _
  have q1 := hq.up w1
  have g1 : w.grownBy W1 (some X) := xgr_below w1 _
  have cv : W1.cell? ⟨w.heap.size + 1, 7, none⟩ = some (.int .i32 f.verb) := bf.c 7 _ rfl
  have cs : W1.cell? ⟨w.heap.size + 1, 2, none⟩ = some (.bool f.sh) := bf.c 2 _ rfl
  have hl := h.len
  have hlf := f.len
  unfold sArgs
  have hrow := row_Hook
  have hrf := row_Spec
  generalize hat h 1 = x at *
  generalize mT 1 = m at *
  generalize h.v = H at *
  generalize f.v = G at *
  generalize f.verb = v at *
  generalize f.sh = sh at *
  generalize x.v = XV at *
  have f1 : ∀ V, W1.grownBy V (some X) → (fun w' : World => w'.rangeAt w.heap.size 0 H ∧ w'.cell? ⟨w.heap.size + 1, 7, none⟩ = some (.int .i32 v)) V ∧ Blk V (w.heap.size + 1) G := fun V gV => ⟨⟨(bh.grown gV (by omega)).range, (World.cell?_of_block (w := W1) (a := ⟨w.heap.size + 1, 7, none⟩) (gV.block (w.heap.size + 1) bf.b (by simp; omega))).trans cv⟩, bf.grown gV (by omega)⟩
  go_enter Tryd.func24, Tryd.ntmps24
  go_upto_region 1 with fail
  rw [← hW1]
  clear hW1
  go_upto_region 4 with (first
    | (refine wpl_ld row_Hook rfl (.tmp 5) rfl (vs := H) rfl bh.range hl ?_)
    | (go_at_call 9; refine (hW _).mono ?_; rintro e W2 ⟨rfl, bw2⟩))
  have g2 : w.grownBy W2 (some X) := g1.trans (xgr_below bw2 _)
  have q2 := q1.up bw2
  have gD : W2.grownBy W2.drew (some X) := xgr_below (Below.refl W2.heap.size W2).drew _
  have qD : Aq W2.drew X p s := q2.up (Below.refl W2.heap.size W2).drew
  have f0 : ∀ V, W2.grownBy V (some X) → (fun w' : World => w'.rangeAt w.heap.size 0 H ∧ w'.cell? ⟨w.heap.size + 1, 7, none⟩ = some (.int .i32 v)) V := fun V gV => (f1 V ((xgr_below bw2 _).trans gV)).1
  have f2 : ∀ V, W2.grownBy V (some X) → Blk V (w.heap.size + 1) G := fun V gV => (f1 V ((xgr_below bw2 _).trans gV)).2
  clear f1 bh bf cv cs
  refine wp_region_held_drew (S := fun w' => w'.rangeAt w.heap.size 0 H ∧ w'.cell? ⟨w.heap.size + 1, 7, none⟩ = some (.int .i32 v)) (by kernel_rfl) (f0 _ gD) ?_
  intro hS
  refine wpAnyH_take (i := 0) (v := .agg H.toArray) rfl (by kernel_rfl) (by kernel_rfl) (by kernel_rfl) (fun _ _ _ h => h) ?_ (by assumption) ?_
  · obtain ⟨⟨dd, r1, r2⟩, r3⟩ := hrow
    exact yieldsIf_load_mid rfl 30 (.tmp 5) rfl w.heap.size 0 rfl H dd (fun _ h => h.1) r1 r2 (by rw [hl]; exact r3)
  try simp only [Act.put, List.setIfInBounds_toArray, List.set_cons_zero, List.set_cons_succ]
  refine wpAnyH_take (i := 1) (v := .int .i64 1) rfl (by kernel_rfl) (by kernel_rfl) (by kernel_rfl) (fun _ _ _ h => h) (Or.inl ⟨by rfl, ?_⟩) (by assumption) ?_
  · intro w5 hSw
    obtain ⟨s0, s1⟩ := hSw
    go_simp
  try simp only [Act.put, List.setIfInBounds_toArray, List.set_cons_zero, List.set_cons_succ]
  refine wpAnyH_take (i := 3) (v := .bool np) rfl (by kernel_rfl) (by kernel_rfl) (by kernel_rfl) (fun _ _ _ h => h) (Or.inl ⟨by rfl, ?_⟩) (by assumption) ?_
  · intro w5 hSw
    obtain ⟨s0, s1⟩ := hSw
    go_simp
  try simp only [Act.put, List.setIfInBounds_toArray, List.set_cons_zero, List.set_cons_succ]
  refine wpAnyH_take (i := 4) (v := .pointer (some ⟨w.heap.size + 1, 7, none⟩)) rfl (by kernel_rfl) (by kernel_rfl) (by kernel_rfl) (fun _ _ _ h => h) (Or.inl ⟨by rfl, ?_⟩) (by assumption) ?_
  · intro w5 hSw
    obtain ⟨s0, s1⟩ := hSw
    go_simp
  try simp only [Act.put, List.setIfInBounds_toArray, List.set_cons_zero, List.set_cons_succ]
  refine wpAnyH_take (i := 5) (v := .int .i32 v) rfl (by kernel_rfl) (by kernel_rfl) (by kernel_rfl) (fun _ _ _ h => h) (Or.inl ⟨by rfl, ?_⟩) (by assumption) ?_
  · intro w5 hSw
    obtain ⟨s0, s1⟩ := hSw
    go_simp
  try simp only [Act.put, List.setIfInBounds_toArray, List.set_cons_zero, List.set_cons_succ]
  refine wpAnyH_take (i := 6) (v := .int .i64 1) rfl (by kernel_rfl) (by kernel_rfl) (by kernel_rfl) (fun _ _ _ h => h) (Or.inl ⟨by rfl, ?_⟩) (by assumption) ?_
  · intro w5 hSw
    obtain ⟨s0, s1⟩ := hSw
    go_simp
  try simp only [Act.put, List.setIfInBounds_toArray, List.set_cons_zero, List.set_cons_succ]
  refine wpAnyH_take (i := 8) (v := prF X) rfl (by kernel_rfl) (by kernel_rfl) (by kernel_rfl) (fun _ _ _ h => h) (Or.inl ⟨by rfl, ?_⟩) (by assumption) ?_
  · intro w5 hSw
    obtain ⟨s0, s1⟩ := hSw
    go_simp
  try simp only [Act.put, List.setIfInBounds_toArray, List.set_cons_zero, List.set_cons_succ]
  refine wpAnyH_take (i := 9) (v := shF X) rfl (by kernel_rfl) (by kernel_rfl) (by kernel_rfl) (fun _ _ _ h => h) (Or.inl ⟨by rfl, ?_⟩) (by assumption) ?_
  · intro w5 hSw
    obtain ⟨s0, s1⟩ := hSw
    go_simp
  try simp only [Act.put, List.setIfInBounds_toArray, List.set_cons_zero, List.set_cons_succ]
  refine wpAnyH_ready (rs := [2]) (by kernel_rfl) (by simp) ?_
  refine AllReadyH.cons rfl (fun K hK => ?_) AllReadyH.nil
  go_simp
  refine (hact _).mono ?_
  rintro e Z1 ⟨rfl, bz1⟩
  have gz1 : W2.grownBy Z1 (some X) := gD.trans (xgr_below bz1 _)
  have qz1 := qD.up bz1
  refine hK.out _ _ (f0 Z1 gz1) (fun _ => ?_)
  try simp only [Act.put, List.setIfInBounds_toArray, List.set_cons_zero, List.set_cons_succ]
  refine wpAnyH_ready (rs := [7]) (by kernel_rfl) (by simp) ?_
  refine AllReadyH.cons rfl (fun K1 hK1 => ?_) AllReadyH.nil
  go_simp
  refine (hMethod _).mono ?_
  rintro e Z2 ⟨rfl, bz2⟩
  have gz2 : W2.grownBy Z2 (some X) := gz1.trans (xgr_below bz2 _)
  have qz2 := qz1.up bz2
  refine hK1.out _ _ (f0 Z2 gz2) (fun _ => ?_)
  try simp only [Act.put, List.setIfInBounds_toArray, List.set_cons_zero, List.set_cons_succ]
  refine wpAnyH_ready (rs := [10]) (by kernel_rfl) (by simp) ?_
  refine AllReadyH.cons rfl (fun K2 hK2 => ?_) AllReadyH.nil
  go_simp
  refine (hDo _ (hg.trans (g2.trans gz2)) qz2).mono ?_
  rintro e Z3 ⟨rfl, q3, g3⟩
  have gz3 : W2.grownBy Z3 (some X) := gz2.trans g3
  refine hK2.out _ _ (f0 Z3 gz3) (fun hHeld => ?_)
  clear hK hK1 hK2
  try simp only [Act.put, List.setIfInBounds_toArray, List.set_cons_zero, List.set_cons_succ]
  refine wpAnyH_take (i := 11) (v := .tuple #[.string T, .bool true]) rfl (by kernel_rfl) (by kernel_rfl) (by kernel_rfl) (fun _ _ _ h => h) (Or.inl ⟨by rfl, ?_⟩) (by assumption) ?_
  · intro w5 hSw
    obtain ⟨s0, s1⟩ := hSw
    go_simp
  try simp only [Act.put, List.setIfInBounds_toArray, List.set_cons_zero, List.set_cons_succ]
  refine wpAnyH_take (i := 12) (v := .string T) rfl (by kernel_rfl) (by kernel_rfl) (by kernel_rfl) (fun _ _ _ h => h) (Or.inl ⟨by rfl, ?_⟩) (by assumption) ?_
  · intro w5 hSw
    obtain ⟨s0, s1⟩ := hSw
    go_simp
  try simp only [Act.put, List.setIfInBounds_toArray, List.set_cons_zero, List.set_cons_succ]
  refine wpAnyH_take (i := 13) (v := .bool true) rfl (by kernel_rfl) (by kernel_rfl) (by kernel_rfl) (fun _ _ _ h => h) (Or.inl ⟨by rfl, ?_⟩) (by assumption) ?_
  · intro w5 hSw
    obtain ⟨s0, s1⟩ := hSw
    go_simp
  try simp only [Act.put, List.setIfInBounds_toArray, List.set_cons_zero, List.set_cons_succ]
  refine wpAnyH_take (i := 14) (v := .string T) rfl (by kernel_rfl) (by kernel_rfl) (by kernel_rfl) (fun _ _ _ h => h) (Or.inl ⟨by rfl, ?_⟩) (by assumption) ?_
  · intro w5 hSw
    obtain ⟨s0, s1⟩ := hSw
    go_simp
  try simp only [Act.put, List.setIfInBounds_toArray, List.set_cons_zero, List.set_cons_succ]
  refine wpAnyH_take (i := 15) (v := .bool true) rfl (by kernel_rfl) (by kernel_rfl) (by kernel_rfl) (fun _ _ _ h => h) (Or.inl ⟨by rfl, ?_⟩) (by assumption) ?_
  · intro w5 hSw
    obtain ⟨s0, s1⟩ := hSw
    go_simp
  try simp only [Act.put, List.setIfInBounds_toArray, List.set_cons_zero, List.set_cons_succ]
  refine wpAnyH_done (by kernel_rfl) ?_ _
  clear f0 f2
  go_wp2
  go_ret2
  exact ⟨rfl, q3, g2.trans gz3⟩
set_option maxRecDepth 1000000 in
set_option maxHeartbeats 8000000 in
theorem say_2 {w0 : World} {X : Nat} {p s p' s' : Int} {h : Hk} {f : Sp} {np : Bool} {T : ByteArray} (hn : whN h f.verb f.sh = 2) (hDo' : DoC w0 X p s p' s' (hat h 2) np f.verb (mT 2) T true) (w : World) (hg : w0.grownBy w (some X)) (hq : Aq w X p s) : Calls Tryd.prog 24 (sArgs h f np X) w fun e w' => e = .returned (.tuple #[.string T, .bool true]) ∧ Aq w' X p' s' ∧ w.grownBy w' (some X) := by
  have hW := fun w => which_any h f.verb f.sh w
  rw [hn] at hW
  clear hn
  have hact := fun w => act_any h 2 w
  have hMethod : ∀ w, Calls Tryd.prog 16 #[.int .i64 2] w fun e w' => e = .returned (.string (mT 2)) ∧ Below w.heap.size w w' := fun w => (method_any 2 w).mono (fun e w' ⟨e1, e2⟩ => ⟨e1, by rw [e2]; exact Below.refl _ _⟩)
  have hDo := hDo'
  unfold DoC dArgs at hDo
  clear hDo'
  have hX := hq.b
  obtain ⟨W1, hW1⟩ : ∃ W1, W1 = (w.alloc (.cells h.v.toArray 30)).alloc (.cells f.v.toArray 52) := ⟨_, rfl⟩
  have bh : Blk W1 w.heap.size h.v := by rw [hW1]; exact (Blk.new _ _ _).alloc _
  have bf : Blk W1 (w.heap.size + 1) f.v := by
    rw [hW1]
    have := Blk.new (w.alloc (.cells h.v.toArray 30)) f.v 52
    rwa [show (w.alloc (.cells h.v.toArray 30)).heap.size = w.heap.size + 1 by simp] at this
  have w1 : Below w.heap.size w W1 := by rw [hW1]; exact ((Below.refl _ _).alloc (Nat.le_refl _) _).alloc (by simp) _
  have q1 := hq.up w1
  have g1 : w.grownBy W1 (some X) := xgr_below w1 _
  have cv : W1.cell? ⟨w.heap.size + 1, 7, none⟩ = some (.int .i32 f.verb) := bf.c 7 _ rfl
  have cs : W1.cell? ⟨w.heap.size + 1, 2, none⟩ = some (.bool f.sh) := bf.c 2 _ rfl
  have hl := h.len
  have hlf := f.len
  unfold sArgs
  have hrow := row_Hook
  have hrf := row_Spec
  generalize hat h 2 = x at *
  generalize mT 2 = m at *
  generalize h.v = H at *
  generalize f.v = G at *
  generalize f.verb = v at *
  generalize f.sh = sh at *
  generalize x.v = XV at *
  have f1 : ∀ V, W1.grownBy V (some X) → (fun w' : World => w'.rangeAt w.heap.size 0 H ∧ w'.cell? ⟨w.heap.size + 1, 7, none⟩ = some (.int .i32 v)) V ∧ Blk V (w.heap.size + 1) G := fun V gV => ⟨⟨(bh.grown gV (by omega)).range, (World.cell?_of_block (w := W1) (a := ⟨w.heap.size + 1, 7, none⟩) (gV.block (w.heap.size + 1) bf.b (by simp; omega))).trans cv⟩, bf.grown gV (by omega)⟩
  go_enter Tryd.func24, Tryd.ntmps24
  go_upto_region 1 with fail
  rw [← hW1]
  clear hW1
  go_upto_region 4 with (first
    | (refine wpl_ld row_Hook rfl (.tmp 5) rfl (vs := H) rfl bh.range hl ?_)
    | (go_at_call 9; refine (hW _).mono ?_; rintro e W2 ⟨rfl, bw2⟩))
  have g2 : w.grownBy W2 (some X) := g1.trans (xgr_below bw2 _)
  have q2 := q1.up bw2
  have gD : W2.grownBy W2.drew (some X) := xgr_below (Below.refl W2.heap.size W2).drew _
  have qD : Aq W2.drew X p s := q2.up (Below.refl W2.heap.size W2).drew
  have f0 : ∀ V, W2.grownBy V (some X) → (fun w' : World => w'.rangeAt w.heap.size 0 H ∧ w'.cell? ⟨w.heap.size + 1, 7, none⟩ = some (.int .i32 v)) V := fun V gV => (f1 V ((xgr_below bw2 _).trans gV)).1
  have f2 : ∀ V, W2.grownBy V (some X) → Blk V (w.heap.size + 1) G := fun V gV => (f1 V ((xgr_below bw2 _).trans gV)).2
  clear f1 bh bf cv cs
  refine wp_region_held_drew (S := fun w' => w'.rangeAt w.heap.size 0 H ∧ w'.cell? ⟨w.heap.size + 1, 7, none⟩ = some (.int .i32 v)) (by kernel_rfl) (f0 _ gD) ?_
  intro hS
  refine wpAnyH_take (i := 0) (v := .agg H.toArray) rfl (by kernel_rfl) (by kernel_rfl) (by kernel_rfl) (fun _ _ _ h => h) ?_ (by assumption) ?_
  · obtain ⟨⟨dd, r1, r2⟩, r3⟩ := hrow
    exact yieldsIf_load_mid rfl 30 (.tmp 5) rfl w.heap.size 0 rfl H dd (fun _ h => h.1) r1 r2 (by rw [hl]; exact r3)
  try simp only [Act.put, List.setIfInBounds_toArray, List.set_cons_zero, List.set_cons_succ]
  refine wpAnyH_take (i := 1) (v := .int .i64 2) rfl (by kernel_rfl) (by kernel_rfl) (by kernel_rfl) (fun _ _ _ h => h) (Or.inl ⟨by rfl, ?_⟩) (by assumption) ?_
  · intro w5 hSw
    obtain ⟨s0, s1⟩ := hSw
    go_simp
  try simp only [Act.put, List.setIfInBounds_toArray, List.set_cons_zero, List.set_cons_succ]
  refine wpAnyH_take (i := 3) (v := .bool np) rfl (by kernel_rfl) (by kernel_rfl) (by kernel_rfl) (fun _ _ _ h => h) (Or.inl ⟨by rfl, ?_⟩) (by assumption) ?_
  · intro w5 hSw
    obtain ⟨s0, s1⟩ := hSw
    go_simp
  try simp only [Act.put, List.setIfInBounds_toArray, List.set_cons_zero, List.set_cons_succ]
  refine wpAnyH_take (i := 4) (v := .pointer (some ⟨w.heap.size + 1, 7, none⟩)) rfl (by kernel_rfl) (by kernel_rfl) (by kernel_rfl) (fun _ _ _ h => h) (Or.inl ⟨by rfl, ?_⟩) (by assumption) ?_
  · intro w5 hSw
    obtain ⟨s0, s1⟩ := hSw
    go_simp
  try simp only [Act.put, List.setIfInBounds_toArray, List.set_cons_zero, List.set_cons_succ]
  refine wpAnyH_take (i := 5) (v := .int .i32 v) rfl (by kernel_rfl) (by kernel_rfl) (by kernel_rfl) (fun _ _ _ h => h) (Or.inl ⟨by rfl, ?_⟩) (by assumption) ?_
  · intro w5 hSw
    obtain ⟨s0, s1⟩ := hSw
    go_simp
  try simp only [Act.put, List.setIfInBounds_toArray, List.set_cons_zero, List.set_cons_succ]
  refine wpAnyH_take (i := 6) (v := .int .i64 2) rfl (by kernel_rfl) (by kernel_rfl) (by kernel_rfl) (fun _ _ _ h => h) (Or.inl ⟨by rfl, ?_⟩) (by assumption) ?_
  · intro w5 hSw
    obtain ⟨s0, s1⟩ := hSw
    go_simp
  try simp only [Act.put, List.setIfInBounds_toArray, List.set_cons_zero, List.set_cons_succ]
  refine wpAnyH_take (i := 8) (v := prF X) rfl (by kernel_rfl) (by kernel_rfl) (by kernel_rfl) (fun _ _ _ h => h) (Or.inl ⟨by rfl, ?_⟩) (by assumption) ?_
  · intro w5 hSw
    obtain ⟨s0, s1⟩ := hSw
    go_simp
  try simp only [Act.put, List.setIfInBounds_toArray, List.set_cons_zero, List.set_cons_succ]
  refine wpAnyH_take (i := 9) (v := shF X) rfl (by kernel_rfl) (by kernel_rfl) (by kernel_rfl) (fun _ _ _ h => h) (Or.inl ⟨by rfl, ?_⟩) (by assumption) ?_
  · intro w5 hSw
    obtain ⟨s0, s1⟩ := hSw
    go_simp
  try simp only [Act.put, List.setIfInBounds_toArray, List.set_cons_zero, List.set_cons_succ]
  refine wpAnyH_ready (rs := [2]) (by kernel_rfl) (by simp) ?_
  refine AllReadyH.cons rfl (fun K hK => ?_) AllReadyH.nil
  go_simp
  refine (hact _).mono ?_
  rintro e Z1 ⟨rfl, bz1⟩
  have gz1 : W2.grownBy Z1 (some X) := gD.trans (xgr_below bz1 _)
  have qz1 := qD.up bz1
  refine hK.out _ _ (f0 Z1 gz1) (fun _ => ?_)
  try simp only [Act.put, List.setIfInBounds_toArray, List.set_cons_zero, List.set_cons_succ]
  refine wpAnyH_ready (rs := [7]) (by kernel_rfl) (by simp) ?_
  refine AllReadyH.cons rfl (fun K1 hK1 => ?_) AllReadyH.nil
  go_simp
  refine (hMethod _).mono ?_
  rintro e Z2 ⟨rfl, bz2⟩
  have gz2 : W2.grownBy Z2 (some X) := gz1.trans (xgr_below bz2 _)
  have qz2 := qz1.up bz2
  refine hK1.out _ _ (f0 Z2 gz2) (fun _ => ?_)
  try simp only [Act.put, List.setIfInBounds_toArray, List.set_cons_zero, List.set_cons_succ]
  refine wpAnyH_ready (rs := [10]) (by kernel_rfl) (by simp) ?_
  refine AllReadyH.cons rfl (fun K2 hK2 => ?_) AllReadyH.nil
  go_simp
  refine (hDo _ (hg.trans (g2.trans gz2)) qz2).mono ?_
  rintro e Z3 ⟨rfl, q3, g3⟩
  have gz3 : W2.grownBy Z3 (some X) := gz2.trans g3
  refine hK2.out _ _ (f0 Z3 gz3) (fun hHeld => ?_)
  clear hK hK1 hK2
  try simp only [Act.put, List.setIfInBounds_toArray, List.set_cons_zero, List.set_cons_succ]
  refine wpAnyH_take (i := 11) (v := .tuple #[.string T, .bool true]) rfl (by kernel_rfl) (by kernel_rfl) (by kernel_rfl) (fun _ _ _ h => h) (Or.inl ⟨by rfl, ?_⟩) (by assumption) ?_
  · intro w5 hSw
    obtain ⟨s0, s1⟩ := hSw
    go_simp
  try simp only [Act.put, List.setIfInBounds_toArray, List.set_cons_zero, List.set_cons_succ]
  refine wpAnyH_take (i := 12) (v := .string T) rfl (by kernel_rfl) (by kernel_rfl) (by kernel_rfl) (fun _ _ _ h => h) (Or.inl ⟨by rfl, ?_⟩) (by assumption) ?_
  · intro w5 hSw
    obtain ⟨s0, s1⟩ := hSw
    go_simp
  try simp only [Act.put, List.setIfInBounds_toArray, List.set_cons_zero, List.set_cons_succ]
  refine wpAnyH_take (i := 13) (v := .bool true) rfl (by kernel_rfl) (by kernel_rfl) (by kernel_rfl) (fun _ _ _ h => h) (Or.inl ⟨by rfl, ?_⟩) (by assumption) ?_
  · intro w5 hSw
    obtain ⟨s0, s1⟩ := hSw
    go_simp
  try simp only [Act.put, List.setIfInBounds_toArray, List.set_cons_zero, List.set_cons_succ]
  refine wpAnyH_take (i := 14) (v := .string T) rfl (by kernel_rfl) (by kernel_rfl) (by kernel_rfl) (fun _ _ _ h => h) (Or.inl ⟨by rfl, ?_⟩) (by assumption) ?_
  · intro w5 hSw
    obtain ⟨s0, s1⟩ := hSw
    go_simp
  try simp only [Act.put, List.setIfInBounds_toArray, List.set_cons_zero, List.set_cons_succ]
  refine wpAnyH_take (i := 15) (v := .bool true) rfl (by kernel_rfl) (by kernel_rfl) (by kernel_rfl) (fun _ _ _ h => h) (Or.inl ⟨by rfl, ?_⟩) (by assumption) ?_
  · intro w5 hSw
    obtain ⟨s0, s1⟩ := hSw
    go_simp
  try simp only [Act.put, List.setIfInBounds_toArray, List.set_cons_zero, List.set_cons_succ]
  refine wpAnyH_done (by kernel_rfl) ?_ _
  clear f0 f2
  go_wp2
  go_ret2
  exact ⟨rfl, q3, g2.trans gz3⟩
set_option maxRecDepth 1000000 in
set_option maxHeartbeats 8000000 in
theorem say_3 {w0 : World} {X : Nat} {p s p' s' : Int} {h : Hk} {f : Sp} {np : Bool} {T : ByteArray} (hn : whN h f.verb f.sh = 3) (hDo' : DoC w0 X p s p' s' (hat h 3) np f.verb (mT 3) T true) {T2 : ByteArray} {b2 : Bool} (hTx : ∀ W, w0.grownBy W (some X) → Calls Tryd.prog 40 #[.string T, .agg f.v.toArray] W fun e w' => e = .returned (.tuple #[.string T2, .bool b2]) ∧ Below W.heap.size W w') (w : World) (hg : w0.grownBy w (some X)) (hq : Aq w X p s) : Calls Tryd.prog 24 (sArgs h f np X) w fun e w' => e = .returned (.tuple #[.string T2, .bool true]) ∧ Aq w' X p' s' ∧ w.grownBy w' (some X) := by
  have hW := fun w => which_any h f.verb f.sh w
  rw [hn] at hW
  clear hn
  have hact := fun w => act_any h 3 w
  have hMethod : ∀ w, Calls Tryd.prog 16 #[.int .i64 3] w fun e w' => e = .returned (.string (mT 3)) ∧ Below w.heap.size w w' := fun w => (method_any 3 w).mono (fun e w' ⟨e1, e2⟩ => ⟨e1, by rw [e2]; exact Below.refl _ _⟩)
  have hDo := hDo'
  unfold DoC dArgs at hDo
  clear hDo'
  have hX := hq.b
  obtain ⟨W1, hW1⟩ : ∃ W1, W1 = (w.alloc (.cells h.v.toArray 30)).alloc (.cells f.v.toArray 52) := ⟨_, rfl⟩
  have bh : Blk W1 w.heap.size h.v := by rw [hW1]; exact (Blk.new _ _ _).alloc _
  have bf : Blk W1 (w.heap.size + 1) f.v := by
    rw [hW1]
    have := Blk.new (w.alloc (.cells h.v.toArray 30)) f.v 52
    rwa [show (w.alloc (.cells h.v.toArray 30)).heap.size = w.heap.size + 1 by simp] at this
  have w1 : Below w.heap.size w W1 := by rw [hW1]; exact ((Below.refl _ _).alloc (Nat.le_refl _) _).alloc (by simp) _
  have q1 := hq.up w1
  have g1 : w.grownBy W1 (some X) := xgr_below w1 _
  have cv : W1.cell? ⟨w.heap.size + 1, 7, none⟩ = some (.int .i32 f.verb) := bf.c 7 _ rfl
  have cs : W1.cell? ⟨w.heap.size + 1, 2, none⟩ = some (.bool f.sh) := bf.c 2 _ rfl
  have hl := h.len
  have hlf := f.len
  unfold sArgs
  have hrow := row_Hook
  have hrf := row_Spec
  generalize hat h 3 = x at *
  generalize mT 3 = m at *
  generalize h.v = H at *
  generalize f.v = G at *
  generalize f.verb = v at *
  generalize f.sh = sh at *
  generalize x.v = XV at *
  have f1 : ∀ V, W1.grownBy V (some X) → (fun w' : World => w'.rangeAt w.heap.size 0 H ∧ w'.cell? ⟨w.heap.size + 1, 7, none⟩ = some (.int .i32 v)) V ∧ Blk V (w.heap.size + 1) G := fun V gV => ⟨⟨(bh.grown gV (by omega)).range, (World.cell?_of_block (w := W1) (a := ⟨w.heap.size + 1, 7, none⟩) (gV.block (w.heap.size + 1) bf.b (by simp; omega))).trans cv⟩, bf.grown gV (by omega)⟩
  go_enter Tryd.func24, Tryd.ntmps24
  go_upto_region 1 with fail
  rw [← hW1]
  clear hW1
  go_upto_region 4 with (first
    | (refine wpl_ld row_Hook rfl (.tmp 5) rfl (vs := H) rfl bh.range hl ?_)
    | (go_at_call 9; refine (hW _).mono ?_; rintro e W2 ⟨rfl, bw2⟩))
  have g2 : w.grownBy W2 (some X) := g1.trans (xgr_below bw2 _)
  have q2 := q1.up bw2
  have gD : W2.grownBy W2.drew (some X) := xgr_below (Below.refl W2.heap.size W2).drew _
  have qD : Aq W2.drew X p s := q2.up (Below.refl W2.heap.size W2).drew
  have f0 : ∀ V, W2.grownBy V (some X) → (fun w' : World => w'.rangeAt w.heap.size 0 H ∧ w'.cell? ⟨w.heap.size + 1, 7, none⟩ = some (.int .i32 v)) V := fun V gV => (f1 V ((xgr_below bw2 _).trans gV)).1
  have f2 : ∀ V, W2.grownBy V (some X) → Blk V (w.heap.size + 1) G := fun V gV => (f1 V ((xgr_below bw2 _).trans gV)).2
  clear f1 bh bf cv cs
  refine wp_region_held_drew (S := fun w' => w'.rangeAt w.heap.size 0 H ∧ w'.cell? ⟨w.heap.size + 1, 7, none⟩ = some (.int .i32 v)) (by kernel_rfl) (f0 _ gD) ?_
  intro hS
  refine wpAnyH_take (i := 0) (v := .agg H.toArray) rfl (by kernel_rfl) (by kernel_rfl) (by kernel_rfl) (fun _ _ _ h => h) ?_ (by assumption) ?_
  · obtain ⟨⟨dd, r1, r2⟩, r3⟩ := hrow
    exact yieldsIf_load_mid rfl 30 (.tmp 5) rfl w.heap.size 0 rfl H dd (fun _ h => h.1) r1 r2 (by rw [hl]; exact r3)
  try simp only [Act.put, List.setIfInBounds_toArray, List.set_cons_zero, List.set_cons_succ]
  refine wpAnyH_take (i := 1) (v := .int .i64 3) rfl (by kernel_rfl) (by kernel_rfl) (by kernel_rfl) (fun _ _ _ h => h) (Or.inl ⟨by rfl, ?_⟩) (by assumption) ?_
  · intro w5 hSw
    obtain ⟨s0, s1⟩ := hSw
    go_simp
  try simp only [Act.put, List.setIfInBounds_toArray, List.set_cons_zero, List.set_cons_succ]
  refine wpAnyH_take (i := 3) (v := .bool np) rfl (by kernel_rfl) (by kernel_rfl) (by kernel_rfl) (fun _ _ _ h => h) (Or.inl ⟨by rfl, ?_⟩) (by assumption) ?_
  · intro w5 hSw
    obtain ⟨s0, s1⟩ := hSw
    go_simp
  try simp only [Act.put, List.setIfInBounds_toArray, List.set_cons_zero, List.set_cons_succ]
  refine wpAnyH_take (i := 4) (v := .pointer (some ⟨w.heap.size + 1, 7, none⟩)) rfl (by kernel_rfl) (by kernel_rfl) (by kernel_rfl) (fun _ _ _ h => h) (Or.inl ⟨by rfl, ?_⟩) (by assumption) ?_
  · intro w5 hSw
    obtain ⟨s0, s1⟩ := hSw
    go_simp
  try simp only [Act.put, List.setIfInBounds_toArray, List.set_cons_zero, List.set_cons_succ]
  refine wpAnyH_take (i := 5) (v := .int .i32 v) rfl (by kernel_rfl) (by kernel_rfl) (by kernel_rfl) (fun _ _ _ h => h) (Or.inl ⟨by rfl, ?_⟩) (by assumption) ?_
  · intro w5 hSw
    obtain ⟨s0, s1⟩ := hSw
    go_simp
  try simp only [Act.put, List.setIfInBounds_toArray, List.set_cons_zero, List.set_cons_succ]
  refine wpAnyH_take (i := 6) (v := .int .i64 3) rfl (by kernel_rfl) (by kernel_rfl) (by kernel_rfl) (fun _ _ _ h => h) (Or.inl ⟨by rfl, ?_⟩) (by assumption) ?_
  · intro w5 hSw
    obtain ⟨s0, s1⟩ := hSw
    go_simp
  try simp only [Act.put, List.setIfInBounds_toArray, List.set_cons_zero, List.set_cons_succ]
  refine wpAnyH_take (i := 8) (v := prF X) rfl (by kernel_rfl) (by kernel_rfl) (by kernel_rfl) (fun _ _ _ h => h) (Or.inl ⟨by rfl, ?_⟩) (by assumption) ?_
  · intro w5 hSw
    obtain ⟨s0, s1⟩ := hSw
    go_simp
  try simp only [Act.put, List.setIfInBounds_toArray, List.set_cons_zero, List.set_cons_succ]
  refine wpAnyH_take (i := 9) (v := shF X) rfl (by kernel_rfl) (by kernel_rfl) (by kernel_rfl) (fun _ _ _ h => h) (Or.inl ⟨by rfl, ?_⟩) (by assumption) ?_
  · intro w5 hSw
    obtain ⟨s0, s1⟩ := hSw
    go_simp
  try simp only [Act.put, List.setIfInBounds_toArray, List.set_cons_zero, List.set_cons_succ]
  refine wpAnyH_ready (rs := [2]) (by kernel_rfl) (by simp) ?_
  refine AllReadyH.cons rfl (fun K hK => ?_) AllReadyH.nil
  go_simp
  refine (hact _).mono ?_
  rintro e Z1 ⟨rfl, bz1⟩
  have gz1 : W2.grownBy Z1 (some X) := gD.trans (xgr_below bz1 _)
  have qz1 := qD.up bz1
  refine hK.out _ _ (f0 Z1 gz1) (fun _ => ?_)
  try simp only [Act.put, List.setIfInBounds_toArray, List.set_cons_zero, List.set_cons_succ]
  refine wpAnyH_ready (rs := [7]) (by kernel_rfl) (by simp) ?_
  refine AllReadyH.cons rfl (fun K1 hK1 => ?_) AllReadyH.nil
  go_simp
  refine (hMethod _).mono ?_
  rintro e Z2 ⟨rfl, bz2⟩
  have gz2 : W2.grownBy Z2 (some X) := gz1.trans (xgr_below bz2 _)
  have qz2 := qz1.up bz2
  refine hK1.out _ _ (f0 Z2 gz2) (fun _ => ?_)
  try simp only [Act.put, List.setIfInBounds_toArray, List.set_cons_zero, List.set_cons_succ]
  refine wpAnyH_ready (rs := [10]) (by kernel_rfl) (by simp) ?_
  refine AllReadyH.cons rfl (fun K2 hK2 => ?_) AllReadyH.nil
  go_simp
  refine (hDo _ (hg.trans (g2.trans gz2)) qz2).mono ?_
  rintro e Z3 ⟨rfl, q3, g3⟩
  have gz3 : W2.grownBy Z3 (some X) := gz2.trans g3
  refine hK2.out _ _ (f0 Z3 gz3) (fun hHeld => ?_)
  clear hK hK1 hK2
  try simp only [Act.put, List.setIfInBounds_toArray, List.set_cons_zero, List.set_cons_succ]
  refine wpAnyH_take (i := 11) (v := .tuple #[.string T, .bool true]) rfl (by kernel_rfl) (by kernel_rfl) (by kernel_rfl) (fun _ _ _ h => h) (Or.inl ⟨by rfl, ?_⟩) (by assumption) ?_
  · intro w5 hSw
    obtain ⟨s0, s1⟩ := hSw
    go_simp
  try simp only [Act.put, List.setIfInBounds_toArray, List.set_cons_zero, List.set_cons_succ]
  refine wpAnyH_take (i := 12) (v := .string T) rfl (by kernel_rfl) (by kernel_rfl) (by kernel_rfl) (fun _ _ _ h => h) (Or.inl ⟨by rfl, ?_⟩) (by assumption) ?_
  · intro w5 hSw
    obtain ⟨s0, s1⟩ := hSw
    go_simp
  try simp only [Act.put, List.setIfInBounds_toArray, List.set_cons_zero, List.set_cons_succ]
  refine wpAnyH_take (i := 13) (v := .bool true) rfl (by kernel_rfl) (by kernel_rfl) (by kernel_rfl) (fun _ _ _ h => h) (Or.inl ⟨by rfl, ?_⟩) (by assumption) ?_
  · intro w5 hSw
    obtain ⟨s0, s1⟩ := hSw
    go_simp
  try simp only [Act.put, List.setIfInBounds_toArray, List.set_cons_zero, List.set_cons_succ]
  refine wpAnyH_take (i := 14) (v := .string T) rfl (by kernel_rfl) (by kernel_rfl) (by kernel_rfl) (fun _ _ _ h => h) (Or.inl ⟨by rfl, ?_⟩) (by assumption) ?_
  · intro w5 hSw
    obtain ⟨s0, s1⟩ := hSw
    go_simp
  try simp only [Act.put, List.setIfInBounds_toArray, List.set_cons_zero, List.set_cons_succ]
  refine wpAnyH_take (i := 15) (v := .bool true) rfl (by kernel_rfl) (by kernel_rfl) (by kernel_rfl) (fun _ _ _ h => h) (Or.inl ⟨by rfl, ?_⟩) (by assumption) ?_
  · intro w5 hSw
    obtain ⟨s0, s1⟩ := hSw
    go_simp
  try simp only [Act.put, List.setIfInBounds_toArray, List.set_cons_zero, List.set_cons_succ]
  refine wpAnyH_done (by kernel_rfl) ?_ _
  have bG := f2 Z3 gz3
  clear f0 f2
  go_wp2_with (first
    | (refine wpl_ld hrf rfl (.tmp 6) rfl (vs := G) rfl bG.range hlf ?_)
    | (go_at_call 40; refine (hTx _ (hg.trans (g2.trans gz3))).mono ?_; rintro e Z4 ⟨rfl, bz4⟩))
  go_ret2
  exact ⟨rfl, q3.up bz4, g2.trans (gz3.trans (xgr_below bz4 _))⟩
set_option maxRecDepth 1000000 in
set_option maxHeartbeats 8000000 in
theorem say_4 {w0 : World} {X : Nat} {p s p' s' : Int} {h : Hk} {f : Sp} {np : Bool} {T : ByteArray} (hn : whN h f.verb f.sh = 4) (hDo' : DoC w0 X p s p' s' (hat h 4) np f.verb (mT 4) T true) {T2 : ByteArray} {b2 : Bool} (hTx : ∀ W, w0.grownBy W (some X) → Calls Tryd.prog 40 #[.string T, .agg f.v.toArray] W fun e w' => e = .returned (.tuple #[.string T2, .bool b2]) ∧ Below W.heap.size W w') (w : World) (hg : w0.grownBy w (some X)) (hq : Aq w X p s) : Calls Tryd.prog 24 (sArgs h f np X) w fun e w' => e = .returned (.tuple #[.string T2, .bool true]) ∧ Aq w' X p' s' ∧ w.grownBy w' (some X) := by
  have hW := fun w => which_any h f.verb f.sh w
  rw [hn] at hW
  clear hn
  have hact := fun w => act_any h 4 w
  have hMethod : ∀ w, Calls Tryd.prog 16 #[.int .i64 4] w fun e w' => e = .returned (.string (mT 4)) ∧ Below w.heap.size w w' := fun w => (method_any 4 w).mono (fun e w' ⟨e1, e2⟩ => ⟨e1, by rw [e2]; exact Below.refl _ _⟩)
  have hDo := hDo'
  unfold DoC dArgs at hDo
  clear hDo'
  have hX := hq.b
  obtain ⟨W1, hW1⟩ : ∃ W1, W1 = (w.alloc (.cells h.v.toArray 30)).alloc (.cells f.v.toArray 52) := ⟨_, rfl⟩
  have bh : Blk W1 w.heap.size h.v := by rw [hW1]; exact (Blk.new _ _ _).alloc _
  have bf : Blk W1 (w.heap.size + 1) f.v := by
    rw [hW1]
    have := Blk.new (w.alloc (.cells h.v.toArray 30)) f.v 52
    rwa [show (w.alloc (.cells h.v.toArray 30)).heap.size = w.heap.size + 1 by simp] at this
  have w1 : Below w.heap.size w W1 := by rw [hW1]; exact ((Below.refl _ _).alloc (Nat.le_refl _) _).alloc (by simp) _
  have q1 := hq.up w1
  have g1 : w.grownBy W1 (some X) := xgr_below w1 _
  have cv : W1.cell? ⟨w.heap.size + 1, 7, none⟩ = some (.int .i32 f.verb) := bf.c 7 _ rfl
  have cs : W1.cell? ⟨w.heap.size + 1, 2, none⟩ = some (.bool f.sh) := bf.c 2 _ rfl
  have hl := h.len
  have hlf := f.len
  unfold sArgs
  have hrow := row_Hook
  have hrf := row_Spec
  generalize hat h 4 = x at *
  generalize mT 4 = m at *
  generalize h.v = H at *
  generalize f.v = G at *
  generalize f.verb = v at *
  generalize f.sh = sh at *
  generalize x.v = XV at *
  have f1 : ∀ V, W1.grownBy V (some X) → (fun w' : World => w'.rangeAt w.heap.size 0 H ∧ w'.cell? ⟨w.heap.size + 1, 7, none⟩ = some (.int .i32 v)) V ∧ Blk V (w.heap.size + 1) G := fun V gV => ⟨⟨(bh.grown gV (by omega)).range, (World.cell?_of_block (w := W1) (a := ⟨w.heap.size + 1, 7, none⟩) (gV.block (w.heap.size + 1) bf.b (by simp; omega))).trans cv⟩, bf.grown gV (by omega)⟩
  go_enter Tryd.func24, Tryd.ntmps24
  go_upto_region 1 with fail
  rw [← hW1]
  clear hW1
  go_upto_region 4 with (first
    | (refine wpl_ld row_Hook rfl (.tmp 5) rfl (vs := H) rfl bh.range hl ?_)
    | (go_at_call 9; refine (hW _).mono ?_; rintro e W2 ⟨rfl, bw2⟩))
  have g2 : w.grownBy W2 (some X) := g1.trans (xgr_below bw2 _)
  have q2 := q1.up bw2
  have gD : W2.grownBy W2.drew (some X) := xgr_below (Below.refl W2.heap.size W2).drew _
  have qD : Aq W2.drew X p s := q2.up (Below.refl W2.heap.size W2).drew
  have f0 : ∀ V, W2.grownBy V (some X) → (fun w' : World => w'.rangeAt w.heap.size 0 H ∧ w'.cell? ⟨w.heap.size + 1, 7, none⟩ = some (.int .i32 v)) V := fun V gV => (f1 V ((xgr_below bw2 _).trans gV)).1
  have f2 : ∀ V, W2.grownBy V (some X) → Blk V (w.heap.size + 1) G := fun V gV => (f1 V ((xgr_below bw2 _).trans gV)).2
  clear f1 bh bf cv cs
  refine wp_region_held_drew (S := fun w' => w'.rangeAt w.heap.size 0 H ∧ w'.cell? ⟨w.heap.size + 1, 7, none⟩ = some (.int .i32 v)) (by kernel_rfl) (f0 _ gD) ?_
  intro hS
  refine wpAnyH_take (i := 0) (v := .agg H.toArray) rfl (by kernel_rfl) (by kernel_rfl) (by kernel_rfl) (fun _ _ _ h => h) ?_ (by assumption) ?_
  · obtain ⟨⟨dd, r1, r2⟩, r3⟩ := hrow
    exact yieldsIf_load_mid rfl 30 (.tmp 5) rfl w.heap.size 0 rfl H dd (fun _ h => h.1) r1 r2 (by rw [hl]; exact r3)
  try simp only [Act.put, List.setIfInBounds_toArray, List.set_cons_zero, List.set_cons_succ]
  refine wpAnyH_take (i := 1) (v := .int .i64 4) rfl (by kernel_rfl) (by kernel_rfl) (by kernel_rfl) (fun _ _ _ h => h) (Or.inl ⟨by rfl, ?_⟩) (by assumption) ?_
  · intro w5 hSw
    obtain ⟨s0, s1⟩ := hSw
    go_simp
  try simp only [Act.put, List.setIfInBounds_toArray, List.set_cons_zero, List.set_cons_succ]
  refine wpAnyH_take (i := 3) (v := .bool np) rfl (by kernel_rfl) (by kernel_rfl) (by kernel_rfl) (fun _ _ _ h => h) (Or.inl ⟨by rfl, ?_⟩) (by assumption) ?_
  · intro w5 hSw
    obtain ⟨s0, s1⟩ := hSw
    go_simp
  try simp only [Act.put, List.setIfInBounds_toArray, List.set_cons_zero, List.set_cons_succ]
  refine wpAnyH_take (i := 4) (v := .pointer (some ⟨w.heap.size + 1, 7, none⟩)) rfl (by kernel_rfl) (by kernel_rfl) (by kernel_rfl) (fun _ _ _ h => h) (Or.inl ⟨by rfl, ?_⟩) (by assumption) ?_
  · intro w5 hSw
    obtain ⟨s0, s1⟩ := hSw
    go_simp
  try simp only [Act.put, List.setIfInBounds_toArray, List.set_cons_zero, List.set_cons_succ]
  refine wpAnyH_take (i := 5) (v := .int .i32 v) rfl (by kernel_rfl) (by kernel_rfl) (by kernel_rfl) (fun _ _ _ h => h) (Or.inl ⟨by rfl, ?_⟩) (by assumption) ?_
  · intro w5 hSw
    obtain ⟨s0, s1⟩ := hSw
    go_simp
  try simp only [Act.put, List.setIfInBounds_toArray, List.set_cons_zero, List.set_cons_succ]
  refine wpAnyH_take (i := 6) (v := .int .i64 4) rfl (by kernel_rfl) (by kernel_rfl) (by kernel_rfl) (fun _ _ _ h => h) (Or.inl ⟨by rfl, ?_⟩) (by assumption) ?_
  · intro w5 hSw
    obtain ⟨s0, s1⟩ := hSw
    go_simp
  try simp only [Act.put, List.setIfInBounds_toArray, List.set_cons_zero, List.set_cons_succ]
  refine wpAnyH_take (i := 8) (v := prF X) rfl (by kernel_rfl) (by kernel_rfl) (by kernel_rfl) (fun _ _ _ h => h) (Or.inl ⟨by rfl, ?_⟩) (by assumption) ?_
  · intro w5 hSw
    obtain ⟨s0, s1⟩ := hSw
    go_simp
  try simp only [Act.put, List.setIfInBounds_toArray, List.set_cons_zero, List.set_cons_succ]
  refine wpAnyH_take (i := 9) (v := shF X) rfl (by kernel_rfl) (by kernel_rfl) (by kernel_rfl) (fun _ _ _ h => h) (Or.inl ⟨by rfl, ?_⟩) (by assumption) ?_
  · intro w5 hSw
    obtain ⟨s0, s1⟩ := hSw
    go_simp
  try simp only [Act.put, List.setIfInBounds_toArray, List.set_cons_zero, List.set_cons_succ]
  refine wpAnyH_ready (rs := [2]) (by kernel_rfl) (by simp) ?_
  refine AllReadyH.cons rfl (fun K hK => ?_) AllReadyH.nil
  go_simp
  refine (hact _).mono ?_
  rintro e Z1 ⟨rfl, bz1⟩
  have gz1 : W2.grownBy Z1 (some X) := gD.trans (xgr_below bz1 _)
  have qz1 := qD.up bz1
  refine hK.out _ _ (f0 Z1 gz1) (fun _ => ?_)
  try simp only [Act.put, List.setIfInBounds_toArray, List.set_cons_zero, List.set_cons_succ]
  refine wpAnyH_ready (rs := [7]) (by kernel_rfl) (by simp) ?_
  refine AllReadyH.cons rfl (fun K1 hK1 => ?_) AllReadyH.nil
  go_simp
  refine (hMethod _).mono ?_
  rintro e Z2 ⟨rfl, bz2⟩
  have gz2 : W2.grownBy Z2 (some X) := gz1.trans (xgr_below bz2 _)
  have qz2 := qz1.up bz2
  refine hK1.out _ _ (f0 Z2 gz2) (fun _ => ?_)
  try simp only [Act.put, List.setIfInBounds_toArray, List.set_cons_zero, List.set_cons_succ]
  refine wpAnyH_ready (rs := [10]) (by kernel_rfl) (by simp) ?_
  refine AllReadyH.cons rfl (fun K2 hK2 => ?_) AllReadyH.nil
  go_simp
  refine (hDo _ (hg.trans (g2.trans gz2)) qz2).mono ?_
  rintro e Z3 ⟨rfl, q3, g3⟩
  have gz3 : W2.grownBy Z3 (some X) := gz2.trans g3
  refine hK2.out _ _ (f0 Z3 gz3) (fun hHeld => ?_)
  clear hK hK1 hK2
  try simp only [Act.put, List.setIfInBounds_toArray, List.set_cons_zero, List.set_cons_succ]
  refine wpAnyH_take (i := 11) (v := .tuple #[.string T, .bool true]) rfl (by kernel_rfl) (by kernel_rfl) (by kernel_rfl) (fun _ _ _ h => h) (Or.inl ⟨by rfl, ?_⟩) (by assumption) ?_
  · intro w5 hSw
    obtain ⟨s0, s1⟩ := hSw
    go_simp
  try simp only [Act.put, List.setIfInBounds_toArray, List.set_cons_zero, List.set_cons_succ]
  refine wpAnyH_take (i := 12) (v := .string T) rfl (by kernel_rfl) (by kernel_rfl) (by kernel_rfl) (fun _ _ _ h => h) (Or.inl ⟨by rfl, ?_⟩) (by assumption) ?_
  · intro w5 hSw
    obtain ⟨s0, s1⟩ := hSw
    go_simp
  try simp only [Act.put, List.setIfInBounds_toArray, List.set_cons_zero, List.set_cons_succ]
  refine wpAnyH_take (i := 13) (v := .bool true) rfl (by kernel_rfl) (by kernel_rfl) (by kernel_rfl) (fun _ _ _ h => h) (Or.inl ⟨by rfl, ?_⟩) (by assumption) ?_
  · intro w5 hSw
    obtain ⟨s0, s1⟩ := hSw
    go_simp
  try simp only [Act.put, List.setIfInBounds_toArray, List.set_cons_zero, List.set_cons_succ]
  refine wpAnyH_take (i := 14) (v := .string T) rfl (by kernel_rfl) (by kernel_rfl) (by kernel_rfl) (fun _ _ _ h => h) (Or.inl ⟨by rfl, ?_⟩) (by assumption) ?_
  · intro w5 hSw
    obtain ⟨s0, s1⟩ := hSw
    go_simp
  try simp only [Act.put, List.setIfInBounds_toArray, List.set_cons_zero, List.set_cons_succ]
  refine wpAnyH_take (i := 15) (v := .bool true) rfl (by kernel_rfl) (by kernel_rfl) (by kernel_rfl) (fun _ _ _ h => h) (Or.inl ⟨by rfl, ?_⟩) (by assumption) ?_
  · intro w5 hSw
    obtain ⟨s0, s1⟩ := hSw
    go_simp
  try simp only [Act.put, List.setIfInBounds_toArray, List.set_cons_zero, List.set_cons_succ]
  refine wpAnyH_done (by kernel_rfl) ?_ _
  have bG := f2 Z3 gz3
  clear f0 f2
  go_wp2_with (first
    | (refine wpl_ld hrf rfl (.tmp 6) rfl (vs := G) rfl bG.range hlf ?_)
    | (go_at_call 40; refine (hTx _ (hg.trans (g2.trans gz3))).mono ?_; rintro e Z4 ⟨rfl, bz4⟩))
  go_ret2
  exact ⟨rfl, q3.up bz4, g2.trans (gz3.trans (xgr_below bz4 _))⟩
set_option maxRecDepth 1000000 in
set_option maxHeartbeats 8000000 in
theorem say_1f {w0 : World} {X : Nat} {p s p' s' : Int} {h : Hk} {f : Sp} {np : Bool} {T : ByteArray} (hn : whN h f.verb f.sh = 1) (hDo' : DoC w0 X p s p' s' (hat h 1) np f.verb (mT 1) T false) (w : World) (hg : w0.grownBy w (some X)) (hq : Aq w X p s) : Calls Tryd.prog 24 (sArgs h f np X) w fun e w' => e = .returned (.tuple #[.string T, .bool true]) ∧ Aq w' X p' s' ∧ w.grownBy w' (some X) := by
  have hW := fun w => which_any h f.verb f.sh w
  rw [hn] at hW
  clear hn
  have hact := fun w => act_any h 1 w
  have hMethod : ∀ w, Calls Tryd.prog 16 #[.int .i64 1] w fun e w' => e = .returned (.string (mT 1)) ∧ Below w.heap.size w w' := fun w => (method_any 1 w).mono (fun e w' ⟨e1, e2⟩ => ⟨e1, by rw [e2]; exact Below.refl _ _⟩)
  have hDo := hDo'
  unfold DoC dArgs at hDo
  clear hDo'
  have hX := hq.b
  obtain ⟨W1, hW1⟩ : ∃ W1, W1 = (w.alloc (.cells h.v.toArray 30)).alloc (.cells f.v.toArray 52) := ⟨_, rfl⟩
  have bh : Blk W1 w.heap.size h.v := by rw [hW1]; exact (Blk.new _ _ _).alloc _
  have bf : Blk W1 (w.heap.size + 1) f.v := by
    rw [hW1]
    have := Blk.new (w.alloc (.cells h.v.toArray 30)) f.v 52
    rwa [show (w.alloc (.cells h.v.toArray 30)).heap.size = w.heap.size + 1 by simp] at this
  have w1 : Below w.heap.size w W1 := by rw [hW1]; exact ((Below.refl _ _).alloc (Nat.le_refl _) _).alloc (by simp) _
  have q1 := hq.up w1
  have g1 : w.grownBy W1 (some X) := xgr_below w1 _
  have cv : W1.cell? ⟨w.heap.size + 1, 7, none⟩ = some (.int .i32 f.verb) := bf.c 7 _ rfl
  have cs : W1.cell? ⟨w.heap.size + 1, 2, none⟩ = some (.bool f.sh) := bf.c 2 _ rfl
  have hl := h.len
  have hlf := f.len
  unfold sArgs
  have hrow := row_Hook
  have hrf := row_Spec
  generalize hat h 1 = x at *
  generalize mT 1 = m at *
  generalize h.v = H at *
  generalize f.v = G at *
  generalize f.verb = v at *
  generalize f.sh = sh at *
  generalize x.v = XV at *
  have f1 : ∀ V, W1.grownBy V (some X) → (fun w' : World => w'.rangeAt w.heap.size 0 H ∧ w'.cell? ⟨w.heap.size + 1, 7, none⟩ = some (.int .i32 v)) V ∧ Blk V (w.heap.size + 1) G := fun V gV => ⟨⟨(bh.grown gV (by omega)).range, (World.cell?_of_block (w := W1) (a := ⟨w.heap.size + 1, 7, none⟩) (gV.block (w.heap.size + 1) bf.b (by simp; omega))).trans cv⟩, bf.grown gV (by omega)⟩
  go_enter Tryd.func24, Tryd.ntmps24
  go_upto_region 1 with fail
  rw [← hW1]
  clear hW1
  go_upto_region 4 with (first
    | (refine wpl_ld row_Hook rfl (.tmp 5) rfl (vs := H) rfl bh.range hl ?_)
    | (go_at_call 9; refine (hW _).mono ?_; rintro e W2 ⟨rfl, bw2⟩))
  have g2 : w.grownBy W2 (some X) := g1.trans (xgr_below bw2 _)
  have q2 := q1.up bw2
  have gD : W2.grownBy W2.drew (some X) := xgr_below (Below.refl W2.heap.size W2).drew _
  have qD : Aq W2.drew X p s := q2.up (Below.refl W2.heap.size W2).drew
  have f0 : ∀ V, W2.grownBy V (some X) → (fun w' : World => w'.rangeAt w.heap.size 0 H ∧ w'.cell? ⟨w.heap.size + 1, 7, none⟩ = some (.int .i32 v)) V := fun V gV => (f1 V ((xgr_below bw2 _).trans gV)).1
  have f2 : ∀ V, W2.grownBy V (some X) → Blk V (w.heap.size + 1) G := fun V gV => (f1 V ((xgr_below bw2 _).trans gV)).2
  clear f1 bh bf cv cs
  refine wp_region_held_drew (S := fun w' => w'.rangeAt w.heap.size 0 H ∧ w'.cell? ⟨w.heap.size + 1, 7, none⟩ = some (.int .i32 v)) (by kernel_rfl) (f0 _ gD) ?_
  intro hS
  refine wpAnyH_take (i := 0) (v := .agg H.toArray) rfl (by kernel_rfl) (by kernel_rfl) (by kernel_rfl) (fun _ _ _ h => h) ?_ (by assumption) ?_
  · obtain ⟨⟨dd, r1, r2⟩, r3⟩ := hrow
    exact yieldsIf_load_mid rfl 30 (.tmp 5) rfl w.heap.size 0 rfl H dd (fun _ h => h.1) r1 r2 (by rw [hl]; exact r3)
  try simp only [Act.put, List.setIfInBounds_toArray, List.set_cons_zero, List.set_cons_succ]
  refine wpAnyH_take (i := 1) (v := .int .i64 1) rfl (by kernel_rfl) (by kernel_rfl) (by kernel_rfl) (fun _ _ _ h => h) (Or.inl ⟨by rfl, ?_⟩) (by assumption) ?_
  · intro w5 hSw
    obtain ⟨s0, s1⟩ := hSw
    go_simp
  try simp only [Act.put, List.setIfInBounds_toArray, List.set_cons_zero, List.set_cons_succ]
  refine wpAnyH_take (i := 3) (v := .bool np) rfl (by kernel_rfl) (by kernel_rfl) (by kernel_rfl) (fun _ _ _ h => h) (Or.inl ⟨by rfl, ?_⟩) (by assumption) ?_
  · intro w5 hSw
    obtain ⟨s0, s1⟩ := hSw
    go_simp
  try simp only [Act.put, List.setIfInBounds_toArray, List.set_cons_zero, List.set_cons_succ]
  refine wpAnyH_take (i := 4) (v := .pointer (some ⟨w.heap.size + 1, 7, none⟩)) rfl (by kernel_rfl) (by kernel_rfl) (by kernel_rfl) (fun _ _ _ h => h) (Or.inl ⟨by rfl, ?_⟩) (by assumption) ?_
  · intro w5 hSw
    obtain ⟨s0, s1⟩ := hSw
    go_simp
  try simp only [Act.put, List.setIfInBounds_toArray, List.set_cons_zero, List.set_cons_succ]
  refine wpAnyH_take (i := 5) (v := .int .i32 v) rfl (by kernel_rfl) (by kernel_rfl) (by kernel_rfl) (fun _ _ _ h => h) (Or.inl ⟨by rfl, ?_⟩) (by assumption) ?_
  · intro w5 hSw
    obtain ⟨s0, s1⟩ := hSw
    go_simp
  try simp only [Act.put, List.setIfInBounds_toArray, List.set_cons_zero, List.set_cons_succ]
  refine wpAnyH_take (i := 6) (v := .int .i64 1) rfl (by kernel_rfl) (by kernel_rfl) (by kernel_rfl) (fun _ _ _ h => h) (Or.inl ⟨by rfl, ?_⟩) (by assumption) ?_
  · intro w5 hSw
    obtain ⟨s0, s1⟩ := hSw
    go_simp
  try simp only [Act.put, List.setIfInBounds_toArray, List.set_cons_zero, List.set_cons_succ]
  refine wpAnyH_take (i := 8) (v := prF X) rfl (by kernel_rfl) (by kernel_rfl) (by kernel_rfl) (fun _ _ _ h => h) (Or.inl ⟨by rfl, ?_⟩) (by assumption) ?_
  · intro w5 hSw
    obtain ⟨s0, s1⟩ := hSw
    go_simp
  try simp only [Act.put, List.setIfInBounds_toArray, List.set_cons_zero, List.set_cons_succ]
  refine wpAnyH_take (i := 9) (v := shF X) rfl (by kernel_rfl) (by kernel_rfl) (by kernel_rfl) (fun _ _ _ h => h) (Or.inl ⟨by rfl, ?_⟩) (by assumption) ?_
  · intro w5 hSw
    obtain ⟨s0, s1⟩ := hSw
    go_simp
  try simp only [Act.put, List.setIfInBounds_toArray, List.set_cons_zero, List.set_cons_succ]
  refine wpAnyH_ready (rs := [2]) (by kernel_rfl) (by simp) ?_
  refine AllReadyH.cons rfl (fun K hK => ?_) AllReadyH.nil
  go_simp
  refine (hact _).mono ?_
  rintro e Z1 ⟨rfl, bz1⟩
  have gz1 : W2.grownBy Z1 (some X) := gD.trans (xgr_below bz1 _)
  have qz1 := qD.up bz1
  refine hK.out _ _ (f0 Z1 gz1) (fun _ => ?_)
  try simp only [Act.put, List.setIfInBounds_toArray, List.set_cons_zero, List.set_cons_succ]
  refine wpAnyH_ready (rs := [7]) (by kernel_rfl) (by simp) ?_
  refine AllReadyH.cons rfl (fun K1 hK1 => ?_) AllReadyH.nil
  go_simp
  refine (hMethod _).mono ?_
  rintro e Z2 ⟨rfl, bz2⟩
  have gz2 : W2.grownBy Z2 (some X) := gz1.trans (xgr_below bz2 _)
  have qz2 := qz1.up bz2
  refine hK1.out _ _ (f0 Z2 gz2) (fun _ => ?_)
  try simp only [Act.put, List.setIfInBounds_toArray, List.set_cons_zero, List.set_cons_succ]
  refine wpAnyH_ready (rs := [10]) (by kernel_rfl) (by simp) ?_
  refine AllReadyH.cons rfl (fun K2 hK2 => ?_) AllReadyH.nil
  go_simp
  refine (hDo _ (hg.trans (g2.trans gz2)) qz2).mono ?_
  rintro e Z3 ⟨rfl, q3, g3⟩
  have gz3 : W2.grownBy Z3 (some X) := gz2.trans g3
  refine hK2.out _ _ (f0 Z3 gz3) (fun hHeld => ?_)
  clear hK hK1 hK2
  try simp only [Act.put, List.setIfInBounds_toArray, List.set_cons_zero, List.set_cons_succ]
  refine wpAnyH_take (i := 11) (v := .tuple #[.string T, .bool false]) rfl (by kernel_rfl) (by kernel_rfl) (by kernel_rfl) (fun _ _ _ h => h) (Or.inl ⟨by rfl, ?_⟩) (by assumption) ?_
  · intro w5 hSw
    obtain ⟨s0, s1⟩ := hSw
    go_simp
  try simp only [Act.put, List.setIfInBounds_toArray, List.set_cons_zero, List.set_cons_succ]
  refine wpAnyH_take (i := 12) (v := .string T) rfl (by kernel_rfl) (by kernel_rfl) (by kernel_rfl) (fun _ _ _ h => h) (Or.inl ⟨by rfl, ?_⟩) (by assumption) ?_
  · intro w5 hSw
    obtain ⟨s0, s1⟩ := hSw
    go_simp
  try simp only [Act.put, List.setIfInBounds_toArray, List.set_cons_zero, List.set_cons_succ]
  refine wpAnyH_take (i := 13) (v := .bool false) rfl (by kernel_rfl) (by kernel_rfl) (by kernel_rfl) (fun _ _ _ h => h) (Or.inl ⟨by rfl, ?_⟩) (by assumption) ?_
  · intro w5 hSw
    obtain ⟨s0, s1⟩ := hSw
    go_simp
  try simp only [Act.put, List.setIfInBounds_toArray, List.set_cons_zero, List.set_cons_succ]
  refine wpAnyH_take (i := 14) (v := .string T) rfl (by kernel_rfl) (by kernel_rfl) (by kernel_rfl) (fun _ _ _ h => h) (Or.inl ⟨by rfl, ?_⟩) (by assumption) ?_
  · intro w5 hSw
    obtain ⟨s0, s1⟩ := hSw
    go_simp
  try simp only [Act.put, List.setIfInBounds_toArray, List.set_cons_zero, List.set_cons_succ]
  refine wpAnyH_take (i := 15) (v := .bool false) rfl (by kernel_rfl) (by kernel_rfl) (by kernel_rfl) (fun _ _ _ h => h) (Or.inl ⟨by rfl, ?_⟩) (by assumption) ?_
  · intro w5 hSw
    obtain ⟨s0, s1⟩ := hSw
    go_simp
  try simp only [Act.put, List.setIfInBounds_toArray, List.set_cons_zero, List.set_cons_succ]
  refine wpAnyH_done (by kernel_rfl) ?_ _
  clear f0 f2
  go_wp2
  go_ret2
  exact ⟨rfl, q3, g2.trans gz3⟩
set_option maxRecDepth 1000000 in
set_option maxHeartbeats 8000000 in
theorem say_2f {w0 : World} {X : Nat} {p s p' s' : Int} {h : Hk} {f : Sp} {np : Bool} {T : ByteArray} (hn : whN h f.verb f.sh = 2) (hDo' : DoC w0 X p s p' s' (hat h 2) np f.verb (mT 2) T false) (w : World) (hg : w0.grownBy w (some X)) (hq : Aq w X p s) : Calls Tryd.prog 24 (sArgs h f np X) w fun e w' => e = .returned (.tuple #[.string T, .bool true]) ∧ Aq w' X p' s' ∧ w.grownBy w' (some X) := by
  have hW := fun w => which_any h f.verb f.sh w
  rw [hn] at hW
  clear hn
  have hact := fun w => act_any h 2 w
  have hMethod : ∀ w, Calls Tryd.prog 16 #[.int .i64 2] w fun e w' => e = .returned (.string (mT 2)) ∧ Below w.heap.size w w' := fun w => (method_any 2 w).mono (fun e w' ⟨e1, e2⟩ => ⟨e1, by rw [e2]; exact Below.refl _ _⟩)
  have hDo := hDo'
  unfold DoC dArgs at hDo
  clear hDo'
  have hX := hq.b
  obtain ⟨W1, hW1⟩ : ∃ W1, W1 = (w.alloc (.cells h.v.toArray 30)).alloc (.cells f.v.toArray 52) := ⟨_, rfl⟩
  have bh : Blk W1 w.heap.size h.v := by rw [hW1]; exact (Blk.new _ _ _).alloc _
  have bf : Blk W1 (w.heap.size + 1) f.v := by
    rw [hW1]
    have := Blk.new (w.alloc (.cells h.v.toArray 30)) f.v 52
    rwa [show (w.alloc (.cells h.v.toArray 30)).heap.size = w.heap.size + 1 by simp] at this
  have w1 : Below w.heap.size w W1 := by rw [hW1]; exact ((Below.refl _ _).alloc (Nat.le_refl _) _).alloc (by simp) _
  have q1 := hq.up w1
  have g1 : w.grownBy W1 (some X) := xgr_below w1 _
  have cv : W1.cell? ⟨w.heap.size + 1, 7, none⟩ = some (.int .i32 f.verb) := bf.c 7 _ rfl
  have cs : W1.cell? ⟨w.heap.size + 1, 2, none⟩ = some (.bool f.sh) := bf.c 2 _ rfl
  have hl := h.len
  have hlf := f.len
  unfold sArgs
  have hrow := row_Hook
  have hrf := row_Spec
  generalize hat h 2 = x at *
  generalize mT 2 = m at *
  generalize h.v = H at *
  generalize f.v = G at *
  generalize f.verb = v at *
  generalize f.sh = sh at *
  generalize x.v = XV at *
  have f1 : ∀ V, W1.grownBy V (some X) → (fun w' : World => w'.rangeAt w.heap.size 0 H ∧ w'.cell? ⟨w.heap.size + 1, 7, none⟩ = some (.int .i32 v)) V ∧ Blk V (w.heap.size + 1) G := fun V gV => ⟨⟨(bh.grown gV (by omega)).range, (World.cell?_of_block (w := W1) (a := ⟨w.heap.size + 1, 7, none⟩) (gV.block (w.heap.size + 1) bf.b (by simp; omega))).trans cv⟩, bf.grown gV (by omega)⟩
  go_enter Tryd.func24, Tryd.ntmps24
  go_upto_region 1 with fail
  rw [← hW1]
  clear hW1
  go_upto_region 4 with (first
    | (refine wpl_ld row_Hook rfl (.tmp 5) rfl (vs := H) rfl bh.range hl ?_)
    | (go_at_call 9; refine (hW _).mono ?_; rintro e W2 ⟨rfl, bw2⟩))
  have g2 : w.grownBy W2 (some X) := g1.trans (xgr_below bw2 _)
  have q2 := q1.up bw2
  have gD : W2.grownBy W2.drew (some X) := xgr_below (Below.refl W2.heap.size W2).drew _
  have qD : Aq W2.drew X p s := q2.up (Below.refl W2.heap.size W2).drew
  have f0 : ∀ V, W2.grownBy V (some X) → (fun w' : World => w'.rangeAt w.heap.size 0 H ∧ w'.cell? ⟨w.heap.size + 1, 7, none⟩ = some (.int .i32 v)) V := fun V gV => (f1 V ((xgr_below bw2 _).trans gV)).1
  have f2 : ∀ V, W2.grownBy V (some X) → Blk V (w.heap.size + 1) G := fun V gV => (f1 V ((xgr_below bw2 _).trans gV)).2
  clear f1 bh bf cv cs
  refine wp_region_held_drew (S := fun w' => w'.rangeAt w.heap.size 0 H ∧ w'.cell? ⟨w.heap.size + 1, 7, none⟩ = some (.int .i32 v)) (by kernel_rfl) (f0 _ gD) ?_
  intro hS
  refine wpAnyH_take (i := 0) (v := .agg H.toArray) rfl (by kernel_rfl) (by kernel_rfl) (by kernel_rfl) (fun _ _ _ h => h) ?_ (by assumption) ?_
  · obtain ⟨⟨dd, r1, r2⟩, r3⟩ := hrow
    exact yieldsIf_load_mid rfl 30 (.tmp 5) rfl w.heap.size 0 rfl H dd (fun _ h => h.1) r1 r2 (by rw [hl]; exact r3)
  try simp only [Act.put, List.setIfInBounds_toArray, List.set_cons_zero, List.set_cons_succ]
  refine wpAnyH_take (i := 1) (v := .int .i64 2) rfl (by kernel_rfl) (by kernel_rfl) (by kernel_rfl) (fun _ _ _ h => h) (Or.inl ⟨by rfl, ?_⟩) (by assumption) ?_
  · intro w5 hSw
    obtain ⟨s0, s1⟩ := hSw
    go_simp
  try simp only [Act.put, List.setIfInBounds_toArray, List.set_cons_zero, List.set_cons_succ]
  refine wpAnyH_take (i := 3) (v := .bool np) rfl (by kernel_rfl) (by kernel_rfl) (by kernel_rfl) (fun _ _ _ h => h) (Or.inl ⟨by rfl, ?_⟩) (by assumption) ?_
  · intro w5 hSw
    obtain ⟨s0, s1⟩ := hSw
    go_simp
  try simp only [Act.put, List.setIfInBounds_toArray, List.set_cons_zero, List.set_cons_succ]
  refine wpAnyH_take (i := 4) (v := .pointer (some ⟨w.heap.size + 1, 7, none⟩)) rfl (by kernel_rfl) (by kernel_rfl) (by kernel_rfl) (fun _ _ _ h => h) (Or.inl ⟨by rfl, ?_⟩) (by assumption) ?_
  · intro w5 hSw
    obtain ⟨s0, s1⟩ := hSw
    go_simp
  try simp only [Act.put, List.setIfInBounds_toArray, List.set_cons_zero, List.set_cons_succ]
  refine wpAnyH_take (i := 5) (v := .int .i32 v) rfl (by kernel_rfl) (by kernel_rfl) (by kernel_rfl) (fun _ _ _ h => h) (Or.inl ⟨by rfl, ?_⟩) (by assumption) ?_
  · intro w5 hSw
    obtain ⟨s0, s1⟩ := hSw
    go_simp
  try simp only [Act.put, List.setIfInBounds_toArray, List.set_cons_zero, List.set_cons_succ]
  refine wpAnyH_take (i := 6) (v := .int .i64 2) rfl (by kernel_rfl) (by kernel_rfl) (by kernel_rfl) (fun _ _ _ h => h) (Or.inl ⟨by rfl, ?_⟩) (by assumption) ?_
  · intro w5 hSw
    obtain ⟨s0, s1⟩ := hSw
    go_simp
  try simp only [Act.put, List.setIfInBounds_toArray, List.set_cons_zero, List.set_cons_succ]
  refine wpAnyH_take (i := 8) (v := prF X) rfl (by kernel_rfl) (by kernel_rfl) (by kernel_rfl) (fun _ _ _ h => h) (Or.inl ⟨by rfl, ?_⟩) (by assumption) ?_
  · intro w5 hSw
    obtain ⟨s0, s1⟩ := hSw
    go_simp
  try simp only [Act.put, List.setIfInBounds_toArray, List.set_cons_zero, List.set_cons_succ]
  refine wpAnyH_take (i := 9) (v := shF X) rfl (by kernel_rfl) (by kernel_rfl) (by kernel_rfl) (fun _ _ _ h => h) (Or.inl ⟨by rfl, ?_⟩) (by assumption) ?_
  · intro w5 hSw
    obtain ⟨s0, s1⟩ := hSw
    go_simp
  try simp only [Act.put, List.setIfInBounds_toArray, List.set_cons_zero, List.set_cons_succ]
  refine wpAnyH_ready (rs := [2]) (by kernel_rfl) (by simp) ?_
  refine AllReadyH.cons rfl (fun K hK => ?_) AllReadyH.nil
  go_simp
  refine (hact _).mono ?_
  rintro e Z1 ⟨rfl, bz1⟩
  have gz1 : W2.grownBy Z1 (some X) := gD.trans (xgr_below bz1 _)
  have qz1 := qD.up bz1
  refine hK.out _ _ (f0 Z1 gz1) (fun _ => ?_)
  try simp only [Act.put, List.setIfInBounds_toArray, List.set_cons_zero, List.set_cons_succ]
  refine wpAnyH_ready (rs := [7]) (by kernel_rfl) (by simp) ?_
  refine AllReadyH.cons rfl (fun K1 hK1 => ?_) AllReadyH.nil
  go_simp
  refine (hMethod _).mono ?_
  rintro e Z2 ⟨rfl, bz2⟩
  have gz2 : W2.grownBy Z2 (some X) := gz1.trans (xgr_below bz2 _)
  have qz2 := qz1.up bz2
  refine hK1.out _ _ (f0 Z2 gz2) (fun _ => ?_)
  try simp only [Act.put, List.setIfInBounds_toArray, List.set_cons_zero, List.set_cons_succ]
  refine wpAnyH_ready (rs := [10]) (by kernel_rfl) (by simp) ?_
  refine AllReadyH.cons rfl (fun K2 hK2 => ?_) AllReadyH.nil
  go_simp
  refine (hDo _ (hg.trans (g2.trans gz2)) qz2).mono ?_
  rintro e Z3 ⟨rfl, q3, g3⟩
  have gz3 : W2.grownBy Z3 (some X) := gz2.trans g3
  refine hK2.out _ _ (f0 Z3 gz3) (fun hHeld => ?_)
  clear hK hK1 hK2
  try simp only [Act.put, List.setIfInBounds_toArray, List.set_cons_zero, List.set_cons_succ]
  refine wpAnyH_take (i := 11) (v := .tuple #[.string T, .bool false]) rfl (by kernel_rfl) (by kernel_rfl) (by kernel_rfl) (fun _ _ _ h => h) (Or.inl ⟨by rfl, ?_⟩) (by assumption) ?_
  · intro w5 hSw
    obtain ⟨s0, s1⟩ := hSw
    go_simp
  try simp only [Act.put, List.setIfInBounds_toArray, List.set_cons_zero, List.set_cons_succ]
  refine wpAnyH_take (i := 12) (v := .string T) rfl (by kernel_rfl) (by kernel_rfl) (by kernel_rfl) (fun _ _ _ h => h) (Or.inl ⟨by rfl, ?_⟩) (by assumption) ?_
  · intro w5 hSw
    obtain ⟨s0, s1⟩ := hSw
    go_simp
  try simp only [Act.put, List.setIfInBounds_toArray, List.set_cons_zero, List.set_cons_succ]
  refine wpAnyH_take (i := 13) (v := .bool false) rfl (by kernel_rfl) (by kernel_rfl) (by kernel_rfl) (fun _ _ _ h => h) (Or.inl ⟨by rfl, ?_⟩) (by assumption) ?_
  · intro w5 hSw
    obtain ⟨s0, s1⟩ := hSw
    go_simp
  try simp only [Act.put, List.setIfInBounds_toArray, List.set_cons_zero, List.set_cons_succ]
  refine wpAnyH_take (i := 14) (v := .string T) rfl (by kernel_rfl) (by kernel_rfl) (by kernel_rfl) (fun _ _ _ h => h) (Or.inl ⟨by rfl, ?_⟩) (by assumption) ?_
  · intro w5 hSw
    obtain ⟨s0, s1⟩ := hSw
    go_simp
  try simp only [Act.put, List.setIfInBounds_toArray, List.set_cons_zero, List.set_cons_succ]
  refine wpAnyH_take (i := 15) (v := .bool false) rfl (by kernel_rfl) (by kernel_rfl) (by kernel_rfl) (fun _ _ _ h => h) (Or.inl ⟨by rfl, ?_⟩) (by assumption) ?_
  · intro w5 hSw
    obtain ⟨s0, s1⟩ := hSw
    go_simp
  try simp only [Act.put, List.setIfInBounds_toArray, List.set_cons_zero, List.set_cons_succ]
  refine wpAnyH_done (by kernel_rfl) ?_ _
  clear f0 f2
  go_wp2
  go_ret2
  exact ⟨rfl, q3, g2.trans gz3⟩
set_option maxRecDepth 1000000 in
set_option maxHeartbeats 8000000 in
theorem say_3f {w0 : World} {X : Nat} {p s p' s' : Int} {h : Hk} {f : Sp} {np : Bool} {T : ByteArray} (hn : whN h f.verb f.sh = 3) (hDo' : DoC w0 X p s p' s' (hat h 3) np f.verb (mT 3) T false) (w : World) (hg : w0.grownBy w (some X)) (hq : Aq w X p s) : Calls Tryd.prog 24 (sArgs h f np X) w fun e w' => e = .returned (.tuple #[.string T, .bool true]) ∧ Aq w' X p' s' ∧ w.grownBy w' (some X) := by
  have hW := fun w => which_any h f.verb f.sh w
  rw [hn] at hW
  clear hn
  have hact := fun w => act_any h 3 w
  have hMethod : ∀ w, Calls Tryd.prog 16 #[.int .i64 3] w fun e w' => e = .returned (.string (mT 3)) ∧ Below w.heap.size w w' := fun w => (method_any 3 w).mono (fun e w' ⟨e1, e2⟩ => ⟨e1, by rw [e2]; exact Below.refl _ _⟩)
  have hDo := hDo'
  unfold DoC dArgs at hDo
  clear hDo'
  have hX := hq.b
  obtain ⟨W1, hW1⟩ : ∃ W1, W1 = (w.alloc (.cells h.v.toArray 30)).alloc (.cells f.v.toArray 52) := ⟨_, rfl⟩
  have bh : Blk W1 w.heap.size h.v := by rw [hW1]; exact (Blk.new _ _ _).alloc _
  have bf : Blk W1 (w.heap.size + 1) f.v := by
    rw [hW1]
    have := Blk.new (w.alloc (.cells h.v.toArray 30)) f.v 52
    rwa [show (w.alloc (.cells h.v.toArray 30)).heap.size = w.heap.size + 1 by simp] at this
  have w1 : Below w.heap.size w W1 := by rw [hW1]; exact ((Below.refl _ _).alloc (Nat.le_refl _) _).alloc (by simp) _
  have q1 := hq.up w1
  have g1 : w.grownBy W1 (some X) := xgr_below w1 _
  have cv : W1.cell? ⟨w.heap.size + 1, 7, none⟩ = some (.int .i32 f.verb) := bf.c 7 _ rfl
  have cs : W1.cell? ⟨w.heap.size + 1, 2, none⟩ = some (.bool f.sh) := bf.c 2 _ rfl
  have hl := h.len
  have hlf := f.len
  unfold sArgs
  have hrow := row_Hook
  have hrf := row_Spec
  generalize hat h 3 = x at *
  generalize mT 3 = m at *
  generalize h.v = H at *
  generalize f.v = G at *
  generalize f.verb = v at *
  generalize f.sh = sh at *
  generalize x.v = XV at *
  have f1 : ∀ V, W1.grownBy V (some X) → (fun w' : World => w'.rangeAt w.heap.size 0 H ∧ w'.cell? ⟨w.heap.size + 1, 7, none⟩ = some (.int .i32 v)) V ∧ Blk V (w.heap.size + 1) G := fun V gV => ⟨⟨(bh.grown gV (by omega)).range, (World.cell?_of_block (w := W1) (a := ⟨w.heap.size + 1, 7, none⟩) (gV.block (w.heap.size + 1) bf.b (by simp; omega))).trans cv⟩, bf.grown gV (by omega)⟩
  go_enter Tryd.func24, Tryd.ntmps24
  go_upto_region 1 with fail
  rw [← hW1]
  clear hW1
  go_upto_region 4 with (first
    | (refine wpl_ld row_Hook rfl (.tmp 5) rfl (vs := H) rfl bh.range hl ?_)
    | (go_at_call 9; refine (hW _).mono ?_; rintro e W2 ⟨rfl, bw2⟩))
  have g2 : w.grownBy W2 (some X) := g1.trans (xgr_below bw2 _)
  have q2 := q1.up bw2
  have gD : W2.grownBy W2.drew (some X) := xgr_below (Below.refl W2.heap.size W2).drew _
  have qD : Aq W2.drew X p s := q2.up (Below.refl W2.heap.size W2).drew
  have f0 : ∀ V, W2.grownBy V (some X) → (fun w' : World => w'.rangeAt w.heap.size 0 H ∧ w'.cell? ⟨w.heap.size + 1, 7, none⟩ = some (.int .i32 v)) V := fun V gV => (f1 V ((xgr_below bw2 _).trans gV)).1
  have f2 : ∀ V, W2.grownBy V (some X) → Blk V (w.heap.size + 1) G := fun V gV => (f1 V ((xgr_below bw2 _).trans gV)).2
  clear f1 bh bf cv cs
  refine wp_region_held_drew (S := fun w' => w'.rangeAt w.heap.size 0 H ∧ w'.cell? ⟨w.heap.size + 1, 7, none⟩ = some (.int .i32 v)) (by kernel_rfl) (f0 _ gD) ?_
  intro hS
  refine wpAnyH_take (i := 0) (v := .agg H.toArray) rfl (by kernel_rfl) (by kernel_rfl) (by kernel_rfl) (fun _ _ _ h => h) ?_ (by assumption) ?_
  · obtain ⟨⟨dd, r1, r2⟩, r3⟩ := hrow
    exact yieldsIf_load_mid rfl 30 (.tmp 5) rfl w.heap.size 0 rfl H dd (fun _ h => h.1) r1 r2 (by rw [hl]; exact r3)
  try simp only [Act.put, List.setIfInBounds_toArray, List.set_cons_zero, List.set_cons_succ]
  refine wpAnyH_take (i := 1) (v := .int .i64 3) rfl (by kernel_rfl) (by kernel_rfl) (by kernel_rfl) (fun _ _ _ h => h) (Or.inl ⟨by rfl, ?_⟩) (by assumption) ?_
  · intro w5 hSw
    obtain ⟨s0, s1⟩ := hSw
    go_simp
  try simp only [Act.put, List.setIfInBounds_toArray, List.set_cons_zero, List.set_cons_succ]
  refine wpAnyH_take (i := 3) (v := .bool np) rfl (by kernel_rfl) (by kernel_rfl) (by kernel_rfl) (fun _ _ _ h => h) (Or.inl ⟨by rfl, ?_⟩) (by assumption) ?_
  · intro w5 hSw
    obtain ⟨s0, s1⟩ := hSw
    go_simp
  try simp only [Act.put, List.setIfInBounds_toArray, List.set_cons_zero, List.set_cons_succ]
  refine wpAnyH_take (i := 4) (v := .pointer (some ⟨w.heap.size + 1, 7, none⟩)) rfl (by kernel_rfl) (by kernel_rfl) (by kernel_rfl) (fun _ _ _ h => h) (Or.inl ⟨by rfl, ?_⟩) (by assumption) ?_
  · intro w5 hSw
    obtain ⟨s0, s1⟩ := hSw
    go_simp
  try simp only [Act.put, List.setIfInBounds_toArray, List.set_cons_zero, List.set_cons_succ]
  refine wpAnyH_take (i := 5) (v := .int .i32 v) rfl (by kernel_rfl) (by kernel_rfl) (by kernel_rfl) (fun _ _ _ h => h) (Or.inl ⟨by rfl, ?_⟩) (by assumption) ?_
  · intro w5 hSw
    obtain ⟨s0, s1⟩ := hSw
    go_simp
  try simp only [Act.put, List.setIfInBounds_toArray, List.set_cons_zero, List.set_cons_succ]
  refine wpAnyH_take (i := 6) (v := .int .i64 3) rfl (by kernel_rfl) (by kernel_rfl) (by kernel_rfl) (fun _ _ _ h => h) (Or.inl ⟨by rfl, ?_⟩) (by assumption) ?_
  · intro w5 hSw
    obtain ⟨s0, s1⟩ := hSw
    go_simp
  try simp only [Act.put, List.setIfInBounds_toArray, List.set_cons_zero, List.set_cons_succ]
  refine wpAnyH_take (i := 8) (v := prF X) rfl (by kernel_rfl) (by kernel_rfl) (by kernel_rfl) (fun _ _ _ h => h) (Or.inl ⟨by rfl, ?_⟩) (by assumption) ?_
  · intro w5 hSw
    obtain ⟨s0, s1⟩ := hSw
    go_simp
  try simp only [Act.put, List.setIfInBounds_toArray, List.set_cons_zero, List.set_cons_succ]
  refine wpAnyH_take (i := 9) (v := shF X) rfl (by kernel_rfl) (by kernel_rfl) (by kernel_rfl) (fun _ _ _ h => h) (Or.inl ⟨by rfl, ?_⟩) (by assumption) ?_
  · intro w5 hSw
    obtain ⟨s0, s1⟩ := hSw
    go_simp
  try simp only [Act.put, List.setIfInBounds_toArray, List.set_cons_zero, List.set_cons_succ]
  refine wpAnyH_ready (rs := [2]) (by kernel_rfl) (by simp) ?_
  refine AllReadyH.cons rfl (fun K hK => ?_) AllReadyH.nil
  go_simp
  refine (hact _).mono ?_
  rintro e Z1 ⟨rfl, bz1⟩
  have gz1 : W2.grownBy Z1 (some X) := gD.trans (xgr_below bz1 _)
  have qz1 := qD.up bz1
  refine hK.out _ _ (f0 Z1 gz1) (fun _ => ?_)
  try simp only [Act.put, List.setIfInBounds_toArray, List.set_cons_zero, List.set_cons_succ]
  refine wpAnyH_ready (rs := [7]) (by kernel_rfl) (by simp) ?_
  refine AllReadyH.cons rfl (fun K1 hK1 => ?_) AllReadyH.nil
  go_simp
  refine (hMethod _).mono ?_
  rintro e Z2 ⟨rfl, bz2⟩
  have gz2 : W2.grownBy Z2 (some X) := gz1.trans (xgr_below bz2 _)
  have qz2 := qz1.up bz2
  refine hK1.out _ _ (f0 Z2 gz2) (fun _ => ?_)
  try simp only [Act.put, List.setIfInBounds_toArray, List.set_cons_zero, List.set_cons_succ]
  refine wpAnyH_ready (rs := [10]) (by kernel_rfl) (by simp) ?_
  refine AllReadyH.cons rfl (fun K2 hK2 => ?_) AllReadyH.nil
  go_simp
  refine (hDo _ (hg.trans (g2.trans gz2)) qz2).mono ?_
  rintro e Z3 ⟨rfl, q3, g3⟩
  have gz3 : W2.grownBy Z3 (some X) := gz2.trans g3
  refine hK2.out _ _ (f0 Z3 gz3) (fun hHeld => ?_)
  clear hK hK1 hK2
  try simp only [Act.put, List.setIfInBounds_toArray, List.set_cons_zero, List.set_cons_succ]
  refine wpAnyH_take (i := 11) (v := .tuple #[.string T, .bool false]) rfl (by kernel_rfl) (by kernel_rfl) (by kernel_rfl) (fun _ _ _ h => h) (Or.inl ⟨by rfl, ?_⟩) (by assumption) ?_
  · intro w5 hSw
    obtain ⟨s0, s1⟩ := hSw
    go_simp
  try simp only [Act.put, List.setIfInBounds_toArray, List.set_cons_zero, List.set_cons_succ]
  refine wpAnyH_take (i := 12) (v := .string T) rfl (by kernel_rfl) (by kernel_rfl) (by kernel_rfl) (fun _ _ _ h => h) (Or.inl ⟨by rfl, ?_⟩) (by assumption) ?_
  · intro w5 hSw
    obtain ⟨s0, s1⟩ := hSw
    go_simp
  try simp only [Act.put, List.setIfInBounds_toArray, List.set_cons_zero, List.set_cons_succ]
  refine wpAnyH_take (i := 13) (v := .bool false) rfl (by kernel_rfl) (by kernel_rfl) (by kernel_rfl) (fun _ _ _ h => h) (Or.inl ⟨by rfl, ?_⟩) (by assumption) ?_
  · intro w5 hSw
    obtain ⟨s0, s1⟩ := hSw
    go_simp
  try simp only [Act.put, List.setIfInBounds_toArray, List.set_cons_zero, List.set_cons_succ]
  refine wpAnyH_take (i := 14) (v := .string T) rfl (by kernel_rfl) (by kernel_rfl) (by kernel_rfl) (fun _ _ _ h => h) (Or.inl ⟨by rfl, ?_⟩) (by assumption) ?_
  · intro w5 hSw
    obtain ⟨s0, s1⟩ := hSw
    go_simp
  try simp only [Act.put, List.setIfInBounds_toArray, List.set_cons_zero, List.set_cons_succ]
  refine wpAnyH_take (i := 15) (v := .bool false) rfl (by kernel_rfl) (by kernel_rfl) (by kernel_rfl) (fun _ _ _ h => h) (Or.inl ⟨by rfl, ?_⟩) (by assumption) ?_
  · intro w5 hSw
    obtain ⟨s0, s1⟩ := hSw
    go_simp
  try simp only [Act.put, List.setIfInBounds_toArray, List.set_cons_zero, List.set_cons_succ]
  refine wpAnyH_done (by kernel_rfl) ?_ _
  clear f0 f2
  go_wp2
  go_ret2
  exact ⟨rfl, q3, g2.trans gz3⟩
set_option maxRecDepth 1000000 in
set_option maxHeartbeats 8000000 in
theorem say_4f {w0 : World} {X : Nat} {p s p' s' : Int} {h : Hk} {f : Sp} {np : Bool} {T : ByteArray} (hn : whN h f.verb f.sh = 4) (hDo' : DoC w0 X p s p' s' (hat h 4) np f.verb (mT 4) T false) (w : World) (hg : w0.grownBy w (some X)) (hq : Aq w X p s) : Calls Tryd.prog 24 (sArgs h f np X) w fun e w' => e = .returned (.tuple #[.string T, .bool true]) ∧ Aq w' X p' s' ∧ w.grownBy w' (some X) := by
  have hW := fun w => which_any h f.verb f.sh w
  rw [hn] at hW
  clear hn
  have hact := fun w => act_any h 4 w
  have hMethod : ∀ w, Calls Tryd.prog 16 #[.int .i64 4] w fun e w' => e = .returned (.string (mT 4)) ∧ Below w.heap.size w w' := fun w => (method_any 4 w).mono (fun e w' ⟨e1, e2⟩ => ⟨e1, by rw [e2]; exact Below.refl _ _⟩)
  have hDo := hDo'
  unfold DoC dArgs at hDo
  clear hDo'
  have hX := hq.b
  obtain ⟨W1, hW1⟩ : ∃ W1, W1 = (w.alloc (.cells h.v.toArray 30)).alloc (.cells f.v.toArray 52) := ⟨_, rfl⟩
  have bh : Blk W1 w.heap.size h.v := by rw [hW1]; exact (Blk.new _ _ _).alloc _
  have bf : Blk W1 (w.heap.size + 1) f.v := by
    rw [hW1]
    have := Blk.new (w.alloc (.cells h.v.toArray 30)) f.v 52
    rwa [show (w.alloc (.cells h.v.toArray 30)).heap.size = w.heap.size + 1 by simp] at this
  have w1 : Below w.heap.size w W1 := by rw [hW1]; exact ((Below.refl _ _).alloc (Nat.le_refl _) _).alloc (by simp) _
  have q1 := hq.up w1
  have g1 : w.grownBy W1 (some X) := xgr_below w1 _
  have cv : W1.cell? ⟨w.heap.size + 1, 7, none⟩ = some (.int .i32 f.verb) := bf.c 7 _ rfl
  have cs : W1.cell? ⟨w.heap.size + 1, 2, none⟩ = some (.bool f.sh) := bf.c 2 _ rfl
  have hl := h.len
  have hlf := f.len
  unfold sArgs
  have hrow := row_Hook
  have hrf := row_Spec
  generalize hat h 4 = x at *
  generalize mT 4 = m at *
  generalize h.v = H at *
  generalize f.v = G at *
  generalize f.verb = v at *
  generalize f.sh = sh at *
  generalize x.v = XV at *
  have f1 : ∀ V, W1.grownBy V (some X) → (fun w' : World => w'.rangeAt w.heap.size 0 H ∧ w'.cell? ⟨w.heap.size + 1, 7, none⟩ = some (.int .i32 v)) V ∧ Blk V (w.heap.size + 1) G := fun V gV => ⟨⟨(bh.grown gV (by omega)).range, (World.cell?_of_block (w := W1) (a := ⟨w.heap.size + 1, 7, none⟩) (gV.block (w.heap.size + 1) bf.b (by simp; omega))).trans cv⟩, bf.grown gV (by omega)⟩
  go_enter Tryd.func24, Tryd.ntmps24
  go_upto_region 1 with fail
  rw [← hW1]
  clear hW1
  go_upto_region 4 with (first
    | (refine wpl_ld row_Hook rfl (.tmp 5) rfl (vs := H) rfl bh.range hl ?_)
    | (go_at_call 9; refine (hW _).mono ?_; rintro e W2 ⟨rfl, bw2⟩))
  have g2 : w.grownBy W2 (some X) := g1.trans (xgr_below bw2 _)
  have q2 := q1.up bw2
  have gD : W2.grownBy W2.drew (some X) := xgr_below (Below.refl W2.heap.size W2).drew _
  have qD : Aq W2.drew X p s := q2.up (Below.refl W2.heap.size W2).drew
  have f0 : ∀ V, W2.grownBy V (some X) → (fun w' : World => w'.rangeAt w.heap.size 0 H ∧ w'.cell? ⟨w.heap.size + 1, 7, none⟩ = some (.int .i32 v)) V := fun V gV => (f1 V ((xgr_below bw2 _).trans gV)).1
  have f2 : ∀ V, W2.grownBy V (some X) → Blk V (w.heap.size + 1) G := fun V gV => (f1 V ((xgr_below bw2 _).trans gV)).2
  clear f1 bh bf cv cs
  refine wp_region_held_drew (S := fun w' => w'.rangeAt w.heap.size 0 H ∧ w'.cell? ⟨w.heap.size + 1, 7, none⟩ = some (.int .i32 v)) (by kernel_rfl) (f0 _ gD) ?_
  intro hS
  refine wpAnyH_take (i := 0) (v := .agg H.toArray) rfl (by kernel_rfl) (by kernel_rfl) (by kernel_rfl) (fun _ _ _ h => h) ?_ (by assumption) ?_
  · obtain ⟨⟨dd, r1, r2⟩, r3⟩ := hrow
    exact yieldsIf_load_mid rfl 30 (.tmp 5) rfl w.heap.size 0 rfl H dd (fun _ h => h.1) r1 r2 (by rw [hl]; exact r3)
  try simp only [Act.put, List.setIfInBounds_toArray, List.set_cons_zero, List.set_cons_succ]
  refine wpAnyH_take (i := 1) (v := .int .i64 4) rfl (by kernel_rfl) (by kernel_rfl) (by kernel_rfl) (fun _ _ _ h => h) (Or.inl ⟨by rfl, ?_⟩) (by assumption) ?_
  · intro w5 hSw
    obtain ⟨s0, s1⟩ := hSw
    go_simp
  try simp only [Act.put, List.setIfInBounds_toArray, List.set_cons_zero, List.set_cons_succ]
  refine wpAnyH_take (i := 3) (v := .bool np) rfl (by kernel_rfl) (by kernel_rfl) (by kernel_rfl) (fun _ _ _ h => h) (Or.inl ⟨by rfl, ?_⟩) (by assumption) ?_
  · intro w5 hSw
    obtain ⟨s0, s1⟩ := hSw
    go_simp
  try simp only [Act.put, List.setIfInBounds_toArray, List.set_cons_zero, List.set_cons_succ]
  refine wpAnyH_take (i := 4) (v := .pointer (some ⟨w.heap.size + 1, 7, none⟩)) rfl (by kernel_rfl) (by kernel_rfl) (by kernel_rfl) (fun _ _ _ h => h) (Or.inl ⟨by rfl, ?_⟩) (by assumption) ?_
  · intro w5 hSw
    obtain ⟨s0, s1⟩ := hSw
    go_simp
  try simp only [Act.put, List.setIfInBounds_toArray, List.set_cons_zero, List.set_cons_succ]
  refine wpAnyH_take (i := 5) (v := .int .i32 v) rfl (by kernel_rfl) (by kernel_rfl) (by kernel_rfl) (fun _ _ _ h => h) (Or.inl ⟨by rfl, ?_⟩) (by assumption) ?_
  · intro w5 hSw
    obtain ⟨s0, s1⟩ := hSw
    go_simp
  try simp only [Act.put, List.setIfInBounds_toArray, List.set_cons_zero, List.set_cons_succ]
  refine wpAnyH_take (i := 6) (v := .int .i64 4) rfl (by kernel_rfl) (by kernel_rfl) (by kernel_rfl) (fun _ _ _ h => h) (Or.inl ⟨by rfl, ?_⟩) (by assumption) ?_
  · intro w5 hSw
    obtain ⟨s0, s1⟩ := hSw
    go_simp
  try simp only [Act.put, List.setIfInBounds_toArray, List.set_cons_zero, List.set_cons_succ]
  refine wpAnyH_take (i := 8) (v := prF X) rfl (by kernel_rfl) (by kernel_rfl) (by kernel_rfl) (fun _ _ _ h => h) (Or.inl ⟨by rfl, ?_⟩) (by assumption) ?_
  · intro w5 hSw
    obtain ⟨s0, s1⟩ := hSw
    go_simp
  try simp only [Act.put, List.setIfInBounds_toArray, List.set_cons_zero, List.set_cons_succ]
  refine wpAnyH_take (i := 9) (v := shF X) rfl (by kernel_rfl) (by kernel_rfl) (by kernel_rfl) (fun _ _ _ h => h) (Or.inl ⟨by rfl, ?_⟩) (by assumption) ?_
  · intro w5 hSw
    obtain ⟨s0, s1⟩ := hSw
    go_simp
  try simp only [Act.put, List.setIfInBounds_toArray, List.set_cons_zero, List.set_cons_succ]
  refine wpAnyH_ready (rs := [2]) (by kernel_rfl) (by simp) ?_
  refine AllReadyH.cons rfl (fun K hK => ?_) AllReadyH.nil
  go_simp
  refine (hact _).mono ?_
  rintro e Z1 ⟨rfl, bz1⟩
  have gz1 : W2.grownBy Z1 (some X) := gD.trans (xgr_below bz1 _)
  have qz1 := qD.up bz1
  refine hK.out _ _ (f0 Z1 gz1) (fun _ => ?_)
  try simp only [Act.put, List.setIfInBounds_toArray, List.set_cons_zero, List.set_cons_succ]
  refine wpAnyH_ready (rs := [7]) (by kernel_rfl) (by simp) ?_
  refine AllReadyH.cons rfl (fun K1 hK1 => ?_) AllReadyH.nil
  go_simp
  refine (hMethod _).mono ?_
  rintro e Z2 ⟨rfl, bz2⟩
  have gz2 : W2.grownBy Z2 (some X) := gz1.trans (xgr_below bz2 _)
  have qz2 := qz1.up bz2
  refine hK1.out _ _ (f0 Z2 gz2) (fun _ => ?_)
  try simp only [Act.put, List.setIfInBounds_toArray, List.set_cons_zero, List.set_cons_succ]
  refine wpAnyH_ready (rs := [10]) (by kernel_rfl) (by simp) ?_
  refine AllReadyH.cons rfl (fun K2 hK2 => ?_) AllReadyH.nil
  go_simp
  refine (hDo _ (hg.trans (g2.trans gz2)) qz2).mono ?_
  rintro e Z3 ⟨rfl, q3, g3⟩
  have gz3 : W2.grownBy Z3 (some X) := gz2.trans g3
  refine hK2.out _ _ (f0 Z3 gz3) (fun hHeld => ?_)
  clear hK hK1 hK2
  try simp only [Act.put, List.setIfInBounds_toArray, List.set_cons_zero, List.set_cons_succ]
  refine wpAnyH_take (i := 11) (v := .tuple #[.string T, .bool false]) rfl (by kernel_rfl) (by kernel_rfl) (by kernel_rfl) (fun _ _ _ h => h) (Or.inl ⟨by rfl, ?_⟩) (by assumption) ?_
  · intro w5 hSw
    obtain ⟨s0, s1⟩ := hSw
    go_simp
  try simp only [Act.put, List.setIfInBounds_toArray, List.set_cons_zero, List.set_cons_succ]
  refine wpAnyH_take (i := 12) (v := .string T) rfl (by kernel_rfl) (by kernel_rfl) (by kernel_rfl) (fun _ _ _ h => h) (Or.inl ⟨by rfl, ?_⟩) (by assumption) ?_
  · intro w5 hSw
    obtain ⟨s0, s1⟩ := hSw
    go_simp
  try simp only [Act.put, List.setIfInBounds_toArray, List.set_cons_zero, List.set_cons_succ]
  refine wpAnyH_take (i := 13) (v := .bool false) rfl (by kernel_rfl) (by kernel_rfl) (by kernel_rfl) (fun _ _ _ h => h) (Or.inl ⟨by rfl, ?_⟩) (by assumption) ?_
  · intro w5 hSw
    obtain ⟨s0, s1⟩ := hSw
    go_simp
  try simp only [Act.put, List.setIfInBounds_toArray, List.set_cons_zero, List.set_cons_succ]
  refine wpAnyH_take (i := 14) (v := .string T) rfl (by kernel_rfl) (by kernel_rfl) (by kernel_rfl) (fun _ _ _ h => h) (Or.inl ⟨by rfl, ?_⟩) (by assumption) ?_
  · intro w5 hSw
    obtain ⟨s0, s1⟩ := hSw
    go_simp
  try simp only [Act.put, List.setIfInBounds_toArray, List.set_cons_zero, List.set_cons_succ]
  refine wpAnyH_take (i := 15) (v := .bool false) rfl (by kernel_rfl) (by kernel_rfl) (by kernel_rfl) (fun _ _ _ h => h) (Or.inl ⟨by rfl, ?_⟩) (by assumption) ?_
  · intro w5 hSw
    obtain ⟨s0, s1⟩ := hSw
    go_simp
  try simp only [Act.put, List.setIfInBounds_toArray, List.set_cons_zero, List.set_cons_succ]
  refine wpAnyH_done (by kernel_rfl) ?_ _
  clear f0 f2
  go_wp2
  go_ret2
  exact ⟨rfl, q3, g2.trans gz3⟩
end Go.Proofs.YtbfaapbbhgegiaaDoor
