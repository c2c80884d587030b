/- The walk of HooksDoes. -/
import Derived.Test.YtbfaapbbhgegiaaDoorXLiveB
import Derived.Test.YtbfaapbbhgegiaaDoorXBoth
namespace Go.Proofs.YtbfaapbbhgegiaaDoor
open Go.RowKit
set_option linter.unusedVariables false
set_option linter.unusedSimpArgs false

theorem drow_Asked : Row 42 2 := ⟨⟨_, Tryd.underlying42, rfl⟩, by kernel_rfl⟩
/-- A round's box. -/
theorem rd_box (x : Ac) (W : World) : ∃ W2 : World, W2 = (W.alloc (.cells #[.int .i64 0, .string ⟨#[]⟩, .string ⟨#[]⟩, .slice none 0 0, .int .i64 0, .string ⟨#[]⟩, .int .u64 0, .int .u64 0, .string ⟨#[]⟩, .slice none 0 0, .slice none 0 0, .int .i64 0] 28)).setCells W.heap.size 0 x.v ∧ Below W.heap.size W W2 ∧ Blk W2 W.heap.size x.v :=
  ⟨_, rfl, xbelow_sc ((Below.refl _ _).alloc (Nat.le_refl _) _) (Nat.le_refl _) _ _, (Blk.new W Ac.no.v 28).all x.v rfl⟩
set_option maxRecDepth 1000000 in
set_option maxHeartbeats 40000000 in
theorem hooksDoes_walk (h : Hk) (np : Bool) (v : Int) (hv : (Lit.int .i32 v).wf = true) (w : World) (hE : Esc w) (m : Nat) (hk : (PsK m w h.a.l ∧ DsK m w h.a.p) ∧ (PsK m w h.b.l ∧ DsK m w h.b.p) ∧ (PsK m w h.c.l ∧ DsK m w h.c.p) ∧ (PsK m w h.d.l ∧ DsK m w h.d.p)) (hz : SzOk h) :
    Calls Tryd.prog 5 #[.agg h.v.toArray, .bool np, .int .i32 v] w fun e w' => e = .returned (.bool true) ∧ Below w.heap.size w w' := by
  have hmf : ∀ (fn : Fn) (first cap : Array Value) (w : World), (Instr.makeFunc fn first cap).run Tryd.prog w = .ok (.func fn first cap) w := fun _ _ _ _ => rfl
  have hL := fun (V : World) (hV : Below w.heap.size w V) => lives11_any V (hE.below hV)
  obtain ⟨W1, hW1⟩ : ∃ W1, W1 = w.alloc (.cells h.v.toArray 30) := ⟨_, rfl⟩
  have b1 : Blk W1 w.heap.size h.v := by rw [hW1]; exact Blk.new _ _ _
  have w1 : Below w.heap.size w W1 := by rw [hW1]; exact (Below.refl _ _).alloc (Nat.le_refl _) _
  have hS := small_any h W1
  have hB4 := fun w => bld_act4 h w
  have i0 := fun w => idx_act0 h w
  have i1 := fun w => idx_act1 h w
  have i2 := fun w => idx_act2 h w
  have i3 := fun w => idx_act3 h w
  have hra : ∀ V, Below W1.heap.size W1 V → V.rangeAt w.heap.size 0 h.a.v ∧ V.rangeAt w.heap.size 12 h.b.v ∧ V.rangeAt w.heap.size 24 h.c.v ∧ V.rangeAt w.heap.size 36 h.d.v := fun V q => ⟨hk_a (b1.up q), hk_b (b1.up q), hk_c (b1.up q), hk_d (b1.up q)⟩
  obtain ⟨⟨xa, xb, xc, xd⟩, rfl⟩ : ∃ h' : Hk, h' = h := ⟨h, rfl⟩
  obtain ⟨⟨pa, da⟩, ⟨pb, db⟩, ⟨pc, dc⟩, pd, dd'⟩ := hk
  dsimp only at *
  have Ra := fun (hsm : SmA xa) p s h1 h2 h3 h4 => round_any pa da hsm np v 1 p s h1 h2 h3 h4
  have Rb := fun (hsm : SmA xb) p s h1 h2 h3 h4 => round_any pb db hsm np v 2 p s h1 h2 h3 h4
  have Rc := fun (hsm : SmA xc) p s h1 h2 h3 h4 => round_any pc dc hsm np v 3 p s h1 h2 h3 h4
  have Rd := fun (hsm : SmA xd) p s h1 h2 h3 h4 => round_any pd dd' hsm np v 4 p s h1 h2 h3 h4
  have hl : (Hk.v ⟨xa, xb, xc, xd⟩).length = 48 := rfl
  have hne := fun p s w => (neq_ask p s w)
  have hM := fun n w => method_any n w
  have hJ := fun n w => jmethod_any n w
  have bxa := fun W => rd_box xa W
  have bxb := fun W => rd_box xb W
  have bxc := fun W => rd_box xc W
  have bxd := fun W => rd_box xd W
  have la := xa.len
  have lb := xb.len
  have lc := xc.len
  have ld := xd.len
  have oa := xa.one
  have ob := xb.one
  have oc := xc.one
  have od := xd.one
  have hmz : ∀ n, ∃ t, mT n = t := fun n => ⟨_, rfl⟩
  clear pa da pb db pc dc pd dd'
  generalize hHv : Hk.v ⟨xa, xb, xc, xd⟩ = H at *
  clear hHv
  go_enter Tryd.func5, Tryd.ntmps5
  go_upto_region 1 with fail
  rw [← hW1]
  clear hW1
  go_wp2_with (refine wpl_ld row_Hook rfl (.tmp 3) rfl (vs := H) rfl b1.range hl ?_)
  refine hS.mono ?_
  rintro e W2 ⟨vv, rfl, q2, hvv⟩
  have w2 : Below w.heap.size w W2 := w1.trans (q2.mono w1.size)
  have hL2 := hL W2 w2
  rcases hvv with rfl | ⟨rfl, hsm⟩
  · go_wp2_with (go_at_call 13; refine hL2.mono ?_; rintro e W3 ⟨rfl, q3⟩)
    go_ret
    exact ⟨rfl, w2.trans (q3.mono w2.size)⟩
  obtain ⟨sa, sb, sc, sd⟩ := hsm hz
  dsimp only at sa sb sc sd
  clear hL2 hsm hz hS
  obtain ⟨W3, hW3⟩ : ∃ W3, W3 = (W2.alloc (.cells #[.int .i64 0, .int .i64 0] 42)).alloc (.cells #[.int .i64 0, .int .i64 0] 42) := ⟨_, rfl⟩
  have x3 : Aq W3 W2.heap.size 0 0 := by rw [hW3]; exact (Blk.new _ _ _).alloc _
  have y3 : Aq W3 (W2.heap.size + 1) 0 0 := by
    rw [hW3]
    have := Blk.new (W2.alloc (.cells #[.int .i64 0, .int .i64 0] 42)) [.int .i64 0, .int .i64 0] 42
    rwa [show (W2.alloc (.cells #[.int .i64 0, .int .i64 0] 42)).heap.size = W2.heap.size + 1 by simp] at this
  have q3 : Below W2.heap.size W2 W3 := by rw [hW3]; exact ((Below.refl _ _).alloc (Nat.le_refl _) _).alloc (by simp) _
  have w3 : Below w.heap.size w W3 := w2.trans (q3.mono w2.size)
  obtain ⟨ra, rb, rc, rd⟩ := hra W3 (q2.trans (q3.mono q2.size))
  have hX0 : w.heap.size ≤ W2.heap.size := w2.size
  have hsz3 : W2.heap.size + 2 ≤ W3.heap.size := by rw [hW3]; simp
  go_upto_region 4 with fail
  rw [← hW3]
  clear hW3
  generalize W2.heap.size = X at *
  clear hra b1 w1 w2 q2 q3
  go_wp2_with (first
    | (refine wpl_ld row_Act rfl (.tmp 19) rfl (vs := xa.v) rfl ra la ?_)
    | (refine wpl_ld row_Act rfl (.tmp 21) rfl (vs := xb.v) rfl rb lb ?_)
    | (refine wpl_ld row_Act rfl (.tmp 23) rfl (vs := xc.v) rfl rc lc ?_)
    | (refine wpl_ld row_Act rfl (.tmp 25) rfl (vs := xd.v) rfl rd ld ?_)
    | (refine wpl_bld rfl _ _ rfl [(0, .agg xa.v.toArray), (1, .agg xb.v.toArray), (2, .agg xc.v.toArray), (3, .agg xd.v.toArray)] rfl (hB4 _) ?_))
  clear ra rb rc rd hB4
  refine wp_loop_rounds 5 ?_
  generalize W3 = V0 at *
  have xq0 : Aq V0 X 0 0 := x3
  have yq0 : Aq V0 (X + 1) 0 0 := y3
  have wv0 : Below w.heap.size w V0 := w3
  have zv0 : X + 2 ≤ V0.heap.size := hsz3
  clear x3 y3 w3 hsz3
  obtain ⟨T0, A0, ok0, p1, s1, bd0, hDo0, hdc0, hjd0⟩ := Ra sa 0 0 (by omega) (by omega) (by omega) (by omega)
  clear Ra
  obtain ⟨U0, e0, u0, bb0⟩ := bxa V0
  clear bxa
  have wu0 : Below w.heap.size w U0 := wv0.trans (u0.mono wv0.size)
  have xu0 := xq0.up u0
  have yu0 := yq0.up u0
  have hB0 : X + 2 ≤ V0.heap.size := zv0
  have hU0 : X + 2 ≤ U0.heap.size := by have := u0.size; omega
  have hDo0' := hDo0 U0 X wu0 hX0
  unfold DoC dArgs at hDo0'
  clear hDo0
  obtain ⟨mt0, hmt0⟩ := hmz 1
  have hM0 := fun w => hM 1 w
  have hJ0 := fun w => hJ 1 w
  rw [hmt0] at hDo0' hM0 hJ0 hjd0
  clear hmt0
  generalize hXV0 : xa.v = XV0 at *
  clear hXV0
  rw [rounds_succ]
  go_upto_region 7 with (refine wpl_st row_Act rfl (.tmp 10) (.tmp 31) rfl (us := XV0) rfl rfl (sm_new _) rfl la oa ?_; rw [← e0]; clear e0)
  try simp only [Act.put]
  generalize hBn0 : V0.heap.size = B0 at *
  clear hBn0
  have gD0 : U0.grownBy U0.drew (some X) := xgr_below (Below.refl U0.heap.size U0).drew _
  have f00 : ∀ V, U0.grownBy V (some X) → (fun w' : World => w'.rangeAt B0 0 XV0) V := fun V gV => (bb0.grown gV (by omega)).range
  have xd0 : Aq U0.drew X 0 0 := xu0.up (Below.refl U0.heap.size U0).drew
  refine wp_region_held_drew (S := fun w' => w'.rangeAt B0 0 XV0) (by kernel_rfl) (f00 _ gD0) ?_
  intro hS
  refine wpAnyH_take (i := 0) (v := .agg XV0.toArray) rfl (by kernel_rfl) (by kernel_rfl) (by kernel_rfl) (fun _ _ _ h => h) ?_ (by assumption) ?_
  · obtain ⟨⟨dd, r1, r2⟩, r3⟩ := row_Act
    exact yieldsIf_load_mid rfl 28 (.tmp 10) rfl B0 0 rfl XV0 dd (fun _ h => h) r1 r2 (by rw [la]; exact r3)
  try simp only [Act.put, List.getElem_toArray, List.getElem_cons_zero, List.getElem_cons_succ, List.setIfInBounds_toArray, List.set_cons_zero, List.set_cons_succ]
  refine wpAnyH_take (i := 1) (v := .bool np) rfl (by kernel_rfl) (by kernel_rfl) (by kernel_rfl) (fun _ _ _ h => h) (Or.inl ⟨by rfl, ?_⟩) (by assumption) ?_
  · intro w5 s0
    go_simp
    try decide
  try simp only [Act.put, List.getElem_toArray, List.getElem_cons_zero, List.getElem_cons_succ, List.setIfInBounds_toArray, List.set_cons_zero, List.set_cons_succ]
  refine wpAnyH_take (i := 2) (v := .int .i32 v) rfl (by kernel_rfl) (by kernel_rfl) (by kernel_rfl) (fun _ _ _ h => h) (Or.inl ⟨by rfl, ?_⟩) (by assumption) ?_
  · intro w5 s0
    go_simp
    try decide
  try simp only [Act.put, List.getElem_toArray, List.getElem_cons_zero, List.getElem_cons_succ, List.setIfInBounds_toArray, List.set_cons_zero, List.set_cons_succ]
  refine wpAnyH_take (i := 3) (v := .int .i64 0) rfl (by kernel_rfl) (by kernel_rfl) (by kernel_rfl) (fun _ _ _ h => h) (Or.inl ⟨by rfl, ?_⟩) (by assumption) ?_
  · intro w5 s0
    go_simp
    try decide
  try simp only [Act.put, List.getElem_toArray, List.getElem_cons_zero, List.getElem_cons_succ, List.setIfInBounds_toArray, List.set_cons_zero, List.set_cons_succ]
  refine wpAnyH_take (i := 4) (v := .int .i64 1) rfl (by kernel_rfl) (by kernel_rfl) (by kernel_rfl) (fun _ _ _ h => h) (Or.inl ⟨by rfl, ?_⟩) (by assumption) ?_
  · intro w5 s0
    go_simp
    try decide
  try simp only [Act.put, List.getElem_toArray, List.getElem_cons_zero, List.getElem_cons_succ, List.setIfInBounds_toArray, List.set_cons_zero, List.set_cons_succ]
  refine wpAnyH_take (i := 6) (v := prF X) rfl (by kernel_rfl) (by kernel_rfl) (by kernel_rfl) (fun _ _ _ h => h) (Or.inl ⟨by rfl, ?_⟩) (by assumption) ?_
  · intro w5 s0
    go_simp
    try decide
  try simp only [Act.put, List.getElem_toArray, List.getElem_cons_zero, List.getElem_cons_succ, List.setIfInBounds_toArray, List.set_cons_zero, List.set_cons_succ]
  refine wpAnyH_take (i := 7) (v := shF X) rfl (by kernel_rfl) (by kernel_rfl) (by kernel_rfl) (fun _ _ _ h => h) (Or.inl ⟨by rfl, ?_⟩) (by assumption) ?_
  · intro w5 s0
    go_simp
    try decide
  try simp only [Act.put, List.getElem_toArray, List.getElem_cons_zero, List.getElem_cons_succ, List.setIfInBounds_toArray, List.set_cons_zero, List.set_cons_succ]
  refine wpAnyH_ready (rs := [5]) (by kernel_rfl) (by simp) ?_
  refine AllReadyH.cons rfl (fun K hK => ?_) AllReadyH.nil
  go_simp
  refine (hM0 _).mono ?_
  rintro e Z1 ⟨rfl, ez1⟩
  subst ez1
  refine hK.out _ _ (f00 _ gD0) (fun _ => ?_)
  try simp only [Act.put, List.getElem_toArray, List.getElem_cons_zero, List.getElem_cons_succ, List.setIfInBounds_toArray, List.set_cons_zero, List.set_cons_succ]
  refine wpAnyH_ready (rs := [8]) (by kernel_rfl) (by simp) ?_
  refine AllReadyH.cons rfl (fun K1 hK1 => ?_) AllReadyH.nil
  go_simp
  refine (hDo0' _ gD0 xd0).mono ?_
  rintro e Z2 ⟨rfl, xz2, gz2⟩
  have gu2 : U0.grownBy Z2 (some X) := gD0.trans gz2
  refine hK1.out _ _ (f00 Z2 gu2) (fun hHeld => ?_)
  clear hK hK1
  try simp only [Act.put, List.getElem_toArray, List.getElem_cons_zero, List.getElem_cons_succ, List.setIfInBounds_toArray, List.set_cons_zero, List.set_cons_succ]
  refine wpAnyH_take (i := 9) (v := .tuple #[.string T0, .bool ok0]) rfl (by kernel_rfl) (by kernel_rfl) (by kernel_rfl) (fun _ _ _ h => h) (Or.inl ⟨by rfl, ?_⟩) (by assumption) ?_
  · intro w5 s0
    go_simp
    try decide
  try simp only [Act.put, List.getElem_toArray, List.getElem_cons_zero, List.getElem_cons_succ, List.setIfInBounds_toArray, List.set_cons_zero, List.set_cons_succ]
  refine wpAnyH_take (i := 10) (v := .string T0) rfl (by kernel_rfl) (by kernel_rfl) (by kernel_rfl) (fun _ _ _ h => h) (Or.inl ⟨by rfl, ?_⟩) (by assumption) ?_
  · intro w5 s0
    go_simp
    try decide
  try simp only [Act.put, List.getElem_toArray, List.getElem_cons_zero, List.getElem_cons_succ, List.setIfInBounds_toArray, List.set_cons_zero, List.set_cons_succ]
  refine wpAnyH_take (i := 11) (v := .bool ok0) rfl (by kernel_rfl) (by kernel_rfl) (by kernel_rfl) (fun _ _ _ h => h) (Or.inl ⟨by rfl, ?_⟩) (by assumption) ?_
  · intro w5 s0
    go_simp
    try decide
  try simp only [Act.put, List.getElem_toArray, List.getElem_cons_zero, List.getElem_cons_succ, List.setIfInBounds_toArray, List.set_cons_zero, List.set_cons_succ]
  refine wpAnyH_take (i := 12) (v := .string T0) rfl (by kernel_rfl) (by kernel_rfl) (by kernel_rfl) (fun _ _ _ h => h) (Or.inl ⟨by rfl, ?_⟩) (by assumption) ?_
  · intro w5 s0
    go_simp
    try decide
  try simp only [Act.put, List.getElem_toArray, List.getElem_cons_zero, List.getElem_cons_succ, List.setIfInBounds_toArray, List.set_cons_zero, List.set_cons_succ]
  refine wpAnyH_take (i := 13) (v := .bool ok0) rfl (by kernel_rfl) (by kernel_rfl) (by kernel_rfl) (fun _ _ _ h => h) (Or.inl ⟨by rfl, ?_⟩) (by assumption) ?_
  · intro w5 s0
    go_simp
    try decide
  try simp only [Act.put, List.getElem_toArray, List.getElem_cons_zero, List.getElem_cons_succ, List.setIfInBounds_toArray, List.set_cons_zero, List.set_cons_succ]
  refine wpAnyH_done (by kernel_rfl) ?_ _
  have yz2 : Aq Z2 (X + 1) 0 0 := yu0.grown gu2 (by omega)
  have wz2 : Below w.heap.size w Z2 := wu0.grown gu2 wu0.size (fun k hk => by cases hk; exact hX0)
  have bz2 : Blk Z2 B0 XV0 := bb0.grown gu2 (by omega)
  have hsz2 : X + 2 ≤ Z2.heap.size := by have := gu2.size; omega
  clear f00 hHeld gu2 gz2 gD0 hS
  go_upto_region 8 with fail
  have gE : Z2.grownBy Z2.drew (some (X + 1)) := xgr_below (Below.refl Z2.heap.size Z2).drew _
  have f01 : ∀ V, Z2.grownBy V (some (X + 1)) → (fun w' : World => w'.rangeAt B0 0 XV0) V := fun V gV => (bz2.grown gV (by omega)).range
  have bE : Below Z2.heap.size Z2 Z2.drew := (Below.refl Z2.heap.size Z2).drew
  refine wp_region_held_drew (S := fun w' => w'.rangeAt B0 0 XV0) (by kernel_rfl) (f01 _ gE) ?_
  intro hS
  refine wpAnyH_take (i := 0) (v := .agg XV0.toArray) rfl (by kernel_rfl) (by kernel_rfl) (by kernel_rfl) (fun _ _ _ h => h) ?_ (by assumption) ?_
  · obtain ⟨⟨dd, r1, r2⟩, r3⟩ := row_Act
    exact yieldsIf_load_mid rfl 28 (.tmp 10) rfl B0 0 rfl XV0 dd (fun _ h => h) r1 r2 (by rw [la]; exact r3)
  try simp only [Act.put, List.getElem_toArray, List.getElem_cons_zero, List.getElem_cons_succ, List.setIfInBounds_toArray, List.set_cons_zero, List.set_cons_succ]
  refine wpAnyH_take (i := 1) (v := .bool np) rfl (by kernel_rfl) (by kernel_rfl) (by kernel_rfl) (fun _ _ _ h => h) (Or.inl ⟨by rfl, ?_⟩) (by assumption) ?_
  · intro w5 s0
    go_simp
    try decide
  try simp only [Act.put, List.getElem_toArray, List.getElem_cons_zero, List.getElem_cons_succ, List.setIfInBounds_toArray, List.set_cons_zero, List.set_cons_succ]
  refine wpAnyH_take (i := 2) (v := .int .i32 v) rfl (by kernel_rfl) (by kernel_rfl) (by kernel_rfl) (fun _ _ _ h => h) (Or.inl ⟨by rfl, ?_⟩) (by assumption) ?_
  · intro w5 s0
    go_simp
    try decide
  try simp only [Act.put, List.getElem_toArray, List.getElem_cons_zero, List.getElem_cons_succ, List.setIfInBounds_toArray, List.set_cons_zero, List.set_cons_succ]
  refine wpAnyH_take (i := 3) (v := .int .i64 0) rfl (by kernel_rfl) (by kernel_rfl) (by kernel_rfl) (fun _ _ _ h => h) (Or.inl ⟨by rfl, ?_⟩) (by assumption) ?_
  · intro w5 s0
    go_simp
    try decide
  try simp only [Act.put, List.getElem_toArray, List.getElem_cons_zero, List.getElem_cons_succ, List.setIfInBounds_toArray, List.set_cons_zero, List.set_cons_succ]
  refine wpAnyH_take (i := 4) (v := .int .i64 1) rfl (by kernel_rfl) (by kernel_rfl) (by kernel_rfl) (fun _ _ _ h => h) (Or.inl ⟨by rfl, ?_⟩) (by assumption) ?_
  · intro w5 s0
    go_simp
    try decide
  try simp only [Act.put, List.getElem_toArray, List.getElem_cons_zero, List.getElem_cons_succ, List.setIfInBounds_toArray, List.set_cons_zero, List.set_cons_succ]
  refine wpAnyH_take (i := 6) (v := .agg XV0.toArray) rfl (by kernel_rfl) (by kernel_rfl) (by kernel_rfl) (fun _ _ _ h => h) ?_ (by assumption) ?_
  · obtain ⟨⟨dd, r1, r2⟩, r3⟩ := row_Act
    exact yieldsIf_load_mid rfl 28 (.tmp 10) rfl B0 0 rfl XV0 dd (fun _ h => h) r1 r2 (by rw [la]; exact r3)
  try simp only [Act.put, List.getElem_toArray, List.getElem_cons_zero, List.getElem_cons_succ, List.setIfInBounds_toArray, List.set_cons_zero, List.set_cons_succ]
  refine wpAnyH_take (i := 7) (v := .bool np) rfl (by kernel_rfl) (by kernel_rfl) (by kernel_rfl) (fun _ _ _ h => h) (Or.inl ⟨by rfl, ?_⟩) (by assumption) ?_
  · intro w5 s0
    go_simp
    try decide
  try simp only [Act.put, List.getElem_toArray, List.getElem_cons_zero, List.getElem_cons_succ, List.setIfInBounds_toArray, List.set_cons_zero, List.set_cons_succ]
  refine wpAnyH_ready (rs := [5]) (by kernel_rfl) (by simp) ?_
  refine AllReadyH.cons rfl (fun K hK => ?_) AllReadyH.nil
  go_simp
  refine (hJ0 _).mono ?_
  rintro e Z3 ⟨rfl, bz3⟩
  have g3 : Z2.grownBy Z3 (some (X + 1)) := gE.trans (xgr_below bz3 _)
  have b3 : Below Z2.heap.size Z2 Z3 := bE.trans (bz3.mono bE.size)
  refine hK.out _ _ (f01 _ g3) (fun _ => ?_)
  try simp only [Act.put, List.getElem_toArray, List.getElem_cons_zero, List.getElem_cons_succ, List.setIfInBounds_toArray, List.set_cons_zero, List.set_cons_succ]
  refine wpAnyH_ready (rs := [8]) (by kernel_rfl) (by simp) ?_
  refine AllReadyH.cons rfl (fun K1 hK1 => ?_) AllReadyH.nil
  go_simp
  refine (hdc0 Z3 (X + 1) (wz2.trans (b3.mono wz2.size)) (by omega) (yz2.up b3)).mono ?_
  rintro e Z4 ⟨rfl, yz4, gz4⟩
  have g4 : Z2.grownBy Z4 (some (X + 1)) := g3.trans gz4
  refine hK1.out _ _ (f01 _ g4) (fun _ => ?_)
  try simp only [Act.put, List.getElem_toArray, List.getElem_cons_zero, List.getElem_cons_succ, List.setIfInBounds_toArray, List.set_cons_zero, List.set_cons_succ]
  refine wpAnyH_ready (rs := [9]) (by kernel_rfl) (by simp) ?_
  refine AllReadyH.cons rfl (fun K2 hK2 => ?_) AllReadyH.nil
  go_simp
  refine (hjd0 _).mono ?_
  rintro e Z5 ⟨rfl, bz5⟩
  have g5 : Z2.grownBy Z5 (some (X + 1)) := g4.trans (xgr_below bz5 _)
  refine hK2.out _ _ (f01 _ g5) (fun hHeld => ?_)
  clear hK hK1 hK2
  try simp only [Act.put, List.getElem_toArray, List.getElem_cons_zero, List.getElem_cons_succ, List.setIfInBounds_toArray, List.set_cons_zero, List.set_cons_succ]
  refine wpAnyH_take (i := 10) (v := .tuple #[.string T0, .bool ok0]) rfl (by kernel_rfl) (by kernel_rfl) (by kernel_rfl) (fun _ _ _ h => h) (Or.inl ⟨by rfl, ?_⟩) (by assumption) ?_
  · intro w5 s0
    go_simp
    try decide
  try simp only [Act.put, List.getElem_toArray, List.getElem_cons_zero, List.getElem_cons_succ, List.setIfInBounds_toArray, List.set_cons_zero, List.set_cons_succ]
  refine wpAnyH_take (i := 11) (v := .string T0) rfl (by kernel_rfl) (by kernel_rfl) (by kernel_rfl) (fun _ _ _ h => h) (Or.inl ⟨by rfl, ?_⟩) (by assumption) ?_
  · intro w5 s0
    go_simp
    try decide
  try simp only [Act.put, List.getElem_toArray, List.getElem_cons_zero, List.getElem_cons_succ, List.setIfInBounds_toArray, List.set_cons_zero, List.set_cons_succ]
  refine wpAnyH_take (i := 12) (v := .bool ok0) rfl (by kernel_rfl) (by kernel_rfl) (by kernel_rfl) (fun _ _ _ h => h) (Or.inl ⟨by rfl, ?_⟩) (by assumption) ?_
  · intro w5 s0
    go_simp
    try decide
  try simp only [Act.put, List.getElem_toArray, List.getElem_cons_zero, List.getElem_cons_succ, List.setIfInBounds_toArray, List.set_cons_zero, List.set_cons_succ]
  refine wpAnyH_take (i := 13) (v := .string T0) rfl (by kernel_rfl) (by kernel_rfl) (by kernel_rfl) (fun _ _ _ h => h) (Or.inl ⟨by rfl, ?_⟩) (by assumption) ?_
  · intro w5 s0
    go_simp
    try decide
  try simp only [Act.put, List.getElem_toArray, List.getElem_cons_zero, List.getElem_cons_succ, List.setIfInBounds_toArray, List.set_cons_zero, List.set_cons_succ]
  refine wpAnyH_take (i := 14) (v := .bool ok0) rfl (by kernel_rfl) (by kernel_rfl) (by kernel_rfl) (fun _ _ _ h => h) (Or.inl ⟨by rfl, ?_⟩) (by assumption) ?_
  · intro w5 s0
    go_simp
    try decide
  try simp only [Act.put, List.getElem_toArray, List.getElem_cons_zero, List.getElem_cons_succ, List.setIfInBounds_toArray, List.set_cons_zero, List.set_cons_succ]
  refine wpAnyH_done (by kernel_rfl) ?_ _
  have xq1 : Aq Z5 X p1 s1 := xz2.grown g5 (by omega)
  have yq1 : Aq Z5 (X + 1) p1 s1 := yz4.up bz5
  have wv1 : Below w.heap.size w Z5 := wz2.grown g5 wz2.size (fun k hk => by cases hk; omega)
  have zv1 : X + 2 ≤ Z5.heap.size := by have := g5.size; omega
  clear f01 hHeld hS g3 b3 g4 gz4 bz5 g5 gE bE yz2 wz2 bz2 hsz2 xz2 yz4 wu0 xu0 yu0 u0 bb0 xd0 xq0 yq0 wv0 zv0 hB0 hU0 hDo0' hdc0 hjd0 hM0 hJ0 bz3
  have hne0 := fun w => hne p1 s1 w
  go_wp2_with (first
    | (refine wpl_ldg drow_Asked rfl (.tmp 7) rfl (vs := [.int .i64 p1, .int .i64 s1]) rfl xq1.range rfl ?_)
    | (refine wpl_ldg drow_Asked rfl (.tmp 8) rfl (vs := [.int .i64 p1, .int .i64 s1]) rfl yq1.range rfl ?_))
  clear hne0
  generalize Z5 = V1 at *
  obtain ⟨T1, A1, ok1, p2, s2, bd1, hDo1, hdc1, hjd1⟩ := Rb sb p1 s1 (by omega) (by omega) (by omega) (by omega)
  clear Rb
  obtain ⟨U1, e1, u1, bb1⟩ := bxb V1
  clear bxb
  have wu1 : Below w.heap.size w U1 := wv1.trans (u1.mono wv1.size)
  have xu1 := xq1.up u1
  have yu1 := yq1.up u1
  have hB1 : X + 2 ≤ V1.heap.size := zv1
  have hU1 : X + 2 ≤ U1.heap.size := by have := u1.size; omega
  have hDo1' := hDo1 U1 X wu1 hX0
  unfold DoC dArgs at hDo1'
  clear hDo1
  obtain ⟨mt1, hmt1⟩ := hmz 2
  have hM1 := fun w => hM 2 w
  have hJ1 := fun w => hJ 2 w
  rw [hmt1] at hDo1' hM1 hJ1 hjd1
  clear hmt1
  generalize hXV1 : xb.v = XV1 at *
  clear hXV1
  rw [rounds_succ]
  go_upto_region 7 with (refine wpl_st row_Act rfl (.tmp 10) (.tmp 31) rfl (us := XV1) rfl rfl (sm_new _) rfl lb ob ?_; rw [← e1]; clear e1)
  try simp only [Act.put]
  generalize hBn1 : V1.heap.size = B1 at *
  clear hBn1
  have gD1 : U1.grownBy U1.drew (some X) := xgr_below (Below.refl U1.heap.size U1).drew _
  have f10 : ∀ V, U1.grownBy V (some X) → (fun w' : World => w'.rangeAt B1 0 XV1) V := fun V gV => (bb1.grown gV (by omega)).range
  have xd1 : Aq U1.drew X p1 s1 := xu1.up (Below.refl U1.heap.size U1).drew
  refine wp_region_held_drew (S := fun w' => w'.rangeAt B1 0 XV1) (by kernel_rfl) (f10 _ gD1) ?_
  intro hS
  refine wpAnyH_take (i := 0) (v := .agg XV1.toArray) rfl (by kernel_rfl) (by kernel_rfl) (by kernel_rfl) (fun _ _ _ h => h) ?_ (by assumption) ?_
  · obtain ⟨⟨dd, r1, r2⟩, r3⟩ := row_Act
    exact yieldsIf_load_mid rfl 28 (.tmp 10) rfl B1 0 rfl XV1 dd (fun _ h => h) r1 r2 (by rw [lb]; exact r3)
  try simp only [Act.put, List.getElem_toArray, List.getElem_cons_zero, List.getElem_cons_succ, List.setIfInBounds_toArray, List.set_cons_zero, List.set_cons_succ]
  refine wpAnyH_take (i := 1) (v := .bool np) rfl (by kernel_rfl) (by kernel_rfl) (by kernel_rfl) (fun _ _ _ h => h) (Or.inl ⟨by rfl, ?_⟩) (by assumption) ?_
  · intro w5 s0
    go_simp
    try decide
  try simp only [Act.put, List.getElem_toArray, List.getElem_cons_zero, List.getElem_cons_succ, List.setIfInBounds_toArray, List.set_cons_zero, List.set_cons_succ]
  refine wpAnyH_take (i := 2) (v := .int .i32 v) rfl (by kernel_rfl) (by kernel_rfl) (by kernel_rfl) (fun _ _ _ h => h) (Or.inl ⟨by rfl, ?_⟩) (by assumption) ?_
  · intro w5 s0
    go_simp
    try decide
  try simp only [Act.put, List.getElem_toArray, List.getElem_cons_zero, List.getElem_cons_succ, List.setIfInBounds_toArray, List.set_cons_zero, List.set_cons_succ]
  refine wpAnyH_take (i := 3) (v := .int .i64 1) rfl (by kernel_rfl) (by kernel_rfl) (by kernel_rfl) (fun _ _ _ h => h) (Or.inl ⟨by rfl, ?_⟩) (by assumption) ?_
  · intro w5 s0
    go_simp
    try decide
  try simp only [Act.put, List.getElem_toArray, List.getElem_cons_zero, List.getElem_cons_succ, List.setIfInBounds_toArray, List.set_cons_zero, List.set_cons_succ]
  refine wpAnyH_take (i := 4) (v := .int .i64 2) rfl (by kernel_rfl) (by kernel_rfl) (by kernel_rfl) (fun _ _ _ h => h) (Or.inl ⟨by rfl, ?_⟩) (by assumption) ?_
  · intro w5 s0
    go_simp
    try decide
  try simp only [Act.put, List.getElem_toArray, List.getElem_cons_zero, List.getElem_cons_succ, List.setIfInBounds_toArray, List.set_cons_zero, List.set_cons_succ]
  refine wpAnyH_take (i := 6) (v := prF X) rfl (by kernel_rfl) (by kernel_rfl) (by kernel_rfl) (fun _ _ _ h => h) (Or.inl ⟨by rfl, ?_⟩) (by assumption) ?_
  · intro w5 s0
    go_simp
    try decide
  try simp only [Act.put, List.getElem_toArray, List.getElem_cons_zero, List.getElem_cons_succ, List.setIfInBounds_toArray, List.set_cons_zero, List.set_cons_succ]
  refine wpAnyH_take (i := 7) (v := shF X) rfl (by kernel_rfl) (by kernel_rfl) (by kernel_rfl) (fun _ _ _ h => h) (Or.inl ⟨by rfl, ?_⟩) (by assumption) ?_
  · intro w5 s0
    go_simp
    try decide
  try simp only [Act.put, List.getElem_toArray, List.getElem_cons_zero, List.getElem_cons_succ, List.setIfInBounds_toArray, List.set_cons_zero, List.set_cons_succ]
  refine wpAnyH_ready (rs := [5]) (by kernel_rfl) (by simp) ?_
  refine AllReadyH.cons rfl (fun K hK => ?_) AllReadyH.nil
  go_simp
  refine (hM1 _).mono ?_
  rintro e Z1 ⟨rfl, ez1⟩
  subst ez1
  refine hK.out _ _ (f10 _ gD1) (fun _ => ?_)
  try simp only [Act.put, List.getElem_toArray, List.getElem_cons_zero, List.getElem_cons_succ, List.setIfInBounds_toArray, List.set_cons_zero, List.set_cons_succ]
  refine wpAnyH_ready (rs := [8]) (by kernel_rfl) (by simp) ?_
  refine AllReadyH.cons rfl (fun K1 hK1 => ?_) AllReadyH.nil
  go_simp
  refine (hDo1' _ gD1 xd1).mono ?_
  rintro e Z2 ⟨rfl, xz2, gz2⟩
  have gu2 : U1.grownBy Z2 (some X) := gD1.trans gz2
  refine hK1.out _ _ (f10 Z2 gu2) (fun hHeld => ?_)
  clear hK hK1
  try simp only [Act.put, List.getElem_toArray, List.getElem_cons_zero, List.getElem_cons_succ, List.setIfInBounds_toArray, List.set_cons_zero, List.set_cons_succ]
  refine wpAnyH_take (i := 9) (v := .tuple #[.string T1, .bool ok1]) rfl (by kernel_rfl) (by kernel_rfl) (by kernel_rfl) (fun _ _ _ h => h) (Or.inl ⟨by rfl, ?_⟩) (by assumption) ?_
  · intro w5 s0
    go_simp
    try decide
  try simp only [Act.put, List.getElem_toArray, List.getElem_cons_zero, List.getElem_cons_succ, List.setIfInBounds_toArray, List.set_cons_zero, List.set_cons_succ]
  refine wpAnyH_take (i := 10) (v := .string T1) rfl (by kernel_rfl) (by kernel_rfl) (by kernel_rfl) (fun _ _ _ h => h) (Or.inl ⟨by rfl, ?_⟩) (by assumption) ?_
  · intro w5 s0
    go_simp
    try decide
  try simp only [Act.put, List.getElem_toArray, List.getElem_cons_zero, List.getElem_cons_succ, List.setIfInBounds_toArray, List.set_cons_zero, List.set_cons_succ]
  refine wpAnyH_take (i := 11) (v := .bool ok1) rfl (by kernel_rfl) (by kernel_rfl) (by kernel_rfl) (fun _ _ _ h => h) (Or.inl ⟨by rfl, ?_⟩) (by assumption) ?_
  · intro w5 s0
    go_simp
    try decide
  try simp only [Act.put, List.getElem_toArray, List.getElem_cons_zero, List.getElem_cons_succ, List.setIfInBounds_toArray, List.set_cons_zero, List.set_cons_succ]
  refine wpAnyH_take (i := 12) (v := .string T1) rfl (by kernel_rfl) (by kernel_rfl) (by kernel_rfl) (fun _ _ _ h => h) (Or.inl ⟨by rfl, ?_⟩) (by assumption) ?_
  · intro w5 s0
    go_simp
    try decide
  try simp only [Act.put, List.getElem_toArray, List.getElem_cons_zero, List.getElem_cons_succ, List.setIfInBounds_toArray, List.set_cons_zero, List.set_cons_succ]
  refine wpAnyH_take (i := 13) (v := .bool ok1) rfl (by kernel_rfl) (by kernel_rfl) (by kernel_rfl) (fun _ _ _ h => h) (Or.inl ⟨by rfl, ?_⟩) (by assumption) ?_
  · intro w5 s0
    go_simp
    try decide
  try simp only [Act.put, List.getElem_toArray, List.getElem_cons_zero, List.getElem_cons_succ, List.setIfInBounds_toArray, List.set_cons_zero, List.set_cons_succ]
  refine wpAnyH_done (by kernel_rfl) ?_ _
  have yz2 : Aq Z2 (X + 1) p1 s1 := yu1.grown gu2 (by omega)
  have wz2 : Below w.heap.size w Z2 := wu1.grown gu2 wu1.size (fun k hk => by cases hk; exact hX0)
  have bz2 : Blk Z2 B1 XV1 := bb1.grown gu2 (by omega)
  have hsz2 : X + 2 ≤ Z2.heap.size := by have := gu2.size; omega
  clear f10 hHeld gu2 gz2 gD1 hS
  go_upto_region 8 with fail
  have gE : Z2.grownBy Z2.drew (some (X + 1)) := xgr_below (Below.refl Z2.heap.size Z2).drew _
  have f11 : ∀ V, Z2.grownBy V (some (X + 1)) → (fun w' : World => w'.rangeAt B1 0 XV1) V := fun V gV => (bz2.grown gV (by omega)).range
  have bE : Below Z2.heap.size Z2 Z2.drew := (Below.refl Z2.heap.size Z2).drew
  refine wp_region_held_drew (S := fun w' => w'.rangeAt B1 0 XV1) (by kernel_rfl) (f11 _ gE) ?_
  intro hS
  refine wpAnyH_take (i := 0) (v := .agg XV1.toArray) rfl (by kernel_rfl) (by kernel_rfl) (by kernel_rfl) (fun _ _ _ h => h) ?_ (by assumption) ?_
  · obtain ⟨⟨dd, r1, r2⟩, r3⟩ := row_Act
    exact yieldsIf_load_mid rfl 28 (.tmp 10) rfl B1 0 rfl XV1 dd (fun _ h => h) r1 r2 (by rw [lb]; exact r3)
  try simp only [Act.put, List.getElem_toArray, List.getElem_cons_zero, List.getElem_cons_succ, List.setIfInBounds_toArray, List.set_cons_zero, List.set_cons_succ]
  refine wpAnyH_take (i := 1) (v := .bool np) rfl (by kernel_rfl) (by kernel_rfl) (by kernel_rfl) (fun _ _ _ h => h) (Or.inl ⟨by rfl, ?_⟩) (by assumption) ?_
  · intro w5 s0
    go_simp
    try decide
  try simp only [Act.put, List.getElem_toArray, List.getElem_cons_zero, List.getElem_cons_succ, List.setIfInBounds_toArray, List.set_cons_zero, List.set_cons_succ]
  refine wpAnyH_take (i := 2) (v := .int .i32 v) rfl (by kernel_rfl) (by kernel_rfl) (by kernel_rfl) (fun _ _ _ h => h) (Or.inl ⟨by rfl, ?_⟩) (by assumption) ?_
  · intro w5 s0
    go_simp
    try decide
  try simp only [Act.put, List.getElem_toArray, List.getElem_cons_zero, List.getElem_cons_succ, List.setIfInBounds_toArray, List.set_cons_zero, List.set_cons_succ]
  refine wpAnyH_take (i := 3) (v := .int .i64 1) rfl (by kernel_rfl) (by kernel_rfl) (by kernel_rfl) (fun _ _ _ h => h) (Or.inl ⟨by rfl, ?_⟩) (by assumption) ?_
  · intro w5 s0
    go_simp
    try decide
  try simp only [Act.put, List.getElem_toArray, List.getElem_cons_zero, List.getElem_cons_succ, List.setIfInBounds_toArray, List.set_cons_zero, List.set_cons_succ]
  refine wpAnyH_take (i := 4) (v := .int .i64 2) rfl (by kernel_rfl) (by kernel_rfl) (by kernel_rfl) (fun _ _ _ h => h) (Or.inl ⟨by rfl, ?_⟩) (by assumption) ?_
  · intro w5 s0
    go_simp
    try decide
  try simp only [Act.put, List.getElem_toArray, List.getElem_cons_zero, List.getElem_cons_succ, List.setIfInBounds_toArray, List.set_cons_zero, List.set_cons_succ]
  refine wpAnyH_take (i := 6) (v := .agg XV1.toArray) rfl (by kernel_rfl) (by kernel_rfl) (by kernel_rfl) (fun _ _ _ h => h) ?_ (by assumption) ?_
  · obtain ⟨⟨dd, r1, r2⟩, r3⟩ := row_Act
    exact yieldsIf_load_mid rfl 28 (.tmp 10) rfl B1 0 rfl XV1 dd (fun _ h => h) r1 r2 (by rw [lb]; exact r3)
  try simp only [Act.put, List.getElem_toArray, List.getElem_cons_zero, List.getElem_cons_succ, List.setIfInBounds_toArray, List.set_cons_zero, List.set_cons_succ]
  refine wpAnyH_take (i := 7) (v := .bool np) rfl (by kernel_rfl) (by kernel_rfl) (by kernel_rfl) (fun _ _ _ h => h) (Or.inl ⟨by rfl, ?_⟩) (by assumption) ?_
  · intro w5 s0
    go_simp
    try decide
  try simp only [Act.put, List.getElem_toArray, List.getElem_cons_zero, List.getElem_cons_succ, List.setIfInBounds_toArray, List.set_cons_zero, List.set_cons_succ]
  refine wpAnyH_ready (rs := [5]) (by kernel_rfl) (by simp) ?_
  refine AllReadyH.cons rfl (fun K hK => ?_) AllReadyH.nil
  go_simp
  refine (hJ1 _).mono ?_
  rintro e Z3 ⟨rfl, bz3⟩
  have g3 : Z2.grownBy Z3 (some (X + 1)) := gE.trans (xgr_below bz3 _)
  have b3 : Below Z2.heap.size Z2 Z3 := bE.trans (bz3.mono bE.size)
  refine hK.out _ _ (f11 _ g3) (fun _ => ?_)
  try simp only [Act.put, List.getElem_toArray, List.getElem_cons_zero, List.getElem_cons_succ, List.setIfInBounds_toArray, List.set_cons_zero, List.set_cons_succ]
  refine wpAnyH_ready (rs := [8]) (by kernel_rfl) (by simp) ?_
  refine AllReadyH.cons rfl (fun K1 hK1 => ?_) AllReadyH.nil
  go_simp
  refine (hdc1 Z3 (X + 1) (wz2.trans (b3.mono wz2.size)) (by omega) (yz2.up b3)).mono ?_
  rintro e Z4 ⟨rfl, yz4, gz4⟩
  have g4 : Z2.grownBy Z4 (some (X + 1)) := g3.trans gz4
  refine hK1.out _ _ (f11 _ g4) (fun _ => ?_)
  try simp only [Act.put, List.getElem_toArray, List.getElem_cons_zero, List.getElem_cons_succ, List.setIfInBounds_toArray, List.set_cons_zero, List.set_cons_succ]
  refine wpAnyH_ready (rs := [9]) (by kernel_rfl) (by simp) ?_
  refine AllReadyH.cons rfl (fun K2 hK2 => ?_) AllReadyH.nil
  go_simp
  refine (hjd1 _).mono ?_
  rintro e Z5 ⟨rfl, bz5⟩
  have g5 : Z2.grownBy Z5 (some (X + 1)) := g4.trans (xgr_below bz5 _)
  refine hK2.out _ _ (f11 _ g5) (fun hHeld => ?_)
  clear hK hK1 hK2
  try simp only [Act.put, List.getElem_toArray, List.getElem_cons_zero, List.getElem_cons_succ, List.setIfInBounds_toArray, List.set_cons_zero, List.set_cons_succ]
  refine wpAnyH_take (i := 10) (v := .tuple #[.string T1, .bool ok1]) rfl (by kernel_rfl) (by kernel_rfl) (by kernel_rfl) (fun _ _ _ h => h) (Or.inl ⟨by rfl, ?_⟩) (by assumption) ?_
  · intro w5 s0
    go_simp
    try decide
  try simp only [Act.put, List.getElem_toArray, List.getElem_cons_zero, List.getElem_cons_succ, List.setIfInBounds_toArray, List.set_cons_zero, List.set_cons_succ]
  refine wpAnyH_take (i := 11) (v := .string T1) rfl (by kernel_rfl) (by kernel_rfl) (by kernel_rfl) (fun _ _ _ h => h) (Or.inl ⟨by rfl, ?_⟩) (by assumption) ?_
  · intro w5 s0
    go_simp
    try decide
  try simp only [Act.put, List.getElem_toArray, List.getElem_cons_zero, List.getElem_cons_succ, List.setIfInBounds_toArray, List.set_cons_zero, List.set_cons_succ]
  refine wpAnyH_take (i := 12) (v := .bool ok1) rfl (by kernel_rfl) (by kernel_rfl) (by kernel_rfl) (fun _ _ _ h => h) (Or.inl ⟨by rfl, ?_⟩) (by assumption) ?_
  · intro w5 s0
    go_simp
    try decide
  try simp only [Act.put, List.getElem_toArray, List.getElem_cons_zero, List.getElem_cons_succ, List.setIfInBounds_toArray, List.set_cons_zero, List.set_cons_succ]
  refine wpAnyH_take (i := 13) (v := .string T1) rfl (by kernel_rfl) (by kernel_rfl) (by kernel_rfl) (fun _ _ _ h => h) (Or.inl ⟨by rfl, ?_⟩) (by assumption) ?_
  · intro w5 s0
    go_simp
    try decide
  try simp only [Act.put, List.getElem_toArray, List.getElem_cons_zero, List.getElem_cons_succ, List.setIfInBounds_toArray, List.set_cons_zero, List.set_cons_succ]
  refine wpAnyH_take (i := 14) (v := .bool ok1) rfl (by kernel_rfl) (by kernel_rfl) (by kernel_rfl) (fun _ _ _ h => h) (Or.inl ⟨by rfl, ?_⟩) (by assumption) ?_
  · intro w5 s0
    go_simp
    try decide
  try simp only [Act.put, List.getElem_toArray, List.getElem_cons_zero, List.getElem_cons_succ, List.setIfInBounds_toArray, List.set_cons_zero, List.set_cons_succ]
  refine wpAnyH_done (by kernel_rfl) ?_ _
  have xq2 : Aq Z5 X p2 s2 := xz2.grown g5 (by omega)
  have yq2 : Aq Z5 (X + 1) p2 s2 := yz4.up bz5
  have wv2 : Below w.heap.size w Z5 := wz2.grown g5 wz2.size (fun k hk => by cases hk; omega)
  have zv2 : X + 2 ≤ Z5.heap.size := by have := g5.size; omega
  clear f11 hHeld hS g3 b3 g4 gz4 bz5 g5 gE bE yz2 wz2 bz2 hsz2 xz2 yz4 wu1 xu1 yu1 u1 bb1 xd1 xq1 yq1 wv1 zv1 hB1 hU1 hDo1' hdc1 hjd1 hM1 hJ1 bz3
  have hne1 := fun w => hne p2 s2 w
  go_wp2_with (first
    | (refine wpl_ldg drow_Asked rfl (.tmp 7) rfl (vs := [.int .i64 p2, .int .i64 s2]) rfl xq2.range rfl ?_)
    | (refine wpl_ldg drow_Asked rfl (.tmp 8) rfl (vs := [.int .i64 p2, .int .i64 s2]) rfl yq2.range rfl ?_))
  clear hne1
  generalize Z5 = V2 at *
  obtain ⟨T2, A2, ok2, p3, s3, bd2, hDo2, hdc2, hjd2⟩ := Rc sc p2 s2 (by omega) (by omega) (by omega) (by omega)
  clear Rc
  obtain ⟨U2, e2, u2, bb2⟩ := bxc V2
  clear bxc
  have wu2 : Below w.heap.size w U2 := wv2.trans (u2.mono wv2.size)
  have xu2 := xq2.up u2
  have yu2 := yq2.up u2
  have hB2 : X + 2 ≤ V2.heap.size := zv2
  have hU2 : X + 2 ≤ U2.heap.size := by have := u2.size; omega
  have hDo2' := hDo2 U2 X wu2 hX0
  unfold DoC dArgs at hDo2'
  clear hDo2
  obtain ⟨mt2, hmt2⟩ := hmz 3
  have hM2 := fun w => hM 3 w
  have hJ2 := fun w => hJ 3 w
  rw [hmt2] at hDo2' hM2 hJ2 hjd2
  clear hmt2
  generalize hXV2 : xc.v = XV2 at *
  clear hXV2
  rw [rounds_succ]
  go_upto_region 7 with (refine wpl_st row_Act rfl (.tmp 10) (.tmp 31) rfl (us := XV2) rfl rfl (sm_new _) rfl lc oc ?_; rw [← e2]; clear e2)
  try simp only [Act.put]
  generalize hBn2 : V2.heap.size = B2 at *
  clear hBn2
  have gD2 : U2.grownBy U2.drew (some X) := xgr_below (Below.refl U2.heap.size U2).drew _
  have f20 : ∀ V, U2.grownBy V (some X) → (fun w' : World => w'.rangeAt B2 0 XV2) V := fun V gV => (bb2.grown gV (by omega)).range
  have xd2 : Aq U2.drew X p2 s2 := xu2.up (Below.refl U2.heap.size U2).drew
  refine wp_region_held_drew (S := fun w' => w'.rangeAt B2 0 XV2) (by kernel_rfl) (f20 _ gD2) ?_
  intro hS
  refine wpAnyH_take (i := 0) (v := .agg XV2.toArray) rfl (by kernel_rfl) (by kernel_rfl) (by kernel_rfl) (fun _ _ _ h => h) ?_ (by assumption) ?_
  · obtain ⟨⟨dd, r1, r2⟩, r3⟩ := row_Act
    exact yieldsIf_load_mid rfl 28 (.tmp 10) rfl B2 0 rfl XV2 dd (fun _ h => h) r1 r2 (by rw [lc]; exact r3)
  try simp only [Act.put, List.getElem_toArray, List.getElem_cons_zero, List.getElem_cons_succ, List.setIfInBounds_toArray, List.set_cons_zero, List.set_cons_succ]
  refine wpAnyH_take (i := 1) (v := .bool np) rfl (by kernel_rfl) (by kernel_rfl) (by kernel_rfl) (fun _ _ _ h => h) (Or.inl ⟨by rfl, ?_⟩) (by assumption) ?_
  · intro w5 s0
    go_simp
    try decide
  try simp only [Act.put, List.getElem_toArray, List.getElem_cons_zero, List.getElem_cons_succ, List.setIfInBounds_toArray, List.set_cons_zero, List.set_cons_succ]
  refine wpAnyH_take (i := 2) (v := .int .i32 v) rfl (by kernel_rfl) (by kernel_rfl) (by kernel_rfl) (fun _ _ _ h => h) (Or.inl ⟨by rfl, ?_⟩) (by assumption) ?_
  · intro w5 s0
    go_simp
    try decide
  try simp only [Act.put, List.getElem_toArray, List.getElem_cons_zero, List.getElem_cons_succ, List.setIfInBounds_toArray, List.set_cons_zero, List.set_cons_succ]
  refine wpAnyH_take (i := 3) (v := .int .i64 2) rfl (by kernel_rfl) (by kernel_rfl) (by kernel_rfl) (fun _ _ _ h => h) (Or.inl ⟨by rfl, ?_⟩) (by assumption) ?_
  · intro w5 s0
    go_simp
    try decide
  try simp only [Act.put, List.getElem_toArray, List.getElem_cons_zero, List.getElem_cons_succ, List.setIfInBounds_toArray, List.set_cons_zero, List.set_cons_succ]
  refine wpAnyH_take (i := 4) (v := .int .i64 3) rfl (by kernel_rfl) (by kernel_rfl) (by kernel_rfl) (fun _ _ _ h => h) (Or.inl ⟨by rfl, ?_⟩) (by assumption) ?_
  · intro w5 s0
    go_simp
    try decide
  try simp only [Act.put, List.getElem_toArray, List.getElem_cons_zero, List.getElem_cons_succ, List.setIfInBounds_toArray, List.set_cons_zero, List.set_cons_succ]
  refine wpAnyH_take (i := 6) (v := prF X) rfl (by kernel_rfl) (by kernel_rfl) (by kernel_rfl) (fun _ _ _ h => h) (Or.inl ⟨by rfl, ?_⟩) (by assumption) ?_
  · intro w5 s0
    go_simp
    try decide
  try simp only [Act.put, List.getElem_toArray, List.getElem_cons_zero, List.getElem_cons_succ, List.setIfInBounds_toArray, List.set_cons_zero, List.set_cons_succ]
  refine wpAnyH_take (i := 7) (v := shF X) rfl (by kernel_rfl) (by kernel_rfl) (by kernel_rfl) (fun _ _ _ h => h) (Or.inl ⟨by rfl, ?_⟩) (by assumption) ?_
  · intro w5 s0
    go_simp
    try decide
  try simp only [Act.put, List.getElem_toArray, List.getElem_cons_zero, List.getElem_cons_succ, List.setIfInBounds_toArray, List.set_cons_zero, List.set_cons_succ]
  refine wpAnyH_ready (rs := [5]) (by kernel_rfl) (by simp) ?_
  refine AllReadyH.cons rfl (fun K hK => ?_) AllReadyH.nil
  go_simp
  refine (hM2 _).mono ?_
  rintro e Z1 ⟨rfl, ez1⟩
  subst ez1
  refine hK.out _ _ (f20 _ gD2) (fun _ => ?_)
  try simp only [Act.put, List.getElem_toArray, List.getElem_cons_zero, List.getElem_cons_succ, List.setIfInBounds_toArray, List.set_cons_zero, List.set_cons_succ]
  refine wpAnyH_ready (rs := [8]) (by kernel_rfl) (by simp) ?_
  refine AllReadyH.cons rfl (fun K1 hK1 => ?_) AllReadyH.nil
  go_simp
  refine (hDo2' _ gD2 xd2).mono ?_
  rintro e Z2 ⟨rfl, xz2, gz2⟩
  have gu2 : U2.grownBy Z2 (some X) := gD2.trans gz2
  refine hK1.out _ _ (f20 Z2 gu2) (fun hHeld => ?_)
  clear hK hK1
  try simp only [Act.put, List.getElem_toArray, List.getElem_cons_zero, List.getElem_cons_succ, List.setIfInBounds_toArray, List.set_cons_zero, List.set_cons_succ]
  refine wpAnyH_take (i := 9) (v := .tuple #[.string T2, .bool ok2]) rfl (by kernel_rfl) (by kernel_rfl) (by kernel_rfl) (fun _ _ _ h => h) (Or.inl ⟨by rfl, ?_⟩) (by assumption) ?_
  · intro w5 s0
    go_simp
    try decide
  try simp only [Act.put, List.getElem_toArray, List.getElem_cons_zero, List.getElem_cons_succ, List.setIfInBounds_toArray, List.set_cons_zero, List.set_cons_succ]
  refine wpAnyH_take (i := 10) (v := .string T2) rfl (by kernel_rfl) (by kernel_rfl) (by kernel_rfl) (fun _ _ _ h => h) (Or.inl ⟨by rfl, ?_⟩) (by assumption) ?_
  · intro w5 s0
    go_simp
    try decide
  try simp only [Act.put, List.getElem_toArray, List.getElem_cons_zero, List.getElem_cons_succ, List.setIfInBounds_toArray, List.set_cons_zero, List.set_cons_succ]
  refine wpAnyH_take (i := 11) (v := .bool ok2) rfl (by kernel_rfl) (by kernel_rfl) (by kernel_rfl) (fun _ _ _ h => h) (Or.inl ⟨by rfl, ?_⟩) (by assumption) ?_
  · intro w5 s0
    go_simp
    try decide
  try simp only [Act.put, List.getElem_toArray, List.getElem_cons_zero, List.getElem_cons_succ, List.setIfInBounds_toArray, List.set_cons_zero, List.set_cons_succ]
  refine wpAnyH_take (i := 12) (v := .string T2) rfl (by kernel_rfl) (by kernel_rfl) (by kernel_rfl) (fun _ _ _ h => h) (Or.inl ⟨by rfl, ?_⟩) (by assumption) ?_
  · intro w5 s0
    go_simp
    try decide
  try simp only [Act.put, List.getElem_toArray, List.getElem_cons_zero, List.getElem_cons_succ, List.setIfInBounds_toArray, List.set_cons_zero, List.set_cons_succ]
  refine wpAnyH_take (i := 13) (v := .bool ok2) rfl (by kernel_rfl) (by kernel_rfl) (by kernel_rfl) (fun _ _ _ h => h) (Or.inl ⟨by rfl, ?_⟩) (by assumption) ?_
  · intro w5 s0
    go_simp
    try decide
  try simp only [Act.put, List.getElem_toArray, List.getElem_cons_zero, List.getElem_cons_succ, List.setIfInBounds_toArray, List.set_cons_zero, List.set_cons_succ]
  refine wpAnyH_done (by kernel_rfl) ?_ _
  have yz2 : Aq Z2 (X + 1) p2 s2 := yu2.grown gu2 (by omega)
  have wz2 : Below w.heap.size w Z2 := wu2.grown gu2 wu2.size (fun k hk => by cases hk; exact hX0)
  have bz2 : Blk Z2 B2 XV2 := bb2.grown gu2 (by omega)
  have hsz2 : X + 2 ≤ Z2.heap.size := by have := gu2.size; omega
  clear f20 hHeld gu2 gz2 gD2 hS
  go_upto_region 8 with fail
  have gE : Z2.grownBy Z2.drew (some (X + 1)) := xgr_below (Below.refl Z2.heap.size Z2).drew _
  have f21 : ∀ V, Z2.grownBy V (some (X + 1)) → (fun w' : World => w'.rangeAt B2 0 XV2) V := fun V gV => (bz2.grown gV (by omega)).range
  have bE : Below Z2.heap.size Z2 Z2.drew := (Below.refl Z2.heap.size Z2).drew
  refine wp_region_held_drew (S := fun w' => w'.rangeAt B2 0 XV2) (by kernel_rfl) (f21 _ gE) ?_
  intro hS
  refine wpAnyH_take (i := 0) (v := .agg XV2.toArray) rfl (by kernel_rfl) (by kernel_rfl) (by kernel_rfl) (fun _ _ _ h => h) ?_ (by assumption) ?_
  · obtain ⟨⟨dd, r1, r2⟩, r3⟩ := row_Act
    exact yieldsIf_load_mid rfl 28 (.tmp 10) rfl B2 0 rfl XV2 dd (fun _ h => h) r1 r2 (by rw [lc]; exact r3)
  try simp only [Act.put, List.getElem_toArray, List.getElem_cons_zero, List.getElem_cons_succ, List.setIfInBounds_toArray, List.set_cons_zero, List.set_cons_succ]
  refine wpAnyH_take (i := 1) (v := .bool np) rfl (by kernel_rfl) (by kernel_rfl) (by kernel_rfl) (fun _ _ _ h => h) (Or.inl ⟨by rfl, ?_⟩) (by assumption) ?_
  · intro w5 s0
    go_simp
    try decide
  try simp only [Act.put, List.getElem_toArray, List.getElem_cons_zero, List.getElem_cons_succ, List.setIfInBounds_toArray, List.set_cons_zero, List.set_cons_succ]
  refine wpAnyH_take (i := 2) (v := .int .i32 v) rfl (by kernel_rfl) (by kernel_rfl) (by kernel_rfl) (fun _ _ _ h => h) (Or.inl ⟨by rfl, ?_⟩) (by assumption) ?_
  · intro w5 s0
    go_simp
    try decide
  try simp only [Act.put, List.getElem_toArray, List.getElem_cons_zero, List.getElem_cons_succ, List.setIfInBounds_toArray, List.set_cons_zero, List.set_cons_succ]
  refine wpAnyH_take (i := 3) (v := .int .i64 2) rfl (by kernel_rfl) (by kernel_rfl) (by kernel_rfl) (fun _ _ _ h => h) (Or.inl ⟨by rfl, ?_⟩) (by assumption) ?_
  · intro w5 s0
    go_simp
    try decide
  try simp only [Act.put, List.getElem_toArray, List.getElem_cons_zero, List.getElem_cons_succ, List.setIfInBounds_toArray, List.set_cons_zero, List.set_cons_succ]
  refine wpAnyH_take (i := 4) (v := .int .i64 3) rfl (by kernel_rfl) (by kernel_rfl) (by kernel_rfl) (fun _ _ _ h => h) (Or.inl ⟨by rfl, ?_⟩) (by assumption) ?_
  · intro w5 s0
    go_simp
    try decide
  try simp only [Act.put, List.getElem_toArray, List.getElem_cons_zero, List.getElem_cons_succ, List.setIfInBounds_toArray, List.set_cons_zero, List.set_cons_succ]
  refine wpAnyH_take (i := 6) (v := .agg XV2.toArray) rfl (by kernel_rfl) (by kernel_rfl) (by kernel_rfl) (fun _ _ _ h => h) ?_ (by assumption) ?_
  · obtain ⟨⟨dd, r1, r2⟩, r3⟩ := row_Act
    exact yieldsIf_load_mid rfl 28 (.tmp 10) rfl B2 0 rfl XV2 dd (fun _ h => h) r1 r2 (by rw [lc]; exact r3)
  try simp only [Act.put, List.getElem_toArray, List.getElem_cons_zero, List.getElem_cons_succ, List.setIfInBounds_toArray, List.set_cons_zero, List.set_cons_succ]
  refine wpAnyH_take (i := 7) (v := .bool np) rfl (by kernel_rfl) (by kernel_rfl) (by kernel_rfl) (fun _ _ _ h => h) (Or.inl ⟨by rfl, ?_⟩) (by assumption) ?_
  · intro w5 s0
    go_simp
    try decide
  try simp only [Act.put, List.getElem_toArray, List.getElem_cons_zero, List.getElem_cons_succ, List.setIfInBounds_toArray, List.set_cons_zero, List.set_cons_succ]
  refine wpAnyH_ready (rs := [5]) (by kernel_rfl) (by simp) ?_
  refine AllReadyH.cons rfl (fun K hK => ?_) AllReadyH.nil
  go_simp
  refine (hJ2 _).mono ?_
  rintro e Z3 ⟨rfl, bz3⟩
  have g3 : Z2.grownBy Z3 (some (X + 1)) := gE.trans (xgr_below bz3 _)
  have b3 : Below Z2.heap.size Z2 Z3 := bE.trans (bz3.mono bE.size)
  refine hK.out _ _ (f21 _ g3) (fun _ => ?_)
  try simp only [Act.put, List.getElem_toArray, List.getElem_cons_zero, List.getElem_cons_succ, List.setIfInBounds_toArray, List.set_cons_zero, List.set_cons_succ]
  refine wpAnyH_ready (rs := [8]) (by kernel_rfl) (by simp) ?_
  refine AllReadyH.cons rfl (fun K1 hK1 => ?_) AllReadyH.nil
  go_simp
  refine (hdc2 Z3 (X + 1) (wz2.trans (b3.mono wz2.size)) (by omega) (yz2.up b3)).mono ?_
  rintro e Z4 ⟨rfl, yz4, gz4⟩
  have g4 : Z2.grownBy Z4 (some (X + 1)) := g3.trans gz4
  refine hK1.out _ _ (f21 _ g4) (fun _ => ?_)
  try simp only [Act.put, List.getElem_toArray, List.getElem_cons_zero, List.getElem_cons_succ, List.setIfInBounds_toArray, List.set_cons_zero, List.set_cons_succ]
  refine wpAnyH_ready (rs := [9]) (by kernel_rfl) (by simp) ?_
  refine AllReadyH.cons rfl (fun K2 hK2 => ?_) AllReadyH.nil
  go_simp
  refine (hjd2 _).mono ?_
  rintro e Z5 ⟨rfl, bz5⟩
  have g5 : Z2.grownBy Z5 (some (X + 1)) := g4.trans (xgr_below bz5 _)
  refine hK2.out _ _ (f21 _ g5) (fun hHeld => ?_)
  clear hK hK1 hK2
  try simp only [Act.put, List.getElem_toArray, List.getElem_cons_zero, List.getElem_cons_succ, List.setIfInBounds_toArray, List.set_cons_zero, List.set_cons_succ]
  refine wpAnyH_take (i := 10) (v := .tuple #[.string T2, .bool ok2]) rfl (by kernel_rfl) (by kernel_rfl) (by kernel_rfl) (fun _ _ _ h => h) (Or.inl ⟨by rfl, ?_⟩) (by assumption) ?_
  · intro w5 s0
    go_simp
    try decide
  try simp only [Act.put, List.getElem_toArray, List.getElem_cons_zero, List.getElem_cons_succ, List.setIfInBounds_toArray, List.set_cons_zero, List.set_cons_succ]
  refine wpAnyH_take (i := 11) (v := .string T2) rfl (by kernel_rfl) (by kernel_rfl) (by kernel_rfl) (fun _ _ _ h => h) (Or.inl ⟨by rfl, ?_⟩) (by assumption) ?_
  · intro w5 s0
    go_simp
    try decide
  try simp only [Act.put, List.getElem_toArray, List.getElem_cons_zero, List.getElem_cons_succ, List.setIfInBounds_toArray, List.set_cons_zero, List.set_cons_succ]
  refine wpAnyH_take (i := 12) (v := .bool ok2) rfl (by kernel_rfl) (by kernel_rfl) (by kernel_rfl) (fun _ _ _ h => h) (Or.inl ⟨by rfl, ?_⟩) (by assumption) ?_
  · intro w5 s0
    go_simp
    try decide
  try simp only [Act.put, List.getElem_toArray, List.getElem_cons_zero, List.getElem_cons_succ, List.setIfInBounds_toArray, List.set_cons_zero, List.set_cons_succ]
  refine wpAnyH_take (i := 13) (v := .string T2) rfl (by kernel_rfl) (by kernel_rfl) (by kernel_rfl) (fun _ _ _ h => h) (Or.inl ⟨by rfl, ?_⟩) (by assumption) ?_
  · intro w5 s0
    go_simp
    try decide
  try simp only [Act.put, List.getElem_toArray, List.getElem_cons_zero, List.getElem_cons_succ, List.setIfInBounds_toArray, List.set_cons_zero, List.set_cons_succ]
  refine wpAnyH_take (i := 14) (v := .bool ok2) rfl (by kernel_rfl) (by kernel_rfl) (by kernel_rfl) (fun _ _ _ h => h) (Or.inl ⟨by rfl, ?_⟩) (by assumption) ?_
  · intro w5 s0
    go_simp
    try decide
  try simp only [Act.put, List.getElem_toArray, List.getElem_cons_zero, List.getElem_cons_succ, List.setIfInBounds_toArray, List.set_cons_zero, List.set_cons_succ]
  refine wpAnyH_done (by kernel_rfl) ?_ _
  have xq3 : Aq Z5 X p3 s3 := xz2.grown g5 (by omega)
  have yq3 : Aq Z5 (X + 1) p3 s3 := yz4.up bz5
  have wv3 : Below w.heap.size w Z5 := wz2.grown g5 wz2.size (fun k hk => by cases hk; omega)
  have zv3 : X + 2 ≤ Z5.heap.size := by have := g5.size; omega
  clear f21 hHeld hS g3 b3 g4 gz4 bz5 g5 gE bE yz2 wz2 bz2 hsz2 xz2 yz4 wu2 xu2 yu2 u2 bb2 xd2 xq2 yq2 wv2 zv2 hB2 hU2 hDo2' hdc2 hjd2 hM2 hJ2 bz3
  have hne2 := fun w => hne p3 s3 w
  go_wp2_with (first
    | (refine wpl_ldg drow_Asked rfl (.tmp 7) rfl (vs := [.int .i64 p3, .int .i64 s3]) rfl xq3.range rfl ?_)
    | (refine wpl_ldg drow_Asked rfl (.tmp 8) rfl (vs := [.int .i64 p3, .int .i64 s3]) rfl yq3.range rfl ?_))
  clear hne2
  generalize Z5 = V3 at *
  obtain ⟨T3, A3, ok3, p4, s4, bd3, hDo3, hdc3, hjd3⟩ := Rd sd p3 s3 (by omega) (by omega) (by omega) (by omega)
  clear Rd
  obtain ⟨U3, e3, u3, bb3⟩ := bxd V3
  clear bxd
  have wu3 : Below w.heap.size w U3 := wv3.trans (u3.mono wv3.size)
  have xu3 := xq3.up u3
  have yu3 := yq3.up u3
  have hB3 : X + 2 ≤ V3.heap.size := zv3
  have hU3 : X + 2 ≤ U3.heap.size := by have := u3.size; omega
  have hDo3' := hDo3 U3 X wu3 hX0
  unfold DoC dArgs at hDo3'
  clear hDo3
  obtain ⟨mt3, hmt3⟩ := hmz 4
  have hM3 := fun w => hM 4 w
  have hJ3 := fun w => hJ 4 w
  rw [hmt3] at hDo3' hM3 hJ3 hjd3
  clear hmt3
  generalize hXV3 : xd.v = XV3 at *
  clear hXV3
  rw [rounds_succ]
  go_upto_region 7 with (refine wpl_st row_Act rfl (.tmp 10) (.tmp 31) rfl (us := XV3) rfl rfl (sm_new _) rfl ld od ?_; rw [← e3]; clear e3)
  try simp only [Act.put]
  generalize hBn3 : V3.heap.size = B3 at *
  clear hBn3
  have gD3 : U3.grownBy U3.drew (some X) := xgr_below (Below.refl U3.heap.size U3).drew _
  have f30 : ∀ V, U3.grownBy V (some X) → (fun w' : World => w'.rangeAt B3 0 XV3) V := fun V gV => (bb3.grown gV (by omega)).range
  have xd3 : Aq U3.drew X p3 s3 := xu3.up (Below.refl U3.heap.size U3).drew
  refine wp_region_held_drew (S := fun w' => w'.rangeAt B3 0 XV3) (by kernel_rfl) (f30 _ gD3) ?_
  intro hS
  refine wpAnyH_take (i := 0) (v := .agg XV3.toArray) rfl (by kernel_rfl) (by kernel_rfl) (by kernel_rfl) (fun _ _ _ h => h) ?_ (by assumption) ?_
  · obtain ⟨⟨dd, r1, r2⟩, r3⟩ := row_Act
    exact yieldsIf_load_mid rfl 28 (.tmp 10) rfl B3 0 rfl XV3 dd (fun _ h => h) r1 r2 (by rw [ld]; exact r3)
  try simp only [Act.put, List.getElem_toArray, List.getElem_cons_zero, List.getElem_cons_succ, List.setIfInBounds_toArray, List.set_cons_zero, List.set_cons_succ]
  refine wpAnyH_take (i := 1) (v := .bool np) rfl (by kernel_rfl) (by kernel_rfl) (by kernel_rfl) (fun _ _ _ h => h) (Or.inl ⟨by rfl, ?_⟩) (by assumption) ?_
  · intro w5 s0
    go_simp
    try decide
  try simp only [Act.put, List.getElem_toArray, List.getElem_cons_zero, List.getElem_cons_succ, List.setIfInBounds_toArray, List.set_cons_zero, List.set_cons_succ]
  refine wpAnyH_take (i := 2) (v := .int .i32 v) rfl (by kernel_rfl) (by kernel_rfl) (by kernel_rfl) (fun _ _ _ h => h) (Or.inl ⟨by rfl, ?_⟩) (by assumption) ?_
  · intro w5 s0
    go_simp
    try decide
  try simp only [Act.put, List.getElem_toArray, List.getElem_cons_zero, List.getElem_cons_succ, List.setIfInBounds_toArray, List.set_cons_zero, List.set_cons_succ]
  refine wpAnyH_take (i := 3) (v := .int .i64 3) rfl (by kernel_rfl) (by kernel_rfl) (by kernel_rfl) (fun _ _ _ h => h) (Or.inl ⟨by rfl, ?_⟩) (by assumption) ?_
  · intro w5 s0
    go_simp
    try decide
  try simp only [Act.put, List.getElem_toArray, List.getElem_cons_zero, List.getElem_cons_succ, List.setIfInBounds_toArray, List.set_cons_zero, List.set_cons_succ]
  refine wpAnyH_take (i := 4) (v := .int .i64 4) rfl (by kernel_rfl) (by kernel_rfl) (by kernel_rfl) (fun _ _ _ h => h) (Or.inl ⟨by rfl, ?_⟩) (by assumption) ?_
  · intro w5 s0
    go_simp
    try decide
  try simp only [Act.put, List.getElem_toArray, List.getElem_cons_zero, List.getElem_cons_succ, List.setIfInBounds_toArray, List.set_cons_zero, List.set_cons_succ]
  refine wpAnyH_take (i := 6) (v := prF X) rfl (by kernel_rfl) (by kernel_rfl) (by kernel_rfl) (fun _ _ _ h => h) (Or.inl ⟨by rfl, ?_⟩) (by assumption) ?_
  · intro w5 s0
    go_simp
    try decide
  try simp only [Act.put, List.getElem_toArray, List.getElem_cons_zero, List.getElem_cons_succ, List.setIfInBounds_toArray, List.set_cons_zero, List.set_cons_succ]
  refine wpAnyH_take (i := 7) (v := shF X) rfl (by kernel_rfl) (by kernel_rfl) (by kernel_rfl) (fun _ _ _ h => h) (Or.inl ⟨by rfl, ?_⟩) (by assumption) ?_
  · intro w5 s0
    go_simp
    try decide
  try simp only [Act.put, List.getElem_toArray, List.getElem_cons_zero, List.getElem_cons_succ, List.setIfInBounds_toArray, List.set_cons_zero, List.set_cons_succ]
  refine wpAnyH_ready (rs := [5]) (by kernel_rfl) (by simp) ?_
  refine AllReadyH.cons rfl (fun K hK => ?_) AllReadyH.nil
  go_simp
  refine (hM3 _).mono ?_
  rintro e Z1 ⟨rfl, ez1⟩
  subst ez1
  refine hK.out _ _ (f30 _ gD3) (fun _ => ?_)
  try simp only [Act.put, List.getElem_toArray, List.getElem_cons_zero, List.getElem_cons_succ, List.setIfInBounds_toArray, List.set_cons_zero, List.set_cons_succ]
  refine wpAnyH_ready (rs := [8]) (by kernel_rfl) (by simp) ?_
  refine AllReadyH.cons rfl (fun K1 hK1 => ?_) AllReadyH.nil
  go_simp
  refine (hDo3' _ gD3 xd3).mono ?_
  rintro e Z2 ⟨rfl, xz2, gz2⟩
  have gu2 : U3.grownBy Z2 (some X) := gD3.trans gz2
  refine hK1.out _ _ (f30 Z2 gu2) (fun hHeld => ?_)
  clear hK hK1
  try simp only [Act.put, List.getElem_toArray, List.getElem_cons_zero, List.getElem_cons_succ, List.setIfInBounds_toArray, List.set_cons_zero, List.set_cons_succ]
  refine wpAnyH_take (i := 9) (v := .tuple #[.string T3, .bool ok3]) rfl (by kernel_rfl) (by kernel_rfl) (by kernel_rfl) (fun _ _ _ h => h) (Or.inl ⟨by rfl, ?_⟩) (by assumption) ?_
  · intro w5 s0
    go_simp
    try decide
  try simp only [Act.put, List.getElem_toArray, List.getElem_cons_zero, List.getElem_cons_succ, List.setIfInBounds_toArray, List.set_cons_zero, List.set_cons_succ]
  refine wpAnyH_take (i := 10) (v := .string T3) rfl (by kernel_rfl) (by kernel_rfl) (by kernel_rfl) (fun _ _ _ h => h) (Or.inl ⟨by rfl, ?_⟩) (by assumption) ?_
  · intro w5 s0
    go_simp
    try decide
  try simp only [Act.put, List.getElem_toArray, List.getElem_cons_zero, List.getElem_cons_succ, List.setIfInBounds_toArray, List.set_cons_zero, List.set_cons_succ]
  refine wpAnyH_take (i := 11) (v := .bool ok3) rfl (by kernel_rfl) (by kernel_rfl) (by kernel_rfl) (fun _ _ _ h => h) (Or.inl ⟨by rfl, ?_⟩) (by assumption) ?_
  · intro w5 s0
    go_simp
    try decide
  try simp only [Act.put, List.getElem_toArray, List.getElem_cons_zero, List.getElem_cons_succ, List.setIfInBounds_toArray, List.set_cons_zero, List.set_cons_succ]
  refine wpAnyH_take (i := 12) (v := .string T3) rfl (by kernel_rfl) (by kernel_rfl) (by kernel_rfl) (fun _ _ _ h => h) (Or.inl ⟨by rfl, ?_⟩) (by assumption) ?_
  · intro w5 s0
    go_simp
    try decide
  try simp only [Act.put, List.getElem_toArray, List.getElem_cons_zero, List.getElem_cons_succ, List.setIfInBounds_toArray, List.set_cons_zero, List.set_cons_succ]
  refine wpAnyH_take (i := 13) (v := .bool ok3) rfl (by kernel_rfl) (by kernel_rfl) (by kernel_rfl) (fun _ _ _ h => h) (Or.inl ⟨by rfl, ?_⟩) (by assumption) ?_
  · intro w5 s0
    go_simp
    try decide
  try simp only [Act.put, List.getElem_toArray, List.getElem_cons_zero, List.getElem_cons_succ, List.setIfInBounds_toArray, List.set_cons_zero, List.set_cons_succ]
  refine wpAnyH_done (by kernel_rfl) ?_ _
  have yz2 : Aq Z2 (X + 1) p3 s3 := yu3.grown gu2 (by omega)
  have wz2 : Below w.heap.size w Z2 := wu3.grown gu2 wu3.size (fun k hk => by cases hk; exact hX0)
  have bz2 : Blk Z2 B3 XV3 := bb3.grown gu2 (by omega)
  have hsz2 : X + 2 ≤ Z2.heap.size := by have := gu2.size; omega
  clear f30 hHeld gu2 gz2 gD3 hS
  go_upto_region 8 with fail
  have gE : Z2.grownBy Z2.drew (some (X + 1)) := xgr_below (Below.refl Z2.heap.size Z2).drew _
  have f31 : ∀ V, Z2.grownBy V (some (X + 1)) → (fun w' : World => w'.rangeAt B3 0 XV3) V := fun V gV => (bz2.grown gV (by omega)).range
  have bE : Below Z2.heap.size Z2 Z2.drew := (Below.refl Z2.heap.size Z2).drew
  refine wp_region_held_drew (S := fun w' => w'.rangeAt B3 0 XV3) (by kernel_rfl) (f31 _ gE) ?_
  intro hS
  refine wpAnyH_take (i := 0) (v := .agg XV3.toArray) rfl (by kernel_rfl) (by kernel_rfl) (by kernel_rfl) (fun _ _ _ h => h) ?_ (by assumption) ?_
  · obtain ⟨⟨dd, r1, r2⟩, r3⟩ := row_Act
    exact yieldsIf_load_mid rfl 28 (.tmp 10) rfl B3 0 rfl XV3 dd (fun _ h => h) r1 r2 (by rw [ld]; exact r3)
  try simp only [Act.put, List.getElem_toArray, List.getElem_cons_zero, List.getElem_cons_succ, List.setIfInBounds_toArray, List.set_cons_zero, List.set_cons_succ]
  refine wpAnyH_take (i := 1) (v := .bool np) rfl (by kernel_rfl) (by kernel_rfl) (by kernel_rfl) (fun _ _ _ h => h) (Or.inl ⟨by rfl, ?_⟩) (by assumption) ?_
  · intro w5 s0
    go_simp
    try decide
  try simp only [Act.put, List.getElem_toArray, List.getElem_cons_zero, List.getElem_cons_succ, List.setIfInBounds_toArray, List.set_cons_zero, List.set_cons_succ]
  refine wpAnyH_take (i := 2) (v := .int .i32 v) rfl (by kernel_rfl) (by kernel_rfl) (by kernel_rfl) (fun _ _ _ h => h) (Or.inl ⟨by rfl, ?_⟩) (by assumption) ?_
  · intro w5 s0
    go_simp
    try decide
  try simp only [Act.put, List.getElem_toArray, List.getElem_cons_zero, List.getElem_cons_succ, List.setIfInBounds_toArray, List.set_cons_zero, List.set_cons_succ]
  refine wpAnyH_take (i := 3) (v := .int .i64 3) rfl (by kernel_rfl) (by kernel_rfl) (by kernel_rfl) (fun _ _ _ h => h) (Or.inl ⟨by rfl, ?_⟩) (by assumption) ?_
  · intro w5 s0
    go_simp
    try decide
  try simp only [Act.put, List.getElem_toArray, List.getElem_cons_zero, List.getElem_cons_succ, List.setIfInBounds_toArray, List.set_cons_zero, List.set_cons_succ]
  refine wpAnyH_take (i := 4) (v := .int .i64 4) rfl (by kernel_rfl) (by kernel_rfl) (by kernel_rfl) (fun _ _ _ h => h) (Or.inl ⟨by rfl, ?_⟩) (by assumption) ?_
  · intro w5 s0
    go_simp
    try decide
  try simp only [Act.put, List.getElem_toArray, List.getElem_cons_zero, List.getElem_cons_succ, List.setIfInBounds_toArray, List.set_cons_zero, List.set_cons_succ]
  refine wpAnyH_take (i := 6) (v := .agg XV3.toArray) rfl (by kernel_rfl) (by kernel_rfl) (by kernel_rfl) (fun _ _ _ h => h) ?_ (by assumption) ?_
  · obtain ⟨⟨dd, r1, r2⟩, r3⟩ := row_Act
    exact yieldsIf_load_mid rfl 28 (.tmp 10) rfl B3 0 rfl XV3 dd (fun _ h => h) r1 r2 (by rw [ld]; exact r3)
  try simp only [Act.put, List.getElem_toArray, List.getElem_cons_zero, List.getElem_cons_succ, List.setIfInBounds_toArray, List.set_cons_zero, List.set_cons_succ]
  refine wpAnyH_take (i := 7) (v := .bool np) rfl (by kernel_rfl) (by kernel_rfl) (by kernel_rfl) (fun _ _ _ h => h) (Or.inl ⟨by rfl, ?_⟩) (by assumption) ?_
  · intro w5 s0
    go_simp
    try decide
  try simp only [Act.put, List.getElem_toArray, List.getElem_cons_zero, List.getElem_cons_succ, List.setIfInBounds_toArray, List.set_cons_zero, List.set_cons_succ]
  refine wpAnyH_ready (rs := [5]) (by kernel_rfl) (by simp) ?_
  refine AllReadyH.cons rfl (fun K hK => ?_) AllReadyH.nil
  go_simp
  refine (hJ3 _).mono ?_
  rintro e Z3 ⟨rfl, bz3⟩
  have g3 : Z2.grownBy Z3 (some (X + 1)) := gE.trans (xgr_below bz3 _)
  have b3 : Below Z2.heap.size Z2 Z3 := bE.trans (bz3.mono bE.size)
  refine hK.out _ _ (f31 _ g3) (fun _ => ?_)
  try simp only [Act.put, List.getElem_toArray, List.getElem_cons_zero, List.getElem_cons_succ, List.setIfInBounds_toArray, List.set_cons_zero, List.set_cons_succ]
  refine wpAnyH_ready (rs := [8]) (by kernel_rfl) (by simp) ?_
  refine AllReadyH.cons rfl (fun K1 hK1 => ?_) AllReadyH.nil
  go_simp
  refine (hdc3 Z3 (X + 1) (wz2.trans (b3.mono wz2.size)) (by omega) (yz2.up b3)).mono ?_
  rintro e Z4 ⟨rfl, yz4, gz4⟩
  have g4 : Z2.grownBy Z4 (some (X + 1)) := g3.trans gz4
  refine hK1.out _ _ (f31 _ g4) (fun _ => ?_)
  try simp only [Act.put, List.getElem_toArray, List.getElem_cons_zero, List.getElem_cons_succ, List.setIfInBounds_toArray, List.set_cons_zero, List.set_cons_succ]
  refine wpAnyH_ready (rs := [9]) (by kernel_rfl) (by simp) ?_
  refine AllReadyH.cons rfl (fun K2 hK2 => ?_) AllReadyH.nil
  go_simp
  refine (hjd3 _).mono ?_
  rintro e Z5 ⟨rfl, bz5⟩
  have g5 : Z2.grownBy Z5 (some (X + 1)) := g4.trans (xgr_below bz5 _)
  refine hK2.out _ _ (f31 _ g5) (fun hHeld => ?_)
  clear hK hK1 hK2
  try simp only [Act.put, List.getElem_toArray, List.getElem_cons_zero, List.getElem_cons_succ, List.setIfInBounds_toArray, List.set_cons_zero, List.set_cons_succ]
  refine wpAnyH_take (i := 10) (v := .tuple #[.string T3, .bool ok3]) rfl (by kernel_rfl) (by kernel_rfl) (by kernel_rfl) (fun _ _ _ h => h) (Or.inl ⟨by rfl, ?_⟩) (by assumption) ?_
  · intro w5 s0
    go_simp
    try decide
  try simp only [Act.put, List.getElem_toArray, List.getElem_cons_zero, List.getElem_cons_succ, List.setIfInBounds_toArray, List.set_cons_zero, List.set_cons_succ]
  refine wpAnyH_take (i := 11) (v := .string T3) rfl (by kernel_rfl) (by kernel_rfl) (by kernel_rfl) (fun _ _ _ h => h) (Or.inl ⟨by rfl, ?_⟩) (by assumption) ?_
  · intro w5 s0
    go_simp
    try decide
  try simp only [Act.put, List.getElem_toArray, List.getElem_cons_zero, List.getElem_cons_succ, List.setIfInBounds_toArray, List.set_cons_zero, List.set_cons_succ]
  refine wpAnyH_take (i := 12) (v := .bool ok3) rfl (by kernel_rfl) (by kernel_rfl) (by kernel_rfl) (fun _ _ _ h => h) (Or.inl ⟨by rfl, ?_⟩) (by assumption) ?_
  · intro w5 s0
    go_simp
    try decide
  try simp only [Act.put, List.getElem_toArray, List.getElem_cons_zero, List.getElem_cons_succ, List.setIfInBounds_toArray, List.set_cons_zero, List.set_cons_succ]
  refine wpAnyH_take (i := 13) (v := .string T3) rfl (by kernel_rfl) (by kernel_rfl) (by kernel_rfl) (fun _ _ _ h => h) (Or.inl ⟨by rfl, ?_⟩) (by assumption) ?_
  · intro w5 s0
    go_simp
    try decide
  try simp only [Act.put, List.getElem_toArray, List.getElem_cons_zero, List.getElem_cons_succ, List.setIfInBounds_toArray, List.set_cons_zero, List.set_cons_succ]
  refine wpAnyH_take (i := 14) (v := .bool ok3) rfl (by kernel_rfl) (by kernel_rfl) (by kernel_rfl) (fun _ _ _ h => h) (Or.inl ⟨by rfl, ?_⟩) (by assumption) ?_
  · intro w5 s0
    go_simp
    try decide
  try simp only [Act.put, List.getElem_toArray, List.getElem_cons_zero, List.getElem_cons_succ, List.setIfInBounds_toArray, List.set_cons_zero, List.set_cons_succ]
  refine wpAnyH_done (by kernel_rfl) ?_ _
  have xq4 : Aq Z5 X p4 s4 := xz2.grown g5 (by omega)
  have yq4 : Aq Z5 (X + 1) p4 s4 := yz4.up bz5
  have wv4 : Below w.heap.size w Z5 := wz2.grown g5 wz2.size (fun k hk => by cases hk; omega)
  have zv4 : X + 2 ≤ Z5.heap.size := by have := g5.size; omega
  clear f31 hHeld hS g3 b3 g4 gz4 bz5 g5 gE bE yz2 wz2 bz2 hsz2 xz2 yz4 wu3 xu3 yu3 u3 bb3 xd3 xq3 yq3 wv3 zv3 hB3 hU3 hDo3' hdc3 hjd3 hM3 hJ3 bz3
  have hne3 := fun w => hne p4 s4 w
  go_wp2_with (first
    | (refine wpl_ldg drow_Asked rfl (.tmp 7) rfl (vs := [.int .i64 p4, .int .i64 s4]) rfl xq4.range rfl ?_)
    | (refine wpl_ldg drow_Asked rfl (.tmp 8) rfl (vs := [.int .i64 p4, .int .i64 s4]) rfl yq4.range rfl ?_))
  clear hne3
  generalize Z5 = V4 at *
  rw [rounds_succ]
  have hL9 := hL V4 wv4
  go_wp2_with (go_at_call 13; refine hL9.mono ?_; rintro e W9 ⟨rfl, q9⟩)
  go_ret
  exact ⟨rfl, wv4.trans (q9.mono wv4.size)⟩
end Go.Proofs.YtbfaapbbhgegiaaDoor
