/- The walk of HooksNames. -/
import Derived.Test.YtbfaapbbhgegiaaDoorXGets
import Derived.Test.YtbfaapbbhgegiaaDoorOpenHooks
import Derived.Lib.OthersKept
namespace Go.Proofs.YtbfaapbbhgegiaaDoor
open Go.RowKit
set_option linter.unusedVariables false
set_option linter.unusedSimpArgs false

theorem hk_new (W : World) : Blk (W.alloc (.cells #[.int .i64 0, .string ⟨#[]⟩, .string ⟨#[]⟩, .slice none 0 0, .int .i64 0, .string ⟨#[]⟩, .int .u64 0, .int .u64 0, .string ⟨#[]⟩, .slice none 0 0, .slice none 0 0, .int .i64 0, .int .i64 0, .string ⟨#[]⟩, .string ⟨#[]⟩, .slice none 0 0, .int .i64 0, .string ⟨#[]⟩, .int .u64 0, .int .u64 0, .string ⟨#[]⟩, .slice none 0 0, .slice none 0 0, .int .i64 0, .int .i64 0, .string ⟨#[]⟩, .string ⟨#[]⟩, .slice none 0 0, .int .i64 0, .string ⟨#[]⟩, .int .u64 0, .int .u64 0, .string ⟨#[]⟩, .slice none 0 0, .slice none 0 0, .int .i64 0, .int .i64 0, .string ⟨#[]⟩, .string ⟨#[]⟩, .slice none 0 0, .int .i64 0, .string ⟨#[]⟩, .int .u64 0, .int .u64 0, .string ⟨#[]⟩, .slice none 0 0, .slice none 0 0, .int .i64 0] 30)) W.heap.size zH.v := Blk.new W zH.v 30
theorem hk_box (h : Hk) (W : World) : ∃ W2 : World, W2 = (W.alloc (.cells #[.int .i64 0, .string ⟨#[]⟩, .string ⟨#[]⟩, .slice none 0 0, .int .i64 0, .string ⟨#[]⟩, .int .u64 0, .int .u64 0, .string ⟨#[]⟩, .slice none 0 0, .slice none 0 0, .int .i64 0, .int .i64 0, .string ⟨#[]⟩, .string ⟨#[]⟩, .slice none 0 0, .int .i64 0, .string ⟨#[]⟩, .int .u64 0, .int .u64 0, .string ⟨#[]⟩, .slice none 0 0, .slice none 0 0, .int .i64 0, .int .i64 0, .string ⟨#[]⟩, .string ⟨#[]⟩, .slice none 0 0, .int .i64 0, .string ⟨#[]⟩, .int .u64 0, .int .u64 0, .string ⟨#[]⟩, .slice none 0 0, .slice none 0 0, .int .i64 0, .int .i64 0, .string ⟨#[]⟩, .string ⟨#[]⟩, .slice none 0 0, .int .i64 0, .string ⟨#[]⟩, .int .u64 0, .int .u64 0, .string ⟨#[]⟩, .slice none 0 0, .slice none 0 0, .int .i64 0] 30)).setCells W.heap.size 0 h.v ∧ Below W.heap.size W W2 ∧ Blk W2 W.heap.size h.v ∧ W2.heap.size = W.heap.size + 1 :=
  ⟨_, rfl, xbelow_sc ((Below.refl _ _).alloc (Nat.le_refl _) _) (Nat.le_refl _) _ _, (hk_new W).all h.v rfl, by rw [xsc_size]; simp⟩
def vsd : ByteArray := ⟨#[118, 115, 100]⟩
theorem vsd_0 : Utf8.decode vsd 0 = (118, 1) := by decide +kernel
theorem vsd_1 : Utf8.decode vsd 1 = (115, 1) := by decide +kernel
theorem vsd_2 : Utf8.decode vsd 2 = (100, 1) := by decide +kernel
set_option maxRecDepth 1000000 in
set_option maxHeartbeats 40000000 in
theorem hooksNames_walk (l : Sl) (n : Int) (hn : (Lit.int .i64 n).wf = true) (w : World) (hE : Esc w) (m : Nat) (hT : TbK m w l) : Calls Tryd.prog 4 #[.slice l.a l.n l.c, .int .i64 n] w fun e w' => e = .returned (.bool true) ∧ Below w.heap.size w w' := by
  have hmf : ∀ (fn : Fn) (first cap : Array Value) (w : World), (Instr.makeFunc fn first cap).run Tryd.prog w = .ok (.func fn first cap) w := fun _ _ _ _ => rfl
  have hL := fun (V : World) (hV : Below w.heap.size w V) => lives11_any V (hE.below hV)
  have hM := fun w => method_any n w
  have hJ := fun w => jmethod_any n w
  generalize mT n = MT at *
  obtain ⟨la, ln, lc⟩ := l
  obtain ⟨hc1, hc2, hT⟩ := hT
  dsimp only at hc1 hc2 hT
  dsimp only
  have hlnI : (ln : Int) ≤ 9223372036854775807 := by unfold maxLen at hc2; omega
  go_enter Tryd.func4, Tryd.ntmps4
  go_upto_region 1 with fail
  go_upto_if 15 with fail
  go_cut [0] (fun t wx => w = wx ∧ ∃ k c : Nat, k ≤ 40 ∧ k ≤ ln ∧ t = .slice la k c)
  case first =>
    as_aux_lemma =>
    by_cases hbig : (40 : Int) < ln
    · have h40 : (40 : Int) ≤ lc := by omega
      obtain ⟨b, off, rfl, _⟩ : ∃ b off, la = some ⟨b, off, none⟩ ∧ True := by
        rcases hT with h | ⟨b, off, h, _⟩
        · omega
        · exact ⟨b, off, h, trivial⟩
      go_wp2
      go_meet
      exact ⟨rfl, 40, _, by omega, by omega, rfl⟩
    · go_wp2
      go_meet
      exact ⟨rfl, ln, lc, by omega, by omega, rfl⟩
  case rest =>
  obtain ⟨rfl, k, c, hk40, hkl, rfl⟩ := hcut
  by_cases hin : 1 ≤ n ∧ n ≤ k ∧ n ≤ 16
  · obtain ⟨j, hj⟩ : ∃ j : Nat, n = (j : Int) + 1 := ⟨(n - 1).toNat, by omega⟩
    subst hj
    have hjk : j < k := by omega
    have hj16 : j < 16 := by omega
    obtain ⟨b, off, rfl, hbw, hrow⟩ : ∃ b off, la = some ⟨b, off, none⟩ ∧ b < w.heap.size ∧ ∀ i, i < ln → ∃ h : Hk, w.rangeAt b (off + i * 48) h.v ∧ HkR m w h := by
      rcases hT with h | h
      · omega
      · exact h
    obtain ⟨h, hr, hx⟩ := hrow j (by omega)
    clear hT hrow
    have up : ∀ V, Below w.heap.size w V → V.rangeAt b (off + j * 48) h.v ∧ HkR m V h ∧ b < V.heap.size := fun V hV => ⟨rng_up hV hbw hr, ⟨hx.1.up hV, hx.2.1.up hV, hx.2.2.1.up hV, hx.2.2.2.up hV⟩, Nat.lt_of_lt_of_le hbw hV.size⟩
    have G1 := fun (V : World) (hV : Below w.heap.size w V) => get_in m b off k c j h V hjk hj16 hk40 (up V hV).2.2 (up V hV).1 (up V hV).2.1
    have G2 := fun (V : World) (hV : Below w.heap.size w V) => jget_in b off k c j h V hjk hj16 hk40 (up V hV).2.2 (up V hV).1
    have hbox := fun (h : Hk) (W : World) => hk_box h W
    have P0 := G1 w (Below.refl _ _)
    go_upto_region 3 with fail
    go_upto_region 4 with (first
      | (go_at_call 14; refine P0.mono ?_; rintro e W2 ⟨⟨h1, rfl, kq1⟩, q2⟩; obtain ⟨W3, e3, q3, b3, s3⟩ := hbox h1 W2)
      | (refine wpl_st row_Hook rfl (.tmp 5) (.tmp 22) rfl (us := h1.v) rfl rfl (hk_new _) rfl h1.len h1.one ?_; rw [← e3]; clear e3))
    try simp only [Act.put]
    have w3 : Below w.heap.size w W3 := q2.trans (q3.mono q2.size)
    have P3 := G2 W3 w3
    clear b3 s3 kq1 P0 q2 q3
    go_upto_region 5 with (first
      | (go_at_call 15; refine P3.mono ?_; rintro e W4 ⟨rfl, q4⟩; obtain ⟨W5, e5, q5, b5, s5⟩ := hbox h W4)
      | (refine wpl_st row_Hook rfl (.tmp 7) (.tmp 28) rfl (us := h.v) rfl rfl (hk_new _) rfl h.len h.one ?_; rw [← e5]; clear e5))
    try simp only [Act.put]
    have w5 : Below w.heap.size w W5 := w3.trans ((q4.trans (q5.mono q4.size)).mono w3.size)
    clear b5 s5 w3 q4 q5 P3
    go_upto_region 8 with (first
      | (go_at_call 16; refine (hM _).mono ?_; rintro e W6 ⟨rfl, q6⟩; subst q6)
      | (go_at_call 17; refine (hJ _).mono ?_; rintro e W7 ⟨rfl, q7⟩))
    have w7 : Below w.heap.size w W7 := w5.trans (q7.mono w5.size)
    have P7 := G1 W7 w7
    clear w5 q7
    go_upto_region 9 with (first
      | (go_at_call 14; refine P7.mono ?_; rintro e W8 ⟨⟨h2, rfl, kq⟩, q8⟩; obtain ⟨W9, e9, q9, b9, s9⟩ := hbox h2 W8)
      | (refine wpl_st row_Hook rfl (.tmp 9) (.tmp 45) rfl (us := h2.v) rfl rfl (hk_new _) rfl h2.len h2.one ?_; rw [← e9]; clear e9))
    try simp only [Act.put]
    have w9 : Below w.heap.size w W9 := w7.trans ((q8.trans (q9.mono q8.size)).mono w7.size)
    have r9 : W9.rangeAt b (off + j * 48) h.v := (up W9 w9).1
    have hb9 : b < W9.heap.size := (up W9 w9).2.2
    have hB9 : W8.heap.size < W9.heap.size := by omega
    clear P7 w7 q8 q9 G1 G2 hbox up hr hx hbw s9
    go_upto_region 10 with fail
    have hdec : Utf8.decode ⟨#[118, 115, 100]⟩ 0 = (118, 1) ∧ Utf8.decode ⟨#[118, 115, 100]⟩ 1 = (115, 1) ∧ Utf8.decode ⟨#[118, 115, 100]⟩ 2 = (100, 1) ∧ (⟨#[118, 115, 100]⟩ : ByteArray).size = 3 := ⟨vsd_0, vsd_1, vsd_2, rfl⟩
    generalize (⟨#[118, 115, 100]⟩ : ByteArray) = S at *
    obtain ⟨d0, d1, d2, hs3⟩ := hdec
    have hit0 : (W9.iter S 0).heap[W9.heap.size]? = some (.stringIter S 0) := World.iter_heap W9 S 0
    have bv0 : Below W9.heap.size W9 (W9.iter S 0) := iter_below _ _ _
    generalize W9.iter S 0 = V0 at *
    have hl2 := h2.len
    have hl1 := h.len
    have hWa := fun v w => which_any h2 v false w
    have hWb := fun v w => jwhich_any h v false w
    have hWe : ∀ v, whN h2 v false = whN h v false := fun v => kq.wh v false
    simp only [hWe] at hWa
    clear hWe kq
    generalize hwf : whN h = WF at *
    clear hwf
    generalize h2.v = H2 at *
    generalize h.v = H at *
    have hz9 : W8.heap.size < W9.heap.size := hB9
    have hwK : w.heap.size ≤ W9.heap.size := w9.size
    have jk : (j : Int) < k := by omega
    have j0 : ¬ (j : Int) < 0 := by omega
    have j16 : (j : Int) ≤ 40 := by omega
    refine wp_loop_rounds 4 ?_
    have hnx : ∀ ty, (Instr.next (.pointer (some ⟨W9.heap.size, 0, none⟩)) true ty).run Tryd.prog V0 = _ := fun ty => Lib.run_next_any_at V0 W9.heap.size S 0 ty hit0 (by omega)
    rw [d0] at hnx
    have hitU := Lib.iterAt_heap V0 W9.heap.size S 0 (0 + 1) hit0
    have bU : Below W9.heap.size W9 (V0.iterAt W9.heap.size S (0 + 1)) := Lib.below_iterAt bv0 (Nat.le_refl _) S (0 + 1)
    dsimp only at hnx
    rw [rounds_succ]
    go_upto_region 12 with fail
    generalize V0.iterAt W9.heap.size S (0 + 1) = U0 at *
    clear hnx
    have fU : ∀ V, Below U0.heap.size U0 V → (fun w' : World => w'.rangeAt W8.heap.size 0 H2 ∧ w'.rangeAt b (off + j * 48) H) V := fun V q => by
      have q' : Below W9.heap.size W9 V := bU.trans (q.mono bU.size)
      exact ⟨(b9.up q').range, rng_up q' hb9 r9⟩
    have bD : Below U0.heap.size U0 U0.drew := (Below.refl U0.heap.size U0).drew
    have hA := fun w => hWa 118 w
    have hB := fun w => hWb 118 w
    generalize WF 118 false = R0 at hA hB
    refine wp_region_held_drew (S := fun w' => w'.rangeAt W8.heap.size 0 H2 ∧ w'.rangeAt b (off + j * 48) H) (by kernel_rfl) (fU _ bD) ?_
    intro hS
    refine wpAnyH_take (i := 0) (v := .agg H2.toArray) rfl (by kernel_rfl) (by kernel_rfl) (by kernel_rfl) (fun _ _ _ h => h) ?_ (by assumption) ?_
    · obtain ⟨⟨dd, r1, r2⟩, r3⟩ := row_Hook
      exact yieldsIf_load_mid rfl 30 (.tmp 9) rfl W8.heap.size 0 rfl H2 dd (fun _ h => h.1) r1 r2 (by rw [hl2]; exact r3)
    try simp only [Act.put, List.getElem_toArray, List.getElem_cons_zero, List.getElem_cons_succ, List.setIfInBounds_toArray, List.set_cons_zero, List.set_cons_succ]
    refine wpAnyH_take (i := 1) (v := .int .i32 118) rfl (by kernel_rfl) (by kernel_rfl) (by kernel_rfl) (fun _ _ _ h => h) (Or.inl ⟨by rfl, ?_⟩) (by assumption) ?_
    · intro w5 hSw
      go_simp
      try decide
    try simp only [Act.put, List.getElem_toArray, List.getElem_cons_zero, List.getElem_cons_succ, List.setIfInBounds_toArray, List.set_cons_zero, List.set_cons_succ]
    refine wpAnyH_take (i := 3) (v := .slice (some ⟨b, off, none⟩) k c) rfl (by kernel_rfl) (by kernel_rfl) (by kernel_rfl) (fun _ _ _ h => h) (Or.inl ⟨by rfl, ?_⟩) (by assumption) ?_
    · intro w5 hSw
      go_simp
      try decide
    try simp only [Act.put, List.getElem_toArray, List.getElem_cons_zero, List.getElem_cons_succ, List.setIfInBounds_toArray, List.set_cons_zero, List.set_cons_succ]
    refine wpAnyH_take (i := 4) (v := .int .i64 ((j : Int) + 1)) rfl (by kernel_rfl) (by kernel_rfl) (by kernel_rfl) (fun _ _ _ h => h) (Or.inl ⟨by rfl, ?_⟩) (by assumption) ?_
    · intro w5 hSw
      go_simp
      try decide
    try simp only [Act.put, List.getElem_toArray, List.getElem_cons_zero, List.getElem_cons_succ, List.setIfInBounds_toArray, List.set_cons_zero, List.set_cons_succ]
    refine wpAnyH_take (i := 5) (v := .int .i64 (j : Int)) rfl (by kernel_rfl) (by kernel_rfl) (by kernel_rfl) (fun _ _ _ h => h) (Or.inl ⟨by rfl, ?_⟩) (by assumption) ?_
    · intro w5 hSw
      go_simp
      first | done | (simp only [Int.add_sub_cancel]; rw [IntKind.wrap_i64]; omega) | (rw [IntKind.wrap_i64]; omega)
    try simp only [Act.put, List.getElem_toArray, List.getElem_cons_zero, List.getElem_cons_succ, List.setIfInBounds_toArray, List.set_cons_zero, List.set_cons_succ]
    refine wpAnyH_take (i := 6) (v := .pointer (some ⟨b, off + j * 48, none⟩)) rfl (by kernel_rfl) (by kernel_rfl) (by kernel_rfl) (fun _ _ _ h => h) (Or.inl ⟨by rfl, ?_⟩) (by assumption) ?_
    · intro w5 hSw
      go_simp
      try decide
    try simp only [Act.put, List.getElem_toArray, List.getElem_cons_zero, List.getElem_cons_succ, List.setIfInBounds_toArray, List.set_cons_zero, List.set_cons_succ]
    refine wpAnyH_take (i := 7) (v := .agg H.toArray) rfl (by kernel_rfl) (by kernel_rfl) (by kernel_rfl) (fun _ _ _ h => h) ?_ (by assumption) ?_
    · obtain ⟨⟨dd, r1, r2⟩, r3⟩ := row_Hook
      exact yieldsIf_load_mid rfl 30 (.tmp 57) rfl b (off + j * 48) rfl H dd (fun _ h => h.2) r1 r2 (by rw [hl1]; exact r3)
    try simp only [Act.put, List.getElem_toArray, List.getElem_cons_zero, List.getElem_cons_succ, List.setIfInBounds_toArray, List.set_cons_zero, List.set_cons_succ]
    refine wpAnyH_take (i := 8) (v := .int .i32 118) rfl (by kernel_rfl) (by kernel_rfl) (by kernel_rfl) (fun _ _ _ h => h) (Or.inl ⟨by rfl, ?_⟩) (by assumption) ?_
    · intro w5 hSw
      go_simp
      try decide
    try simp only [Act.put, List.getElem_toArray, List.getElem_cons_zero, List.getElem_cons_succ, List.setIfInBounds_toArray, List.set_cons_zero, List.set_cons_succ]
    refine wpAnyH_ready (rs := [2]) (by kernel_rfl) (by simp) ?_
    refine AllReadyH.cons rfl (fun K0 hK0 => ?_) AllReadyH.nil
    go_simp
    refine (hA _).mono ?_
    rintro e Y1 ⟨rfl, qy1⟩
    have b1 : Below U0.heap.size U0 Y1 := bD.trans (qy1.mono bD.size)
    refine hK0.out _ _ (fU _ b1) (fun _ => ?_)
    try simp only [Act.put, List.getElem_toArray, List.getElem_cons_zero, List.getElem_cons_succ, List.setIfInBounds_toArray, List.set_cons_zero, List.set_cons_succ]
    refine wpAnyH_ready (rs := [9]) (by kernel_rfl) (by simp) ?_
    refine AllReadyH.cons rfl (fun K1 hK1 => ?_) AllReadyH.nil
    go_simp
    refine (hB _).mono ?_
    rintro e Y2 ⟨rfl, qy2⟩
    have b2 : Below U0.heap.size U0 Y2 := b1.trans (qy2.mono b1.size)
    refine hK1.out _ _ (fU _ b2) (fun hHeld => ?_)
    clear hK0 hK1
    try simp only [Act.put, List.getElem_toArray, List.getElem_cons_zero, List.getElem_cons_succ, List.setIfInBounds_toArray, List.set_cons_zero, List.set_cons_succ]
    refine wpAnyH_take (i := 10) (v := .bool false) rfl (by kernel_rfl) (by kernel_rfl) (by kernel_rfl) (fun _ _ _ h => h) (Or.inl ⟨by rfl, ?_⟩) (by assumption) ?_
    · intro w5 hSw
      go_simp
      try decide
    try simp only [Act.put, List.getElem_toArray, List.getElem_cons_zero, List.getElem_cons_succ, List.setIfInBounds_toArray, List.set_cons_zero, List.set_cons_succ]
    refine wpAnyH_done (by kernel_rfl) ?_ _
    have hit1 : Y2.heap[W9.heap.size]? = some (.stringIter S 1) := (b2.block _ (Array.getElem?_eq_some_iff.1 hitU).1).trans hitU
    have bv1 : Below W9.heap.size W9 Y2 := bU.trans (b2.mono bU.size)
    clear fU hA hB hHeld hS b1 b2 qy1 qy2 bD hitU bU hit0 bv0
    go_wp2
    generalize Y2 = V1 at *
    have hnx : ∀ ty, (Instr.next (.pointer (some ⟨W9.heap.size, 0, none⟩)) true ty).run Tryd.prog V1 = _ := fun ty => Lib.run_next_any_at V1 W9.heap.size S 1 ty hit1 (by omega)
    rw [d1] at hnx
    have hitU := Lib.iterAt_heap V1 W9.heap.size S 1 (1 + 1) hit1
    have bU : Below W9.heap.size W9 (V1.iterAt W9.heap.size S (1 + 1)) := Lib.below_iterAt bv1 (Nat.le_refl _) S (1 + 1)
    dsimp only at hnx
    rw [rounds_succ]
    go_upto_region 12 with fail
    generalize V1.iterAt W9.heap.size S (1 + 1) = U1 at *
    clear hnx
    have fU : ∀ V, Below U1.heap.size U1 V → (fun w' : World => w'.rangeAt W8.heap.size 0 H2 ∧ w'.rangeAt b (off + j * 48) H) V := fun V q => by
      have q' : Below W9.heap.size W9 V := bU.trans (q.mono bU.size)
      exact ⟨(b9.up q').range, rng_up q' hb9 r9⟩
    have bD : Below U1.heap.size U1 U1.drew := (Below.refl U1.heap.size U1).drew
    have hA := fun w => hWa 115 w
    have hB := fun w => hWb 115 w
    generalize WF 115 false = R1 at hA hB
    refine wp_region_held_drew (S := fun w' => w'.rangeAt W8.heap.size 0 H2 ∧ w'.rangeAt b (off + j * 48) H) (by kernel_rfl) (fU _ bD) ?_
    intro hS
    refine wpAnyH_take (i := 0) (v := .agg H2.toArray) rfl (by kernel_rfl) (by kernel_rfl) (by kernel_rfl) (fun _ _ _ h => h) ?_ (by assumption) ?_
    · obtain ⟨⟨dd, r1, r2⟩, r3⟩ := row_Hook
      exact yieldsIf_load_mid rfl 30 (.tmp 9) rfl W8.heap.size 0 rfl H2 dd (fun _ h => h.1) r1 r2 (by rw [hl2]; exact r3)
    try simp only [Act.put, List.getElem_toArray, List.getElem_cons_zero, List.getElem_cons_succ, List.setIfInBounds_toArray, List.set_cons_zero, List.set_cons_succ]
    refine wpAnyH_take (i := 1) (v := .int .i32 115) rfl (by kernel_rfl) (by kernel_rfl) (by kernel_rfl) (fun _ _ _ h => h) (Or.inl ⟨by rfl, ?_⟩) (by assumption) ?_
    · intro w5 hSw
      go_simp
      try decide
    try simp only [Act.put, List.getElem_toArray, List.getElem_cons_zero, List.getElem_cons_succ, List.setIfInBounds_toArray, List.set_cons_zero, List.set_cons_succ]
    refine wpAnyH_take (i := 3) (v := .slice (some ⟨b, off, none⟩) k c) rfl (by kernel_rfl) (by kernel_rfl) (by kernel_rfl) (fun _ _ _ h => h) (Or.inl ⟨by rfl, ?_⟩) (by assumption) ?_
    · intro w5 hSw
      go_simp
      try decide
    try simp only [Act.put, List.getElem_toArray, List.getElem_cons_zero, List.getElem_cons_succ, List.setIfInBounds_toArray, List.set_cons_zero, List.set_cons_succ]
    refine wpAnyH_take (i := 4) (v := .int .i64 ((j : Int) + 1)) rfl (by kernel_rfl) (by kernel_rfl) (by kernel_rfl) (fun _ _ _ h => h) (Or.inl ⟨by rfl, ?_⟩) (by assumption) ?_
    · intro w5 hSw
      go_simp
      try decide
    try simp only [Act.put, List.getElem_toArray, List.getElem_cons_zero, List.getElem_cons_succ, List.setIfInBounds_toArray, List.set_cons_zero, List.set_cons_succ]
    refine wpAnyH_take (i := 5) (v := .int .i64 (j : Int)) rfl (by kernel_rfl) (by kernel_rfl) (by kernel_rfl) (fun _ _ _ h => h) (Or.inl ⟨by rfl, ?_⟩) (by assumption) ?_
    · intro w5 hSw
      go_simp
      first | done | (simp only [Int.add_sub_cancel]; rw [IntKind.wrap_i64]; omega) | (rw [IntKind.wrap_i64]; omega)
    try simp only [Act.put, List.getElem_toArray, List.getElem_cons_zero, List.getElem_cons_succ, List.setIfInBounds_toArray, List.set_cons_zero, List.set_cons_succ]
    refine wpAnyH_take (i := 6) (v := .pointer (some ⟨b, off + j * 48, none⟩)) rfl (by kernel_rfl) (by kernel_rfl) (by kernel_rfl) (fun _ _ _ h => h) (Or.inl ⟨by rfl, ?_⟩) (by assumption) ?_
    · intro w5 hSw
      go_simp
      try decide
    try simp only [Act.put, List.getElem_toArray, List.getElem_cons_zero, List.getElem_cons_succ, List.setIfInBounds_toArray, List.set_cons_zero, List.set_cons_succ]
    refine wpAnyH_take (i := 7) (v := .agg H.toArray) rfl (by kernel_rfl) (by kernel_rfl) (by kernel_rfl) (fun _ _ _ h => h) ?_ (by assumption) ?_
    · obtain ⟨⟨dd, r1, r2⟩, r3⟩ := row_Hook
      exact yieldsIf_load_mid rfl 30 (.tmp 57) rfl b (off + j * 48) rfl H dd (fun _ h => h.2) r1 r2 (by rw [hl1]; exact r3)
    try simp only [Act.put, List.getElem_toArray, List.getElem_cons_zero, List.getElem_cons_succ, List.setIfInBounds_toArray, List.set_cons_zero, List.set_cons_succ]
    refine wpAnyH_take (i := 8) (v := .int .i32 115) rfl (by kernel_rfl) (by kernel_rfl) (by kernel_rfl) (fun _ _ _ h => h) (Or.inl ⟨by rfl, ?_⟩) (by assumption) ?_
    · intro w5 hSw
      go_simp
      try decide
    try simp only [Act.put, List.getElem_toArray, List.getElem_cons_zero, List.getElem_cons_succ, List.setIfInBounds_toArray, List.set_cons_zero, List.set_cons_succ]
    refine wpAnyH_ready (rs := [2]) (by kernel_rfl) (by simp) ?_
    refine AllReadyH.cons rfl (fun K0 hK0 => ?_) AllReadyH.nil
    go_simp
    refine (hA _).mono ?_
    rintro e Y1 ⟨rfl, qy1⟩
    have b1 : Below U1.heap.size U1 Y1 := bD.trans (qy1.mono bD.size)
    refine hK0.out _ _ (fU _ b1) (fun _ => ?_)
    try simp only [Act.put, List.getElem_toArray, List.getElem_cons_zero, List.getElem_cons_succ, List.setIfInBounds_toArray, List.set_cons_zero, List.set_cons_succ]
    refine wpAnyH_ready (rs := [9]) (by kernel_rfl) (by simp) ?_
    refine AllReadyH.cons rfl (fun K1 hK1 => ?_) AllReadyH.nil
    go_simp
    refine (hB _).mono ?_
    rintro e Y2 ⟨rfl, qy2⟩
    have b2 : Below U1.heap.size U1 Y2 := b1.trans (qy2.mono b1.size)
    refine hK1.out _ _ (fU _ b2) (fun hHeld => ?_)
    clear hK0 hK1
    try simp only [Act.put, List.getElem_toArray, List.getElem_cons_zero, List.getElem_cons_succ, List.setIfInBounds_toArray, List.set_cons_zero, List.set_cons_succ]
    refine wpAnyH_take (i := 10) (v := .bool false) rfl (by kernel_rfl) (by kernel_rfl) (by kernel_rfl) (fun _ _ _ h => h) (Or.inl ⟨by rfl, ?_⟩) (by assumption) ?_
    · intro w5 hSw
      go_simp
      try decide
    try simp only [Act.put, List.getElem_toArray, List.getElem_cons_zero, List.getElem_cons_succ, List.setIfInBounds_toArray, List.set_cons_zero, List.set_cons_succ]
    refine wpAnyH_done (by kernel_rfl) ?_ _
    have hit2 : Y2.heap[W9.heap.size]? = some (.stringIter S 2) := (b2.block _ (Array.getElem?_eq_some_iff.1 hitU).1).trans hitU
    have bv2 : Below W9.heap.size W9 Y2 := bU.trans (b2.mono bU.size)
    clear fU hA hB hHeld hS b1 b2 qy1 qy2 bD hitU bU hit1 bv1
    go_wp2
    generalize Y2 = V2 at *
    have hnx : ∀ ty, (Instr.next (.pointer (some ⟨W9.heap.size, 0, none⟩)) true ty).run Tryd.prog V2 = _ := fun ty => Lib.run_next_any_at V2 W9.heap.size S 2 ty hit2 (by omega)
    rw [d2] at hnx
    have hitU := Lib.iterAt_heap V2 W9.heap.size S 2 (2 + 1) hit2
    have bU : Below W9.heap.size W9 (V2.iterAt W9.heap.size S (2 + 1)) := Lib.below_iterAt bv2 (Nat.le_refl _) S (2 + 1)
    dsimp only at hnx
    rw [rounds_succ]
    go_upto_region 12 with fail
    generalize V2.iterAt W9.heap.size S (2 + 1) = U2 at *
    clear hnx
    have fU : ∀ V, Below U2.heap.size U2 V → (fun w' : World => w'.rangeAt W8.heap.size 0 H2 ∧ w'.rangeAt b (off + j * 48) H) V := fun V q => by
      have q' : Below W9.heap.size W9 V := bU.trans (q.mono bU.size)
      exact ⟨(b9.up q').range, rng_up q' hb9 r9⟩
    have bD : Below U2.heap.size U2 U2.drew := (Below.refl U2.heap.size U2).drew
    have hA := fun w => hWa 100 w
    have hB := fun w => hWb 100 w
    generalize WF 100 false = R2 at hA hB
    refine wp_region_held_drew (S := fun w' => w'.rangeAt W8.heap.size 0 H2 ∧ w'.rangeAt b (off + j * 48) H) (by kernel_rfl) (fU _ bD) ?_
    intro hS
    refine wpAnyH_take (i := 0) (v := .agg H2.toArray) rfl (by kernel_rfl) (by kernel_rfl) (by kernel_rfl) (fun _ _ _ h => h) ?_ (by assumption) ?_
    · obtain ⟨⟨dd, r1, r2⟩, r3⟩ := row_Hook
      exact yieldsIf_load_mid rfl 30 (.tmp 9) rfl W8.heap.size 0 rfl H2 dd (fun _ h => h.1) r1 r2 (by rw [hl2]; exact r3)
    try simp only [Act.put, List.getElem_toArray, List.getElem_cons_zero, List.getElem_cons_succ, List.setIfInBounds_toArray, List.set_cons_zero, List.set_cons_succ]
    refine wpAnyH_take (i := 1) (v := .int .i32 100) rfl (by kernel_rfl) (by kernel_rfl) (by kernel_rfl) (fun _ _ _ h => h) (Or.inl ⟨by rfl, ?_⟩) (by assumption) ?_
    · intro w5 hSw
      go_simp
      try decide
    try simp only [Act.put, List.getElem_toArray, List.getElem_cons_zero, List.getElem_cons_succ, List.setIfInBounds_toArray, List.set_cons_zero, List.set_cons_succ]
    refine wpAnyH_take (i := 3) (v := .slice (some ⟨b, off, none⟩) k c) rfl (by kernel_rfl) (by kernel_rfl) (by kernel_rfl) (fun _ _ _ h => h) (Or.inl ⟨by rfl, ?_⟩) (by assumption) ?_
    · intro w5 hSw
      go_simp
      try decide
    try simp only [Act.put, List.getElem_toArray, List.getElem_cons_zero, List.getElem_cons_succ, List.setIfInBounds_toArray, List.set_cons_zero, List.set_cons_succ]
    refine wpAnyH_take (i := 4) (v := .int .i64 ((j : Int) + 1)) rfl (by kernel_rfl) (by kernel_rfl) (by kernel_rfl) (fun _ _ _ h => h) (Or.inl ⟨by rfl, ?_⟩) (by assumption) ?_
    · intro w5 hSw
      go_simp
      try decide
    try simp only [Act.put, List.getElem_toArray, List.getElem_cons_zero, List.getElem_cons_succ, List.setIfInBounds_toArray, List.set_cons_zero, List.set_cons_succ]
    refine wpAnyH_take (i := 5) (v := .int .i64 (j : Int)) rfl (by kernel_rfl) (by kernel_rfl) (by kernel_rfl) (fun _ _ _ h => h) (Or.inl ⟨by rfl, ?_⟩) (by assumption) ?_
    · intro w5 hSw
      go_simp
      first | done | (simp only [Int.add_sub_cancel]; rw [IntKind.wrap_i64]; omega) | (rw [IntKind.wrap_i64]; omega)
    try simp only [Act.put, List.getElem_toArray, List.getElem_cons_zero, List.getElem_cons_succ, List.setIfInBounds_toArray, List.set_cons_zero, List.set_cons_succ]
    refine wpAnyH_take (i := 6) (v := .pointer (some ⟨b, off + j * 48, none⟩)) rfl (by kernel_rfl) (by kernel_rfl) (by kernel_rfl) (fun _ _ _ h => h) (Or.inl ⟨by rfl, ?_⟩) (by assumption) ?_
    · intro w5 hSw
      go_simp
      try decide
    try simp only [Act.put, List.getElem_toArray, List.getElem_cons_zero, List.getElem_cons_succ, List.setIfInBounds_toArray, List.set_cons_zero, List.set_cons_succ]
    refine wpAnyH_take (i := 7) (v := .agg H.toArray) rfl (by kernel_rfl) (by kernel_rfl) (by kernel_rfl) (fun _ _ _ h => h) ?_ (by assumption) ?_
    · obtain ⟨⟨dd, r1, r2⟩, r3⟩ := row_Hook
      exact yieldsIf_load_mid rfl 30 (.tmp 57) rfl b (off + j * 48) rfl H dd (fun _ h => h.2) r1 r2 (by rw [hl1]; exact r3)
    try simp only [Act.put, List.getElem_toArray, List.getElem_cons_zero, List.getElem_cons_succ, List.setIfInBounds_toArray, List.set_cons_zero, List.set_cons_succ]
    refine wpAnyH_take (i := 8) (v := .int .i32 100) rfl (by kernel_rfl) (by kernel_rfl) (by kernel_rfl) (fun _ _ _ h => h) (Or.inl ⟨by rfl, ?_⟩) (by assumption) ?_
    · intro w5 hSw
      go_simp
      try decide
    try simp only [Act.put, List.getElem_toArray, List.getElem_cons_zero, List.getElem_cons_succ, List.setIfInBounds_toArray, List.set_cons_zero, List.set_cons_succ]
    refine wpAnyH_ready (rs := [2]) (by kernel_rfl) (by simp) ?_
    refine AllReadyH.cons rfl (fun K0 hK0 => ?_) AllReadyH.nil
    go_simp
    refine (hA _).mono ?_
    rintro e Y1 ⟨rfl, qy1⟩
    have b1 : Below U2.heap.size U2 Y1 := bD.trans (qy1.mono bD.size)
    refine hK0.out _ _ (fU _ b1) (fun _ => ?_)
    try simp only [Act.put, List.getElem_toArray, List.getElem_cons_zero, List.getElem_cons_succ, List.setIfInBounds_toArray, List.set_cons_zero, List.set_cons_succ]
    refine wpAnyH_ready (rs := [9]) (by kernel_rfl) (by simp) ?_
    refine AllReadyH.cons rfl (fun K1 hK1 => ?_) AllReadyH.nil
    go_simp
    refine (hB _).mono ?_
    rintro e Y2 ⟨rfl, qy2⟩
    have b2 : Below U2.heap.size U2 Y2 := b1.trans (qy2.mono b1.size)
    refine hK1.out _ _ (fU _ b2) (fun hHeld => ?_)
    clear hK0 hK1
    try simp only [Act.put, List.getElem_toArray, List.getElem_cons_zero, List.getElem_cons_succ, List.setIfInBounds_toArray, List.set_cons_zero, List.set_cons_succ]
    refine wpAnyH_take (i := 10) (v := .bool false) rfl (by kernel_rfl) (by kernel_rfl) (by kernel_rfl) (fun _ _ _ h => h) (Or.inl ⟨by rfl, ?_⟩) (by assumption) ?_
    · intro w5 hSw
      go_simp
      try decide
    try simp only [Act.put, List.getElem_toArray, List.getElem_cons_zero, List.getElem_cons_succ, List.setIfInBounds_toArray, List.set_cons_zero, List.set_cons_succ]
    refine wpAnyH_done (by kernel_rfl) ?_ _
    have hit3 : Y2.heap[W9.heap.size]? = some (.stringIter S 3) := (b2.block _ (Array.getElem?_eq_some_iff.1 hitU).1).trans hitU
    have bv3 : Below W9.heap.size W9 Y2 := bU.trans (b2.mono bU.size)
    clear fU hA hB hHeld hS b1 b2 qy1 qy2 bD hitU bU hit2 bv2
    go_wp2
    generalize Y2 = V3 at *
    have hnx : ∀ ty, (Instr.next (.pointer (some ⟨W9.heap.size, 0, none⟩)) true ty).run Tryd.prog V3 = _ := fun ty => Lib.run_next_end_at V3 W9.heap.size S 3 ty hit3 (by omega)
    rw [rounds_succ]
    have w10 : Below w.heap.size w V3 := w9.trans (bv3.mono w9.size)
    have hL10 := hL V3 w10
    go_wp2_with (go_at_call 13; refine hL10.mono ?_; rintro e W11 ⟨rfl, q11⟩)
    go_ret
    exact ⟨rfl, w10.trans (q11.mono w10.size)⟩
  · have hi : n < 1 ∨ (1 ≤ n ∧ (k : Int) < n) ∨ (1 ≤ n ∧ n ≤ k ∧ 16 < n) := by omega
    clear hT hin
    have P0 := get_no la k c n w hi
    have G2 := fun V => jget_no la k c n V hi
    have hbox := fun (W : World) => hk_box zH W
    have hzo := zH.one
    have hzl := zH.len
    have hnw := fun W => hk_new W
    clear hi
    generalize zH.v = ZV at *
    go_upto_region 3 with fail
    go_upto_region 4 with (first
      | (go_at_call 14; refine P0.mono ?_; rintro e W2 ⟨rfl, q2⟩; obtain ⟨W3, e3, q3, b3, s3⟩ := hbox W2)
      | (refine wpl_st row_Hook rfl (.tmp 5) (.tmp 22) rfl (us := ZV) rfl rfl (hnw _) hzl hzl hzo ?_; rw [← e3]; clear e3))
    try simp only [Act.put]
    have w3 : Below w.heap.size w W3 := q2.trans (q3.mono q2.size)
    clear b3 s3 P0 q2 q3
    have P3 := G2 W3
    go_upto_region 5 with (first
      | (go_at_call 15; refine P3.mono ?_; rintro e W4 ⟨rfl, q4⟩; obtain ⟨W5, e5, q5, b5, s5⟩ := hbox W4)
      | (refine wpl_st row_Hook rfl (.tmp 7) (.tmp 28) rfl (us := ZV) rfl rfl (hnw _) hzl hzl hzo ?_; rw [← e5]; clear e5))
    try simp only [Act.put]
    have w5 : Below w.heap.size w W5 := w3.trans ((q4.trans (q5.mono q4.size)).mono w3.size)
    clear b5 s5 w3 q4 q5 P3 hbox hnw G2
    have hL5 := fun V (q : Below W5.heap.size W5 V) => hL V (w5.trans (q.mono w5.size))
    go_wp2_with (first
      | (go_at_call 16; refine (hM _).mono ?_; rintro e W6 ⟨rfl, q6⟩; subst q6)
      | (go_at_call 17; refine (hJ _).mono ?_; rintro e W7 ⟨rfl, q7⟩)
      | (go_at_call 13; refine (hL5 _ q7).mono ?_; rintro e W8 ⟨rfl, q8⟩))
    go_ret
    exact ⟨rfl, w5.trans ((q7.trans (q8.mono q7.size)).mono w5.size)⟩
end Go.Proofs.YtbfaapbbhgegiaaDoor
