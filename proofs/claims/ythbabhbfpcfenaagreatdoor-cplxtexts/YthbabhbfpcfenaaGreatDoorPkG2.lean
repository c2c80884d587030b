/- MGen, MGenT: these texts in one. -/
import Derived.Test.YthbabhbfpcfenaaGreatDoorPkK3
import Derived.Test.YthbabhbfpcfenaaGreatDoorPkM11
/- The document's general (v, g, G), walked. -/
namespace Go.Proofs.YthbabhbfpcfenaaGreatDoor
open Go.RowKit
set_option linter.unusedVariables false
set_option linter.unusedSimpArgs false

abbrev MgC (bits : Nat) (size : Int) (S : ByteArray) (Q k : Int) (p mi sh sp z : Bool) (wid prec verb : Int) (T : ByteArray) : Prop := ∀ w, Calls Tryz.prog 71 #[.int .u64 bits, .int .i64 size, .agg #[.string S, .int .i64 Q], .int .i64 k, .agg #[.bool p, .bool mi, .bool sh, .bool sp, .bool z, .int .i64 wid, .int .i64 prec, .int .i32 verb]] w fun e w' => e = .returned (.string T) ∧ Below w.heap.size w w'
/-- How many digits, and how many of them behind the point. -/
def nG (sh : Bool) (L : Nat) (many : Int) : Int := if sh = true ∧ max (L : Int) 1 < many then many else max (L : Int) 1
set_option maxRecDepth 1000000 in
set_option maxHeartbeats 4000000 in
theorem gen_run {bits : Nat} {size Q k Q0 QD top many x : Int} {S S0 SD D T : ByteArray} {L : Nat} {shv : Bool} (p mi sh sp z : Bool) (wid prec verb : Int) (hshv : shv = (sh && decide (verb ≠ 118))) (hK : KshC bits size S0 Q0 0) (hk1 : k ≤ 1000)
    (hcase : k < 0 ∧ top = 21 ∧ many = 6 ∧ S0 = SD ∧ Q0 = QD ∨ 0 ≤ k ∧ many = max k 1 ∧ top = many ∧ HrC S Q many SD QD) (hL : SD.size = L) (hL2 : L ≤ 2000) (hx0 : -20000 ≤ x) (hx1 : x ≤ 20000)
    (hF : ∀ w, Calls Tryz.prog 68 #[.agg #[.string SD, .int .i64 QD]] w fun y w' => y = .returned (.int .i64 x) ∧ Below w.heap.size w w')
    (hR : (x < -4 ∨ top ≤ x) ∧ (∀ w, Calls Tryz.prog 67 #[.agg #[.string SD, .int .i64 QD], .int .i64 (nG shv L many)] w fun e w' => e = .returned (.string D) ∧ Below w.heap.size w w') ∧ (∀ w, Calls Tryz.prog 66 #[.string D, .int .i64 x, .int .i32 verb, .bool shv] w fun e w' => e = .returned (.string T) ∧ Below w.heap.size w w')
      ∨ ¬ (x < -4 ∨ top ≤ x) ∧ (∀ w, Calls Tryz.prog 70 #[.agg #[.string SD, .int .i64 QD], .int .i64 (max (nG shv L many - 1 - x) 0), .bool shv] w fun e w' => e = .returned (.string T) ∧ Below w.heap.size w w')) : MgC bits size S Q k p mi sh sp z wid prec verb T := fun w => by
  obtain ⟨W0, hW0⟩ : ∃ W0, (w.alloc (.cells #[.string S, .int .i64 Q] 91)).alloc (.cells #[.bool p, .bool mi, .bool sh, .bool sp, .bool z, .int .i64 wid, .int .i64 prec, .int .i32 verb] 26) = W0 := ⟨_, rfl⟩
  have hb0 : Below w.heap.size w W0 := by rw [← hW0]; exact ((Below.refl _ _).alloc (Nat.le_refl _) _).alloc (by simp) _
  have a0 : W0.cell? ⟨w.heap.size, 0, none⟩ = some (.string S) := by rw [← hW0]; simp
  have a1 : W0.cell? ⟨w.heap.size, 1, none⟩ = some (.int .i64 Q) := by rw [← hW0]; simp
  have f2 : W0.cell? ⟨w.heap.size + 1, 2, none⟩ = some (.bool sh) := by rw [← hW0]; simp
  have f7 : W0.cell? ⟨w.heap.size + 1, 7, none⟩ = some (.int .i32 verb) := by rw [← hW0]; simp
  have l1 : w.heap.size + 1 < W0.heap.size := World.block_lt_of_cell? W0 _ f2
  have l0 : w.heap.size < W0.heap.size := by omega
  go_enter Tryz.func71, Tryz.ntmps71
  go_upto_region 1 with fail
  try rw [hW0]
  clear hW0
  go_cut [11] (fun b wx => W0 = wx ∧ b = .bool shv)
  case first =>
    as_aux_lemma =>
    clear hK hcase hF hR
    cases sh with
    | false =>
      have e : shv = false := by rw [hshv]; rfl
      clear hshv
      subst e
      go_wp2
      go_meet
      exact ⟨rfl, rfl⟩
    | true =>
      by_cases hv : verb = 118
      · have e : shv = false := by rw [hshv, hv]; rfl
        have b1 : (verb != 118) = false := by rw [hv]; rfl
        clear hshv hv
        subst e
        go_wp2
        go_meet
        exact ⟨rfl, rfl⟩
      · have e : shv = true := by rw [hshv, decide_eq_true hv]; rfl
        have b1 : (verb != 118) = true := by rw [bne_iff_ne]; exact hv
        clear hshv
        subst e
        go_wp2
        go_meet
        exact ⟨rfl, rfl⟩
  case rest =>
  obtain ⟨hw, rfl⟩ := hcut
  subst hw
  clear hshv
  go_upto_if 33 with (go_at_call 111; (with_reducible refine (hK _).mono ?_); rintro y w2 ⟨rfl, hb2⟩)
  have hbw2 := bel_call hb0 hb2 (Nat.le_refl _)
  have a0' := (hb2.cell (p := ⟨w.heap.size, 0, none⟩) l0).trans a0
  have a1' := (hb2.cell (p := ⟨w.heap.size, 1, none⟩) l0).trans a1
  have f7' := (hb2.cell (p := ⟨w.heap.size + 1, 7, none⟩) l1).trans f7
  have l1' : w.heap.size + 1 < w2.heap.size := Nat.lt_of_lt_of_le l1 hb2.size
  have l0' : w.heap.size < w2.heap.size := by omega
  obtain ⟨W2, hW2⟩ : ∃ W2, w2.alloc (.cells #[.string S0, .int .i64 Q0] 91) = W2 := ⟨_, rfl⟩
  have bD : BoxD W2 w2.heap.size (.string S0) (.int .i64 Q0) := by rw [← hW2]; simp [BoxD, go_sem]
  have c0 : W2.cell? ⟨w.heap.size, 0, none⟩ = some (.string S) := by rw [← hW2]; exact (World.cell?_alloc_past _ _ _ l0').trans a0'
  have c1 : W2.cell? ⟨w.heap.size, 1, none⟩ = some (.int .i64 Q) := by rw [← hW2]; exact (World.cell?_alloc_past _ _ _ l0').trans a1'
  have c7 : W2.cell? ⟨w.heap.size + 1, 7, none⟩ = some (.int .i32 verb) := by rw [← hW2]; exact (World.cell?_alloc_past _ _ _ l1').trans f7'
  have hbW : Below w.heap.size w W2 := by rw [← hW2]; exact hbw2.alloc hbw2.size _
  generalize hBd : w2.heap.size = Bd at *
  clear hBd
  try rw [hW2]
  clear hW2 hb2 hbw2 a0 a1 f2 f7 a0' a1' f7' l0 l1 hb0 hK W0 w2
  have lD : Bd < W2.heap.size := World.block_lt_of_cell? W2 _ bD.1
  have l7 : w.heap.size + 1 < W2.heap.size := World.block_lt_of_cell? W2 _ c7
  go_cut [14, 15, 33] (fun tv mv gv wx => tv = .int .i64 top ∧ mv = .int .i64 many ∧ BoxD wx Bd (.string SD) (.int .i64 QD) ∧ wx.cell? ⟨w.heap.size + 1, 7, none⟩ = some (.int .i32 verb) ∧ Below w.heap.size w wx)
  case first =>
    as_aux_lemma =>
    clear hF hR
    rcases hcase with ⟨h1, rfl, rfl, rfl, rfl⟩ | ⟨h1, h2, rfl, hH⟩
    · go_wp2
      go_meet
      exact ⟨rfl, rfl, bD, c7, hbW⟩
    · obtain ⟨d0, d1, d2, d3⟩ := id bD
      by_cases hk0 : k = 0
      · have e : top = 1 := by rw [h2, hk0]; rfl
        subst e hk0
        clear h2
        go_wp2_with (go_at_call 65; (with_reducible refine (hH _).mono ?_); rintro y w3 ⟨rfl, hb3⟩; have bD3 := keepb hb3 bD; obtain ⟨d0, d1, d2, d3⟩ := id bD3; have c73 := (hb3.cell (p := ⟨w.heap.size + 1, 7, none⟩) l7).trans c7; have hbw3 := bel_call hbW hb3 (Nat.le_refl _))
        go_meet
        exact ⟨rfl, rfl, bD3.put _ _, set_past (by omega) (set_past (by omega) c73), (hbw3.setCell (by dsimp only; omega) _).setCell (by dsimp only; omega) _⟩
      · have e : top = k := by rw [h2]; omega
        have hk0I : (k == 0) = false := beq_eq_false_iff_ne.2 hk0
        subst e
        clear h2
        go_wp2_with (go_at_call 65; (with_reducible refine (hH _).mono ?_); rintro y w3 ⟨rfl, hb3⟩; have bD3 := keepb hb3 bD; obtain ⟨d0, d1, d2, d3⟩ := id bD3; have c73 := (hb3.cell (p := ⟨w.heap.size + 1, 7, none⟩) l7).trans c7; have hbw3 := bel_call hbW hb3 (Nat.le_refl _))
        go_meet
        exact ⟨rfl, rfl, bD3.put _ _, set_past (by omega) (set_past (by omega) c73), (hbw3.setCell (by dsimp only; omega) _).setCell (by dsimp only; omega) _⟩
  case rest =>
  obtain ⟨rfl, rfl, bD2, c72, hbc⟩ := hcut
  rename World => W3
  have hm1 : many ≤ 1000 ∧ 0 ≤ many := by rcases hcase with ⟨-, -, rfl, -, -⟩ | ⟨h1, rfl, -, -⟩ <;> omega
  clear bD c0 c1 c7 hbW lD l7 hcase
  obtain ⟨d0, d1, d2, d3⟩ := id bD2
  have HLe : Hid (SD.size = L) := hL
  have hLI : (SD.size : Int) ≤ 2000 := by omega
  clear hL
  go_upto_if 48 with fail
  go_cut [16, 48] (fun nv gv wx => W3 = wx ∧ nv = .int .i64 (max (L : Int) 1))
  case first =>
    as_aux_lemma =>
    clear hF hR
    by_cases h0 : L = 0
    · have e0 : SD.size = 0 := by rw [HLe.out, h0]
      have e1 : ((SD.size : Int) == 0) = true := by rw [e0]; rfl
      have HM : Hid (max (L : Int) 1 = 1) := by show _ = _; rw [h0]; rfl
      clear HLe e0 h0
      go_wp2
      go_meet
      exact ⟨rfl, by rw [HM.out]⟩
    · have e1 : ((SD.size : Int) == 0) = false := by rw [beq_eq_false_iff_ne, HLe.out]; omega
      have HM : Hid (max (L : Int) 1 = (SD.size : Int)) := by show _ = _; rw [HLe.out]; omega
      clear HLe h0
      go_wp2
      go_meet
      exact ⟨rfl, by rw [HM.out]⟩
  case rest =>
  obtain ⟨hw, rfl⟩ := hcut
  subst hw
  obtain ⟨n1, hn1⟩ : ∃ n1, max (L : Int) 1 = n1 := ⟨_, rfl⟩
  have hn1b : 1 ≤ n1 ∧ n1 ≤ 2000 := by omega
  have HN1 : Hid (max (L : Int) 1 = n1) := hn1
  rw [hn1]
  clear hn1 HLe
  go_upto_region 13 with fail
  go_cut [54] (fun gv wx => W3 = wx ∧ gv = .bool (decide (shv = true ∧ n1 < many)))
  case first =>
    as_aux_lemma =>
    clear hF hR
    cases shv with
    | false =>
      go_wp2
      go_meet
      exact ⟨rfl, by simp⟩
    | true =>
      by_cases h1 : n1 < many
      · go_wp2
        go_meet
        exact ⟨rfl, by simp [h1]⟩
      · go_wp2
        go_meet
        exact ⟨rfl, by simp [h1]⟩
  case rest =>
  obtain ⟨hw, hg⟩ := hcut
  subst hw
  obtain ⟨n2, hn2⟩ : ∃ n2, nG shv L many = n2 := ⟨_, rfl⟩
  have HN2 : Hid (n2 = if shv = true ∧ n1 < many then many else n1) := by show _ = _; rw [← hn2]; unfold nG; rw [HN1.out]
  rw [hn2] at hR
  have hn2b : 1 ≤ n2 ∧ n2 ≤ 2000 := by rw [HN2.out]; split <;> omega
  clear hn2 HN1
  go_upto_if 54 with fail
  go_cut [16] (fun nv wx => W3 = wx ∧ nv = .int .i64 n2)
  case first =>
    as_aux_lemma =>
    clear hF hR
    by_cases h1 : shv = true ∧ n1 < many
    · rw [decide_eq_true h1] at hg
      have e : n2 = many := by rw [HN2.out, if_pos h1]
      clear HN2 h1
      subst hg e
      go_wp2
      go_meet
      exact ⟨rfl, rfl⟩
    · rw [decide_eq_false h1] at hg
      have e : n2 = n1 := by rw [HN2.out, if_neg h1]
      clear HN2 h1
      subst hg e
      go_wp2
      go_meet
      exact ⟨rfl, rfl⟩
  case rest =>
  obtain ⟨hw, rfl⟩ := hcut
  subst hw hg
  clear HN2
  go_upto_region 16 with (go_at_call 68; (with_reducible refine (hF _).mono ?_); rintro y w4 ⟨rfl, hb4⟩)
  have bD4 := keepb hb4 bD2
  have l74 : w.heap.size + 1 < W3.heap.size := World.block_lt_of_cell? W3 _ c72
  have c74 := (hb4.cell (p := ⟨w.heap.size + 1, 7, none⟩) l74).trans c72
  have hbw4 := bel_call hbc hb4 (Nat.le_refl _)
  clear bD2 c72 hbc hb4 d0 d1 d2 d3 l74 hF
  obtain ⟨d0, d1, d2, d3⟩ := id bD4
  rcases hR with ⟨h1, hDg, hSc⟩ | ⟨h1, hPo⟩
  · by_cases h2 : x < -4
    · go_wp2
      refine wp_region_above w4 (Below.refl _ _) (by kernel_rfl) (by kernel_rfl) ?_
      intro hCl
      have k0 : ∀ x : Cl w4, x.w.cell? ⟨Bd, 0, none⟩ = some (.string SD) := fun x => x.cell d0
      have k1 : ∀ x : Cl w4, x.w.cell? ⟨Bd, 1, none⟩ = some (.int .i64 QD) := fun x => x.cell d1
      have k2 : ∀ x : Cl w4, x.w.cell? ⟨w.heap.size + 1, 7, none⟩ = some (.int .i32 verb) := fun x => x.cell c74
      repeat (go_big_quiet_step ((first | (go_at_call 67; exact Cl.call (hDg _)) | (go_at_call 66; exact Cl.call (hSc _)))))
      refine wpQuiet_nil ?_
      intro _ hw'
      obtain ⟨y, hx⟩ := hw'
      subst hx
      go_wp2
      go_ret
      exact ⟨rfl, bel_call hbw4 y.below (Nat.le_refl _)⟩
    · have h3 : top ≤ x := by omega
      go_wp2
      refine wp_region_above w4 (Below.refl _ _) (by kernel_rfl) (by kernel_rfl) ?_
      intro hCl
      have k0 : ∀ x : Cl w4, x.w.cell? ⟨Bd, 0, none⟩ = some (.string SD) := fun x => x.cell d0
      have k1 : ∀ x : Cl w4, x.w.cell? ⟨Bd, 1, none⟩ = some (.int .i64 QD) := fun x => x.cell d1
      have k2 : ∀ x : Cl w4, x.w.cell? ⟨w.heap.size + 1, 7, none⟩ = some (.int .i32 verb) := fun x => x.cell c74
      repeat (go_big_quiet_step ((first | (go_at_call 67; exact Cl.call (hDg _)) | (go_at_call 66; exact Cl.call (hSc _)))))
      refine wpQuiet_nil ?_
      intro _ hw'
      obtain ⟨y, hx⟩ := hw'
      subst hx
      go_wp2
      go_ret
      exact ⟨rfl, bel_call hbw4 y.below (Nat.le_refl _)⟩
  · have h2 : ¬ x < -4 := by omega
    have h3 : ¬ top ≤ x := by omega
    by_cases h4 : n2 - 1 - x < 0
    · have e4 : max (n2 - 1 - x) 0 = 0 := by omega
      rw [e4] at hPo
      go_wp2_with (go_at_call 70; (with_reducible refine (hPo _).mono ?_); rintro y w5 ⟨rfl, hb5⟩)
      go_ret
      exact ⟨rfl, bel_call hbw4 hb5 (Nat.le_refl _)⟩
    · have e4 : max (n2 - 1 - x) 0 = n2 - 1 - x := by omega
      rw [e4] at hPo
      go_wp2_with (go_at_call 70; (with_reducible refine (hPo _).mono ?_); rintro y w5 ⟨rfl, hb5⟩)
      go_ret
      exact ⟨rfl, bel_call hbw4 hb5 (Nat.le_refl _)⟩
end Go.Proofs.YthbabhbfpcfenaaGreatDoor

/- The document's Bare by v, g and G is what the program writes. -/
namespace Go.Proofs.YthbabhbfpcfenaaGreatDoor
open Go.RowKit
set_option linter.unusedVariables false
set_option linter.unusedSimpArgs false

set_option maxRecDepth 1000000 in
set_option maxHeartbeats 2000000 in
theorem bare_103 {bits m : Nat} {size e k Q : Int} {S T : ByteArray} (p mi sh sp z : Bool) (wid prec : Int) (hW : WdC prec k) (hX : HxC m e S Q) (hG : MgC bits size S Q k p mi sh sp z wid prec 103 T) : BaC bits size m e p mi sh sp z wid prec 103 T := fun w => by
  have hbA : Below w.heap.size w (w.alloc (.cells #[.bool p, .bool mi, .bool sh, .bool sp, .bool z, .int .i64 wid, .int .i64 prec, .int .i32 103] 26)) := (Below.refl _ _).alloc (Nat.le_refl _) _
  have f0 : ∀ x : Cl (w.alloc (.cells #[.bool p, .bool mi, .bool sh, .bool sp, .bool z, .int .i64 wid, .int .i64 prec, .int .i32 103] 26)), x.w.cell? ⟨w.heap.size, 0, none⟩ = some (.bool p) := fun x => x.cell (by simp)
  have f1 : ∀ x : Cl (w.alloc (.cells #[.bool p, .bool mi, .bool sh, .bool sp, .bool z, .int .i64 wid, .int .i64 prec, .int .i32 103] 26)), x.w.cell? ⟨w.heap.size, 1, none⟩ = some (.bool mi) := fun x => x.cell (by simp)
  have f2 : ∀ x : Cl (w.alloc (.cells #[.bool p, .bool mi, .bool sh, .bool sp, .bool z, .int .i64 wid, .int .i64 prec, .int .i32 103] 26)), x.w.cell? ⟨w.heap.size, 2, none⟩ = some (.bool sh) := fun x => x.cell (by simp)
  have f3 : ∀ x : Cl (w.alloc (.cells #[.bool p, .bool mi, .bool sh, .bool sp, .bool z, .int .i64 wid, .int .i64 prec, .int .i32 103] 26)), x.w.cell? ⟨w.heap.size, 3, none⟩ = some (.bool sp) := fun x => x.cell (by simp)
  have f4 : ∀ x : Cl (w.alloc (.cells #[.bool p, .bool mi, .bool sh, .bool sp, .bool z, .int .i64 wid, .int .i64 prec, .int .i32 103] 26)), x.w.cell? ⟨w.heap.size, 4, none⟩ = some (.bool z) := fun x => x.cell (by simp)
  have f5 : ∀ x : Cl (w.alloc (.cells #[.bool p, .bool mi, .bool sh, .bool sp, .bool z, .int .i64 wid, .int .i64 prec, .int .i32 103] 26)), x.w.cell? ⟨w.heap.size, 5, none⟩ = some (.int .i64 wid) := fun x => x.cell (by simp)
  have f6 : ∀ x : Cl (w.alloc (.cells #[.bool p, .bool mi, .bool sh, .bool sp, .bool z, .int .i64 wid, .int .i64 prec, .int .i32 103] 26)), x.w.cell? ⟨w.heap.size, 6, none⟩ = some (.int .i64 prec) := fun x => x.cell (by simp)
  have f7 : ∀ x : Cl (w.alloc (.cells #[.bool p, .bool mi, .bool sh, .bool sp, .bool z, .int .i64 wid, .int .i64 prec, .int .i32 103] 26)), x.w.cell? ⟨w.heap.size, 7, none⟩ = some (.int .i32 103) := fun x => x.cell (by simp)
  go_enter Tryz.func32, Tryz.ntmps32
  go_wp2_with (first
    | (go_at_call 34; (with_reducible refine (hW _).mono ?_); rintro x w1 ⟨rfl, rfl⟩)
    | (go_at_call 60; (with_reducible refine (hX _).mono ?_); rintro x w2 ⟨rfl, hb2⟩; obtain ⟨y2, rfl⟩ := Cl.start hb2; have g0 := Cl.up y2 (.cells #[.string S, .int .i64 Q] 91) f0; have q0 := g0 ⟨_, Below.refl _ _⟩; change (y2.w.alloc (.cells #[.string S, .int .i64 Q] 91)).cell? ⟨w.heap.size, 0, none⟩ = _ at q0; have g1 := Cl.up y2 (.cells #[.string S, .int .i64 Q] 91) f1; have q1 := g1 ⟨_, Below.refl _ _⟩; change (y2.w.alloc (.cells #[.string S, .int .i64 Q] 91)).cell? ⟨w.heap.size, 1, none⟩ = _ at q1; have g2 := Cl.up y2 (.cells #[.string S, .int .i64 Q] 91) f2; have q2 := g2 ⟨_, Below.refl _ _⟩; change (y2.w.alloc (.cells #[.string S, .int .i64 Q] 91)).cell? ⟨w.heap.size, 2, none⟩ = _ at q2; have g3 := Cl.up y2 (.cells #[.string S, .int .i64 Q] 91) f3; have q3 := g3 ⟨_, Below.refl _ _⟩; change (y2.w.alloc (.cells #[.string S, .int .i64 Q] 91)).cell? ⟨w.heap.size, 3, none⟩ = _ at q3; have g4 := Cl.up y2 (.cells #[.string S, .int .i64 Q] 91) f4; have q4 := g4 ⟨_, Below.refl _ _⟩; change (y2.w.alloc (.cells #[.string S, .int .i64 Q] 91)).cell? ⟨w.heap.size, 4, none⟩ = _ at q4; have g5 := Cl.up y2 (.cells #[.string S, .int .i64 Q] 91) f5; have q5 := g5 ⟨_, Below.refl _ _⟩; change (y2.w.alloc (.cells #[.string S, .int .i64 Q] 91)).cell? ⟨w.heap.size, 5, none⟩ = _ at q5; have g6 := Cl.up y2 (.cells #[.string S, .int .i64 Q] 91) f6; have q6 := g6 ⟨_, Below.refl _ _⟩; change (y2.w.alloc (.cells #[.string S, .int .i64 Q] 91)).cell? ⟨w.heap.size, 6, none⟩ = _ at q6; have g7 := Cl.up y2 (.cells #[.string S, .int .i64 Q] 91) f7; have q7 := g7 ⟨_, Below.refl _ _⟩; change (y2.w.alloc (.cells #[.string S, .int .i64 Q] 91)).cell? ⟨w.heap.size, 7, none⟩ = _ at q7)
    | (go_at_call 71; (with_reducible refine (hG _).mono ?_); rintro x w4 ⟨rfl, hb4⟩))
  go_ret
  exact ⟨rfl, bel_call (bel_call hbA (y2.below.alloc y2.below.size _) (Nat.le_refl _)) hb4 (Nat.le_refl _)⟩

set_option maxRecDepth 1000000 in
set_option maxHeartbeats 2000000 in
theorem bare_71 {bits m : Nat} {size e k Q : Int} {S T : ByteArray} (p mi sh sp z : Bool) (wid prec : Int) (hW : WdC prec k) (hX : HxC m e S Q) (hG : MgC bits size S Q k p mi sh sp z wid prec 71 T) : BaC bits size m e p mi sh sp z wid prec 71 T := fun w => by
  have hbA : Below w.heap.size w (w.alloc (.cells #[.bool p, .bool mi, .bool sh, .bool sp, .bool z, .int .i64 wid, .int .i64 prec, .int .i32 71] 26)) := (Below.refl _ _).alloc (Nat.le_refl _) _
  have f0 : ∀ x : Cl (w.alloc (.cells #[.bool p, .bool mi, .bool sh, .bool sp, .bool z, .int .i64 wid, .int .i64 prec, .int .i32 71] 26)), x.w.cell? ⟨w.heap.size, 0, none⟩ = some (.bool p) := fun x => x.cell (by simp)
  have f1 : ∀ x : Cl (w.alloc (.cells #[.bool p, .bool mi, .bool sh, .bool sp, .bool z, .int .i64 wid, .int .i64 prec, .int .i32 71] 26)), x.w.cell? ⟨w.heap.size, 1, none⟩ = some (.bool mi) := fun x => x.cell (by simp)
  have f2 : ∀ x : Cl (w.alloc (.cells #[.bool p, .bool mi, .bool sh, .bool sp, .bool z, .int .i64 wid, .int .i64 prec, .int .i32 71] 26)), x.w.cell? ⟨w.heap.size, 2, none⟩ = some (.bool sh) := fun x => x.cell (by simp)
  have f3 : ∀ x : Cl (w.alloc (.cells #[.bool p, .bool mi, .bool sh, .bool sp, .bool z, .int .i64 wid, .int .i64 prec, .int .i32 71] 26)), x.w.cell? ⟨w.heap.size, 3, none⟩ = some (.bool sp) := fun x => x.cell (by simp)
  have f4 : ∀ x : Cl (w.alloc (.cells #[.bool p, .bool mi, .bool sh, .bool sp, .bool z, .int .i64 wid, .int .i64 prec, .int .i32 71] 26)), x.w.cell? ⟨w.heap.size, 4, none⟩ = some (.bool z) := fun x => x.cell (by simp)
  have f5 : ∀ x : Cl (w.alloc (.cells #[.bool p, .bool mi, .bool sh, .bool sp, .bool z, .int .i64 wid, .int .i64 prec, .int .i32 71] 26)), x.w.cell? ⟨w.heap.size, 5, none⟩ = some (.int .i64 wid) := fun x => x.cell (by simp)
  have f6 : ∀ x : Cl (w.alloc (.cells #[.bool p, .bool mi, .bool sh, .bool sp, .bool z, .int .i64 wid, .int .i64 prec, .int .i32 71] 26)), x.w.cell? ⟨w.heap.size, 6, none⟩ = some (.int .i64 prec) := fun x => x.cell (by simp)
  have f7 : ∀ x : Cl (w.alloc (.cells #[.bool p, .bool mi, .bool sh, .bool sp, .bool z, .int .i64 wid, .int .i64 prec, .int .i32 71] 26)), x.w.cell? ⟨w.heap.size, 7, none⟩ = some (.int .i32 71) := fun x => x.cell (by simp)
  go_enter Tryz.func32, Tryz.ntmps32
  go_wp2_with (first
    | (go_at_call 34; (with_reducible refine (hW _).mono ?_); rintro x w1 ⟨rfl, rfl⟩)
    | (go_at_call 60; (with_reducible refine (hX _).mono ?_); rintro x w2 ⟨rfl, hb2⟩; obtain ⟨y2, rfl⟩ := Cl.start hb2; have g0 := Cl.up y2 (.cells #[.string S, .int .i64 Q] 91) f0; have q0 := g0 ⟨_, Below.refl _ _⟩; change (y2.w.alloc (.cells #[.string S, .int .i64 Q] 91)).cell? ⟨w.heap.size, 0, none⟩ = _ at q0; have g1 := Cl.up y2 (.cells #[.string S, .int .i64 Q] 91) f1; have q1 := g1 ⟨_, Below.refl _ _⟩; change (y2.w.alloc (.cells #[.string S, .int .i64 Q] 91)).cell? ⟨w.heap.size, 1, none⟩ = _ at q1; have g2 := Cl.up y2 (.cells #[.string S, .int .i64 Q] 91) f2; have q2 := g2 ⟨_, Below.refl _ _⟩; change (y2.w.alloc (.cells #[.string S, .int .i64 Q] 91)).cell? ⟨w.heap.size, 2, none⟩ = _ at q2; have g3 := Cl.up y2 (.cells #[.string S, .int .i64 Q] 91) f3; have q3 := g3 ⟨_, Below.refl _ _⟩; change (y2.w.alloc (.cells #[.string S, .int .i64 Q] 91)).cell? ⟨w.heap.size, 3, none⟩ = _ at q3; have g4 := Cl.up y2 (.cells #[.string S, .int .i64 Q] 91) f4; have q4 := g4 ⟨_, Below.refl _ _⟩; change (y2.w.alloc (.cells #[.string S, .int .i64 Q] 91)).cell? ⟨w.heap.size, 4, none⟩ = _ at q4; have g5 := Cl.up y2 (.cells #[.string S, .int .i64 Q] 91) f5; have q5 := g5 ⟨_, Below.refl _ _⟩; change (y2.w.alloc (.cells #[.string S, .int .i64 Q] 91)).cell? ⟨w.heap.size, 5, none⟩ = _ at q5; have g6 := Cl.up y2 (.cells #[.string S, .int .i64 Q] 91) f6; have q6 := g6 ⟨_, Below.refl _ _⟩; change (y2.w.alloc (.cells #[.string S, .int .i64 Q] 91)).cell? ⟨w.heap.size, 6, none⟩ = _ at q6; have g7 := Cl.up y2 (.cells #[.string S, .int .i64 Q] 91) f7; have q7 := g7 ⟨_, Below.refl _ _⟩; change (y2.w.alloc (.cells #[.string S, .int .i64 Q] 91)).cell? ⟨w.heap.size, 7, none⟩ = _ at q7)
    | (go_at_call 71; (with_reducible refine (hG _).mono ?_); rintro x w4 ⟨rfl, hb4⟩))
  go_ret
  exact ⟨rfl, bel_call (bel_call hbA (y2.below.alloc y2.below.size _) (Nat.le_refl _)) hb4 (Nat.le_refl _)⟩

set_option maxRecDepth 1000000 in
set_option maxHeartbeats 2000000 in
theorem bare_118 {bits m : Nat} {size e k Q : Int} {S T : ByteArray} (p mi sh sp z : Bool) (wid prec : Int) (hW : WdC prec k) (hX : HxC m e S Q) (hG : MgC bits size S Q k p mi sh sp z wid prec 118 T) : BaC bits size m e p mi sh sp z wid prec 118 T := fun w => by
  have hbA : Below w.heap.size w (w.alloc (.cells #[.bool p, .bool mi, .bool sh, .bool sp, .bool z, .int .i64 wid, .int .i64 prec, .int .i32 118] 26)) := (Below.refl _ _).alloc (Nat.le_refl _) _
  have f0 : ∀ x : Cl (w.alloc (.cells #[.bool p, .bool mi, .bool sh, .bool sp, .bool z, .int .i64 wid, .int .i64 prec, .int .i32 118] 26)), x.w.cell? ⟨w.heap.size, 0, none⟩ = some (.bool p) := fun x => x.cell (by simp)
  have f1 : ∀ x : Cl (w.alloc (.cells #[.bool p, .bool mi, .bool sh, .bool sp, .bool z, .int .i64 wid, .int .i64 prec, .int .i32 118] 26)), x.w.cell? ⟨w.heap.size, 1, none⟩ = some (.bool mi) := fun x => x.cell (by simp)
  have f2 : ∀ x : Cl (w.alloc (.cells #[.bool p, .bool mi, .bool sh, .bool sp, .bool z, .int .i64 wid, .int .i64 prec, .int .i32 118] 26)), x.w.cell? ⟨w.heap.size, 2, none⟩ = some (.bool sh) := fun x => x.cell (by simp)
  have f3 : ∀ x : Cl (w.alloc (.cells #[.bool p, .bool mi, .bool sh, .bool sp, .bool z, .int .i64 wid, .int .i64 prec, .int .i32 118] 26)), x.w.cell? ⟨w.heap.size, 3, none⟩ = some (.bool sp) := fun x => x.cell (by simp)
  have f4 : ∀ x : Cl (w.alloc (.cells #[.bool p, .bool mi, .bool sh, .bool sp, .bool z, .int .i64 wid, .int .i64 prec, .int .i32 118] 26)), x.w.cell? ⟨w.heap.size, 4, none⟩ = some (.bool z) := fun x => x.cell (by simp)
  have f5 : ∀ x : Cl (w.alloc (.cells #[.bool p, .bool mi, .bool sh, .bool sp, .bool z, .int .i64 wid, .int .i64 prec, .int .i32 118] 26)), x.w.cell? ⟨w.heap.size, 5, none⟩ = some (.int .i64 wid) := fun x => x.cell (by simp)
  have f6 : ∀ x : Cl (w.alloc (.cells #[.bool p, .bool mi, .bool sh, .bool sp, .bool z, .int .i64 wid, .int .i64 prec, .int .i32 118] 26)), x.w.cell? ⟨w.heap.size, 6, none⟩ = some (.int .i64 prec) := fun x => x.cell (by simp)
  have f7 : ∀ x : Cl (w.alloc (.cells #[.bool p, .bool mi, .bool sh, .bool sp, .bool z, .int .i64 wid, .int .i64 prec, .int .i32 118] 26)), x.w.cell? ⟨w.heap.size, 7, none⟩ = some (.int .i32 118) := fun x => x.cell (by simp)
  go_enter Tryz.func32, Tryz.ntmps32
  go_wp2_with (first
    | (go_at_call 34; (with_reducible refine (hW _).mono ?_); rintro x w1 ⟨rfl, rfl⟩)
    | (go_at_call 60; (with_reducible refine (hX _).mono ?_); rintro x w2 ⟨rfl, hb2⟩; obtain ⟨y2, rfl⟩ := Cl.start hb2; have g0 := Cl.up y2 (.cells #[.string S, .int .i64 Q] 91) f0; have q0 := g0 ⟨_, Below.refl _ _⟩; change (y2.w.alloc (.cells #[.string S, .int .i64 Q] 91)).cell? ⟨w.heap.size, 0, none⟩ = _ at q0; have g1 := Cl.up y2 (.cells #[.string S, .int .i64 Q] 91) f1; have q1 := g1 ⟨_, Below.refl _ _⟩; change (y2.w.alloc (.cells #[.string S, .int .i64 Q] 91)).cell? ⟨w.heap.size, 1, none⟩ = _ at q1; have g2 := Cl.up y2 (.cells #[.string S, .int .i64 Q] 91) f2; have q2 := g2 ⟨_, Below.refl _ _⟩; change (y2.w.alloc (.cells #[.string S, .int .i64 Q] 91)).cell? ⟨w.heap.size, 2, none⟩ = _ at q2; have g3 := Cl.up y2 (.cells #[.string S, .int .i64 Q] 91) f3; have q3 := g3 ⟨_, Below.refl _ _⟩; change (y2.w.alloc (.cells #[.string S, .int .i64 Q] 91)).cell? ⟨w.heap.size, 3, none⟩ = _ at q3; have g4 := Cl.up y2 (.cells #[.string S, .int .i64 Q] 91) f4; have q4 := g4 ⟨_, Below.refl _ _⟩; change (y2.w.alloc (.cells #[.string S, .int .i64 Q] 91)).cell? ⟨w.heap.size, 4, none⟩ = _ at q4; have g5 := Cl.up y2 (.cells #[.string S, .int .i64 Q] 91) f5; have q5 := g5 ⟨_, Below.refl _ _⟩; change (y2.w.alloc (.cells #[.string S, .int .i64 Q] 91)).cell? ⟨w.heap.size, 5, none⟩ = _ at q5; have g6 := Cl.up y2 (.cells #[.string S, .int .i64 Q] 91) f6; have q6 := g6 ⟨_, Below.refl _ _⟩; change (y2.w.alloc (.cells #[.string S, .int .i64 Q] 91)).cell? ⟨w.heap.size, 6, none⟩ = _ at q6; have g7 := Cl.up y2 (.cells #[.string S, .int .i64 Q] 91) f7; have q7 := g7 ⟨_, Below.refl _ _⟩; change (y2.w.alloc (.cells #[.string S, .int .i64 Q] 91)).cell? ⟨w.heap.size, 7, none⟩ = _ at q7)
    | (go_at_call 71; (with_reducible refine (hG _).mono ?_); rintro x w4 ⟨rfl, hb4⟩))
  go_ret
  exact ⟨rfl, bel_call (bel_call hbA (y2.below.alloc y2.below.size _) (Nat.le_refl _)) hb4 (Nat.le_refl _)⟩

theorem run_add (a b : Nat) : run 48 a ++ run 48 b = run 48 (a + b) := by
  apply ByteArray.ext; apply Array.ext'
  rw [app_list, run_list, run_list, run_list, List.replicate_append_replicate]
theorem genD_is (sh : Bool) (d : Nat) (cnt : Int) : lnB (oS d) (nG sh (oS d).size cnt) = genD sh d cnt := by
  unfold nG genD
  cases sh with
  | false =>
    rw [if_neg (by simp), if_neg (by simp)]
    unfold lnB
    congr 2; omega
  | true =>
    rw [if_pos rfl]
    have hz := lnB_size (oS d) 1
    by_cases h : max ((oS d).size : Int) 1 < cnt
    · rw [if_pos ⟨rfl, h⟩]
      unfold lnB at hz ⊢
      rw [app_assoc3, run_add, hz]
      congr 2; omega
    · rw [if_neg (by simp [h])]
      unfold lnB at hz ⊢
      rw [app_assoc3, run_add, hz]
      congr 2; omega
theorem genD_size (sh : Bool) (d : Nat) (cnt : Int) : ((genD sh d cnt).size : Int) = nG sh (oS d).size cnt := by
  rw [← genD_is, lnB_size]
  unfold nG
  split <;> omega
theorem chs_genD (sh : Bool) (d : Nat) (cnt i : Int) (k : Nat) : chs (genD sh d cnt) i k = chs (oS d) i k := by rw [← genD_is, chs_lnB]
theorem chs_none (i j : Int) (k : Nat) : chs (oS 0) i k = chs (oS 0) j k := by
  rw [zero_S]
  have h : ∀ a, ch ⟨#[]⟩ a = 48 := fun a => by
    unfold ch
    split
    · rename_i h1
      rw [show (⟨#[]⟩ : ByteArray).size = 0 from rfl] at h1
      omega
    · rfl
  simp [chs, h]
theorem ah_gen (sh : Bool) (d : Nat) (cnt : Int) : ahT d = arA (genD sh d cnt) (pw0 d + 1) := by
  unfold ahT
  by_cases h : pw0 d < 0
  · rw [if_pos h]; unfold arA; rw [if_pos (by omega)]
  · rw [if_neg h]
    apply ByteArray.ext; apply Array.ext'
    rw [arA_chs _ _ (by omega), chs_genD]
    show chs _ _ _ = _
    by_cases h0 : d = 0
    · subst h0; exact chs_none _ _ _
    · have e : pw0 d = oP d - 1 := by unfold pw0; rw [if_neg h0]
      congr 1; omega
theorem bh_gen (sh : Bool) (d : Nat) (cnt : Int) : bhT d (max (nG sh (oS d).size cnt - 1 - pw0 d) 0).toNat = arB (genD sh d cnt) (pw0 d + 1) := by
  apply ByteArray.ext; apply Array.ext'
  have hz := genD_size sh d cnt
  rw [arB_chs, chs_genD, arB_size_is]
  have e1 : (((genD sh d cnt).size : Int) - (pw0 d + 1)).toNat = (max (nG sh (oS d).size cnt - 1 - pw0 d) 0).toNat := by omega
  rw [e1]
  show chs _ _ _ = _
  by_cases h0 : d = 0
  · subst h0; exact chs_none _ _ _
  · have e : pw0 d = oP d - 1 := by unfold pw0; rw [if_neg h0]
    congr 1; omega
theorem low_genD (sh : Bool) (d : Nat) (cnt : Int) : Low (genD sh d cnt) := by
  unfold genD
  split
  · exact ((low_oS _).lnB _).lnB _
  · exact (low_oS _).lnB _
/-- The document's general of a decimal: the shortest, or a rounded one. -/
theorem mgen_one {bits : Nat} {size Q k Q0 top many : Int} {S S0 : ByteArray} {d : Nat} (p mi sh sp z : Bool) (wid prec verb : Int) (hK : KshC bits size S0 Q0 0) (hk1 : k ≤ 1000) (hcase : k < 0 ∧ top = 21 ∧ many = 6 ∧ S0 = oS d ∧ Q0 = oP d ∨ 0 ≤ k ∧ many = max k 1 ∧ top = many ∧ HrC S Q many (oS d) (oP d)) (hl : (oL d).length ≤ 2000) (hp : oP d ≤ 2000) : MgC bits size S Q k p mi sh sp z wid prec verb (bigT (decide (verb = 69 ∨ verb = 71)) (genG (sh && decide (verb ≠ 118)) d top many)) := by
  have hs := oS_size d
  have h0 := oP_lo d
  have hx := pw0_in hp
  have hm : 1 ≤ many ∧ many ≤ 1000 := by rcases hcase with ⟨-, -, rfl, -, -⟩ | ⟨h1, rfl, -, -⟩ <;> omega
  generalize hsh : (sh && decide (verb ≠ 118)) = shv
  have hn : 1 ≤ nG shv (oS d).size many ∧ nG shv (oS d).size many ≤ 2000 := by unfold nG; split <;> omega
  refine gen_run (D := genD shv d many) (L := (oS d).size) (x := pw0 d) p mi sh sp z wid prec verb hsh.symm hK hk1 hcase rfl (by omega) (by omega) (by omega) (fun w => mfirst_any d w (by omega) (by omega)) ?_
  have hgz := genD_size shv d many
  unfold genG
  by_cases hc : pw0 d < -4 ∨ top ≤ pw0 d
  · refine .inl ⟨hc, fun w => ?_, fun w => ?_⟩
    · have := mdigits_any (oS d) (oP d) (nG shv (oS d).size many) w (by omega) (by omega)
      rw [genD_is] at this
      exact this
    · have := msci_any (genD shv d many) (pw0 d) verb shv w (by omega) (by omega) (by omega) (by omega)
      rw [if_pos hc]
      have e : bigT (decide (verb = 69 ∨ verb = 71)) (sci shv (genD shv d many) (pw0 d)) = sciM (mkE verb) shv (genD shv d many) (pw0 d) := by
        unfold mkE
        by_cases hv : verb = 69 ∨ verb = 71
        · rw [decide_eq_true hv, if_pos hv, big_sci (low_genD _ _ _)]
        · rw [decide_eq_false hv, if_neg hv, sciM_e]; rfl
      rw [e]
      exact this
  · refine .inr ⟨hc, fun w => ?_⟩
    rw [if_neg hc]
    have := mpos_any d (max (nG shv (oS d).size many - 1 - pw0 d) 0).toNat shv w (by omega) (by omega) (by omega)
    rw [show (((max (nG shv (oS d).size many - 1 - pw0 d) 0).toNat : Nat) : Int) = max (nG shv (oS d).size many - 1 - pw0 d) 0 by omega, bh_gen, ah_gen shv d many, ptd_ptB] at this
    have e : bigT (decide (verb = 69 ∨ verb = 71)) (ptd shv (arA (genD shv d many) (pw0 d + 1)) (arB (genD shv d many) (pw0 d + 1))) = ptd shv (arA (genD shv d many) (pw0 d + 1)) (arB (genD shv d many) (pw0 d + 1)) := by
      by_cases hv : verb = 69 ∨ verb = 71
      · rw [decide_eq_true hv]
        exact big_low (((low_genD _ _ _).arA _).ptd ((low_genD _ _ _).arB _) _)
      · rw [decide_eq_false hv]; rfl
    rw [e]
    exact this
theorem mbare_g {bits m v d : Nat} {size e : Int} (hX : HxC m e (oS v) (oP v)) (fv : Fine v) (hK : KshC bits size (oS d) (oP d) 0) (hl : (oL d).length ≤ 2000) (hp : oP d ≤ 2000) (p mi sh sp z : Bool) (wid prec verb : Int) (hv : verb = 103 ∨ verb = 71 ∨ verb = 118) : BaC bits size m e p mi sh sp z wid prec verb (finT sh prec m e v d verb) := by
  obtain ⟨w1, w2, w3⟩ := wdE_min prec
  have hG : MgC bits size (oS v) (oP v) (wdE prec) p mi sh sp z wid prec verb (bigT (decide (verb = 69 ∨ verb = 71)) (genT (sh && decide (verb ≠ 118)) (min prec 1000) v d)) := by
    unfold genT
    by_cases hc : prec < 0
    · rw [if_pos (by omega)]
      exact mgen_one p mi sh sp z wid prec verb hK w3 (.inl ⟨w1 hc, rfl, rfl, rfl, rfl⟩) hl hp
    · rw [if_neg (by omega)]
      have e := w2 hc
      have hrl := rnd_len (v := v) (c := max (min prec 1000) 1) (by omega)
      have hrp := rnd_pt v (max (min prec 1000) 1)
      have hp1 := fv.p1
      exact mgen_one p mi sh sp z wid prec verb hK w3 (.inr ⟨by omega, by rw [e], rfl, hrC fv.good (by omega) (by omega)⟩) (by omega) (by omega)
  rcases hv with rfl | rfl | rfl
  · rw [finT_103]
    have h : (sh && decide ((103 : Int) ≠ 118)) = sh := by cases sh <;> rfl
    rw [h] at hG
    exact bare_103 p mi sh sp z wid prec (fun w => rwidth_any prec w) hX hG
  · rw [finT_71]
    have h : (sh && decide ((71 : Int) ≠ 118)) = sh := by cases sh <;> rfl
    rw [h] at hG
    exact bare_71 p mi sh sp z wid prec (fun w => rwidth_any prec w) hX hG
  · rw [finT_118]
    have h : (sh && decide ((118 : Int) ≠ 118)) = false := by cases sh <;> rfl
    rw [h] at hG
    exact bare_118 p mi sh sp z wid prec (fun w => rwidth_any prec w) hX hG
end Go.Proofs.YthbabhbfpcfenaaGreatDoor
