/- The walks of package short: neighbours, fewest. -/
import Derived.Test.YtiagjheifblkiaaGreatDoorPt29
namespace Go.Proofs.YtiagjheifblkiaaGreatDoor
open Go.RowKit
set_option linter.unusedVariables false
set_option linter.unusedSimpArgs false
theorem cutV {v n : Nat} (h2 : n ≤ (oL v).length) : V ((oS v).extract 0 n).data.toList (oP v) = Bn v n ∧ allD ((oS v).extract 0 n).data.toList = true ∧ ((oS v).extract 0 n).size = n := by
 have hz := oS_size v
 have e : ((oS v).extract 0 n).data.toList = (oL v).take n := by
  rw [ByteArray.data_extract, Array.toList_extract]
  show (oL v).extract 0 n = _
  simp [List.extract]
 have q := Qn_eq h2
 refine ⟨?_, ?_, ext_size0 (oS v) n (by omega)⟩
 ·rw [e]; exact take_V (o_dec v) n h2 (Qn v n) (by omega)
 ·rw [e]; exact allD_of fun x hx => allD_mem (o_dec v).dig (List.mem_of_mem_take hx)
theorem nb_add {v n : Nat} (hv : Fine v) (h1 : 1 ≤ n) (h2 : n < (oL v).length) : AddC ((oS v).extract 0 n) (oP v) ⟨#[49]⟩ (oP v - n + 1) (oS (An v n)) (oP (An v n)) 0 := fun w => by
 obtain ⟨e1, e2, e3⟩ := cutV (Nat.le_of_lt h2)
 have hl := hv.len
 have hp0 := hv.p0
 have hp1 := hv.p1
 obtain ⟨gB, gA, g1, -⟩ := An_good hv h1 (Nat.le_of_lt h2)
 have q := Qn_eq (Nat.le_of_lt h2)
 have := add_any ((oS v).extract 0 n) ⟨#[49]⟩ (oP v) (oP v - n + 1) w (by omega) (by decide)
 have s1 : (⟨#[49]⟩ : ByteArray).size = 1 := rfl
 have n1 : normE ((oS v).extract 0 n) (oP v) = 0 := normE_ok (by omega) e2 (by omega) (by omega)
 have n2 : normE ⟨#[49]⟩ (oP v - n + 1) = 0 := normE_ok (by omega) rfl (by omega) (by omega)
 have v1 : normV ((oS v).extract 0 n) (oP v) = Bn v n := by rw [normV_ok n1, e1]
 have v2 : normV ⟨#[49]⟩ (oP v - n + 1) = 10 ^ Qn v n := by rw [normV_ok n2]; exact one_V _ _ (by omega)
 have e0 : bE 0 0 = 0 := rfl
 rw [n1, n2, v1, v2, e0] at this
 have a1 : aE 0 (Bn v n + 10 ^ Qn v n) = 0 := by unfold aE; rw [if_pos rfl, if_neg (by have := gA.len; unfold An at this; omega)]
 have a2 : aV 0 (Bn v n + 10 ^ Qn v n) = Bn v n + 10 ^ Qn v n := by unfold aV; rw [if_pos a1]
 rw [a1, a2] at this
 exact this
set_option maxRecDepth 1000000 in
set_option maxHeartbeats 1600000 in
theorem neighb_walk {S S1 S2 : ByteArray} {P P1 P2 E1 : Int} {n : Nat} (hR : RoundC S P n S1 P1 E1) (hA : AddC (S.extract 0 n) P ⟨#[49]⟩ (P - n + 1) S2 P2 0) (hn : n ≤ S.size) (hS : S.size ≤ 100000) (hP0 : -100000 ≤ P) (hP1 : P ≤ 100000) (w : World) :
  Calls Tryz.prog 368 #[.agg #[.string S, .int .i64 P], .int .i64 n] w fun x w' => x = .returned (.agg #[.string S1, .int .i64 P1, .string S2, .int .i64 P2]) ∧ Below w.heap.size w w' := by
 have hnI : (n : Int) ≤ S.size := by omega
 have hn2 : (n : Int) ≤ 100000 := by omega
 generalize hT : S.extract 0 n = T at *
 obtain ⟨W2, hW2⟩ : ∃ W2, (w.alloc (.cells #[.string S, .int .i64 P] 31)).alloc (.cells #[.string ⟨#[]⟩, .int .i64 0, .string ⟨#[]⟩, .int .i64 0] 443) = W2 := ⟨_, rfl⟩
 have hbW : Below w.heap.size w W2 := by rw [← hW2]; go_grown
 have d0 : W2.cell? ⟨w.heap.size, 0, none⟩ = some (.string S) := by rw [← hW2]; simp [go_sem]
 have d1 : W2.cell? ⟨w.heap.size, 1, none⟩ = some (.int .i64 P) := by rw [← hW2]; simp [go_sem]
 have d2 : W2.cell? ⟨w.heap.size + 1, 0, none⟩ = some (.string ⟨#[]⟩) := by rw [← hW2]; simp [go_sem]
 have d3 : W2.cell? ⟨w.heap.size + 1, 1, none⟩ = some (.int .i64 0) := by rw [← hW2]; simp [go_sem]
 have d4 : W2.cell? ⟨w.heap.size + 1, 2, none⟩ = some (.string ⟨#[]⟩) := by rw [← hW2]; simp [go_sem]
 have d5 : W2.cell? ⟨w.heap.size + 1, 3, none⟩ = some (.int .i64 0) := by rw [← hW2]; simp [go_sem]
 have hz : w.heap.size + 1 < W2.heap.size := World.block_lt_of_cell? W2 _ d2
 have hz0 : w.heap.size < W2.heap.size := by omega
 have f0 : W2.frozen? ⟨w.heap.size + 1, 0, none⟩ = false := by rw [← hW2]; simp [go_sem]
 have f1 : W2.frozen? ⟨w.heap.size + 1, 1, none⟩ = false := by rw [← hW2]; simp [go_sem]
 have f2 : W2.frozen? ⟨w.heap.size + 1, 2, none⟩ = false := by rw [← hW2]; simp [go_sem]
 have f3 : W2.frozen? ⟨w.heap.size + 1, 3, none⟩ = false := by rw [← hW2]; simp [go_sem]
 have c0 : ∀ x : Cl W2, x.w.cell? ⟨w.heap.size, 0, none⟩ = some (.string S) := fun x => x.cell d0
 have c1 : ∀ x : Cl W2, x.w.cell? ⟨w.heap.size, 1, none⟩ = some (.int .i64 P) := fun x => x.cell d1
 have c2 : ∀ x : Cl W2, x.w.cell? ⟨w.heap.size + 1, 0, none⟩ = some (.string ⟨#[]⟩) := fun x => x.cell d2
 have c3 : ∀ x : Cl W2, x.w.cell? ⟨w.heap.size + 1, 1, none⟩ = some (.int .i64 0) := fun x => x.cell d3
 have c4 : ∀ x : Cl W2, x.w.cell? ⟨w.heap.size + 1, 2, none⟩ = some (.string ⟨#[]⟩) := fun x => x.cell d4
 have c5 : ∀ x : Cl W2, x.w.cell? ⟨w.heap.size + 1, 3, none⟩ = some (.int .i64 0) := fun x => x.cell d5
 have g0 : ∀ x : Cl W2, x.w.frozen? ⟨w.heap.size + 1, 0, none⟩ = false := fun x => x.froz hz f0
 have g1 : ∀ x : Cl W2, x.w.frozen? ⟨w.heap.size + 1, 1, none⟩ = false := fun x => x.froz hz f1
 have g2 : ∀ x : Cl W2, x.w.frozen? ⟨w.heap.size + 1, 2, none⟩ = false := fun x => x.froz hz f2
 have g3 : ∀ x : Cl W2, x.w.frozen? ⟨w.heap.size + 1, 3, none⟩ = false := fun x => x.froz hz f3
 have z0 : ∀ x : Cl W2, w.heap.size < x.w.heap.size := fun x => World.block_lt_of_cell? x.w _ (c0 x)
 have z1 : ∀ x : Cl W2, w.heap.size + 1 < x.w.heap.size := fun x => World.block_lt_of_cell? x.w _ (c2 x)
 have hn4 : ∀ (y : Cl W2) (o1 o2 : Obj) (w4 : World), Below ((y.w.alloc o1).alloc o2).drew.heap.size ((y.w.alloc o1).alloc o2).drew w4 → ∃ y4 : Cl W2, w4 = y4.w := fun y o1 o2 w4 hb => by
  have h1 := y.below.alloc y.below.size o1
  have h2 := h1.alloc h1.size o2
  exact ⟨⟨w4, bel_call h2.drew hb (Nat.le_refl _)⟩, rfl⟩
 go_enter Tryz.func368, Tryz.ntmps368
 go_wp2_with (first
  | (go_at_call 11; (with_reducible refine (Cl.go0 (hR _)).mono ?_); rintro x w9 ⟨y, rfl, rfl⟩))
 go_region
 all_goals go_wp2_with (first
  | (go_at_call 15; (with_reducible refine (hA _).mono ?_); rintro x w4 ⟨rfl, hb4⟩; obtain ⟨m0, m1, m2, m3⟩ := keepb hb4 (B := y.w.heap.size) (x := .string S1) (y := .int .i64 P1) (by simp [BoxDe, go_sem]); obtain ⟨y4, rfl⟩ := hn4 y _ _ _ hb4; have hl5 : y.w.heap.size < y4.w.heap.size := World.block_lt_of_cell? _ _ m0))
 all_goals refine bodyPost_ret (by simp [results, Tryz.results368, go_sem, cs_same, c2 y4, c3 y4, c4 y4, c5 y4, z1 y4]; rfl) rfl ?_
 all_goals
  refine ⟨rfl, ?_⟩
  have hh := bel_call hbW y4.below (Nat.le_refl _)
  have hh := (((hh.setCell (p := ⟨w.heap.size + 1, 0, none⟩) (Nat.le_succ _) (.string S1)).setCell (p := ⟨w.heap.size + 1, 1, none⟩) (Nat.le_succ _) (.int .i64 P1)).setCell (p := ⟨w.heap.size + 1, 2, none⟩) (Nat.le_succ _) (.string S2)).setCell (p := ⟨w.heap.size + 1, 3, none⟩) (Nat.le_succ _) (.int .i64 P2)
  exact hh.alloc hh.size _
theorem neighb_any {v n : Nat} (hv : Fine v) (h1 : 1 ≤ n) (h2 : n < (oL v).length) (w : World) :
  Calls Tryz.prog 368 #[.agg #[.string (oS v), .int .i64 (oP v)], .int .i64 n] w fun x w' => x = .returned (.agg #[.string (oS (near v (Qn v n))), .int .i64 (oP (near v (Qn v n))), .string (oS (An v n)), .int .i64 (oP (An v n))]) ∧ Below w.heap.size w w' := by
 have q := Qn_eq (Nat.le_of_lt h2)
 have hR := roundC (n : Int) hv.good
 rw [rnd_near (Q := Qn v n) (by omega)] at hR
 have := hv.len
 have := hv.p0
 have := hv.p1
 have hz := oS_size v
 exact neighb_walk hR (nb_add hv h1 h2) (by omega) (by omega) (by omega) (by omega) w
abbrev HasC (bv : Array Value) (x : Nat) (b : Bool) : Prop := ∀ w, Calls Tryz.prog 364 #[.agg bv, .agg #[.string (oS x), .int .i64 (oP x)]] w fun e w' => e = .returned (.bool b) ∧ Below w.heap.size w w'
abbrev NbC (S : ByteArray) (P : Int) (n : Nat) (S1 : ByteArray) (P1 : Int) (S2 : ByteArray) (P2 : Int) : Prop := ∀ w, Calls Tryz.prog 368 #[.agg #[.string S, .int .i64 P], .int .i64 n] w fun x w' => x = .returned (.agg #[.string S1, .int .i64 P1, .string S2, .int .i64 P2]) ∧ Below w.heap.size w w'
theorem index_two0 (a b c d : Value) (w : World) : (Instr.index 443 (.agg #[a, b, c, d]) (.int .i64 0)).run Tryz.prog w = .ok (.agg #[a, b]) w := by kernel_rfl
theorem index_two1 (a b c d : Value) (w : World) : (Instr.index 443 (.agg #[a, b, c, d]) (.int .i64 1)).run Tryz.prog w = .ok (.agg #[c, d]) w := by kernel_rfl
set_option maxRecDepth 1000000 in
set_option maxHeartbeats 3200000 in
theorem fewest_walk {R : Nat → Prop} {v d g1 g2 : Nat} {bv : Array Value} (hb : Bd R v g1 g2) (hdB : SH R v d) (hv : Fine v) (hH : ∀ x b, Good x → (R x ↔ b = true) → HasC bv x b) (w : World) :
  Calls Tryz.prog 362 #[.agg #[.string (oS v), .int .i64 (oP v)], .func (.func 364) #[.agg bv] #[]] w fun x w' => x = .returned (.agg #[.string (oS d), .int .i64 (oP d)]) ∧ Below w.heap.size w w' := by
 have hz := oS_size v
 have hlen := hv.len
 generalize hSz : (oS v).size = L at *
 have HN : Hid (∀ n, 1 ≤ n → n < L → NbC (oS v) (oP v) n (oS (near v (Qn v n))) (oP (near v (Qn v n))) (oS (An v n)) (oP (An v n))) := fun n h1 h2 w => neighb_any hv h1 (by omega) w
 have HA : Hid ((∀ j, 1 ≤ j → j < L → failN R v j) → d = v) := fun hf => hdB.all fun j h1 h2 => hf j h1 (by omega)
 have HB : Hid (∀ n, 1 ≤ n → n < L → (∀ j, 1 ≤ j → j < n → failN R v j) → (R (near v (Qn v n)) → d = near v (Qn v n)) ∧ (¬ R (near v (Qn v n)) → R (An v n) → d = An v n) ∧ (¬ R (near v (Qn v n)) → ¬ R (An v n) → failN R v n)) := fun n h1 h2 hf => by
  refine ⟨fun hR => ?_, fun hR hA => ?_, fun hR hA => pick_none hb hR hA⟩
  ·obtain ⟨k1, k2⟩ := pick_near hb hR
   exact pick_uniq (hdB.at h1 (by omega) hf k2) k1
  ·obtain ⟨k1, k2⟩ := pick_above hb hR hA
   exact pick_uniq (hdB.at h1 (by omega) hf k2) k1
 have HG : Hid (∀ n, 1 ≤ n → n < L → Good (near v (Qn v n)) ∧ Good (An v n)) := fun n h1 h2 => by
  obtain ⟨-, gA, -, gN⟩ := An_good hv h1 (show n ≤ (oL v).length by omega)
  exact ⟨gN, gA⟩
 have ix0 := index_two0
 have ix1 := index_two1
 go_enter Tryz.func362, Tryz.ntmps362
 go_wp2
 go_loopg [5, 7] (L + 1) (fun g nv dv wr => ∃ n : Nat, nv = .int .i64 n ∧ 1 ≤ n ∧ n ≤ L + 1 ∧ n + g = L + 2 ∧ BoxDe wr w.heap.size (.string (oS v)) (.int .i64 (oP v)) ∧ BoxDe wr (w.heap.size + 1) (.string ⟨#[]⟩) (.int .i64 0) ∧ Below w.heap.size w wr ∧ Hid (∀ j, 1 ≤ j → j < n → j < L → failN R v j))
 case atStart => exact ⟨1, rfl, Nat.le_refl _, by omega, by omega, by simp [BoxDe, go_sem], by simp [BoxDe, go_sem], by go_grown, fun j h1 h2 => by omega⟩
 case round =>
  obtain ⟨n, rfl, hn1, hn2, hng, bV, bR, hbw, HF⟩ := hrel
  obtain ⟨a0, a1, a2, a3⟩ := id bV
  obtain ⟨r0, r1, r2, r3⟩ := id bR
  have hz0 : w.heap.size < wr.heap.size := World.block_lt_of_cell? wr _ a0
  have hz1 : w.heap.size + 1 < wr.heap.size := World.block_lt_of_cell? wr _ r0
  by_cases hlt : n < L
  ·have hltI : (n : Int) < L := by omega
   have hNb := HN.out n hn1 hlt
   obtain ⟨gN, gA⟩ := HG.out n hn1 hlt
   have HBn : Hid ((R (near v (Qn v n)) → d = near v (Qn v n)) ∧ (¬ R (near v (Qn v n)) → R (An v n) → d = An v n) ∧ (¬ R (near v (Qn v n)) → ¬ R (An v n) → failN R v n)) := HB.out n hn1 hlt fun j h1 h2 => HF.out j h1 h2 (by omega)
   have hHN : ∀ b, (R (near v (Qn v n)) ↔ b = true) → HasC bv (near v (Qn v n)) b := fun b hb => hH _ b gN hb
   have hHA : ∀ b, (R (An v n) ↔ b = true) → HasC bv (An v n) b := fun b hb => hH _ b gA hb
   clear HB HN HG HA hH
   generalize near v (Qn v n) = xN at *
   generalize An v n = xA at *
   by_cases kN : R xN
   ·have hC := hHN true (by simp [kN])
    have e : Hid (d = xN) := HBn.out.1 kN
    clear HBn hHN hHA HF
    have HS : Hid (oS xN = oS xN ∧ True) := ⟨rfl, trivial⟩
    obtain ⟨SN, hSN⟩ : ∃ SN, oS xN = SN := ⟨_, rfl⟩
    obtain ⟨PN, hPN⟩ : ∃ PN, oP xN = PN := ⟨_, rfl⟩
    have e : Hid (oS d = SN ∧ oP d = PN) := ⟨by rw [e.out, hSN], by rw [e.out, hPN]⟩
    unfold HasC at hC
    rw [hSN, hPN] at hC hNb
    clear hSN hPN HS
    go_wp2_with (go_at_call 368; (with_reducible refine (hNb _).mono ?_); rintro x w2 ⟨rfl, hb2⟩; have bV2 := keepb hb2 bV; have bR2 := keepb hb2 bR; have hbw2 := bel_call hbw hb2 (Nat.le_refl _); obtain ⟨p0, p1, p2, p3⟩ := id bV2; obtain ⟨q0, q1, q2, q3⟩ := id bR2; have hy0 : w.heap.size < w2.heap.size := World.block_lt_of_cell? w2 _ p0; have hy1 : w.heap.size + 1 < w2.heap.size := World.block_lt_of_cell? w2 _ q0)
    refine wp_loop_rounds 3 ?_
    rw [rounds_succ]
    go_wp2_with (go_at_call 364; (with_reducible refine (hC _).mono ?_); rintro x w3 ⟨rfl, hb3⟩; have bV3 := keepb hb3 (keepb ((Below.refl _ _).alloc (Nat.le_refl _) _) bV2); have bR3 := keepb hb3 (keepb ((Below.refl _ _).alloc (Nat.le_refl _) _) bR2); have bD3 := keepb hb3 (B := w2.heap.size) (x := .string SN) (y := .int .i64 PN) (by simp [BoxDe, go_sem]); have hbw3 := bel_call (hbw2.alloc hbw2.size _) hb3 (Nat.le_refl _); obtain ⟨v30, v31, v32, v33⟩ := id bV3; obtain ⟨s30, s31, s32, s33⟩ := id bR3; obtain ⟨t30, t31, t32, t33⟩ := id bD3; have hx3 : w.heap.size + 1 < w3.heap.size := World.block_lt_of_cell? w3 _ s30; have hx30 : w.heap.size < w3.heap.size := (by omega))
    refine bodyPost_ret (by simp [results, Tryz.results362, go_sem, cs_same, s30, s31]; rfl) rfl ?_
    rw [e.out.1, e.out.2]
    exact ⟨rfl, (hbw3.setCell (p := ⟨w.heap.size + 1, 0, none⟩) (Nat.le_succ _) _).setCell (p := ⟨w.heap.size + 1, 1, none⟩) (Nat.le_succ _) _⟩
   ·have hC := hHN false (by simp [kN])
    by_cases kA : R xA
    ·have hD := hHA true (by simp [kA])
     have e : Hid (d = xA) := HBn.out.2.1 kN kA
     clear HBn hHN hHA HF
     obtain ⟨SN, hSN⟩ : ∃ SN, oS xN = SN := ⟨_, rfl⟩
     obtain ⟨PN, hPN⟩ : ∃ PN, oP xN = PN := ⟨_, rfl⟩
     obtain ⟨SA, hSA⟩ : ∃ SA, oS xA = SA := ⟨_, rfl⟩
     obtain ⟨PA, hPA⟩ : ∃ PA, oP xA = PA := ⟨_, rfl⟩
     have e : Hid (oS d = SA ∧ oP d = PA) := ⟨by rw [e.out, hSA], by rw [e.out, hPA]⟩
     unfold HasC at hC hD
     rw [hSN, hPN] at hC hNb
     rw [hSA, hPA] at hD hNb
     clear hSN hPN hSA hPA
     go_wp2_with (go_at_call 368; (with_reducible refine (hNb _).mono ?_); rintro x w2 ⟨rfl, hb2⟩; have bV2 := keepb hb2 bV; have bR2 := keepb hb2 bR; have hbw2 := bel_call hbw hb2 (Nat.le_refl _); obtain ⟨p0, p1, p2, p3⟩ := id bV2; obtain ⟨q0, q1, q2, q3⟩ := id bR2; have hy0 : w.heap.size < w2.heap.size := World.block_lt_of_cell? w2 _ p0; have hy1 : w.heap.size + 1 < w2.heap.size := World.block_lt_of_cell? w2 _ q0)
     refine wp_loop_rounds 3 ?_
     rw [rounds_succ]
     go_wp2_with (go_at_call 364; (with_reducible refine (hC _).mono ?_); rintro x w3 ⟨rfl, hb3⟩; have bV3 := keepb hb3 (keepb ((Below.refl _ _).alloc (Nat.le_refl _) _) bV2); have bR3 := keepb hb3 (keepb ((Below.refl _ _).alloc (Nat.le_refl _) _) bR2); have bD3 := keepb hb3 (B := w2.heap.size) (x := .string SN) (y := .int .i64 PN) (by simp [BoxDe, go_sem]); have hbw3 := bel_call (hbw2.alloc hbw2.size _) hb3 (Nat.le_refl _); obtain ⟨v30, v31, v32, v33⟩ := id bV3; obtain ⟨s30, s31, s32, s33⟩ := id bR3; obtain ⟨t30, t31, t32, t33⟩ := id bD3; have hx3 : w.heap.size + 1 < w3.heap.size := World.block_lt_of_cell? w3 _ s30; have hx30 : w.heap.size < w3.heap.size := (by omega))
     rw [rounds_succ]
     go_wp2_with (go_at_call 364; (with_reducible refine (hD _).mono ?_); rintro x w4 ⟨rfl, hb4⟩; have bV4 := keepb hb4 (keepb ((Below.refl _ _).alloc (Nat.le_refl _) _) bV3); have bR4 := keepb hb4 (keepb ((Below.refl _ _).alloc (Nat.le_refl _) _) bR3); have bD4 := keepb hb4 (B := w3.heap.size) (x := .string SA) (y := .int .i64 PA) (by simp [BoxDe, go_sem]); have hbw4 := bel_call (hbw3.alloc hbw3.size _) hb4 (Nat.le_refl _); obtain ⟨v40, v41, v42, v43⟩ := id bV4; obtain ⟨s40, s41, s42, s43⟩ := id bR4; obtain ⟨t40, t41, t42, t43⟩ := id bD4; have hx4 : w.heap.size + 1 < w4.heap.size := World.block_lt_of_cell? w4 _ s40; have hx40 : w.heap.size < w4.heap.size := (by omega))
     refine bodyPost_ret (by simp [results, Tryz.results362, go_sem, cs_same, s40, s41]; rfl) rfl ?_
     rw [e.out.1, e.out.2]
     exact ⟨rfl, (hbw4.setCell (p := ⟨w.heap.size + 1, 0, none⟩) (Nat.le_succ _) _).setCell (p := ⟨w.heap.size + 1, 1, none⟩) (Nat.le_succ _) _⟩
    ·have hD := hHA false (by simp [kA])
     have HK : Hid (failN R v n) := HBn.out.2.2 kN kA
     clear HBn hHN hHA
     unfold HasC at hC hD
     generalize oS xN = SN at *
     generalize oP xN = PN at *
     generalize oS xA = SA at *
     generalize oP xA = PA at *
     go_wp2_with (go_at_call 368; (with_reducible refine (hNb _).mono ?_); rintro x w2 ⟨rfl, hb2⟩; have bV2 := keepb hb2 bV; have bR2 := keepb hb2 bR; have hbw2 := bel_call hbw hb2 (Nat.le_refl _); obtain ⟨p0, p1, p2, p3⟩ := id bV2; obtain ⟨q0, q1, q2, q3⟩ := id bR2; have hy0 : w.heap.size < w2.heap.size := World.block_lt_of_cell? w2 _ p0; have hy1 : w.heap.size + 1 < w2.heap.size := World.block_lt_of_cell? w2 _ q0)
     refine wp_loop_rounds 3 ?_
     rw [rounds_succ]
     go_wp2_with (go_at_call 364; (with_reducible refine (hC _).mono ?_); rintro x w3 ⟨rfl, hb3⟩; have bV3 := keepb hb3 (keepb ((Below.refl _ _).alloc (Nat.le_refl _) _) bV2); have bR3 := keepb hb3 (keepb ((Below.refl _ _).alloc (Nat.le_refl _) _) bR2); have bD3 := keepb hb3 (B := w2.heap.size) (x := .string SN) (y := .int .i64 PN) (by simp [BoxDe, go_sem]); have hbw3 := bel_call (hbw2.alloc hbw2.size _) hb3 (Nat.le_refl _); obtain ⟨v30, v31, v32, v33⟩ := id bV3; obtain ⟨s30, s31, s32, s33⟩ := id bR3; obtain ⟨t30, t31, t32, t33⟩ := id bD3; have hx3 : w.heap.size + 1 < w3.heap.size := World.block_lt_of_cell? w3 _ s30; have hx30 : w.heap.size < w3.heap.size := (by omega))
     rw [rounds_succ]
     go_wp2_with (go_at_call 364; (with_reducible refine (hD _).mono ?_); rintro x w4 ⟨rfl, hb4⟩; have bV4 := keepb hb4 (keepb ((Below.refl _ _).alloc (Nat.le_refl _) _) bV3); have bR4 := keepb hb4 (keepb ((Below.refl _ _).alloc (Nat.le_refl _) _) bR3); have bD4 := keepb hb4 (B := w3.heap.size) (x := .string SA) (y := .int .i64 PA) (by simp [BoxDe, go_sem]); have hbw4 := bel_call (hbw3.alloc hbw3.size _) hb4 (Nat.le_refl _); obtain ⟨v40, v41, v42, v43⟩ := id bV4; obtain ⟨s40, s41, s42, s43⟩ := id bR4; obtain ⟨t40, t41, t42, t43⟩ := id bD4; have hx4 : w.heap.size + 1 < w4.heap.size := World.block_lt_of_cell? w4 _ s40; have hx40 : w.heap.size < w4.heap.size := (by omega))
     rw [rounds_succ]
     go_wp2
     go_roundg (gk - 1)
     case measure => omega
     case rel =>
      refine ⟨n + 1, by go_num, by omega, by omega, by omega, bV4, bR4, hbw4, fun j h1 h2 h3 => ?_⟩
      rcases Nat.lt_or_ge j n with h | h
      ·exact HF.out j h1 h h3
      ·obtain rfl : j = n := by omega
       exact HK.out
  ·have hltI : ¬ (n : Int) < L := by omega
   have e : Hid (d = v) := HA.out fun j h1 h2 => HF.out j h1 (by omega) h2
   clear HB HN HG HA hH HF
   go_wp2
   refine bodyPost_ret (by simp [results, Tryz.results362, go_sem, cs_same, r0, r1]; rfl) rfl ?_
   rw [e.out]
   exact ⟨rfl, (hbw.setCell (p := ⟨w.heap.size + 1, 0, none⟩) (Nat.le_succ _) _).setCell (p := ⟨w.heap.size + 1, 1, none⟩) (Nat.le_succ _) _⟩
end Go.Proofs.YtiagjheifblkiaaGreatDoor
