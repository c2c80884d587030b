/- The walk of the law ValuesCmps. -/
import Derived.Test.YtkbbiaffphdniaaDoorVBuilt
namespace Go.Proofs.YtkbbiaffphdniaaDoor
open Go.RowKit
set_option linter.unusedVariables false
set_option linter.unusedSimpArgs false

set_option maxRecDepth 1000000 in
set_option maxHeartbeats 8000000 in
theorem valuesCmps_walk (a : D) (n1 : Nat) (nv1 pv1 : Value) (b : D) (n2 : Nat) (nv2 pv2 : Value) (w : World) (hK : KN w) (hr1 : RdC n1 w nv1 pv1 a) (hr2 : RdC n2 w nv2 pv2 b) :
    Calls Tryd.prog 5 #[DV a nv1 pv1, DV b nv2 pv2] w fun e w' => e = .returned (.bool true) ∧ Below w.heap.size w w' := by
  obtain ⟨na, nc, pa, pc, rfl, rfl⟩ := hr1.slices
  obtain ⟨ma, mc, qa, qc, rfl, rfl⟩ := hr2.slices
  obtain ⟨W1, hW1⟩ : ∃ W1, W1 = (w.alloc (.cells #[.int .i64 a.kind, .string a.ty, .int .u64 a.bits, .int .u64 a.imag, .string a.text, .slice na a.names.length nc, .slice pa a.parts.length pc, .int .i64 a.hook] 26)).alloc (.cells #[.int .i64 b.kind, .string b.ty, .int .u64 b.bits, .int .u64 b.imag, .string b.text, .slice ma b.names.length mc, .slice qa b.parts.length qc, .int .i64 b.hook] 26) := ⟨_, rfl⟩
  have b1 : Below w.heap.size w W1 := by rw [hW1]; exact bel2 _ _ _
  have a1 : At8 W1 w.heap.size 0 a (.slice na a.names.length nc) (.slice pa a.parts.length pc) := by
    rw [hW1]
    refine ⟨?_, ?_, ?_, ?_, ?_, ?_, ?_, ?_⟩
    all_goals simp [go_sem]
  have a2 : At8 W1 (w.heap.size + 1) 0 b (.slice ma b.names.length mc) (.slice qa b.parts.length qc) := by
    rw [hW1]
    refine ⟨?_, ?_, ?_, ?_, ?_, ?_, ?_, ?_⟩
    all_goals simp [go_sem]
  have hA := built_any a n1 _ _ W1 (hr1.up b1)
  obtain ⟨c0, c1, c2, c3, c4, c5, c6, c7⟩ := a1
  simp only [Nat.zero_add] at c0 c1 c2 c3 c4 c5 c6 c7
  go_enter Tryd.func5, Tryd.ntmps5
  go_upto_region 1 with fail
  rw [← hW1]
  clear hW1
  by_cases HO : okB a
  · skip
    replace hA := hA.mono fun e w' h => (⟨h.1, h.2.elim (fun q => q.2) (fun q => absurd HO q.1)⟩ : _ ∧ _)
    go_upto_region 2 with (go_at_call 15; refine hA.mono ?_; rintro e W2 ⟨b2, t1, x1, nv1, pv1, rfl, hv1, hd1⟩; obtain ⟨na1, nc1, pa1, pc1, rfl, rfl⟩ := hd1.slices; obtain ⟨W3, hW3⟩ : ∃ W3, W3 = W2.alloc (.cells #[.int .i64 (inF a).kind, .string (inF a).ty, .int .u64 (inF a).bits, .int .u64 (inF a).imag, .string (inF a).text, .slice na1 (inF a).names.length nc1, .slice pa1 (inF a).parts.length pc1, .int .i64 (inF a).hook] 26) := ⟨_, rfl⟩)
    rw [← hW3]
    have b3 : Below W2.heap.size W2 W3 := by rw [hW3]; exact (Below.refl _ _).alloc (Nat.le_refl _) _
    have bW3 : Below w.heap.size w W3 := (b1.trans (b2.mono b1.size)).trans (b3.mono (Nat.le_trans b1.size b2.size))
    have x3 : At8 W3 W2.heap.size 0 (inF a) (.slice na1 (inF a).names.length nc1) (.slice pa1 (inF a).parts.length pc1) := by
      rw [hW3]
      refine ⟨?_, ?_, ?_, ?_, ?_, ?_, ?_, ?_⟩
      all_goals simp [go_sem]
    have r1 := rank_any _ _ _ _ _ (good_of (rd_nAll n1 hr1) HO.2).1.self.lo hv1
    clear hv1 hd1
    obtain ⟨X1, hX1⟩ : ∃ X1, W2.heap.size = X1 := ⟨_, rfl⟩
    rw [hX1] at x3
    try simp only [hX1]
    have hB := built_any b n2 _ _ W3 (hr2.up bW3)
    obtain ⟨c0, c1, c2, c3, c4, c5, c6, c7⟩ := (a2.up b2).up b3
    simp only [Nat.zero_add] at c0 c1 c2 c3 c4 c5 c6 c7
    clear hW3 hA HO hX1
    by_cases HO : okB b
    · skip
      replace hB := hB.mono fun e w' h => (⟨h.1, h.2.elim (fun q => q.2) (fun q => absurd HO q.1)⟩ : _ ∧ _)
      go_upto_region 3 with (go_at_call 15; refine hB.mono ?_; rintro e W4 ⟨b4, t2, x2, nv2, pv2, rfl, hv2, hd2⟩; obtain ⟨na2, nc2, pa2, pc2, rfl, rfl⟩ := hd2.slices; obtain ⟨W5, hW5⟩ : ∃ W5, W5 = W4.alloc (.cells #[.int .i64 (inF b).kind, .string (inF b).ty, .int .u64 (inF b).bits, .int .u64 (inF b).imag, .string (inF b).text, .slice na2 (inF b).names.length nc2, .slice pa2 (inF b).parts.length pc2, .int .i64 (inF b).hook] 26) := ⟨_, rfl⟩)
      rw [← hW5]
      have b5 : Below W4.heap.size W4 W5 := by rw [hW5]; exact (Below.refl _ _).alloc (Nat.le_refl _) _
      have bW5 : Below w.heap.size w W5 := (bW3.trans (b4.mono bW3.size)).trans (b5.mono (Nat.le_trans bW3.size b4.size))
      have x5 : At8 W5 W4.heap.size 0 (inF b) (.slice na2 (inF b).names.length nc2) (.slice pa2 (inF b).parts.length pc2) := by
        rw [hW5]
        refine ⟨?_, ?_, ?_, ?_, ?_, ?_, ?_, ?_⟩
        all_goals simp [go_sem]
      have r2 := rank_any _ _ _ _ _ (good_of (rd_nAll n2 hr2) HO.2).1.self.lo hv2
      clear hv2 hd2
      obtain ⟨X2, hX2⟩ : ∃ X2, W4.heap.size = X2 := ⟨_, rfl⟩
      rw [hX2] at x5
      try simp only [hX2]
      have x4 := (x3.up b4).up b5
      clear hW5 hB HO hX2 hr1 hr2 a2 c0 c1 c2 c3 c4 c5 c6 c7 x3 b1 b2 b3 b4 b5 bW3
      have hcp := fun W => cmp_any _ _ _ _ r1 r2 W
      have hoc := fun W => ocmp_any (inF a) (inF b) na1 pa1 na2 pa2 nc1 pc1 nc2 pc2 W
      simp only [rkA_cmp] at hoc
      generalize cmpR (rkA a) (rkA b) = q at hcp hoc
      generalize inF a = fa at *
      generalize inF b = fb at *
      clear r1 r2
      obtain ⟨Yd, hYd⟩ : ∃ Yd, Yd = W5.drew := ⟨_, rfl⟩
      have bY : Below w.heap.size w Yd := by rw [hYd]; exact bW5.drew
      go_upto_region 5 with fail
      refine wp_region_held_drew (S := fun w' : World => At8 w' X1 0 fa (.slice na1 fa.names.length nc1) (.slice pa1 fa.parts.length pc1) ∧ At8 w' X2 0 fb (.slice na2 fb.names.length nc2) (.slice pa2 fb.parts.length pc2)) (by kernel_rfl) (by exact ⟨x4, x5⟩) ?_
      rw [← hYd]
      have s5 : (fun w' : World => At8 w' X1 0 fa (.slice na1 fa.names.length nc1) (.slice pa1 fa.parts.length pc1) ∧ At8 w' X2 0 fb (.slice na2 fb.names.length nc2) (.slice pa2 fb.parts.length pc2)) Yd := by rw [hYd]; exact ⟨x4, x5⟩
      have hup : ∀ {w1 w2 : World}, (fun w' : World => At8 w' X1 0 fa (.slice na1 fa.names.length nc1) (.slice pa1 fa.parts.length pc1) ∧ At8 w' X2 0 fb (.slice na2 fb.names.length nc2) (.slice pa2 fb.parts.length pc2)) w1 → Below w1.heap.size w1 w2 → (fun w' : World => At8 w' X1 0 fa (.slice na1 fa.names.length nc1) (.slice pa1 fa.parts.length pc1) ∧ At8 w' X2 0 fb (.slice na2 fb.names.length nc2) (.slice pa2 fb.parts.length pc2)) w2 := fun h h' => ⟨h.1.up h', h.2.up h'⟩
      clear hYd x4 x5
      intro hS
      refine wpAnyH_take (i := 0) (v := .iface t1 x1) rfl (by kernel_rfl) (by kernel_rfl) (by kernel_rfl) (fun _ _ _ h => h) (Or.inl ⟨by rfl, ?_⟩) (by assumption) ?_
      · intro w5 s0
        go_simp
      try simp only [Act.put, List.getElem_toArray, List.getElem_cons_zero, List.getElem_cons_succ, List.setIfInBounds_toArray, List.set_cons_zero, List.set_cons_succ]
      refine wpAnyH_take (i := 1) (v := .iface t2 x2) rfl (by kernel_rfl) (by kernel_rfl) (by kernel_rfl) (fun _ _ _ h => h) (Or.inl ⟨by rfl, ?_⟩) (by assumption) ?_
      · intro w5 s0
        go_simp
      try simp only [Act.put, List.getElem_toArray, List.getElem_cons_zero, List.getElem_cons_succ, List.setIfInBounds_toArray, List.set_cons_zero, List.set_cons_succ]
      refine wpAnyH_take (i := 3) (v := .agg #[.int .i64 fa.kind, .string fa.ty, .int .u64 fa.bits, .int .u64 fa.imag, .string fa.text, .slice na1 fa.names.length nc1, .slice pa1 fa.parts.length pc1, .int .i64 fa.hook]) rfl (by kernel_rfl) (by kernel_rfl) (by kernel_rfl) (fun _ _ _ h => h) (Or.inl ⟨by rfl, ?_⟩) (by assumption) ?_
      · intro w5 s0
        obtain ⟨q0, q1, q2, q3, q4, q5, q6, q7⟩ := s0.1
        simp only [Nat.zero_add] at q0 q1 q2 q3 q4 q5 q6 q7
        clear s0
        go_simp
      try simp only [Act.put, List.getElem_toArray, List.getElem_cons_zero, List.getElem_cons_succ, List.setIfInBounds_toArray, List.set_cons_zero, List.set_cons_succ]
      refine wpAnyH_take (i := 4) (v := .agg #[.int .i64 fb.kind, .string fb.ty, .int .u64 fb.bits, .int .u64 fb.imag, .string fb.text, .slice na2 fb.names.length nc2, .slice pa2 fb.parts.length pc2, .int .i64 fb.hook]) rfl (by kernel_rfl) (by kernel_rfl) (by kernel_rfl) (fun _ _ _ h => h) (Or.inl ⟨by rfl, ?_⟩) (by assumption) ?_
      · intro w5 s0
        obtain ⟨q0, q1, q2, q3, q4, q5, q6, q7⟩ := s0.2
        simp only [Nat.zero_add] at q0 q1 q2 q3 q4 q5 q6 q7
        clear s0
        go_simp
      try simp only [Act.put, List.getElem_toArray, List.getElem_cons_zero, List.getElem_cons_succ, List.setIfInBounds_toArray, List.set_cons_zero, List.set_cons_succ]
      refine wpAnyH_ready (rs := [2]) (by kernel_rfl) (by simp) ?_
      refine AllReadyH.cons rfl (fun K1 hK1 => ?_) AllReadyH.nil
      go_simp
      refine (hcp _).mono ?_
      rintro e Z1 ⟨rfl, z1⟩
      have sZ1 := (hup s5) z1
      refine hK1.out _ _ sZ1 (fun _ => ?_)
      clear hK1
      try simp only [Act.put, List.getElem_toArray, List.getElem_cons_zero, List.getElem_cons_succ, List.setIfInBounds_toArray, List.set_cons_zero, List.set_cons_succ]
      refine wpAnyH_ready (rs := [5]) (by kernel_rfl) (by simp) ?_
      refine AllReadyH.cons rfl (fun K2 hK2 => ?_) AllReadyH.nil
      go_simp
      refine (hoc _).mono ?_
      rintro e Z2 ⟨rfl, z2⟩
      have sZ2 := (hup sZ1) z2
      refine hK2.out _ _ sZ2 (fun _ => ?_)
      clear hK2
      try simp only [Act.put, List.getElem_toArray, List.getElem_cons_zero, List.getElem_cons_succ, List.setIfInBounds_toArray, List.set_cons_zero, List.set_cons_succ]
      refine wpAnyH_ready (rs := [6]) (by kernel_rfl) (by simp) ?_
      refine AllReadyH.cons rfl (fun K3 hK3 => ?_) AllReadyH.nil
      go_simp
      refine hK3.out _ _ sZ2 (fun _ => ?_)
      clear hK3
      try simp only [Act.put, List.getElem_toArray, List.getElem_cons_zero, List.getElem_cons_succ, List.setIfInBounds_toArray, List.set_cons_zero, List.set_cons_succ]
      refine wpAnyH_ready (rs := [7]) (by kernel_rfl) (by simp) ?_
      refine AllReadyH.cons rfl (fun K4 hK4 => ?_) AllReadyH.nil
      go_simp
      refine hK4.out _ _ sZ2 (fun _ => ?_)
      clear hK4
      try simp only [Act.put, List.getElem_toArray, List.getElem_cons_zero, List.getElem_cons_succ, List.setIfInBounds_toArray, List.set_cons_zero, List.set_cons_succ]
      have bZ2 : Below w.heap.size w Z2 := (bY.trans (z1.mono bY.size)).trans (z2.mono (Nat.le_trans bY.size z1.size))
      refine wpAnyH_ready (rs := [8]) (by kernel_rfl) (by simp) ?_
      refine AllReadyH.cons rfl (fun K5 hK5 => ?_) AllReadyH.nil
      go_simp
      refine (lives8_any _ (hK.up bZ2)).mono ?_
      rintro e Z3 ⟨rfl, z3⟩
      have sZ3 := (hup sZ2) z3
      refine hK5.out _ _ sZ3 (fun _ => ?_)
      clear hK5
      try simp only [Act.put, List.getElem_toArray, List.getElem_cons_zero, List.getElem_cons_succ, List.setIfInBounds_toArray, List.set_cons_zero, List.set_cons_succ]
      refine wpAnyH_ready (rs := [9]) (by kernel_rfl) (by simp) ?_
      refine AllReadyH.cons rfl (fun K6 hK6 => ?_) AllReadyH.nil
      go_simp
      refine hK6.out _ _ sZ3 (fun _ => ?_)
      clear hK6
      try simp only [Act.put, List.getElem_toArray, List.getElem_cons_zero, List.getElem_cons_succ, List.setIfInBounds_toArray, List.set_cons_zero, List.set_cons_succ]
      refine wpAnyH_ready (rs := [10]) (by kernel_rfl) (by simp) ?_
      refine AllReadyH.cons rfl (fun K7 hK7 => ?_) AllReadyH.nil
      go_simp
      refine hK7.out _ _ sZ3 (fun _ => ?_)
      clear hK7
      try simp only [Act.put, List.getElem_toArray, List.getElem_cons_zero, List.getElem_cons_succ, List.setIfInBounds_toArray, List.set_cons_zero, List.set_cons_succ]
      refine wpAnyH_done (by kernel_rfl) ?_ _
      clear hS
      go_wp2
      go_ret
      exact ⟨rfl, bZ2.trans (z3.mono bZ2.size)⟩
    · skip
      replace hB := hB.mono fun e w' h => (⟨h.1, h.2.elim (fun q => absurd q.1 HO) (fun q => q.2)⟩ : _ ∧ _)
      go_upto_region 3 with (go_at_call 15; refine hB.mono ?_; rintro e W4 ⟨b4, rfl⟩; obtain ⟨W5, hW5⟩ : ∃ W5, W5 = W4.alloc (.cells #[.int .i64 0, .string ⟨#[]⟩, .int .u64 0, .int .u64 0, .string ⟨#[]⟩, .slice none 0 0, .slice none 0 0, .int .i64 0] 26) := ⟨_, rfl⟩)
      rw [← hW5]
      have b5 : Below W4.heap.size W4 W5 := by rw [hW5]; exact (Below.refl _ _).alloc (Nat.le_refl _) _
      have bW5 : Below w.heap.size w W5 := (bW3.trans (b4.mono bW3.size)).trans (b5.mono (Nat.le_trans bW3.size b4.size))
      clear hW5 hB HO
      go_wp2_with (first
        | (go_at_call 10; refine (lives8_any _ (hK.up bW5)).mono ?_; rintro e W6 ⟨rfl, b6⟩))
      go_ret
      exact ⟨rfl, bW5.trans (b6.mono bW5.size)⟩
  · skip
    replace hA := hA.mono fun e w' h => (⟨h.1, h.2.elim (fun q => absurd q.1 HO) (fun q => q.2)⟩ : _ ∧ _)
    go_upto_region 2 with (go_at_call 15; refine hA.mono ?_; rintro e W2 ⟨b2, rfl⟩; obtain ⟨W3, hW3⟩ : ∃ W3, W3 = W2.alloc (.cells #[.int .i64 0, .string ⟨#[]⟩, .int .u64 0, .int .u64 0, .string ⟨#[]⟩, .slice none 0 0, .slice none 0 0, .int .i64 0] 26) := ⟨_, rfl⟩)
    rw [← hW3]
    have b3 : Below W2.heap.size W2 W3 := by rw [hW3]; exact (Below.refl _ _).alloc (Nat.le_refl _) _
    have bW3 : Below w.heap.size w W3 := (b1.trans (b2.mono b1.size)).trans (b3.mono (Nat.le_trans b1.size b2.size))
    have hB := built_any b n2 _ _ W3 (hr2.up bW3)
    obtain ⟨c0, c1, c2, c3, c4, c5, c6, c7⟩ := (a2.up b2).up b3
    simp only [Nat.zero_add] at c0 c1 c2 c3 c4 c5 c6 c7
    clear hW3 hA HO
    by_cases HO : okB b
    · skip
      replace hB := hB.mono fun e w' h => (⟨h.1, h.2.elim (fun q => q.2) (fun q => absurd HO q.1)⟩ : _ ∧ _)
      go_upto_region 3 with (go_at_call 15; refine hB.mono ?_; rintro e W4 ⟨b4, t2, x2, nv2, pv2, rfl, hv2, hd2⟩; obtain ⟨na2, nc2, pa2, pc2, rfl, rfl⟩ := hd2.slices; obtain ⟨W5, hW5⟩ : ∃ W5, W5 = W4.alloc (.cells #[.int .i64 (inF b).kind, .string (inF b).ty, .int .u64 (inF b).bits, .int .u64 (inF b).imag, .string (inF b).text, .slice na2 (inF b).names.length nc2, .slice pa2 (inF b).parts.length pc2, .int .i64 (inF b).hook] 26) := ⟨_, rfl⟩)
      rw [← hW5]
      have b5 : Below W4.heap.size W4 W5 := by rw [hW5]; exact (Below.refl _ _).alloc (Nat.le_refl _) _
      have bW5 : Below w.heap.size w W5 := (bW3.trans (b4.mono bW3.size)).trans (b5.mono (Nat.le_trans bW3.size b4.size))
      clear hW5 hB HO
      go_wp2_with (first
        | (go_at_call 10; refine (lives8_any _ (hK.up bW5)).mono ?_; rintro e W6 ⟨rfl, b6⟩))
      go_ret
      exact ⟨rfl, bW5.trans (b6.mono bW5.size)⟩
    · skip
      replace hB := hB.mono fun e w' h => (⟨h.1, h.2.elim (fun q => absurd q.1 HO) (fun q => q.2)⟩ : _ ∧ _)
      go_upto_region 3 with (go_at_call 15; refine hB.mono ?_; rintro e W4 ⟨b4, rfl⟩; obtain ⟨W5, hW5⟩ : ∃ W5, W5 = W4.alloc (.cells #[.int .i64 0, .string ⟨#[]⟩, .int .u64 0, .int .u64 0, .string ⟨#[]⟩, .slice none 0 0, .slice none 0 0, .int .i64 0] 26) := ⟨_, rfl⟩)
      rw [← hW5]
      have b5 : Below W4.heap.size W4 W5 := by rw [hW5]; exact (Below.refl _ _).alloc (Nat.le_refl _) _
      have bW5 : Below w.heap.size w W5 := (bW3.trans (b4.mono bW3.size)).trans (b5.mono (Nat.le_trans bW3.size b4.size))
      clear hW5 hB HO
      go_wp2_with (first
        | (go_at_call 10; refine (lives8_any _ (hK.up bW5)).mono ?_; rintro e W6 ⟨rfl, b6⟩))
      go_ret
      exact ⟨rfl, bW5.trans (b6.mono bW5.size)⟩
end Go.Proofs.YtkbbiaffphdniaaDoor
