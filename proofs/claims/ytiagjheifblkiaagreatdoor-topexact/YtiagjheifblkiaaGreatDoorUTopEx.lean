/- TopExact: the law's walk, its calls as hypotheses. -/
import Derived.Test.YtiagjheifblkiaaGreatDoorUFloat
namespace Go.Proofs.YtiagjheifblkiaaGreatDoor
open Go.RowKit
set_option linter.unusedVariables false
set_option linter.unusedSimpArgs false
def vxN : Nat → Nat
 | 0 => 101
 | 1 => 102
 | 2 => 103
 | 3 => 69
 | 4 => 70
 | _ => 71
theorem vxN_at (j : Nat) (hj : j < 6) : (ByteArray.mk #[101, 102, 103, 69, 70, 71]).extract j (j + 1) = ⟨#[UInt8.ofNat (vxN j)]⟩ := by
 have h5 : j = 0 ∨ j = 1 ∨ j = 2 ∨ j = 3 ∨ j = 4 ∨ j = 5 := by omega
 rcases h5 with rfl | rfl | rfl | rfl | rfl | rfl <;> decide
set_option maxRecDepth 1000000 in
set_option maxHeartbeats 16000000 in
theorem topExact_of {bits p k : Nat} {n prec q Q Q1 Q2 : Int} {b : Bool} {T S S1 S2 : ByteArray} (m : Nat) (hm : m < 18446744073709551616) (hq : max 0 (min prec 300) = q) (hFl : Fl9 bits b k p n S Q)
  (hPr : ∀ (A : Nat) (W : World), Esc W → KN W → A < W.heap.size → W.rangeAt A 0 [.int .i64 6, .string ⟨#[]⟩, .int .u64 q, .int .u64 0, .string ⟨#[]⟩, .slice none 0 0, .slice none 0 0, .int .i64 0, .int .i64 k, .string ⟨#[]⟩, .int .u64 p, .int .u64 0, .string ⟨#[]⟩, .slice none 0 0, .slice none 0 0, .int .i64 0] → Calls Tryz.prog 9 #[.slice none 0 0, .string ((⟨#[37, 46, 42]⟩ : ByteArray) ++ ⟨#[UInt8.ofNat (vxN (m % 6))]⟩), .slice (some ⟨A, 0, none⟩) 2 2] W fun e w' => e = .returned (.string T) ∧ Below W.heap.size W w')
  (hR : R6C T S1 Q1) (hRo : RoundC S Q (q + 1) S2 Q2 0) (hE : m % 6 = 0 ∨ m % 6 = 3 → S2 = S1 ∧ Q2 = Q1) (hPl : m % 6 = 1 ∨ m % 6 = 4 → PlacesC S Q q S1 Q1 0) (hRg : m % 6 = 2 ∨ m % 6 = 5 → RoundC S Q (max q 1) S1 Q1 0) (w : World) (hk : KN w) (he : Esc w) :
  Calls Tryz.prog 3 #[.agg #[.int .u64 bits, .bool b], .int .i64 prec, .int .u64 m] w fun e w' => e = .returned (.bool true) ∧ Below w.heap.size w w' := by
 have hj : m % 6 < 6 := Nat.mod_lt _ (by decide)
 have hm1 : (m : Int) % 6 = ((m % 6 : Nat) : Int) := by omega
 have hm2 : (m : Int).tmod 6 = ((m % 6 : Nat) : Int) := by rw [Int.tmod_eq_emod_of_nonneg (by omega)]; exact hm1
 have hL := fun W h1 h2 => tlives_any W h1 h2
 generalize m % 6 = j at *
 have hjI : (j : Int) < 6 := by omega
 have hV := vxN_at j hj
 have hql : 0 ≤ q ∧ q ≤ 300 := by omega
 have hNu := fun W => tnum_any q (by omega) (by omega) W
 obtain ⟨W1, hW1⟩ : ∃ W1, W1 = w.alloc (.cells #[.int .u64 bits, .bool b] 24) := ⟨_, rfl⟩
 have b1 : Below w.heap.size w W1 := by rw [hW1]; exact (Below.refl _ _).alloc (Nat.le_refl _) _
 have c0 : W1.cell? ⟨w.heap.size, 0, none⟩ = some (.int .u64 bits) := by rw [hW1]; simp [go_sem]
 have c1 : W1.cell? ⟨w.heap.size, 1, none⟩ = some (.bool b) := by rw [hW1]; simp [go_sem]
 go_enter Tryz.func3, Tryz.ntmps3
 go_upto_region 1 with fail
 rw [← hW1]
 clear hW1
 go_upto_region 2 with (go_at_call 7; refine (hFl _).mono ?_; rintro e W2 ⟨rfl, b2⟩)
 obtain ⟨W3, hW3⟩ : ∃ W3, W3 = (W2.alloc (.cells #[.int .i64 k, .string ⟨#[]⟩, .int .u64 p, .int .u64 0, .string ⟨#[]⟩, .slice none 0 0, .slice none 0 0, .int .i64 0] 29)).alloc (.cells #[.string S, .int .i64 Q] 31) := ⟨_, rfl⟩
 have b3 : Below w.heap.size w W3 := by rw [hW3]; exact ((b1.trans (b2.mono b1.size)).alloc (by have := b1.size; have := b2.size; omega) _).alloc (by have := b1.size; have := b2.size; simp; omega) _
 have k3 : Blk W3 W2.heap.size [.int .i64 k, .string ⟨#[]⟩, .int .u64 p, .int .u64 0, .string ⟨#[]⟩, .slice none 0 0, .slice none 0 0, .int .i64 0] := by rw [hW3]; exact (Blk.new W2 [.int .i64 k, .string ⟨#[]⟩, .int .u64 p, .int .u64 0, .string ⟨#[]⟩, .slice none 0 0, .slice none 0 0, .int .i64 0] _).up ((Below.refl _ _).alloc (Nat.le_refl _) _)
 have v3 : BoxDe W3 (W2.heap.size + 1) (.string S) (.int .i64 Q) := by rw [hW3]; simp [BoxDe, go_sem]
 have hl3 : w.heap.size ≤ W2.heap.size := by have := b1.size; have := b2.size; omega
 rw [← hW3]
 clear hW3 b1 b2 c0 c1
 obtain ⟨VB, hVB⟩ : ∃ VB, W2.heap.size + 1 = VB := ⟨_, rfl⟩
 rw [hVB] at v3
 rw [hVB]
 obtain ⟨D, hD⟩ : ∃ D, W2.heap.size = D := ⟨_, rfl⟩
 rw [hD] at k3 hVB hl3
 simp only [hD]
 have hDV : D < VB := by omega
 clear hD hVB W2
 go_upto_region 4 with fail
 have hVs : ((⟨#[UInt8.ofNat (vxN j)]⟩ : ByteArray).size : Int) ≤ 1 := by show ((1 : Nat) : Int) ≤ 1; decide
 go_cut [12, 13] (fun z12 z13 wx => ∃ V4, V4 = wx ∧ ∃ E, z12 = .pointer (some ⟨E, 0, none⟩) ∧ z13 = .bool true ∧ E ≠ VB ∧ Below w.heap.size w V4 ∧ BoxDe V4 E (.string S1) (.int .i64 Q1) ∧ BoxDe V4 VB (.string S) (.int .i64 Q))
 case first =>
  clear hRo hE hPl hRg hL hFl hV
  generalize (⟨#[UInt8.ofNat (vxN j)]⟩ : ByteArray) = V at *
  obtain ⟨F, hF⟩ : ∃ F, (⟨#[37, 46, 42]⟩ : ByteArray) ++ V = F := ⟨_, rfl⟩
  rw [hF] at hPr
  obtain ⟨W20, hW20⟩ : ∃ W20, W20 = W3.drew := ⟨_, rfl⟩
  have b20 : Below w.heap.size w W20 := by rw [hW20]; exact b3.drew
  have s20 : Blk W20 D [.int .i64 k, .string ⟨#[]⟩, .int .u64 p, .int .u64 0, .string ⟨#[]⟩, .slice none 0 0, .slice none 0 0, .int .i64 0] ∧ BoxDe W20 VB (.string S) (.int .i64 Q) := by rw [hW20]; exact ⟨k3.up (Below.refl _ _).drew, v3⟩
  refine wp_region_held_drew (S := fun w' : World => Blk w' D [.int .i64 k, .string ⟨#[]⟩, .int .u64 p, .int .u64 0, .string ⟨#[]⟩, .slice none 0 0, .slice none 0 0, .int .i64 0] ∧ BoxDe w' VB (.string S) (.int .i64 Q)) (by kernel_rfl) (by rw [← hW20]; exact s20) ?_
  rw [← hW20]
  clear hW20 b3 k3 v3
  intro hS
  clear hS
  refine tk 0 (.string V) rfl (by kernel_rfl) (fun _ _ _ h => h) (by rfl) (by assumption) ?_ ?_
  ·intro w5 s0
   go_simp
   try omega
  try simp only [Act.put, List.getElem_toArray, List.getElem_cons_zero, List.getElem_cons_succ, List.setIfInBounds_toArray, List.set_cons_zero, List.set_cons_succ, List.length_cons]
  refine tk 1 (.string F) rfl (by kernel_rfl) (fun _ _ _ h => h) (by rfl) (by assumption) ?_ ?_
  ·intro w5 s0
   go_simp
   try omega
  try simp only [Act.put, List.getElem_toArray, List.getElem_cons_zero, List.getElem_cons_succ, List.setIfInBounds_toArray, List.set_cons_zero, List.set_cons_succ, List.length_cons]
  refine tk 2 (.int .i64 q) rfl (by kernel_rfl) (fun _ _ _ h => h) (by rfl) (by assumption) ?_ ?_
  ·intro w5 s0
   go_simp
   try omega
  try simp only [Act.put, List.getElem_toArray, List.getElem_cons_zero, List.getElem_cons_succ, List.setIfInBounds_toArray, List.set_cons_zero, List.set_cons_succ, List.length_cons]
  refine tk 4 (.agg #[.int .i64 k, .string ⟨#[]⟩, .int .u64 p, .int .u64 0, .string ⟨#[]⟩, .slice none 0 0, .slice none 0 0, .int .i64 0]) rfl (by kernel_rfl) (fun _ _ _ h => h) (by rfl) (by assumption) ?_ ?_
  ·intro w5 s0
   obtain ⟨s00, -⟩ := s0
   have a0 := s00.c 0 _ rfl
   have a1 := s00.c 1 _ rfl
   have a2 := s00.c 2 _ rfl
   have a3 := s00.c 3 _ rfl
   have a4 := s00.c 4 _ rfl
   have a5 := s00.c 5 _ rfl
   have a6 := s00.c 6 _ rfl
   have a7 := s00.c 7 _ rfl
   go_simp
   try omega
  try simp only [Act.put, List.getElem_toArray, List.getElem_cons_zero, List.getElem_cons_succ, List.setIfInBounds_toArray, List.set_cons_zero, List.set_cons_succ, List.length_cons]
  refine wpAnyH_ready (rs := [3, 11]) (by kernel_rfl) (by simp) ?_
  refine AllReadyH.cons rfl (fun K3 hK3 => ?_) (AllReadyH.cons rfl (fun K11 hK11 => ?_) AllReadyH.nil)
  ·skip
   go_simp
   refine (hNu W20).mono ?_
   rintro e W21 ⟨rfl, c21⟩
   have b21 : Below w.heap.size w W21 := b20.trans (c21.mono b20.size)
   have s21 : Blk W21 D [.int .i64 k, .string ⟨#[]⟩, .int .u64 p, .int .u64 0, .string ⟨#[]⟩, .slice none 0 0, .slice none 0 0, .int .i64 0] ∧ BoxDe W21 VB (.string S) (.int .i64 Q) := ⟨s20.1.up c21, keepb c21 s20.2⟩
   refine hK3.out _ _ s21 (fun _ => ?_)
   clear hK3
   try simp only [Act.put, List.getElem_toArray, List.getElem_cons_zero, List.getElem_cons_succ, List.setIfInBounds_toArray, List.set_cons_zero, List.set_cons_succ, List.length_cons]
   refine wpAnyH_ready (rs := [5, 11]) (by kernel_rfl) (by simp) ?_
   refine AllReadyH.cons rfl (fun K5 hK5 => ?_) (AllReadyH.cons rfl (fun K11 hK11 => ?_) AllReadyH.nil)
   ·skip
    go_simp
    obtain ⟨W23, hW23⟩ : ∃ W, W = W21.alloc (.cells #[.int .i64 6, .string ⟨#[]⟩, .int .u64 q, .int .u64 0, .string ⟨#[]⟩, .slice none 0 0, .slice none 0 0, .int .i64 0, .int .i64 k, .string ⟨#[]⟩, .int .u64 p, .int .u64 0, .string ⟨#[]⟩, .slice none 0 0, .slice none 0 0, .int .i64 0] 29) := ⟨_, rfl⟩
    have c23 : Below W21.heap.size W21 W23 := by rw [hW23]; exact (Below.refl _ _).alloc (Nat.le_refl _) _
    have k23 : Blk W23 W21.heap.size [.int .i64 6, .string ⟨#[]⟩, .int .u64 q, .int .u64 0, .string ⟨#[]⟩, .slice none 0 0, .slice none 0 0, .int .i64 0, .int .i64 k, .string ⟨#[]⟩, .int .u64 p, .int .u64 0, .string ⟨#[]⟩, .slice none 0 0, .slice none 0 0, .int .i64 0] := by rw [hW23]; exact Blk.new W21 [.int .i64 6, .string ⟨#[]⟩, .int .u64 q, .int .u64 0, .string ⟨#[]⟩, .slice none 0 0, .slice none 0 0, .int .i64 0, .int .i64 k, .string ⟨#[]⟩, .int .u64 p, .int .u64 0, .string ⟨#[]⟩, .slice none 0 0, .slice none 0 0, .int .i64 0] _
    rw [← hW23]
    clear hW23
    have b23 : Below w.heap.size w W23 := b21.trans (c23.mono b21.size)
    have s23 : Blk W23 D [.int .i64 k, .string ⟨#[]⟩, .int .u64 p, .int .u64 0, .string ⟨#[]⟩, .slice none 0 0, .slice none 0 0, .int .i64 0] ∧ BoxDe W23 VB (.string S) (.int .i64 Q) := ⟨s21.1.up c23, keepb c23 s21.2⟩
    refine hK5.out _ _ s23 (fun _ => ?_)
    clear hK5
    try simp only [Act.put, List.getElem_toArray, List.getElem_cons_zero, List.getElem_cons_succ, List.setIfInBounds_toArray, List.set_cons_zero, List.set_cons_succ, List.length_cons]
    refine wpAnyH_ready (rs := [6, 11]) (by kernel_rfl) (by simp) ?_
    refine AllReadyH.cons rfl (fun K6 hK6 => ?_) (AllReadyH.cons rfl (fun K11 hK11 => ?_) AllReadyH.nil)
    ·skip
     go_simp
     refine (hPr _ W23 (he.below b23) (hk.up b23) k23.b k23.range).mono ?_
     rintro e W25 ⟨rfl, c25⟩
     have b25 : Below w.heap.size w W25 := b23.trans (c25.mono b23.size)
     have s25 : Blk W25 D [.int .i64 k, .string ⟨#[]⟩, .int .u64 p, .int .u64 0, .string ⟨#[]⟩, .slice none 0 0, .slice none 0 0, .int .i64 0] ∧ BoxDe W25 VB (.string S) (.int .i64 Q) := ⟨s23.1.up c25, keepb c25 s23.2⟩
     refine hK6.out _ _ s25 (fun _ => ?_)
     clear hK6
     try simp only [Act.put, List.getElem_toArray, List.getElem_cons_zero, List.getElem_cons_succ, List.setIfInBounds_toArray, List.set_cons_zero, List.set_cons_succ, List.length_cons]
     refine wpAnyH_ready (rs := [7, 11]) (by kernel_rfl) (by simp) ?_
     refine AllReadyH.cons rfl (fun K7 hK7 => ?_) (AllReadyH.cons rfl (fun K11 hK11 => ?_) AllReadyH.nil)
     ·skip
      go_simp
      refine (hR W25).mono ?_
      rintro e W27 ⟨rfl, c27⟩
      have b27 : Below w.heap.size w W27 := b25.trans (c27.mono b25.size)
      have s27 : Blk W27 D [.int .i64 k, .string ⟨#[]⟩, .int .u64 p, .int .u64 0, .string ⟨#[]⟩, .slice none 0 0, .slice none 0 0, .int .i64 0] ∧ BoxDe W27 VB (.string S) (.int .i64 Q) := ⟨s25.1.up c27, keepb c27 s25.2⟩
      refine hK7.out _ _ s27 (fun _ => ?_)
      clear hK7
      try simp only [Act.put, List.getElem_toArray, List.getElem_cons_zero, List.getElem_cons_succ, List.setIfInBounds_toArray, List.set_cons_zero, List.set_cons_succ, List.length_cons]
      refine wpAnyH_take (i := 8) (v := .tuple #[.agg #[.string S1, .int .i64 Q1], .bool true]) rfl (by kernel_rfl) (by kernel_rfl) (by kernel_rfl) (fun _ _ _ h => h) (Or.inl ⟨by rfl, ?_⟩) s27 ?_
      ·intro w5 s0
       go_simp
      try simp only [Act.put, List.getElem_toArray, List.getElem_cons_zero, List.getElem_cons_succ, List.setIfInBounds_toArray, List.set_cons_zero, List.set_cons_succ, List.length_cons]
      refine wpAnyH_take (i := 9) (v := .agg #[.string S1, .int .i64 Q1]) rfl (by kernel_rfl) (by kernel_rfl) (by kernel_rfl) (fun _ _ _ h => h) (Or.inl ⟨by rfl, ?_⟩) s27 ?_
      ·intro w5 s0
       go_simp
      try simp only [Act.put, List.getElem_toArray, List.getElem_cons_zero, List.getElem_cons_succ, List.setIfInBounds_toArray, List.set_cons_zero, List.set_cons_succ, List.length_cons]
      refine wpAnyH_take (i := 10) (v := .bool true) rfl (by kernel_rfl) (by kernel_rfl) (by kernel_rfl) (fun _ _ _ h => h) (Or.inl ⟨by rfl, ?_⟩) s27 ?_
      ·intro w5 s0
       go_simp
      try simp only [Act.put, List.getElem_toArray, List.getElem_cons_zero, List.getElem_cons_succ, List.setIfInBounds_toArray, List.set_cons_zero, List.set_cons_succ, List.length_cons]
      refine rd1 11 (by kernel_rfl) rfl fun K11 hK11 => ?_
      go_simp
      obtain ⟨W29, hW29⟩ : ∃ W, W = W27.alloc (.cells #[.string ⟨#[]⟩, .int .i64 0] 31) := ⟨_, rfl⟩
      have c29 : Below W27.heap.size W27 W29 := by rw [hW29]; exact (Below.refl _ _).alloc (Nat.le_refl _) _
      have e29 : BoxDe W29 W27.heap.size (.string ⟨#[]⟩) (.int .i64 0) := by rw [hW29]; simp [BoxDe, go_sem]
      have l1 : D < W27.heap.size := s27.1.b
      have l2 : VB < W27.heap.size := World.block_lt_of_cell? _ _ s27.2.1
      rw [← hW29]
      clear hW29
      have b29 : Below w.heap.size w W29 := b27.trans (c29.mono b27.size)
      have s29 : Blk W29 D [.int .i64 k, .string ⟨#[]⟩, .int .u64 p, .int .u64 0, .string ⟨#[]⟩, .slice none 0 0, .slice none 0 0, .int .i64 0] ∧ BoxDe W29 VB (.string S) (.int .i64 Q) := ⟨s27.1.up c29, keepb c29 s27.2⟩
      refine hK11.out _ _ s29 (fun _ => ?_)
      clear hK11
      try simp only [Act.put, List.getElem_toArray, List.getElem_cons_zero, List.getElem_cons_succ, List.setIfInBounds_toArray, List.set_cons_zero, List.set_cons_succ, List.length_cons]
      generalize W27.heap.size = E at *
      refine rd1 12 (by kernel_rfl) rfl fun K12 hK12 => ?_
      obtain ⟨t0, t1, t2, t3⟩ := id e29
      go_simp
      obtain ⟨W30, hW30⟩ : ∃ W, W = (W29.setCell ⟨E, 0, none⟩ (.string S1)).setCell ⟨E, 1, none⟩ (.int .i64 Q1) := ⟨_, rfl⟩
      have b30 : Below w.heap.size w W30 := by rw [hW30]; exact (b29.setCell (p := ⟨E, 0, none⟩) (by dsimp only; omega) _).setCell (p := ⟨E, 1, none⟩) (by dsimp only; omega) _
      have e30 : BoxDe W30 E (.string S1) (.int .i64 Q1) := by rw [hW30]; exact (e29.put0 _).put1 _
      have s30 : Blk W30 D [.int .i64 k, .string ⟨#[]⟩, .int .u64 p, .int .u64 0, .string ⟨#[]⟩, .slice none 0 0, .slice none 0 0, .int .i64 0] ∧ BoxDe W30 VB (.string S) (.int .i64 Q) := by rw [hW30]; exact ⟨(s29.1.far (by omega) _ _).far (by omega) _ _, (s29.2.pastA (by omega) _ _).pastA (by omega) _ _⟩
      rw [← hW30]
      clear hW30 t0 t1 t2 t3
      refine hK12.out _ _ s30 (fun _ => ?_)
      clear hK12
      try simp only [Act.put, List.getElem_toArray, List.getElem_cons_zero, List.getElem_cons_succ, List.setIfInBounds_toArray, List.set_cons_zero, List.set_cons_succ, List.length_cons]
      refine rd1 13 (by kernel_rfl) rfl fun K13 hK13 => ?_
      go_simp
      refine hK13.out _ _ s30 (fun _ => ?_)
      clear hK13
      try simp only [Act.put, List.getElem_toArray, List.getElem_cons_zero, List.getElem_cons_succ, List.setIfInBounds_toArray, List.set_cons_zero, List.set_cons_succ, List.length_cons]
      refine wpAnyH_done (by kernel_rfl) ?_ _
      go_wp2
      go_meet
      exact ⟨_, rfl, _, rfl, rfl, by omega, b30, e30, s30.2⟩
     ·skip
      go_simp
      obtain ⟨W28, hW28⟩ : ∃ W, W = W25.alloc (.cells #[.string ⟨#[]⟩, .int .i64 0] 31) := ⟨_, rfl⟩
      have c28 : Below W25.heap.size W25 W28 := by rw [hW28]; exact (Below.refl _ _).alloc (Nat.le_refl _) _
      have e28 : BoxDe W28 W25.heap.size (.string ⟨#[]⟩) (.int .i64 0) := by rw [hW28]; simp [BoxDe, go_sem]
      have l1 : D < W25.heap.size := s25.1.b
      have l2 : VB < W25.heap.size := World.block_lt_of_cell? _ _ s25.2.1
      rw [← hW28]
      clear hW28
      have b28 : Below w.heap.size w W28 := b25.trans (c28.mono b25.size)
      have s28 : Blk W28 D [.int .i64 k, .string ⟨#[]⟩, .int .u64 p, .int .u64 0, .string ⟨#[]⟩, .slice none 0 0, .slice none 0 0, .int .i64 0] ∧ BoxDe W28 VB (.string S) (.int .i64 Q) := ⟨s25.1.up c28, keepb c28 s25.2⟩
      refine hK11.out _ _ s28 (fun _ => ?_)
      clear hK11
      try simp only [Act.put, List.getElem_toArray, List.getElem_cons_zero, List.getElem_cons_succ, List.setIfInBounds_toArray, List.set_cons_zero, List.set_cons_succ, List.length_cons]
      generalize W25.heap.size = E at *
      refine rd1 7 (by kernel_rfl) rfl fun K7 hK7 => ?_
      go_simp
      refine (hR W28).mono ?_
      rintro e W31 ⟨rfl, c31⟩
      have b31 : Below w.heap.size w W31 := b28.trans (c31.mono b28.size)
      have s31 : Blk W31 D [.int .i64 k, .string ⟨#[]⟩, .int .u64 p, .int .u64 0, .string ⟨#[]⟩, .slice none 0 0, .slice none 0 0, .int .i64 0] ∧ BoxDe W31 VB (.string S) (.int .i64 Q) := ⟨s28.1.up c31, keepb c31 s28.2⟩
      have e31 := keepb c31 e28
      refine hK7.out _ _ s31 (fun _ => ?_)
      clear hK7
      try simp only [Act.put, List.getElem_toArray, List.getElem_cons_zero, List.getElem_cons_succ, List.setIfInBounds_toArray, List.set_cons_zero, List.set_cons_succ, List.length_cons]
      refine wpAnyH_take (i := 8) (v := .tuple #[.agg #[.string S1, .int .i64 Q1], .bool true]) rfl (by kernel_rfl) (by kernel_rfl) (by kernel_rfl) (fun _ _ _ h => h) (Or.inl ⟨by rfl, ?_⟩) s31 ?_
      ·intro w5 s0
       go_simp
      try simp only [Act.put, List.getElem_toArray, List.getElem_cons_zero, List.getElem_cons_succ, List.setIfInBounds_toArray, List.set_cons_zero, List.set_cons_succ, List.length_cons]
      refine wpAnyH_take (i := 9) (v := .agg #[.string S1, .int .i64 Q1]) rfl (by kernel_rfl) (by kernel_rfl) (by kernel_rfl) (fun _ _ _ h => h) (Or.inl ⟨by rfl, ?_⟩) s31 ?_
      ·intro w5 s0
       go_simp
      try simp only [Act.put, List.getElem_toArray, List.getElem_cons_zero, List.getElem_cons_succ, List.setIfInBounds_toArray, List.set_cons_zero, List.set_cons_succ, List.length_cons]
      refine wpAnyH_take (i := 10) (v := .bool true) rfl (by kernel_rfl) (by kernel_rfl) (by kernel_rfl) (fun _ _ _ h => h) (Or.inl ⟨by rfl, ?_⟩) s31 ?_
      ·intro w5 s0
       go_simp
      try simp only [Act.put, List.getElem_toArray, List.getElem_cons_zero, List.getElem_cons_succ, List.setIfInBounds_toArray, List.set_cons_zero, List.set_cons_succ, List.length_cons]
      refine rd1 12 (by kernel_rfl) rfl fun K12 hK12 => ?_
      obtain ⟨t0, t1, t2, t3⟩ := id e31
      go_simp
      obtain ⟨W32, hW32⟩ : ∃ W, W = (W31.setCell ⟨E, 0, none⟩ (.string S1)).setCell ⟨E, 1, none⟩ (.int .i64 Q1) := ⟨_, rfl⟩
      have b32 : Below w.heap.size w W32 := by rw [hW32]; exact (b31.setCell (p := ⟨E, 0, none⟩) (by dsimp only; omega) _).setCell (p := ⟨E, 1, none⟩) (by dsimp only; omega) _
      have e32 : BoxDe W32 E (.string S1) (.int .i64 Q1) := by rw [hW32]; exact (e31.put0 _).put1 _
      have s32 : Blk W32 D [.int .i64 k, .string ⟨#[]⟩, .int .u64 p, .int .u64 0, .string ⟨#[]⟩, .slice none 0 0, .slice none 0 0, .int .i64 0] ∧ BoxDe W32 VB (.string S) (.int .i64 Q) := by rw [hW32]; exact ⟨(s31.1.far (by omega) _ _).far (by omega) _ _, (s31.2.pastA (by omega) _ _).pastA (by omega) _ _⟩
      rw [← hW32]
      clear hW32 t0 t1 t2 t3
      refine hK12.out _ _ s32 (fun _ => ?_)
      clear hK12
      try simp only [Act.put, List.getElem_toArray, List.getElem_cons_zero, List.getElem_cons_succ, List.setIfInBounds_toArray, List.set_cons_zero, List.set_cons_succ, List.length_cons]
      refine rd1 13 (by kernel_rfl) rfl fun K13 hK13 => ?_
      go_simp
      refine hK13.out _ _ s32 (fun _ => ?_)
      clear hK13
      try simp only [Act.put, List.getElem_toArray, List.getElem_cons_zero, List.getElem_cons_succ, List.setIfInBounds_toArray, List.set_cons_zero, List.set_cons_succ, List.length_cons]
      refine wpAnyH_done (by kernel_rfl) ?_ _
      go_wp2
      go_meet
      exact ⟨_, rfl, _, rfl, rfl, by omega, b32, e32, s32.2⟩
    ·skip
     go_simp
     obtain ⟨W26, hW26⟩ : ∃ W, W = W23.alloc (.cells #[.string ⟨#[]⟩, .int .i64 0] 31) := ⟨_, rfl⟩
     have c26 : Below W23.heap.size W23 W26 := by rw [hW26]; exact (Below.refl _ _).alloc (Nat.le_refl _) _
     have e26 : BoxDe W26 W23.heap.size (.string ⟨#[]⟩) (.int .i64 0) := by rw [hW26]; simp [BoxDe, go_sem]
     have l1 : D < W23.heap.size := s23.1.b
     have l2 : VB < W23.heap.size := World.block_lt_of_cell? _ _ s23.2.1
     rw [← hW26]
     clear hW26
     have b26 : Below w.heap.size w W26 := b23.trans (c26.mono b23.size)
     have s26 : Blk W26 D [.int .i64 k, .string ⟨#[]⟩, .int .u64 p, .int .u64 0, .string ⟨#[]⟩, .slice none 0 0, .slice none 0 0, .int .i64 0] ∧ BoxDe W26 VB (.string S) (.int .i64 Q) := ⟨s23.1.up c26, keepb c26 s23.2⟩
     have k26 := k23.up c26
     refine hK11.out _ _ s26 (fun _ => ?_)
     clear hK11
     try simp only [Act.put, List.getElem_toArray, List.getElem_cons_zero, List.getElem_cons_succ, List.setIfInBounds_toArray, List.set_cons_zero, List.set_cons_succ, List.length_cons]
     generalize W23.heap.size = E at *
     refine rd1 6 (by kernel_rfl) rfl fun K6 hK6 => ?_
     go_simp
     refine (hPr _ W26 (he.below b26) (hk.up b26) k26.b k26.range).mono ?_
     rintro e W33 ⟨rfl, c33⟩
     have b33 : Below w.heap.size w W33 := b26.trans (c33.mono b26.size)
     have s33 : Blk W33 D [.int .i64 k, .string ⟨#[]⟩, .int .u64 p, .int .u64 0, .string ⟨#[]⟩, .slice none 0 0, .slice none 0 0, .int .i64 0] ∧ BoxDe W33 VB (.string S) (.int .i64 Q) := ⟨s26.1.up c33, keepb c33 s26.2⟩
     have e33 := keepb c33 e26
     refine hK6.out _ _ s33 (fun _ => ?_)
     clear hK6
     try simp only [Act.put, List.getElem_toArray, List.getElem_cons_zero, List.getElem_cons_succ, List.setIfInBounds_toArray, List.set_cons_zero, List.set_cons_succ, List.length_cons]
     refine rd1 7 (by kernel_rfl) rfl fun K7 hK7 => ?_
     go_simp
     refine (hR W33).mono ?_
     rintro e W34 ⟨rfl, c34⟩
     have b34 : Below w.heap.size w W34 := b33.trans (c34.mono b33.size)
     have s34 : Blk W34 D [.int .i64 k, .string ⟨#[]⟩, .int .u64 p, .int .u64 0, .string ⟨#[]⟩, .slice none 0 0, .slice none 0 0, .int .i64 0] ∧ BoxDe W34 VB (.string S) (.int .i64 Q) := ⟨s33.1.up c34, keepb c34 s33.2⟩
     have e34 := keepb c34 e33
     refine hK7.out _ _ s34 (fun _ => ?_)
     clear hK7
     try simp only [Act.put, List.getElem_toArray, List.getElem_cons_zero, List.getElem_cons_succ, List.setIfInBounds_toArray, List.set_cons_zero, List.set_cons_succ, List.length_cons]
     refine wpAnyH_take (i := 8) (v := .tuple #[.agg #[.string S1, .int .i64 Q1], .bool true]) rfl (by kernel_rfl) (by kernel_rfl) (by kernel_rfl) (fun _ _ _ h => h) (Or.inl ⟨by rfl, ?_⟩) s34 ?_
     ·intro w5 s0
      go_simp
     try simp only [Act.put, List.getElem_toArray, List.getElem_cons_zero, List.getElem_cons_succ, List.setIfInBounds_toArray, List.set_cons_zero, List.set_cons_succ, List.length_cons]
     refine wpAnyH_take (i := 9) (v := .agg #[.string S1, .int .i64 Q1]) rfl (by kernel_rfl) (by kernel_rfl) (by kernel_rfl) (fun _ _ _ h => h) (Or.inl ⟨by rfl, ?_⟩) s34 ?_
     ·intro w5 s0
      go_simp
     try simp only [Act.put, List.getElem_toArray, List.getElem_cons_zero, List.getElem_cons_succ, List.setIfInBounds_toArray, List.set_cons_zero, List.set_cons_succ, List.length_cons]
     refine wpAnyH_take (i := 10) (v := .bool true) rfl (by kernel_rfl) (by kernel_rfl) (by kernel_rfl) (fun _ _ _ h => h) (Or.inl ⟨by rfl, ?_⟩) s34 ?_
     ·intro w5 s0
      go_simp
     try simp only [Act.put, List.getElem_toArray, List.getElem_cons_zero, List.getElem_cons_succ, List.setIfInBounds_toArray, List.set_cons_zero, List.set_cons_succ, List.length_cons]
     refine rd1 12 (by kernel_rfl) rfl fun K12 hK12 => ?_
     obtain ⟨t0, t1, t2, t3⟩ := id e34
     go_simp
     obtain ⟨W35, hW35⟩ : ∃ W, W = (W34.setCell ⟨E, 0, none⟩ (.string S1)).setCell ⟨E, 1, none⟩ (.int .i64 Q1) := ⟨_, rfl⟩
     have b35 : Below w.heap.size w W35 := by rw [hW35]; exact (b34.setCell (p := ⟨E, 0, none⟩) (by dsimp only; omega) _).setCell (p := ⟨E, 1, none⟩) (by dsimp only; omega) _
     have e35 : BoxDe W35 E (.string S1) (.int .i64 Q1) := by rw [hW35]; exact (e34.put0 _).put1 _
     have s35 : Blk W35 D [.int .i64 k, .string ⟨#[]⟩, .int .u64 p, .int .u64 0, .string ⟨#[]⟩, .slice none 0 0, .slice none 0 0, .int .i64 0] ∧ BoxDe W35 VB (.string S) (.int .i64 Q) := by rw [hW35]; exact ⟨(s34.1.far (by omega) _ _).far (by omega) _ _, (s34.2.pastA (by omega) _ _).pastA (by omega) _ _⟩
     rw [← hW35]
     clear hW35 t0 t1 t2 t3
     refine hK12.out _ _ s35 (fun _ => ?_)
     clear hK12
     try simp only [Act.put, List.getElem_toArray, List.getElem_cons_zero, List.getElem_cons_succ, List.setIfInBounds_toArray, List.set_cons_zero, List.set_cons_succ, List.length_cons]
     refine rd1 13 (by kernel_rfl) rfl fun K13 hK13 => ?_
     go_simp
     refine hK13.out _ _ s35 (fun _ => ?_)
     clear hK13
     try simp only [Act.put, List.getElem_toArray, List.getElem_cons_zero, List.getElem_cons_succ, List.setIfInBounds_toArray, List.set_cons_zero, List.set_cons_succ, List.length_cons]
     refine wpAnyH_done (by kernel_rfl) ?_ _
     go_wp2
     go_meet
     exact ⟨_, rfl, _, rfl, rfl, by omega, b35, e35, s35.2⟩
   ·skip
    go_simp
    obtain ⟨W24, hW24⟩ : ∃ W, W = W21.alloc (.cells #[.string ⟨#[]⟩, .int .i64 0] 31) := ⟨_, rfl⟩
    have c24 : Below W21.heap.size W21 W24 := by rw [hW24]; exact (Below.refl _ _).alloc (Nat.le_refl _) _
    have e24 : BoxDe W24 W21.heap.size (.string ⟨#[]⟩) (.int .i64 0) := by rw [hW24]; simp [BoxDe, go_sem]
    have l1 : D < W21.heap.size := s21.1.b
    have l2 : VB < W21.heap.size := World.block_lt_of_cell? _ _ s21.2.1
    rw [← hW24]
    clear hW24
    have b24 : Below w.heap.size w W24 := b21.trans (c24.mono b21.size)
    have s24 : Blk W24 D [.int .i64 k, .string ⟨#[]⟩, .int .u64 p, .int .u64 0, .string ⟨#[]⟩, .slice none 0 0, .slice none 0 0, .int .i64 0] ∧ BoxDe W24 VB (.string S) (.int .i64 Q) := ⟨s21.1.up c24, keepb c24 s21.2⟩
    refine hK11.out _ _ s24 (fun _ => ?_)
    clear hK11
    try simp only [Act.put, List.getElem_toArray, List.getElem_cons_zero, List.getElem_cons_succ, List.setIfInBounds_toArray, List.set_cons_zero, List.set_cons_succ, List.length_cons]
    generalize W21.heap.size = E at *
    refine rd1 5 (by kernel_rfl) rfl fun K5 hK5 => ?_
    go_simp
    obtain ⟨W36, hW36⟩ : ∃ W, W = W24.alloc (.cells #[.int .i64 6, .string ⟨#[]⟩, .int .u64 q, .int .u64 0, .string ⟨#[]⟩, .slice none 0 0, .slice none 0 0, .int .i64 0, .int .i64 k, .string ⟨#[]⟩, .int .u64 p, .int .u64 0, .string ⟨#[]⟩, .slice none 0 0, .slice none 0 0, .int .i64 0] 29) := ⟨_, rfl⟩
    have c36 : Below W24.heap.size W24 W36 := by rw [hW36]; exact (Below.refl _ _).alloc (Nat.le_refl _) _
    have k36 : Blk W36 W24.heap.size [.int .i64 6, .string ⟨#[]⟩, .int .u64 q, .int .u64 0, .string ⟨#[]⟩, .slice none 0 0, .slice none 0 0, .int .i64 0, .int .i64 k, .string ⟨#[]⟩, .int .u64 p, .int .u64 0, .string ⟨#[]⟩, .slice none 0 0, .slice none 0 0, .int .i64 0] := by rw [hW36]; exact Blk.new W24 [.int .i64 6, .string ⟨#[]⟩, .int .u64 q, .int .u64 0, .string ⟨#[]⟩, .slice none 0 0, .slice none 0 0, .int .i64 0, .int .i64 k, .string ⟨#[]⟩, .int .u64 p, .int .u64 0, .string ⟨#[]⟩, .slice none 0 0, .slice none 0 0, .int .i64 0] _
    rw [← hW36]
    clear hW36
    have b36 : Below w.heap.size w W36 := b24.trans (c36.mono b24.size)
    have s36 : Blk W36 D [.int .i64 k, .string ⟨#[]⟩, .int .u64 p, .int .u64 0, .string ⟨#[]⟩, .slice none 0 0, .slice none 0 0, .int .i64 0] ∧ BoxDe W36 VB (.string S) (.int .i64 Q) := ⟨s24.1.up c36, keepb c36 s24.2⟩
    have e36 := keepb c36 e24
    refine hK5.out _ _ s36 (fun _ => ?_)
    clear hK5
    try simp only [Act.put, List.getElem_toArray, List.getElem_cons_zero, List.getElem_cons_succ, List.setIfInBounds_toArray, List.set_cons_zero, List.set_cons_succ, List.length_cons]
    refine rd1 6 (by kernel_rfl) rfl fun K6 hK6 => ?_
    go_simp
    refine (hPr _ W36 (he.below b36) (hk.up b36) k36.b k36.range).mono ?_
    rintro e W37 ⟨rfl, c37⟩
    have b37 : Below w.heap.size w W37 := b36.trans (c37.mono b36.size)
    have s37 : Blk W37 D [.int .i64 k, .string ⟨#[]⟩, .int .u64 p, .int .u64 0, .string ⟨#[]⟩, .slice none 0 0, .slice none 0 0, .int .i64 0] ∧ BoxDe W37 VB (.string S) (.int .i64 Q) := ⟨s36.1.up c37, keepb c37 s36.2⟩
    have e37 := keepb c37 e36
    refine hK6.out _ _ s37 (fun _ => ?_)
    clear hK6
    try simp only [Act.put, List.getElem_toArray, List.getElem_cons_zero, List.getElem_cons_succ, List.setIfInBounds_toArray, List.set_cons_zero, List.set_cons_succ, List.length_cons]
    refine rd1 7 (by kernel_rfl) rfl fun K7 hK7 => ?_
    go_simp
    refine (hR W37).mono ?_
    rintro e W38 ⟨rfl, c38⟩
    have b38 : Below w.heap.size w W38 := b37.trans (c38.mono b37.size)
    have s38 : Blk W38 D [.int .i64 k, .string ⟨#[]⟩, .int .u64 p, .int .u64 0, .string ⟨#[]⟩, .slice none 0 0, .slice none 0 0, .int .i64 0] ∧ BoxDe W38 VB (.string S) (.int .i64 Q) := ⟨s37.1.up c38, keepb c38 s37.2⟩
    have e38 := keepb c38 e37
    refine hK7.out _ _ s38 (fun _ => ?_)
    clear hK7
    try simp only [Act.put, List.getElem_toArray, List.getElem_cons_zero, List.getElem_cons_succ, List.setIfInBounds_toArray, List.set_cons_zero, List.set_cons_succ, List.length_cons]
    refine wpAnyH_take (i := 8) (v := .tuple #[.agg #[.string S1, .int .i64 Q1], .bool true]) rfl (by kernel_rfl) (by kernel_rfl) (by kernel_rfl) (fun _ _ _ h => h) (Or.inl ⟨by rfl, ?_⟩) s38 ?_
    ·intro w5 s0
     go_simp
    try simp only [Act.put, List.getElem_toArray, List.getElem_cons_zero, List.getElem_cons_succ, List.setIfInBounds_toArray, List.set_cons_zero, List.set_cons_succ, List.length_cons]
    refine wpAnyH_take (i := 9) (v := .agg #[.string S1, .int .i64 Q1]) rfl (by kernel_rfl) (by kernel_rfl) (by kernel_rfl) (fun _ _ _ h => h) (Or.inl ⟨by rfl, ?_⟩) s38 ?_
    ·intro w5 s0
     go_simp
    try simp only [Act.put, List.getElem_toArray, List.getElem_cons_zero, List.getElem_cons_succ, List.setIfInBounds_toArray, List.set_cons_zero, List.set_cons_succ, List.length_cons]
    refine wpAnyH_take (i := 10) (v := .bool true) rfl (by kernel_rfl) (by kernel_rfl) (by kernel_rfl) (fun _ _ _ h => h) (Or.inl ⟨by rfl, ?_⟩) s38 ?_
    ·intro w5 s0
     go_simp
    try simp only [Act.put, List.getElem_toArray, List.getElem_cons_zero, List.getElem_cons_succ, List.setIfInBounds_toArray, List.set_cons_zero, List.set_cons_succ, List.length_cons]
    refine rd1 12 (by kernel_rfl) rfl fun K12 hK12 => ?_
    obtain ⟨t0, t1, t2, t3⟩ := id e38
    go_simp
    obtain ⟨W39, hW39⟩ : ∃ W, W = (W38.setCell ⟨E, 0, none⟩ (.string S1)).setCell ⟨E, 1, none⟩ (.int .i64 Q1) := ⟨_, rfl⟩
    have b39 : Below w.heap.size w W39 := by rw [hW39]; exact (b38.setCell (p := ⟨E, 0, none⟩) (by dsimp only; omega) _).setCell (p := ⟨E, 1, none⟩) (by dsimp only; omega) _
    have e39 : BoxDe W39 E (.string S1) (.int .i64 Q1) := by rw [hW39]; exact (e38.put0 _).put1 _
    have s39 : Blk W39 D [.int .i64 k, .string ⟨#[]⟩, .int .u64 p, .int .u64 0, .string ⟨#[]⟩, .slice none 0 0, .slice none 0 0, .int .i64 0] ∧ BoxDe W39 VB (.string S) (.int .i64 Q) := by rw [hW39]; exact ⟨(s38.1.far (by omega) _ _).far (by omega) _ _, (s38.2.pastA (by omega) _ _).pastA (by omega) _ _⟩
    rw [← hW39]
    clear hW39 t0 t1 t2 t3
    refine hK12.out _ _ s39 (fun _ => ?_)
    clear hK12
    try simp only [Act.put, List.getElem_toArray, List.getElem_cons_zero, List.getElem_cons_succ, List.setIfInBounds_toArray, List.set_cons_zero, List.set_cons_succ, List.length_cons]
    refine rd1 13 (by kernel_rfl) rfl fun K13 hK13 => ?_
    go_simp
    refine hK13.out _ _ s39 (fun _ => ?_)
    clear hK13
    try simp only [Act.put, List.getElem_toArray, List.getElem_cons_zero, List.getElem_cons_succ, List.setIfInBounds_toArray, List.set_cons_zero, List.set_cons_succ, List.length_cons]
    refine wpAnyH_done (by kernel_rfl) ?_ _
    go_wp2
    go_meet
    exact ⟨_, rfl, _, rfl, rfl, by omega, b39, e39, s39.2⟩
  ·skip
   go_simp
   obtain ⟨W22, hW22⟩ : ∃ W, W = W20.alloc (.cells #[.string ⟨#[]⟩, .int .i64 0] 31) := ⟨_, rfl⟩
   have c22 : Below W20.heap.size W20 W22 := by rw [hW22]; exact (Below.refl _ _).alloc (Nat.le_refl _) _
   have e22 : BoxDe W22 W20.heap.size (.string ⟨#[]⟩) (.int .i64 0) := by rw [hW22]; simp [BoxDe, go_sem]
   have l1 : D < W20.heap.size := s20.1.b
   have l2 : VB < W20.heap.size := World.block_lt_of_cell? _ _ s20.2.1
   rw [← hW22]
   clear hW22
   have b22 : Below w.heap.size w W22 := b20.trans (c22.mono b20.size)
   have s22 : Blk W22 D [.int .i64 k, .string ⟨#[]⟩, .int .u64 p, .int .u64 0, .string ⟨#[]⟩, .slice none 0 0, .slice none 0 0, .int .i64 0] ∧ BoxDe W22 VB (.string S) (.int .i64 Q) := ⟨s20.1.up c22, keepb c22 s20.2⟩
   refine hK11.out _ _ s22 (fun _ => ?_)
   clear hK11
   try simp only [Act.put, List.getElem_toArray, List.getElem_cons_zero, List.getElem_cons_succ, List.setIfInBounds_toArray, List.set_cons_zero, List.set_cons_succ, List.length_cons]
   generalize W20.heap.size = E at *
   refine rd1 3 (by kernel_rfl) rfl fun K3 hK3 => ?_
   go_simp
   refine (hNu W22).mono ?_
   rintro e W40 ⟨rfl, c40⟩
   have b40 : Below w.heap.size w W40 := b22.trans (c40.mono b22.size)
   have s40 : Blk W40 D [.int .i64 k, .string ⟨#[]⟩, .int .u64 p, .int .u64 0, .string ⟨#[]⟩, .slice none 0 0, .slice none 0 0, .int .i64 0] ∧ BoxDe W40 VB (.string S) (.int .i64 Q) := ⟨s22.1.up c40, keepb c40 s22.2⟩
   have e40 := keepb c40 e22
   refine hK3.out _ _ s40 (fun _ => ?_)
   clear hK3
   try simp only [Act.put, List.getElem_toArray, List.getElem_cons_zero, List.getElem_cons_succ, List.setIfInBounds_toArray, List.set_cons_zero, List.set_cons_succ, List.length_cons]
   refine rd1 5 (by kernel_rfl) rfl fun K5 hK5 => ?_
   go_simp
   obtain ⟨W41, hW41⟩ : ∃ W, W = W40.alloc (.cells #[.int .i64 6, .string ⟨#[]⟩, .int .u64 q, .int .u64 0, .string ⟨#[]⟩, .slice none 0 0, .slice none 0 0, .int .i64 0, .int .i64 k, .string ⟨#[]⟩, .int .u64 p, .int .u64 0, .string ⟨#[]⟩, .slice none 0 0, .slice none 0 0, .int .i64 0] 29) := ⟨_, rfl⟩
   have c41 : Below W40.heap.size W40 W41 := by rw [hW41]; exact (Below.refl _ _).alloc (Nat.le_refl _) _
   have k41 : Blk W41 W40.heap.size [.int .i64 6, .string ⟨#[]⟩, .int .u64 q, .int .u64 0, .string ⟨#[]⟩, .slice none 0 0, .slice none 0 0, .int .i64 0, .int .i64 k, .string ⟨#[]⟩, .int .u64 p, .int .u64 0, .string ⟨#[]⟩, .slice none 0 0, .slice none 0 0, .int .i64 0] := by rw [hW41]; exact Blk.new W40 [.int .i64 6, .string ⟨#[]⟩, .int .u64 q, .int .u64 0, .string ⟨#[]⟩, .slice none 0 0, .slice none 0 0, .int .i64 0, .int .i64 k, .string ⟨#[]⟩, .int .u64 p, .int .u64 0, .string ⟨#[]⟩, .slice none 0 0, .slice none 0 0, .int .i64 0] _
   rw [← hW41]
   clear hW41
   have b41 : Below w.heap.size w W41 := b40.trans (c41.mono b40.size)
   have s41 : Blk W41 D [.int .i64 k, .string ⟨#[]⟩, .int .u64 p, .int .u64 0, .string ⟨#[]⟩, .slice none 0 0, .slice none 0 0, .int .i64 0] ∧ BoxDe W41 VB (.string S) (.int .i64 Q) := ⟨s40.1.up c41, keepb c41 s40.2⟩
   have e41 := keepb c41 e40
   refine hK5.out _ _ s41 (fun _ => ?_)
   clear hK5
   try simp only [Act.put, List.getElem_toArray, List.getElem_cons_zero, List.getElem_cons_succ, List.setIfInBounds_toArray, List.set_cons_zero, List.set_cons_succ, List.length_cons]
   refine rd1 6 (by kernel_rfl) rfl fun K6 hK6 => ?_
   go_simp
   refine (hPr _ W41 (he.below b41) (hk.up b41) k41.b k41.range).mono ?_
   rintro e W42 ⟨rfl, c42⟩
   have b42 : Below w.heap.size w W42 := b41.trans (c42.mono b41.size)
   have s42 : Blk W42 D [.int .i64 k, .string ⟨#[]⟩, .int .u64 p, .int .u64 0, .string ⟨#[]⟩, .slice none 0 0, .slice none 0 0, .int .i64 0] ∧ BoxDe W42 VB (.string S) (.int .i64 Q) := ⟨s41.1.up c42, keepb c42 s41.2⟩
   have e42 := keepb c42 e41
   refine hK6.out _ _ s42 (fun _ => ?_)
   clear hK6
   try simp only [Act.put, List.getElem_toArray, List.getElem_cons_zero, List.getElem_cons_succ, List.setIfInBounds_toArray, List.set_cons_zero, List.set_cons_succ, List.length_cons]
   refine rd1 7 (by kernel_rfl) rfl fun K7 hK7 => ?_
   go_simp
   refine (hR W42).mono ?_
   rintro e W43 ⟨rfl, c43⟩
   have b43 : Below w.heap.size w W43 := b42.trans (c43.mono b42.size)
   have s43 : Blk W43 D [.int .i64 k, .string ⟨#[]⟩, .int .u64 p, .int .u64 0, .string ⟨#[]⟩, .slice none 0 0, .slice none 0 0, .int .i64 0] ∧ BoxDe W43 VB (.string S) (.int .i64 Q) := ⟨s42.1.up c43, keepb c43 s42.2⟩
   have e43 := keepb c43 e42
   refine hK7.out _ _ s43 (fun _ => ?_)
   clear hK7
   try simp only [Act.put, List.getElem_toArray, List.getElem_cons_zero, List.getElem_cons_succ, List.setIfInBounds_toArray, List.set_cons_zero, List.set_cons_succ, List.length_cons]
   refine wpAnyH_take (i := 8) (v := .tuple #[.agg #[.string S1, .int .i64 Q1], .bool true]) rfl (by kernel_rfl) (by kernel_rfl) (by kernel_rfl) (fun _ _ _ h => h) (Or.inl ⟨by rfl, ?_⟩) s43 ?_
   ·intro w5 s0
    go_simp
   try simp only [Act.put, List.getElem_toArray, List.getElem_cons_zero, List.getElem_cons_succ, List.setIfInBounds_toArray, List.set_cons_zero, List.set_cons_succ, List.length_cons]
   refine wpAnyH_take (i := 9) (v := .agg #[.string S1, .int .i64 Q1]) rfl (by kernel_rfl) (by kernel_rfl) (by kernel_rfl) (fun _ _ _ h => h) (Or.inl ⟨by rfl, ?_⟩) s43 ?_
   ·intro w5 s0
    go_simp
   try simp only [Act.put, List.getElem_toArray, List.getElem_cons_zero, List.getElem_cons_succ, List.setIfInBounds_toArray, List.set_cons_zero, List.set_cons_succ, List.length_cons]
   refine wpAnyH_take (i := 10) (v := .bool true) rfl (by kernel_rfl) (by kernel_rfl) (by kernel_rfl) (fun _ _ _ h => h) (Or.inl ⟨by rfl, ?_⟩) s43 ?_
   ·intro w5 s0
    go_simp
   try simp only [Act.put, List.getElem_toArray, List.getElem_cons_zero, List.getElem_cons_succ, List.setIfInBounds_toArray, List.set_cons_zero, List.set_cons_succ, List.length_cons]
   refine rd1 12 (by kernel_rfl) rfl fun K12 hK12 => ?_
   obtain ⟨t0, t1, t2, t3⟩ := id e43
   go_simp
   obtain ⟨W44, hW44⟩ : ∃ W, W = (W43.setCell ⟨E, 0, none⟩ (.string S1)).setCell ⟨E, 1, none⟩ (.int .i64 Q1) := ⟨_, rfl⟩
   have b44 : Below w.heap.size w W44 := by rw [hW44]; exact (b43.setCell (p := ⟨E, 0, none⟩) (by dsimp only; omega) _).setCell (p := ⟨E, 1, none⟩) (by dsimp only; omega) _
   have e44 : BoxDe W44 E (.string S1) (.int .i64 Q1) := by rw [hW44]; exact (e43.put0 _).put1 _
   have s44 : Blk W44 D [.int .i64 k, .string ⟨#[]⟩, .int .u64 p, .int .u64 0, .string ⟨#[]⟩, .slice none 0 0, .slice none 0 0, .int .i64 0] ∧ BoxDe W44 VB (.string S) (.int .i64 Q) := by rw [hW44]; exact ⟨(s43.1.far (by omega) _ _).far (by omega) _ _, (s43.2.pastA (by omega) _ _).pastA (by omega) _ _⟩
   rw [← hW44]
   clear hW44 t0 t1 t2 t3
   refine hK12.out _ _ s44 (fun _ => ?_)
   clear hK12
   try simp only [Act.put, List.getElem_toArray, List.getElem_cons_zero, List.getElem_cons_succ, List.setIfInBounds_toArray, List.set_cons_zero, List.set_cons_succ, List.length_cons]
   refine rd1 13 (by kernel_rfl) rfl fun K13 hK13 => ?_
   go_simp
   refine hK13.out _ _ s44 (fun _ => ?_)
   clear hK13
   try simp only [Act.put, List.getElem_toArray, List.getElem_cons_zero, List.getElem_cons_succ, List.setIfInBounds_toArray, List.set_cons_zero, List.set_cons_succ, List.length_cons]
   refine wpAnyH_done (by kernel_rfl) ?_ _
   go_wp2
   go_meet
   exact ⟨_, rfl, _, rfl, rfl, by omega, b44, e44, s44.2⟩
 case rest =>
  obtain ⟨V4, rfl, E, rfl, rfl, hEV, bE, eE, vE⟩ := hcut
  clear hPr hR hNu b3 k3 v3 hFl hVs hV
  obtain ⟨x0, x1, x2, x3⟩ := id vE
  obtain ⟨y0, y1, y2, y3⟩ := id eE
  have h6 : j = 0 ∨ j = 3 ∨ j = 1 ∨ j = 4 ∨ j = 2 ∨ j = 5 := by omega
  rcases h6 with rfl | rfl | rfl | rfl | rfl | rfl
  ·rw [show (⟨#[UInt8.ofNat (vxN 0)]⟩ : ByteArray) = ⟨#[101]⟩ from rfl]
   obtain ⟨rfl, rfl⟩ := hE (by decide)
   clear hE hPl hRg
   go_upto_region 6 with (go_at_call 11; (with_reducible refine (hRo _).mono ?_); rintro x w8 ⟨rfl, b8⟩)
   obtain ⟨W9, hW9⟩ : ∃ W9, W9 = w8.alloc (.cells #[.string S2, .int .i64 Q2] 31) := ⟨_, rfl⟩
   have c9 : Below V4.heap.size V4 W9 := by rw [hW9]; exact b8.alloc b8.size _
   have b9 : Below w.heap.size w W9 := bE.trans (c9.mono bE.size)
   have e9 := keepb c9 eE
   have v9 := keepb c9 vE
   have n9 : BoxDe W9 w8.heap.size (.string S2) (.int .i64 Q2) := by rw [hW9]; simp [BoxDe, go_sem]
   have l9 : E < w8.heap.size := World.block_lt_of_cell? w8 _ (keepb b8 eE).1
   have m9 : VB < w8.heap.size := World.block_lt_of_cell? w8 _ (keepb b8 vE).1
   have o9 : w.heap.size ≤ w8.heap.size := by have := bE.size; have := b8.size; omega
   rw [← hW9]
   clear hW9 b8 c9 bE eE vE x0 x1 x2 x3 y0 y1 y2 y3
   generalize w8.heap.size = N at *
   obtain ⟨x0, x1, x2, x3⟩ := id v9
   obtain ⟨y0, y1, y2, y3⟩ := id e9
   obtain ⟨z0, z1, z2, z3⟩ := id n9
   have hl := hL _ (he.below b9) (hk.up b9)
   go_wp2_with (go_at_call 13; refine hl.mono ?_; rintro x w10 ⟨rfl, b10⟩)
   go_ret
   exact ⟨rfl, b9.trans (b10.mono b9.size)⟩
  ·rw [show (⟨#[UInt8.ofNat (vxN 3)]⟩ : ByteArray) = ⟨#[69]⟩ from rfl]
   obtain ⟨rfl, rfl⟩ := hE (by decide)
   clear hE hPl hRg
   go_upto_region 6 with (go_at_call 11; (with_reducible refine (hRo _).mono ?_); rintro x w8 ⟨rfl, b8⟩)
   obtain ⟨W9, hW9⟩ : ∃ W9, W9 = w8.alloc (.cells #[.string S2, .int .i64 Q2] 31) := ⟨_, rfl⟩
   have c9 : Below V4.heap.size V4 W9 := by rw [hW9]; exact b8.alloc b8.size _
   have b9 : Below w.heap.size w W9 := bE.trans (c9.mono bE.size)
   have e9 := keepb c9 eE
   have v9 := keepb c9 vE
   have n9 : BoxDe W9 w8.heap.size (.string S2) (.int .i64 Q2) := by rw [hW9]; simp [BoxDe, go_sem]
   have l9 : E < w8.heap.size := World.block_lt_of_cell? w8 _ (keepb b8 eE).1
   have m9 : VB < w8.heap.size := World.block_lt_of_cell? w8 _ (keepb b8 vE).1
   have o9 : w.heap.size ≤ w8.heap.size := by have := bE.size; have := b8.size; omega
   rw [← hW9]
   clear hW9 b8 c9 bE eE vE x0 x1 x2 x3 y0 y1 y2 y3
   generalize w8.heap.size = N at *
   obtain ⟨x0, x1, x2, x3⟩ := id v9
   obtain ⟨y0, y1, y2, y3⟩ := id e9
   obtain ⟨z0, z1, z2, z3⟩ := id n9
   have hl := hL _ (he.below b9) (hk.up b9)
   go_wp2_with (go_at_call 13; refine hl.mono ?_; rintro x w10 ⟨rfl, b10⟩)
   go_ret
   exact ⟨rfl, b9.trans (b10.mono b9.size)⟩
  ·rw [show (⟨#[UInt8.ofNat (vxN 1)]⟩ : ByteArray) = ⟨#[102]⟩ from rfl]
   have hP1 : PlacesC S Q q S1 Q1 0 := hPl (by decide)
   clear hE hRg hPl
   go_upto_region 6 with (go_at_call 11; (with_reducible refine (hRo _).mono ?_); rintro x w8 ⟨rfl, b8⟩)
   obtain ⟨W9, hW9⟩ : ∃ W9, W9 = w8.alloc (.cells #[.string S2, .int .i64 Q2] 31) := ⟨_, rfl⟩
   have c9 : Below V4.heap.size V4 W9 := by rw [hW9]; exact b8.alloc b8.size _
   have b9 : Below w.heap.size w W9 := bE.trans (c9.mono bE.size)
   have e9 := keepb c9 eE
   have v9 := keepb c9 vE
   have n9 : BoxDe W9 w8.heap.size (.string S2) (.int .i64 Q2) := by rw [hW9]; simp [BoxDe, go_sem]
   have l9 : E < w8.heap.size := World.block_lt_of_cell? w8 _ (keepb b8 eE).1
   have m9 : VB < w8.heap.size := World.block_lt_of_cell? w8 _ (keepb b8 vE).1
   have o9 : w.heap.size ≤ w8.heap.size := by have := bE.size; have := b8.size; omega
   rw [← hW9]
   clear hW9 b8 c9 bE eE vE x0 x1 x2 x3 y0 y1 y2 y3
   generalize w8.heap.size = N at *
   obtain ⟨x0, x1, x2, x3⟩ := id v9
   obtain ⟨y0, y1, y2, y3⟩ := id e9
   obtain ⟨z0, z1, z2, z3⟩ := id n9
   go_wp2_with (first
    | (go_at_call 12; (with_reducible refine (hP1 _).mono ?_); rintro x w9 ⟨rfl, b10⟩; have f9 := keepb b10 n9; obtain ⟨f0, f1, f2, f3⟩ := id f9; have b11 : Below w.heap.size w ((w9.setCell ⟨N, 0, none⟩ (.string S1)).setCell ⟨N, 1, none⟩ (.int .i64 Q1)) := ((b9.trans (b10.mono b9.size)).setCell (p := ⟨N, 0, none⟩) (by dsimp only; omega) _).setCell (p := ⟨N, 1, none⟩) (by dsimp only; omega) _; have e11 : BoxDe ((w9.setCell ⟨N, 0, none⟩ (.string S1)).setCell ⟨N, 1, none⟩ (.int .i64 Q1)) E (.string S1) (.int .i64 Q1) := ((keepb b10 e9).pastA (by omega) _ _).pastA (by omega) _ _; have n11 : BoxDe ((w9.setCell ⟨N, 0, none⟩ (.string S1)).setCell ⟨N, 1, none⟩ (.int .i64 Q1)) N (.string S1) (.int .i64 Q1) := ((keepb b10 n9).put0 _).put1 _; obtain ⟨g0, g1, g2, g3⟩ := id e11; obtain ⟨i0, i1, i2, i3⟩ := id n11; have hl := hL _ (he.below b11) (hk.up b11))
    | (go_at_call 13; refine hl.mono ?_; rintro x w10 ⟨rfl, b12⟩))
   go_ret
   exact ⟨rfl, b11.trans (b12.mono b11.size)⟩
  ·rw [show (⟨#[UInt8.ofNat (vxN 4)]⟩ : ByteArray) = ⟨#[70]⟩ from rfl]
   have hP1 : PlacesC S Q q S1 Q1 0 := hPl (by decide)
   clear hE hRg hPl
   go_upto_region 6 with (go_at_call 11; (with_reducible refine (hRo _).mono ?_); rintro x w8 ⟨rfl, b8⟩)
   obtain ⟨W9, hW9⟩ : ∃ W9, W9 = w8.alloc (.cells #[.string S2, .int .i64 Q2] 31) := ⟨_, rfl⟩
   have c9 : Below V4.heap.size V4 W9 := by rw [hW9]; exact b8.alloc b8.size _
   have b9 : Below w.heap.size w W9 := bE.trans (c9.mono bE.size)
   have e9 := keepb c9 eE
   have v9 := keepb c9 vE
   have n9 : BoxDe W9 w8.heap.size (.string S2) (.int .i64 Q2) := by rw [hW9]; simp [BoxDe, go_sem]
   have l9 : E < w8.heap.size := World.block_lt_of_cell? w8 _ (keepb b8 eE).1
   have m9 : VB < w8.heap.size := World.block_lt_of_cell? w8 _ (keepb b8 vE).1
   have o9 : w.heap.size ≤ w8.heap.size := by have := bE.size; have := b8.size; omega
   rw [← hW9]
   clear hW9 b8 c9 bE eE vE x0 x1 x2 x3 y0 y1 y2 y3
   generalize w8.heap.size = N at *
   obtain ⟨x0, x1, x2, x3⟩ := id v9
   obtain ⟨y0, y1, y2, y3⟩ := id e9
   obtain ⟨z0, z1, z2, z3⟩ := id n9
   go_wp2_with (first
    | (go_at_call 12; (with_reducible refine (hP1 _).mono ?_); rintro x w9 ⟨rfl, b10⟩; have f9 := keepb b10 n9; obtain ⟨f0, f1, f2, f3⟩ := id f9; have b11 : Below w.heap.size w ((w9.setCell ⟨N, 0, none⟩ (.string S1)).setCell ⟨N, 1, none⟩ (.int .i64 Q1)) := ((b9.trans (b10.mono b9.size)).setCell (p := ⟨N, 0, none⟩) (by dsimp only; omega) _).setCell (p := ⟨N, 1, none⟩) (by dsimp only; omega) _; have e11 : BoxDe ((w9.setCell ⟨N, 0, none⟩ (.string S1)).setCell ⟨N, 1, none⟩ (.int .i64 Q1)) E (.string S1) (.int .i64 Q1) := ((keepb b10 e9).pastA (by omega) _ _).pastA (by omega) _ _; have n11 : BoxDe ((w9.setCell ⟨N, 0, none⟩ (.string S1)).setCell ⟨N, 1, none⟩ (.int .i64 Q1)) N (.string S1) (.int .i64 Q1) := ((keepb b10 n9).put0 _).put1 _; obtain ⟨g0, g1, g2, g3⟩ := id e11; obtain ⟨i0, i1, i2, i3⟩ := id n11; have hl := hL _ (he.below b11) (hk.up b11))
    | (go_at_call 13; refine hl.mono ?_; rintro x w10 ⟨rfl, b12⟩))
   go_ret
   exact ⟨rfl, b11.trans (b12.mono b11.size)⟩
  ·rw [show (⟨#[UInt8.ofNat (vxN 2)]⟩ : ByteArray) = ⟨#[103]⟩ from rfl]
   have hR1 : RoundC S Q (max q 1) S1 Q1 0 := hRg (by decide)
   clear hE hPl hRg
   obtain ⟨q1, hq1⟩ : ∃ q1, max q 1 = q1 := ⟨_, rfl⟩
   obtain ⟨q0, hq0⟩ : ∃ q0, q + 1 = q0 := ⟨_, rfl⟩
   rw [hq1] at hR1
   rw [hq0] at hRo
   go_upto_region 6 with (go_at_call 11; (with_reducible refine (hRo _).mono ?_); rintro x w8 ⟨rfl, b8⟩)
   obtain ⟨W9, hW9⟩ : ∃ W9, W9 = w8.alloc (.cells #[.string S2, .int .i64 Q2] 31) := ⟨_, rfl⟩
   have c9 : Below V4.heap.size V4 W9 := by rw [hW9]; exact b8.alloc b8.size _
   have b9 : Below w.heap.size w W9 := bE.trans (c9.mono bE.size)
   have e9 := keepb c9 eE
   have v9 := keepb c9 vE
   have n9 : BoxDe W9 w8.heap.size (.string S2) (.int .i64 Q2) := by rw [hW9]; simp [BoxDe, go_sem]
   have l9 : E < w8.heap.size := World.block_lt_of_cell? w8 _ (keepb b8 eE).1
   have m9 : VB < w8.heap.size := World.block_lt_of_cell? w8 _ (keepb b8 vE).1
   have o9 : w.heap.size ≤ w8.heap.size := by have := bE.size; have := b8.size; omega
   rw [← hW9]
   clear hW9 b8 c9 bE eE vE x0 x1 x2 x3 y0 y1 y2 y3
   generalize w8.heap.size = N at *
   obtain ⟨x0, x1, x2, x3⟩ := id v9
   obtain ⟨y0, y1, y2, y3⟩ := id e9
   obtain ⟨z0, z1, z2, z3⟩ := id n9
   go_wp2_with (first
    | (go_at_call 11; (with_reducible refine (hR1 _).mono ?_); rintro x w9 ⟨rfl, b10⟩; have f9 := keepb b10 n9; obtain ⟨f0, f1, f2, f3⟩ := id f9; have b11 : Below w.heap.size w ((w9.setCell ⟨N, 0, none⟩ (.string S1)).setCell ⟨N, 1, none⟩ (.int .i64 Q1)) := ((b9.trans (b10.mono b9.size)).setCell (p := ⟨N, 0, none⟩) (by dsimp only; omega) _).setCell (p := ⟨N, 1, none⟩) (by dsimp only; omega) _; have e11 : BoxDe ((w9.setCell ⟨N, 0, none⟩ (.string S1)).setCell ⟨N, 1, none⟩ (.int .i64 Q1)) E (.string S1) (.int .i64 Q1) := ((keepb b10 e9).pastA (by omega) _ _).pastA (by omega) _ _; have n11 : BoxDe ((w9.setCell ⟨N, 0, none⟩ (.string S1)).setCell ⟨N, 1, none⟩ (.int .i64 Q1)) N (.string S1) (.int .i64 Q1) := ((keepb b10 n9).put0 _).put1 _; obtain ⟨g0, g1, g2, g3⟩ := id e11; obtain ⟨i0, i1, i2, i3⟩ := id n11; have hl := hL _ (he.below b11) (hk.up b11))
    | (go_at_call 13; refine hl.mono ?_; rintro x w10 ⟨rfl, b12⟩))
   go_ret
   exact ⟨rfl, b11.trans (b12.mono b11.size)⟩
  ·rw [show (⟨#[UInt8.ofNat (vxN 5)]⟩ : ByteArray) = ⟨#[71]⟩ from rfl]
   have hR1 : RoundC S Q (max q 1) S1 Q1 0 := hRg (by decide)
   clear hE hPl hRg
   obtain ⟨q1, hq1⟩ : ∃ q1, max q 1 = q1 := ⟨_, rfl⟩
   obtain ⟨q0, hq0⟩ : ∃ q0, q + 1 = q0 := ⟨_, rfl⟩
   rw [hq1] at hR1
   rw [hq0] at hRo
   go_upto_region 6 with (go_at_call 11; (with_reducible refine (hRo _).mono ?_); rintro x w8 ⟨rfl, b8⟩)
   obtain ⟨W9, hW9⟩ : ∃ W9, W9 = w8.alloc (.cells #[.string S2, .int .i64 Q2] 31) := ⟨_, rfl⟩
   have c9 : Below V4.heap.size V4 W9 := by rw [hW9]; exact b8.alloc b8.size _
   have b9 : Below w.heap.size w W9 := bE.trans (c9.mono bE.size)
   have e9 := keepb c9 eE
   have v9 := keepb c9 vE
   have n9 : BoxDe W9 w8.heap.size (.string S2) (.int .i64 Q2) := by rw [hW9]; simp [BoxDe, go_sem]
   have l9 : E < w8.heap.size := World.block_lt_of_cell? w8 _ (keepb b8 eE).1
   have m9 : VB < w8.heap.size := World.block_lt_of_cell? w8 _ (keepb b8 vE).1
   have o9 : w.heap.size ≤ w8.heap.size := by have := bE.size; have := b8.size; omega
   rw [← hW9]
   clear hW9 b8 c9 bE eE vE x0 x1 x2 x3 y0 y1 y2 y3
   generalize w8.heap.size = N at *
   obtain ⟨x0, x1, x2, x3⟩ := id v9
   obtain ⟨y0, y1, y2, y3⟩ := id e9
   obtain ⟨z0, z1, z2, z3⟩ := id n9
   go_wp2_with (first
    | (go_at_call 11; (with_reducible refine (hR1 _).mono ?_); rintro x w9 ⟨rfl, b10⟩; have f9 := keepb b10 n9; obtain ⟨f0, f1, f2, f3⟩ := id f9; have b11 : Below w.heap.size w ((w9.setCell ⟨N, 0, none⟩ (.string S1)).setCell ⟨N, 1, none⟩ (.int .i64 Q1)) := ((b9.trans (b10.mono b9.size)).setCell (p := ⟨N, 0, none⟩) (by dsimp only; omega) _).setCell (p := ⟨N, 1, none⟩) (by dsimp only; omega) _; have e11 : BoxDe ((w9.setCell ⟨N, 0, none⟩ (.string S1)).setCell ⟨N, 1, none⟩ (.int .i64 Q1)) E (.string S1) (.int .i64 Q1) := ((keepb b10 e9).pastA (by omega) _ _).pastA (by omega) _ _; have n11 : BoxDe ((w9.setCell ⟨N, 0, none⟩ (.string S1)).setCell ⟨N, 1, none⟩ (.int .i64 Q1)) N (.string S1) (.int .i64 Q1) := ((keepb b10 n9).put0 _).put1 _; obtain ⟨g0, g1, g2, g3⟩ := id e11; obtain ⟨i0, i1, i2, i3⟩ := id n11; have hl := hL _ (he.below b11) (hk.up b11))
    | (go_at_call 13; refine hl.mono ?_; rintro x w10 ⟨rfl, b12⟩))
   go_ret
   exact ⟨rfl, b11.trans (b12.mono b11.size)⟩
end Go.Proofs.YtiagjheifblkiaaGreatDoor
