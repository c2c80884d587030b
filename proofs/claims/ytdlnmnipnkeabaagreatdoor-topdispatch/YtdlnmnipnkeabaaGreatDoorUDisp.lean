/- TopDispatch: the law's walk, where the verb is none that it leaves out, its prints as hypotheses. -/
import Derived.Test.YtdlnmnipnkeabaaGreatDoorPt35
namespace Go.Proofs.YtdlnmnipnkeabaaGreatDoor
open Go.RowKit
set_option linter.unusedVariables false
set_option linter.unusedSimpArgs false
set_option maxRecDepth 1000000 in
set_option maxHeartbeats 16000000 in
theorem tdi_in (fo sy fa st : Bool) (c : Nat) (h1 : 65 ≤ c) (h2 : c ≤ 122) (h3 : ¬ c = 91) (h84 : ¬ c = 84) {S G B : ByteArray} (hS : PrH (hkT fo sy fa st) (vcS c) S) (hG : PrH (hkT fo sy fa st) ⟨#[37, 35, 118]⟩ G) (hB : PrN (vcS c) B)
  (f1 : fo = true → S = ⟨#[70]⟩ ∧ G = ⟨#[70]⟩) (f2 : fo = false → sy = true → G = ⟨#[71]⟩) (f3 : fo = false → sy = false → G = trS)
  (f4 : fo = false → hnmB c = true → fa = true → PrX (vcS c) ⟨#[69]⟩ S) (f5 : fo = false → hnmB c = true → fa = false → st = true → PrX (vcS c) ⟨#[83]⟩ S)
  (f6 : fo = false → (hnmB c = false ∨ (fa = false ∧ st = false)) → S = B) (w : World) (hk : KN w) (he : Esc w) :
  Calls Tryz.prog 3 #[.agg #[.bool fo, .bool sy, .bool fa, .bool st, .int .i32 c]] w fun e w' => e = .returned (.bool true) ∧ Below w.heap.size w w' := by
 have g1 : ¬ (c : Int) = 84 := by omega
 have g2 : ¬ (c : Int) = 37 := by omega
 have g3 : ¬ (c : Int) < 65 := by omega
 have g4 : ¬ (122 : Int) < (c : Int) := by omega
 have g5 : ¬ (c : Int) = 91 := by omega
 have m1 : ((c : Int) == 84) = false := by simp; omega
 have m2 : ((c : Int) == 37) = false := by simp; omega
 have m3 : decide ((c : Int) < 65) = false := decide_eq_false g3
 have m4 : decide ((122 : Int) < (c : Int)) = false := decide_eq_false g4
 have m5 : ((c : Int) == 91) = false := by simp; omega
 have hen : Utf8.encode (c : Int) = ⟨#[UInt8.ofNat c]⟩ := enc1 c (by omega)
 have hRu : ∀ w, Calls Tryz.prog 10 #[.int .i32 c] w fun e w' => e = .returned (.string ⟨#[UInt8.ofNat c]⟩) ∧ w' = w := fun w => by
  have := rune_any (c : Int) w
  rw [hen] at this
  exact this
 have hcat : (⟨#[37]⟩ : ByteArray) ++ ⟨#[UInt8.ofNat c]⟩ = vcS c := by
  apply ByteArray.ext; apply Array.ext'
  rw [app_list]; rfl
 have hsz : ¬ 9223372036854775807 < (⟨#[37]⟩ : ByteArray).size + (⟨#[UInt8.ofNat c]⟩ : ByteArray).size := by
  show ¬ 9223372036854775807 < 1 + 1
  omega
 have hsz2 : (⟨#[37]⟩ : ByteArray).size + (⟨#[UInt8.ofNat c]⟩ : ByteArray).size ≤ 9223372036854775807 := by
  show 1 + 1 ≤ 9223372036854775807
  omega
 have hsz3 : 1 + (⟨#[UInt8.ofNat c]⟩ : ByteArray).size ≤ 9223372036854775807 := by
  show 1 + 1 ≤ 9223372036854775807
  omega
 have hA1 := fun W => acT_any fo ⟨#[70]⟩ W
 have hA2 := fun W => acT_any sy ⟨#[71]⟩ W
 have hA3 := fun W => acT_any fa ⟨#[69]⟩ W
 have hA4 := fun W => acT_any st ⟨#[83]⟩ W
 have hbk := fun w => nbld_hk4 (hkT fo sy fa st) w
 have hbs := fun w => bslHk (hkT fo sy fa st) w
 have hL := fun W h1 h2 => tlives_any W h1 h2
 have hHl := (hkT fo sy fa st).len
 have hrd := row_Desc
 unfold PrH at hS hG
 generalize hHv : (hkT fo sy fa st).v = H at *
 try dsimp only at hbk
 generalize (acT fo ⟨#[70]⟩).v = X1 at *
 generalize (acT sy ⟨#[71]⟩).v = X2 at *
 generalize (acT fa ⟨#[69]⟩).v = X3 at *
 generalize (acT st ⟨#[83]⟩).v = X4 at *
 clear hHv hen
 generalize hE : (⟨#[UInt8.ofNat c]⟩ : ByteArray) = E at *
 generalize hvc : vcS c = F at *
 clear hvc hE
 obtain ⟨W1, hW1⟩ : ∃ W1, W1 = w.alloc (.cells #[.bool fo, .bool sy, .bool fa, .bool st, .int .i32 c] 23) := ⟨_, rfl⟩
 have b1 : Below w.heap.size w W1 := by rw [hW1]; exact (Below.refl _ _).alloc (Nat.le_refl _) _
 have c0 : W1.cell? ⟨w.heap.size, 0, none⟩ = some (.bool fo) := by rw [hW1]; simp [go_sem]
 have c1 : W1.cell? ⟨w.heap.size, 1, none⟩ = some (.bool sy) := by rw [hW1]; simp [go_sem]
 have c2 : W1.cell? ⟨w.heap.size, 2, none⟩ = some (.bool fa) := by rw [hW1]; simp [go_sem]
 have c3 : W1.cell? ⟨w.heap.size, 3, none⟩ = some (.bool st) := by rw [hW1]; simp [go_sem]
 have c4 : W1.cell? ⟨w.heap.size, 4, none⟩ = some (.int .i32 c) := by rw [hW1]; simp [go_sem]
 go_enter Tryz.func3, Tryz.ntmps3
 go_upto_region 1 with fail
 rw [← hW1]
 clear hW1
 go_region
 obtain ⟨W2, hW2⟩ : ∃ W2, W2 = W1.drew := ⟨_, rfl⟩
 have b2 : Below w.heap.size w W2 := by rw [hW2]; exact b1.drew
 rw [← hW2]
 clear hW2 b1 c0 c1 c2 c3 c4
 go_upto_region 5 with fail
 go_upto_region 6 with (first
  | (go_at_call 8; refine (hA1 _).mono ?_; rintro e V1 ⟨rfl, k1⟩)
  | (go_at_call 8; refine (hA2 _).mono ?_; rintro e V2 ⟨rfl, k2⟩)
  | (go_at_call 8; refine (hA3 _).mono ?_; rintro e V3 ⟨rfl, k3⟩)
  | (go_at_call 8; refine (hA4 _).mono ?_; rintro e V4 ⟨rfl, k4⟩)
  | (refine wpl_bld rfl _ _ rfl [(0, .agg X1.toArray), (1, .agg X2.toArray), (2, .agg X3.toArray), (3, .agg X4.toArray)] rfl (hbk _) ?_)
  | (refine wpl_bsH hbs rfl _ rfl rfl ?_))
 have bV4 : Below w.heap.size w V4 := by
  have a1 := b2.trans (k1.mono b2.size)
  have a2 := a1.trans (k2.mono a1.size)
  have a3 := a2.trans (k3.mono a2.size)
  exact a3.trans (k4.mono a3.size)
 obtain ⟨W5, hW5⟩ : ∃ W5, W5 = V4.alloc (.cells H.toArray 34) := ⟨_, rfl⟩
 have k5 : Below V4.heap.size V4 W5 := by rw [hW5]; exact (Below.refl _ _).alloc (Nat.le_refl _) _
 have t5 : Blk W5 V4.heap.size H := by rw [hW5]; exact Blk.new V4 H 34
 rw [← hW5]
 clear hW5 hbk hbs hA1 hA2 hA3 hA4 k1 k2 k3 k4
 obtain ⟨W6, hW6⟩ : ∃ W6, W6 = W5.alloc (.cells #[.int .i64 1, .string ⟨#[]⟩, .int .u64 1, .int .u64 0, .string ⟨#[]⟩, .slice none 0 0, .slice none 0 0, .int .i64 1] 29) := ⟨_, rfl⟩
 have k6 : Below W5.heap.size W5 W6 := by rw [hW6]; exact (Below.refl _ _).alloc (Nat.le_refl _) _
 have dW6 : Blk W6 W5.heap.size dT := by rw [hW6]; exact Blk.new W5 dT 29
 have tW6 := t5.up k6
 have b5 := bV4.trans (k5.mono bV4.size)
 have bW6 := b5.trans (k6.mono b5.size)
 have eW6 : EK W6 := ⟨he.below bW6, hk.up bW6⟩
 go_upto_region 7 with fail
 rw [← hW6]
 clear hW6 k5 k6 t5 bV4 b5
 generalize V4.heap.size = TB at *
 generalize W5.heap.size = D at *
 go_cut [11] (fun z wx => ∃ V : World, V = wx ∧ z = .string S ∧ Below W6.heap.size W6 V)
 case first =>
  obtain ⟨Y, hY⟩ : ∃ Y, Y = W6.drew := ⟨_, rfl⟩
  have kY : Below W6.heap.size W6 Y := by rw [hY]; exact (Below.refl _ _).drew
  have tY := tW6.up kY
  have eY := eW6.up kY
  have sY : Y.rangeAt D 0 dT := (dW6.up kY).range
  have hup : ∀ {a b : World}, a.rangeAt D 0 dT → Below a.heap.size a b → b.rangeAt D 0 dT := fun h x j v hv => up_cell x (h j v hv)
  refine wp_region_held_drew (S := fun w' : World => w'.rangeAt D 0 dT) (by kernel_rfl) (by exact dW6.range) ?_
  rw [← hY]
  clear hY
  intro hS0
  clear hS0
  refine tk 0 (.slice (some ⟨TB, 0, none⟩) 1 1) rfl (by kernel_rfl) (fun _ _ _ h => h) (by rfl) (by assumption) ?_ ?_
  ·intro w5 s0
   go_simp
  try simp only [Act.put, List.getElem_toArray, List.getElem_cons_zero, List.getElem_cons_succ, List.setIfInBounds_toArray, List.set_cons_zero, List.set_cons_succ, List.length_cons]
  refine tk 1 (.int .i32 c) rfl (by kernel_rfl) (fun _ _ _ h => h) (by rfl) (by assumption) ?_ ?_
  ·intro w5 s0
   go_simp
  try simp only [Act.put, List.getElem_toArray, List.getElem_cons_zero, List.getElem_cons_succ, List.setIfInBounds_toArray, List.set_cons_zero, List.set_cons_succ, List.length_cons]
  refine wpAnyH_take (i := 4) (v := .agg #[.int .i64 1, .string ⟨#[]⟩, .int .u64 1, .int .u64 0, .string ⟨#[]⟩, .slice none 0 0, .slice none 0 0, .int .i64 1]) rfl (by kernel_rfl) (by kernel_rfl) (by kernel_rfl) (fun _ _ _ h => h) ?_ (by assumption) ?_
  ·obtain ⟨⟨dd, r1, r2⟩, r3⟩ := hrd
   exact yieldsIf_load_mid rfl 29 (.tmp 10) rfl D 0 rfl dT dd (fun _ h => h) r1 r2 (by exact r3)
  try simp only [Act.put, List.getElem_toArray, List.getElem_cons_zero, List.getElem_cons_succ, List.setIfInBounds_toArray, List.set_cons_zero, List.set_cons_succ, List.length_cons]
  refine wpAnyH_ready (rs := [2, 5]) (by kernel_rfl) (by simp) ?_
  refine AllReadyH.cons rfl (fun K hK => ?_) (AllReadyH.cons rfl (fun K hK => ?_) AllReadyH.nil)
  ·go_simp
   refine (hRu _).mono ?_
   rintro e w9 ⟨rfl, q9⟩
   subst w9
   refine hK.out _ _ sY (fun _ => ?_)
   clear hK
   try simp only [Act.put, List.getElem_toArray, List.getElem_cons_zero, List.getElem_cons_succ, List.setIfInBounds_toArray, List.set_cons_zero, List.set_cons_succ, List.length_cons]
   refine tk 3 (.string F) rfl (by kernel_rfl) (fun _ _ _ h => h) (by rfl) (by assumption) ?_ ?_
   ·intro w5 s0
    go_simp
   try simp only [Act.put, List.getElem_toArray, List.getElem_cons_zero, List.getElem_cons_succ, List.setIfInBounds_toArray, List.set_cons_zero, List.set_cons_succ, List.length_cons]
   refine rd1 5 (by kernel_rfl) rfl fun K hK => ?_
   go_simp
   obtain ⟨A, hA⟩ : ∃ A, A = Y.alloc (.cells #[.int .i64 1, .string ⟨#[]⟩, .int .u64 1, .int .u64 0, .string ⟨#[]⟩, .slice none 0 0, .slice none 0 0, .int .i64 1] 29) := ⟨_, rfl⟩
   have rA : Blk A Y.heap.size dT := by rw [hA]; exact Blk.new Y dT _
   have kA : Below Y.heap.size Y A := by rw [hA]; exact (Below.refl _ _).alloc (Nat.le_refl _) _
   have fA := hup sY kA
   rw [← hA]
   clear hA
   refine hK.out _ _ fA (fun _ => ?_)
   clear hK
   try simp only [Act.put, List.getElem_toArray, List.getElem_cons_zero, List.getElem_cons_succ, List.setIfInBounds_toArray, List.set_cons_zero, List.set_cons_succ, List.length_cons]
   refine rd1 6 (by kernel_rfl) rfl fun K hK => ?_
   go_simp
   refine (hS TB _ A (eY.up kA) (tY.up kA).b (tY.up kA).range rA.b rA.range).mono ?_
   rintro e P ⟨rfl, kP⟩
   have fP := hup fA kP
   refine hK.out _ _ fP (fun _ => ?_)
   clear hK
   try simp only [Act.put, List.getElem_toArray, List.getElem_cons_zero, List.getElem_cons_succ, List.setIfInBounds_toArray, List.set_cons_zero, List.set_cons_succ, List.length_cons]
   refine tk 7 (.string S) rfl (by kernel_rfl) (fun _ _ _ h => h) (by rfl) (by assumption) ?_ ?_
   ·intro w5 s0
    go_simp
   try simp only [Act.put, List.getElem_toArray, List.getElem_cons_zero, List.getElem_cons_succ, List.setIfInBounds_toArray, List.set_cons_zero, List.set_cons_succ, List.length_cons]
   refine wpAnyH_done (by kernel_rfl) ?_ _
   go_wp2_with fail
   go_meet
   exact ⟨P, rfl, rfl, (kY.trans (kA.mono kY.size)).trans (kP.mono (kY.trans (kA.mono kY.size)).size)⟩
  ·go_simp
   obtain ⟨A, hA⟩ : ∃ A, A = Y.alloc (.cells #[.int .i64 1, .string ⟨#[]⟩, .int .u64 1, .int .u64 0, .string ⟨#[]⟩, .slice none 0 0, .slice none 0 0, .int .i64 1] 29) := ⟨_, rfl⟩
   have rA : Blk A Y.heap.size dT := by rw [hA]; exact Blk.new Y dT _
   have kA : Below Y.heap.size Y A := by rw [hA]; exact (Below.refl _ _).alloc (Nat.le_refl _) _
   have fA := hup sY kA
   rw [← hA]
   clear hA
   refine hK.out _ _ fA (fun _ => ?_)
   clear hK
   try simp only [Act.put, List.getElem_toArray, List.getElem_cons_zero, List.getElem_cons_succ, List.setIfInBounds_toArray, List.set_cons_zero, List.set_cons_succ, List.length_cons]
   refine rd1 2 (by kernel_rfl) rfl fun K hK => ?_
   go_simp
   refine (hRu _).mono ?_
   rintro e w9 ⟨rfl, q9⟩
   subst w9
   refine hK.out _ _ fA (fun _ => ?_)
   clear hK
   try simp only [Act.put, List.getElem_toArray, List.getElem_cons_zero, List.getElem_cons_succ, List.setIfInBounds_toArray, List.set_cons_zero, List.set_cons_succ, List.length_cons]
   refine tk 3 (.string F) rfl (by kernel_rfl) (fun _ _ _ h => h) (by rfl) (by assumption) ?_ ?_
   ·intro w5 s0
    go_simp
   try simp only [Act.put, List.getElem_toArray, List.getElem_cons_zero, List.getElem_cons_succ, List.setIfInBounds_toArray, List.set_cons_zero, List.set_cons_succ, List.length_cons]
   refine rd1 6 (by kernel_rfl) rfl fun K hK => ?_
   go_simp
   refine (hS TB _ A (eY.up kA) (tY.up kA).b (tY.up kA).range rA.b rA.range).mono ?_
   rintro e P ⟨rfl, kP⟩
   have fP := hup fA kP
   refine hK.out _ _ fP (fun _ => ?_)
   clear hK
   try simp only [Act.put, List.getElem_toArray, List.getElem_cons_zero, List.getElem_cons_succ, List.setIfInBounds_toArray, List.set_cons_zero, List.set_cons_succ, List.length_cons]
   refine tk 7 (.string S) rfl (by kernel_rfl) (fun _ _ _ h => h) (by rfl) (by assumption) ?_ ?_
   ·intro w5 s0
    go_simp
   try simp only [Act.put, List.getElem_toArray, List.getElem_cons_zero, List.getElem_cons_succ, List.setIfInBounds_toArray, List.set_cons_zero, List.set_cons_succ, List.length_cons]
   refine wpAnyH_done (by kernel_rfl) ?_ _
   go_wp2_with fail
   go_meet
   exact ⟨P, rfl, rfl, (kY.trans (kA.mono kY.size)).trans (kP.mono (kY.trans (kA.mono kY.size)).size)⟩
 case rest =>
  obtain ⟨W7, rfl, rfl, kk⟩ := hcut
  have dW7 := dW6.up kk
  have tW7 := tW6.up kk
  have eW7 := eW6.up kk
  have bW7 := bW6.trans (kk.mono bW6.size)
  clear kk dW6 tW6 eW6 bW6
  have q0 := dW7.c 0 _ rfl
  have q1 := dW7.c 1 _ rfl
  have q2 := dW7.c 2 _ rfl
  have q3 := dW7.c 3 _ rfl
  have q4 := dW7.c 4 _ rfl
  have q5 := dW7.c 5 _ rfl
  have q6 := dW7.c 6 _ rfl
  have q7 := dW7.c 7 _ rfl
  obtain ⟨A8, hA8⟩ : ∃ A, A = W7.alloc (.cells #[.int .i64 1, .string ⟨#[]⟩, .int .u64 1, .int .u64 0, .string ⟨#[]⟩, .slice none 0 0, .slice none 0 0, .int .i64 1] 29) := ⟨_, rfl⟩
  have rA : Blk A8 W7.heap.size dT := by rw [hA8]; exact Blk.new W7 dT _
  have kA : Below W7.heap.size W7 A8 := by rw [hA8]; exact (Below.refl _ _).alloc (Nat.le_refl _) _
  have c8 := hG TB _ A8 (eW7.up kA) (tW7.up kA).b (tW7.up kA).range rA.b rA.range
  go_upto_region 9 with (go_at_call 9; rw [← hA8]; clear hA8; refine c8.mono ?_; rintro e W8 ⟨rfl, k8⟩)
  have kk := kA.trans (k8.mono kA.size)
  have dW8 := dW7.up kk
  have tW8 := tW7.up kk
  have eW8 := eW7.up kk
  have bW8 := bW7.trans (kk.mono bW7.size)
  clear kk kA k8 rA c8 dW7 tW7 eW7 bW7 q0 q1 q2 q3 q4 q5 q6 q7
  go_cut [13] (fun z wx => ∃ V : World, V = wx ∧ z = .string B ∧ Below W8.heap.size W8 V)
  case first =>
   obtain ⟨Y, hY⟩ : ∃ Y, Y = W8.drew := ⟨_, rfl⟩
   have kY : Below W8.heap.size W8 Y := by rw [hY]; exact (Below.refl _ _).drew
   have tY := tW8.up kY
   have eY := eW8.up kY
   have sY : Y.rangeAt D 0 dT := (dW8.up kY).range
   have hup : ∀ {a b : World}, a.rangeAt D 0 dT → Below a.heap.size a b → b.rangeAt D 0 dT := fun h x j v hv => up_cell x (h j v hv)
   refine wp_region_held_drew (S := fun w' : World => w'.rangeAt D 0 dT) (by kernel_rfl) (by exact dW8.range) ?_
   rw [← hY]
   clear hY
   intro hS0
   clear hS0
   refine tk 0 (.int .i32 c) rfl (by kernel_rfl) (fun _ _ _ h => h) (by rfl) (by assumption) ?_ ?_
   ·intro w5 s0
    go_simp
   try simp only [Act.put, List.getElem_toArray, List.getElem_cons_zero, List.getElem_cons_succ, List.setIfInBounds_toArray, List.set_cons_zero, List.set_cons_succ, List.length_cons]
   refine wpAnyH_take (i := 3) (v := .agg #[.int .i64 1, .string ⟨#[]⟩, .int .u64 1, .int .u64 0, .string ⟨#[]⟩, .slice none 0 0, .slice none 0 0, .int .i64 1]) rfl (by kernel_rfl) (by kernel_rfl) (by kernel_rfl) (fun _ _ _ h => h) ?_ (by assumption) ?_
   ·obtain ⟨⟨dd, r1, r2⟩, r3⟩ := hrd
    exact yieldsIf_load_mid rfl 29 (.tmp 10) rfl D 0 rfl dT dd (fun _ h => h) r1 r2 (by exact r3)
   try simp only [Act.put, List.getElem_toArray, List.getElem_cons_zero, List.getElem_cons_succ, List.setIfInBounds_toArray, List.set_cons_zero, List.set_cons_succ, List.length_cons]
   refine wpAnyH_ready (rs := [1, 4]) (by kernel_rfl) (by simp) ?_
   refine AllReadyH.cons rfl (fun K hK => ?_) (AllReadyH.cons rfl (fun K hK => ?_) AllReadyH.nil)
   ·go_simp
    refine (hRu _).mono ?_
    rintro e w9 ⟨rfl, q9⟩
    subst w9
    refine hK.out _ _ sY (fun _ => ?_)
    clear hK
    try simp only [Act.put, List.getElem_toArray, List.getElem_cons_zero, List.getElem_cons_succ, List.setIfInBounds_toArray, List.set_cons_zero, List.set_cons_succ, List.length_cons]
    refine tk 2 (.string F) rfl (by kernel_rfl) (fun _ _ _ h => h) (by rfl) (by assumption) ?_ ?_
    ·intro w5 s0
     go_simp
    try simp only [Act.put, List.getElem_toArray, List.getElem_cons_zero, List.getElem_cons_succ, List.setIfInBounds_toArray, List.set_cons_zero, List.set_cons_succ, List.length_cons]
    refine rd1 4 (by kernel_rfl) rfl fun K hK => ?_
    go_simp
    obtain ⟨A, hA⟩ : ∃ A, A = Y.alloc (.cells #[.int .i64 1, .string ⟨#[]⟩, .int .u64 1, .int .u64 0, .string ⟨#[]⟩, .slice none 0 0, .slice none 0 0, .int .i64 1] 29) := ⟨_, rfl⟩
    have rA : Blk A Y.heap.size dT := by rw [hA]; exact Blk.new Y dT _
    have kA : Below Y.heap.size Y A := by rw [hA]; exact (Below.refl _ _).alloc (Nat.le_refl _) _
    have fA := hup sY kA
    rw [← hA]
    clear hA
    refine hK.out _ _ fA (fun _ => ?_)
    clear hK
    try simp only [Act.put, List.getElem_toArray, List.getElem_cons_zero, List.getElem_cons_succ, List.setIfInBounds_toArray, List.set_cons_zero, List.set_cons_succ, List.length_cons]
    refine rd1 5 (by kernel_rfl) rfl fun K hK => ?_
    go_simp
    refine (hB _ A (eY.up kA) rA.b rA.range).mono ?_
    rintro e P ⟨rfl, kP⟩
    have fP := hup fA kP
    refine hK.out _ _ fP (fun _ => ?_)
    clear hK
    try simp only [Act.put, List.getElem_toArray, List.getElem_cons_zero, List.getElem_cons_succ, List.setIfInBounds_toArray, List.set_cons_zero, List.set_cons_succ, List.length_cons]
    refine tk 6 (.string B) rfl (by kernel_rfl) (fun _ _ _ h => h) (by rfl) (by assumption) ?_ ?_
    ·intro w5 s0
     go_simp
    try simp only [Act.put, List.getElem_toArray, List.getElem_cons_zero, List.getElem_cons_succ, List.setIfInBounds_toArray, List.set_cons_zero, List.set_cons_succ, List.length_cons]
    refine wpAnyH_done (by kernel_rfl) ?_ _
    go_wp2_with fail
    go_meet
    exact ⟨P, rfl, rfl, (kY.trans (kA.mono kY.size)).trans (kP.mono (kY.trans (kA.mono kY.size)).size)⟩
   ·go_simp
    obtain ⟨A, hA⟩ : ∃ A, A = Y.alloc (.cells #[.int .i64 1, .string ⟨#[]⟩, .int .u64 1, .int .u64 0, .string ⟨#[]⟩, .slice none 0 0, .slice none 0 0, .int .i64 1] 29) := ⟨_, rfl⟩
    have rA : Blk A Y.heap.size dT := by rw [hA]; exact Blk.new Y dT _
    have kA : Below Y.heap.size Y A := by rw [hA]; exact (Below.refl _ _).alloc (Nat.le_refl _) _
    have fA := hup sY kA
    rw [← hA]
    clear hA
    refine hK.out _ _ fA (fun _ => ?_)
    clear hK
    try simp only [Act.put, List.getElem_toArray, List.getElem_cons_zero, List.getElem_cons_succ, List.setIfInBounds_toArray, List.set_cons_zero, List.set_cons_succ, List.length_cons]
    refine rd1 1 (by kernel_rfl) rfl fun K hK => ?_
    go_simp
    refine (hRu _).mono ?_
    rintro e w9 ⟨rfl, q9⟩
    subst w9
    refine hK.out _ _ fA (fun _ => ?_)
    clear hK
    try simp only [Act.put, List.getElem_toArray, List.getElem_cons_zero, List.getElem_cons_succ, List.setIfInBounds_toArray, List.set_cons_zero, List.set_cons_succ, List.length_cons]
    refine tk 2 (.string F) rfl (by kernel_rfl) (fun _ _ _ h => h) (by rfl) (by assumption) ?_ ?_
    ·intro w5 s0
     go_simp
    try simp only [Act.put, List.getElem_toArray, List.getElem_cons_zero, List.getElem_cons_succ, List.setIfInBounds_toArray, List.set_cons_zero, List.set_cons_succ, List.length_cons]
    refine rd1 5 (by kernel_rfl) rfl fun K hK => ?_
    go_simp
    refine (hB _ A (eY.up kA) rA.b rA.range).mono ?_
    rintro e P ⟨rfl, kP⟩
    have fP := hup fA kP
    refine hK.out _ _ fP (fun _ => ?_)
    clear hK
    try simp only [Act.put, List.getElem_toArray, List.getElem_cons_zero, List.getElem_cons_succ, List.setIfInBounds_toArray, List.set_cons_zero, List.set_cons_succ, List.length_cons]
    refine tk 6 (.string B) rfl (by kernel_rfl) (fun _ _ _ h => h) (by rfl) (by assumption) ?_ ?_
    ·intro w5 s0
     go_simp
    try simp only [Act.put, List.getElem_toArray, List.getElem_cons_zero, List.getElem_cons_succ, List.setIfInBounds_toArray, List.set_cons_zero, List.set_cons_succ, List.length_cons]
    refine wpAnyH_done (by kernel_rfl) ?_ _
    go_wp2_with fail
    go_meet
    exact ⟨P, rfl, rfl, (kY.trans (kA.mono kY.size)).trans (kP.mono (kY.trans (kA.mono kY.size)).size)⟩
  case rest =>
   obtain ⟨W9, rfl, rfl, kk⟩ := hcut
   have dW9 := dW8.up kk
   have tW9 := tW8.up kk
   have eW9 := eW8.up kk
   have bW9 := bW8.trans (kk.mono bW8.size)
   clear kk dW8 tW8 eW8 bW8
   go_upto_region 10 with fail
   obtain ⟨N, hN⟩ : ∃ N, hnmB (c : Int) = N := ⟨_, rfl⟩
   rw [hN] at f4 f5 f6
   go_cut [14] (fun z wx => z = .bool N ∧ W9 = wx)
   case first =>
    by_cases n118 : c = 118
    ·subst n118
     as_aux_lemma =>
      go_wp2_with fail
      go_meet
      exact ⟨by rw [← hN]; rfl, rfl⟩
    have m118 : ((c : Int) == 118) = false := by simp; omega
    by_cases n115 : c = 115
    ·subst n115
     as_aux_lemma =>
      go_wp2_with fail
      go_meet
      exact ⟨by rw [← hN]; rfl, rfl⟩
    have m115 : ((c : Int) == 115) = false := by simp; omega
    by_cases n120 : c = 120
    ·subst n120
     as_aux_lemma =>
      go_wp2_with fail
      go_meet
      exact ⟨by rw [← hN]; rfl, rfl⟩
    have m120 : ((c : Int) == 120) = false := by simp; omega
    by_cases n88 : c = 88
    ·subst n88
     as_aux_lemma =>
      go_wp2_with fail
      go_meet
      exact ⟨by rw [← hN]; rfl, rfl⟩
    have m88 : ((c : Int) == 88) = false := by simp; omega
    by_cases n113 : c = 113
    ·subst n113
     as_aux_lemma =>
      go_wp2_with fail
      go_meet
      exact ⟨by rw [← hN]; rfl, rfl⟩
    have m113 : ((c : Int) == 113) = false := by simp; omega
    as_aux_lemma =>
     go_wp2_with fail
     go_meet
     exact ⟨by rw [← hN]; unfold hnmB; rw [m118, m115, m120, m88, m113]; rfl, rfl⟩
   case rest =>
    obtain ⟨rfl, rfl⟩ := hcut
    clear hN hS hG hB
    have hl := hL W9 eW9.1 eW9.2
    cases fo with
    | true =>
      obtain ⟨rfl, rfl⟩ := f1 rfl
      clear f1 f2 f3 f4 f5 f6
      as_aux_lemma =>
       go_wp2_with (go_at_call 7; refine hl.mono ?_; rintro x w10 ⟨rfl, b10⟩)
       go_ret
       exact ⟨rfl, bW9.trans (b10.mono bW9.size)⟩
    | false =>
      cases sy with
      | true =>
        obtain rfl := f2 rfl rfl
        cases N with
        | false =>
          obtain rfl := f6 rfl (.inl rfl)
          clear f1 f2 f3 f4 f5 f6
          as_aux_lemma =>
           go_wp2_with (go_at_call 7; refine hl.mono ?_; rintro x w10 ⟨rfl, b10⟩)
           go_ret
           exact ⟨rfl, bW9.trans (b10.mono bW9.size)⟩
        | true =>
          cases fa with
          | true =>
            have hX := f4 rfl rfl rfl
            have hTt := fun W => ttext_any ⟨#[69]⟩ W
            clear f1 f2 f3 f4 f5 f6 hl
            go_wp2_with (first
             | (go_at_call 10; refine (hRu _).mono ?_; rintro e w9 ⟨rfl, q9⟩; subst w9)
             | (go_at_call 11; refine (hTt _).mono ?_; rintro e V9 ⟨rfl, k9⟩
                obtain ⟨A, hA⟩ : ∃ A, A = V9.alloc (.cells #[.int .i64 16, .string ⟨#[]⟩, .int .u64 0, .int .u64 0, .string ⟨#[69]⟩, .slice none 0 0, .slice none 0 0, .int .i64 0] 29) := ⟨_, rfl⟩
                have rA : Blk A V9.heap.size (dX ⟨#[69]⟩) := by rw [hA]; exact Blk.new V9 _ _
                have kA : Below V9.heap.size V9 A := by rw [hA]; exact (Below.refl _ _).alloc (Nat.le_refl _) _
                have c9 := hX _ A ((eW9.up k9).up kA) rA.b rA.range
                have k9A := k9.trans (kA.mono k9.size))
             | (go_at_call 9; rw [← hA]; clear hA; refine c9.mono ?_; rintro e V10 ⟨rfl, k10⟩; have hl := hL V10 (((eW9.up k9).up kA).up k10).1 (((eW9.up k9).up kA).up k10).2; have bV := bW9.trans ((k9A.trans (k10.mono k9A.size)).mono bW9.size))
             | (go_at_call 7; refine hl.mono ?_; rintro x w10 ⟨rfl, b10⟩))
            go_ret
            exact ⟨rfl, bV.trans (b10.mono bV.size)⟩
          | false =>
            cases st with
            | true =>
              have hX := f5 rfl rfl rfl rfl
              have hTt := fun W => ttext_any ⟨#[83]⟩ W
              clear f1 f2 f3 f4 f5 f6 hl
              go_wp2_with (first
               | (go_at_call 10; refine (hRu _).mono ?_; rintro e w9 ⟨rfl, q9⟩; subst w9)
               | (go_at_call 11; refine (hTt _).mono ?_; rintro e V9 ⟨rfl, k9⟩
                  obtain ⟨A, hA⟩ : ∃ A, A = V9.alloc (.cells #[.int .i64 16, .string ⟨#[]⟩, .int .u64 0, .int .u64 0, .string ⟨#[83]⟩, .slice none 0 0, .slice none 0 0, .int .i64 0] 29) := ⟨_, rfl⟩
                  have rA : Blk A V9.heap.size (dX ⟨#[83]⟩) := by rw [hA]; exact Blk.new V9 _ _
                  have kA : Below V9.heap.size V9 A := by rw [hA]; exact (Below.refl _ _).alloc (Nat.le_refl _) _
                  have c9 := hX _ A ((eW9.up k9).up kA) rA.b rA.range
                  have k9A := k9.trans (kA.mono k9.size))
               | (go_at_call 9; rw [← hA]; clear hA; refine c9.mono ?_; rintro e V10 ⟨rfl, k10⟩; have hl := hL V10 (((eW9.up k9).up kA).up k10).1 (((eW9.up k9).up kA).up k10).2; have bV := bW9.trans ((k9A.trans (k10.mono k9A.size)).mono bW9.size))
               | (go_at_call 7; refine hl.mono ?_; rintro x w10 ⟨rfl, b10⟩))
              go_ret
              exact ⟨rfl, bV.trans (b10.mono bV.size)⟩
            | false =>
              obtain rfl := f6 rfl (.inr ⟨rfl, rfl⟩)
              clear f1 f2 f3 f4 f5 f6
              as_aux_lemma =>
               go_wp2_with (go_at_call 7; refine hl.mono ?_; rintro x w10 ⟨rfl, b10⟩)
               go_ret
               exact ⟨rfl, bW9.trans (b10.mono bW9.size)⟩
      | false =>
        obtain rfl := f3 rfl rfl
        cases N with
        | false =>
          obtain rfl := f6 rfl (.inl rfl)
          clear f1 f2 f3 f4 f5 f6
          as_aux_lemma =>
           go_wp2_with (go_at_call 7; refine hl.mono ?_; rintro x w10 ⟨rfl, b10⟩)
           go_ret
           exact ⟨rfl, bW9.trans (b10.mono bW9.size)⟩
        | true =>
          cases fa with
          | true =>
            have hX := f4 rfl rfl rfl
            have hTt := fun W => ttext_any ⟨#[69]⟩ W
            clear f1 f2 f3 f4 f5 f6 hl
            go_wp2_with (first
             | (go_at_call 10; refine (hRu _).mono ?_; rintro e w9 ⟨rfl, q9⟩; subst w9)
             | (go_at_call 11; refine (hTt _).mono ?_; rintro e V9 ⟨rfl, k9⟩
                obtain ⟨A, hA⟩ : ∃ A, A = V9.alloc (.cells #[.int .i64 16, .string ⟨#[]⟩, .int .u64 0, .int .u64 0, .string ⟨#[69]⟩, .slice none 0 0, .slice none 0 0, .int .i64 0] 29) := ⟨_, rfl⟩
                have rA : Blk A V9.heap.size (dX ⟨#[69]⟩) := by rw [hA]; exact Blk.new V9 _ _
                have kA : Below V9.heap.size V9 A := by rw [hA]; exact (Below.refl _ _).alloc (Nat.le_refl _) _
                have c9 := hX _ A ((eW9.up k9).up kA) rA.b rA.range
                have k9A := k9.trans (kA.mono k9.size))
             | (go_at_call 9; rw [← hA]; clear hA; refine c9.mono ?_; rintro e V10 ⟨rfl, k10⟩; have hl := hL V10 (((eW9.up k9).up kA).up k10).1 (((eW9.up k9).up kA).up k10).2; have bV := bW9.trans ((k9A.trans (k10.mono k9A.size)).mono bW9.size))
             | (go_at_call 7; refine hl.mono ?_; rintro x w10 ⟨rfl, b10⟩))
            go_ret
            exact ⟨rfl, bV.trans (b10.mono bV.size)⟩
          | false =>
            cases st with
            | true =>
              have hX := f5 rfl rfl rfl rfl
              have hTt := fun W => ttext_any ⟨#[83]⟩ W
              clear f1 f2 f3 f4 f5 f6 hl
              go_wp2_with (first
               | (go_at_call 10; refine (hRu _).mono ?_; rintro e w9 ⟨rfl, q9⟩; subst w9)
               | (go_at_call 11; refine (hTt _).mono ?_; rintro e V9 ⟨rfl, k9⟩
                  obtain ⟨A, hA⟩ : ∃ A, A = V9.alloc (.cells #[.int .i64 16, .string ⟨#[]⟩, .int .u64 0, .int .u64 0, .string ⟨#[83]⟩, .slice none 0 0, .slice none 0 0, .int .i64 0] 29) := ⟨_, rfl⟩
                  have rA : Blk A V9.heap.size (dX ⟨#[83]⟩) := by rw [hA]; exact Blk.new V9 _ _
                  have kA : Below V9.heap.size V9 A := by rw [hA]; exact (Below.refl _ _).alloc (Nat.le_refl _) _
                  have c9 := hX _ A ((eW9.up k9).up kA) rA.b rA.range
                  have k9A := k9.trans (kA.mono k9.size))
               | (go_at_call 9; rw [← hA]; clear hA; refine c9.mono ?_; rintro e V10 ⟨rfl, k10⟩; have hl := hL V10 (((eW9.up k9).up kA).up k10).1 (((eW9.up k9).up kA).up k10).2; have bV := bW9.trans ((k9A.trans (k10.mono k9A.size)).mono bW9.size))
               | (go_at_call 7; refine hl.mono ?_; rintro x w10 ⟨rfl, b10⟩))
              go_ret
              exact ⟨rfl, bV.trans (b10.mono bV.size)⟩
            | false =>
              obtain rfl := f6 rfl (.inr ⟨rfl, rfl⟩)
              clear f1 f2 f3 f4 f5 f6
              as_aux_lemma =>
               go_wp2_with (go_at_call 7; refine hl.mono ?_; rintro x w10 ⟨rfl, b10⟩)
               go_ret
               exact ⟨rfl, bW9.trans (b10.mono bW9.size)⟩
theorem topDispatch_walk (fo sy fa st : Bool) (v : Int) (w : World) (hk : KN w) (he : Esc w) :
  Calls Tryz.prog 3 #[.agg #[.bool fo, .bool sy, .bool fa, .bool st, .int .i32 v]] w fun e w' => e = .returned (.bool true) ∧ Below w.heap.size w w' := by
 by_cases h : v = 84 ∨ v = 37 ∨ v < 65 ∨ 122 < v ∨ v = 91
 ·exact tdi_out fo sy fa st v h w hk he
 ·obtain ⟨c, rfl⟩ := Int.eq_ofNat_of_zero_le (a := v) (by omega)
  obtain ⟨S, G, hS, hG, hB, f1, f2, f3, f4, f5, f6⟩ := disp_prints c (by omega) (by omega) (by omega) (by omega) fo sy fa st
  exact tdi_in fo sy fa st c (by omega) (by omega) (by omega) (by omega) hS hG hB f1 f2 f3 f4 f5 f6 w hk he
end Go.Proofs.YtdlnmnipnkeabaaGreatDoor
