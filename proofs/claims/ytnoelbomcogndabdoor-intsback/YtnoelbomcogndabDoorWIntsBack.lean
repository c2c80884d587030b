/- The walk of the law IntsBack. -/
import Derived.Test.YtnoelbomcogndabDoorINumE
import Derived.Test.YtnoelbomcogndabDoorIRead
namespace Go.Proofs.YtnoelbomcogndabDoor
open Go.RowKit
set_option linter.unusedVariables false

def bkB : Nat → Nat
  | 0 => 10
  | 1 => 2
  | 2 => 8
  | _ => 16
theorem verbs5 (j : Nat) (h : j < (ByteArray.mk #[100, 98, 111, 120, 88]).size) : ¬ (((ByteArray.mk #[100, 98, 111, 120, 88])[j]'h).toNat : Int) = 99 ∧ ¬ (((ByteArray.mk #[100, 98, 111, 120, 88])[j]'h).toNat : Int) = 113 ∧ ¬ (((ByteArray.mk #[100, 98, 111, 120, 88])[j]'h).toNat : Int) = 85 ∧ baseV (((ByteArray.mk #[100, 98, 111, 120, 88])[j]'h).toNat : Int) = bkB j ∧ ¬ (((ByteArray.mk #[100, 98, 111, 120, 88])[j]'h).toNat : Int) = 79 := by
  match j, h with
  | 0, _ => exact (show ¬ ((100 : Nat) : Int) = 99 ∧ ¬ ((100 : Nat) : Int) = 113 ∧ ¬ ((100 : Nat) : Int) = 85 ∧ baseV ((100 : Nat) : Int) = bkB 0 ∧ ¬ ((100 : Nat) : Int) = 79 by decide)
  | 1, _ => exact (show ¬ ((98 : Nat) : Int) = 99 ∧ ¬ ((98 : Nat) : Int) = 113 ∧ ¬ ((98 : Nat) : Int) = 85 ∧ baseV ((98 : Nat) : Int) = bkB 1 ∧ ¬ ((98 : Nat) : Int) = 79 by decide)
  | 2, _ => exact (show ¬ ((111 : Nat) : Int) = 99 ∧ ¬ ((111 : Nat) : Int) = 113 ∧ ¬ ((111 : Nat) : Int) = 85 ∧ baseV ((111 : Nat) : Int) = bkB 2 ∧ ¬ ((111 : Nat) : Int) = 79 by decide)
  | 3, _ => exact (show ¬ ((120 : Nat) : Int) = 99 ∧ ¬ ((120 : Nat) : Int) = 113 ∧ ¬ ((120 : Nat) : Int) = 85 ∧ baseV ((120 : Nat) : Int) = bkB 3 ∧ ¬ ((120 : Nat) : Int) = 79 by decide)
  | 4, _ => exact (show ¬ ((88 : Nat) : Int) = 99 ∧ ¬ ((88 : Nat) : Int) = 113 ∧ ¬ ((88 : Nat) : Int) = 85 ∧ baseV ((88 : Nat) : Int) = bkB 4 ∧ ¬ ((88 : Nat) : Int) = 79 by decide)
  | n + 5, h => exact absurd h (by show ¬ n + 5 < 5; omega)
theorem bkB_le (j : Nat) : 2 ≤ bkB j ∧ bkB j ≤ 16 ∧ (bkB j = 2 ∨ bkB j = 8 ∨ bkB j = 10 ∨ bkB j = 16) := by
  match j with
  | 0 => decide
  | 1 => decide
  | 2 => decide
  | n + 3 => exact (show 2 ≤ 16 ∧ 16 ≤ 16 ∧ (16 = 2 ∨ 16 = 8 ∨ 16 = 10 ∨ 16 = 16) by decide)
theorem tab_at (w : World) (j : Nat) (h : j < 5) : (w.alloc (.cells #[.int .u64 10, .int .u64 2, .int .u64 8, .int .u64 16, .int .u64 16] 22)).cell? ⟨w.heap.size, j, none⟩ = some (.int .u64 (bkB j : Nat)) := by
  match j, h with
  | 0, _ => simp [bkB]
  | 1, _ => simp [bkB]
  | 2, _ => simp [bkB]
  | 3, _ => simp [bkB]
  | 4, _ => simp [bkB]
  | n + 5, h => omega
theorem back_is (bits size : Nat) (sign : ByteArray) (p : Bool) (c : Int) (b : Nat) (h1 : ¬ c = 99) (h2 : ¬ c = 113) (h3 : ¬ c = 85) (h4 : baseV c = b) (hb : ¬ b = 0) (h5 : ¬ c = 79) :
    numS bits size sign p false false false (-1) (-1) c = sign ++ digT (decide (c = 88)) b size ∧ numK c = true := by
  obtain ⟨e1, e2⟩ := numS_base bits size sign p false false false (-1) (-1) c h1 h2 h3 (by omega)
  refine ⟨?_, e2⟩
  have hm : ∀ d, markB d false c = ⟨#[]⟩ := fun d => by unfold markB; rw [if_neg h5, if_pos rfl]
  rw [e1, pad_none _ _ _ _ (.inl (by omega)), core_bare _ _ _ _ _ _ _ _ (by simp), hm, app_nil', h4]
theorem dig_first (g : Bool) (b n : Nat) (hb : 2 ≤ b) (h16 : b ≤ 16) (hk : 0 < (digT g b n).size) : ¬ (((digT g b n)[0]'hk).toNat : Int) = 45 := by
  obtain ⟨x, d, hx, hd, hxd, -, -⟩ := dig_at g b n 0 hb h16 hk
  rw [hx]
  rcases hxd with h | h | h <;> omega
theorem neg_pack (D : ByteArray) (hD : D.size ≤ 65) : ∃ S : ByteArray, (⟨#[45]⟩ : ByteArray) ++ D = S ∧ S.size = D.size + 1 ∧ (∀ h : 0 < S.size, (S[0]'h).toNat = 45) ∧ S.extract 1 S.size = D := by
  refine ⟨_, rfl, ?_, fun h => ?_, ?_⟩
  · have : (⟨#[45]⟩ : ByteArray).size = 1 := rfl
    rw [app_size]; omega
  · rw [bt_at, get_app_left _ _ 0 (by decide)]; rfl
  · exact app_rest (⟨#[45]⟩ : ByteArray) D
theorem wrapI (b : Nat) (h : b ≤ 16) : IntKind.i64.wrap (b : Int) = b := by
  have : ∀ i : Fin 17, IntKind.i64.wrap ((i.val : Nat) : Int) = ((i.val : Nat) : Int) := by decide
  exact this ⟨b, by omega⟩
theorem wrap_mag (v : Int) (h1 : v < 0) (h2 : -9223372036854775808 ≤ v) : IntKind.u64.wrap (-((v.natAbs : Nat) : Int)) = ((uN v : Nat) : Int) := by
  rw [wrap_u64]; unfold uN; omega

set_option maxRecDepth 1000000 in
set_option maxHeartbeats 8000000 in
theorem intsBack_walk (v : Int) (hv : (Lit.int .i64 v).wf = true) (k0 : Int) (hk0 : (Lit.int .u64 k0).wf = true) (w : World) (hE : Esc w) :
    Calls Tryd.prog 8 #[.int .i64 v, .int .u64 k0] w fun e w' => e = .returned (.bool true) ∧ Below w.heap.size w w' := by
  have hv' := wf64 v hv
  have hk' := wfu64 k0 hk0
  obtain ⟨k, rfl⟩ : ∃ k : Nat, k0 = k := ⟨k0.toNat, by omega⟩
  have hj5 : k % 5 < 5 := Nat.mod_lt _ (by decide)
  have hj : k % 5 < (ByteArray.mk #[100, 98, 111, 120, 88]).size := hj5
  have hm1 : (k : Int) % 5 = ((k % 5 : Nat) : Int) := by omega
  have hm2 : (k : Int).tmod 5 = ((k % 5 : Nat) : Int) := by rw [Int.tmod_eq_emod_of_nonneg (by omega)]; exact hm1
  generalize k % 5 = j at *
  have hV : ∀ w, _ := fun w => iverb_any ⟨#[100, 98, 111, 120, 88]⟩ false false false false false (-1) (-1) 0 j j w hj (by decide) (Nat.mod_eq_of_lt hj) (by omega)
  obtain ⟨g1, g2, g3, g4, g5⟩ := verbs5 j hj
  have hjI : (j : Int) < 5 := by omega
  have hct := tab_at w j hj5
  have hbT : Below w.heap.size w (w.alloc (.cells #[.int .u64 10, .int .u64 2, .int .u64 8, .int .u64 16, .int .u64 16] 22)) := (Below.refl _ _).alloc (Nat.le_refl _) _
  obtain ⟨l1, l2, l3⟩ := bkB_le j
  generalize (((((ByteArray.mk #[100, 98, 111, 120, 88])[j]'hj).toNat : Nat)) : Int) = c at *
  generalize bkB j = b at *
  have hA : ∀ w, Esc w → _ := fun w hE => isigned_any v false false false false false (-1) (-1) c w hE hv'.1 hv'.2
  have hB : ∀ w, Esc w → _ := fun w hE => iunsigned_any (uN v) false false false false false (-1) (-1) c w hE (uN_lt v)
  have eu : uVerb false c = c := by simp [uVerb]
  rw [eu] at hB
  obtain ⟨e1, ek⟩ := back_is (uN v) v.natAbs (sgS v false false) false c b g1 g2 g3 g4 (by omega) g5
  obtain ⟨e2, -⟩ := back_is (uN v) (uN v) (signA false false) false c b g1 g2 g3 g4 (by omega) g5
  rw [show signA false false = ⟨#[]⟩ from rfl, nil_app'] at e2
  rw [e1, ek] at hA
  rw [show signA false false = ⟨#[]⟩ from rfl, e2, ek] at hB
  have hW := wrap_uN v
  have hbw1 : wrap64 (b : Int) = b := by unfold wrap64; omega
  have hbw2 : IntKind.i64.wrap (b : Int) = b := wrapI b l2
  have hR1 : ∀ w, _ := fun w => iread_any (decide (c = 88)) b v.natAbs w l1 l2 (by omega)
  have hR2 : ∀ w, _ := fun w => iread_any (decide (c = 88)) b (uN v) w l1 l2 (uN_lt v)
  have hDg : ∀ w, Calls Tryd.prog 9 #[.int .u64 (uN v : Nat), .int .i64 b] w fun e w' => e = .returned (.string (digT false b (uN v))) ∧ Below w.heap.size w w' := fun w => idigits_any (uN v) b w (uN_lt v) (by omega)
  have hR0 : ∀ w, _ := fun w => iread0_any false b (uN v) w l1 l2 (uN_lt v)
  have hz1 := digT_size (decide (c = 88)) b v.natAbs
  have hz2 := digT_size (decide (c = 88)) b (uN v)
  have hd1 : ∀ h, ¬ (((digT (decide (c = 88)) b v.natAbs)[0]'h).toNat : Int) = 45 := fun h => dig_first (decide (c = 88)) b v.natAbs l1 l2 h
  generalize digT false b (uN v) = DF at *
  generalize digT (decide (c = 88)) b (uN v) = DU at *
  generalize digT (decide (c = 88)) b v.natAbs = D at *
  clear e1 e2 ek g1 g2 g3 g4 g5 eu hv hk0 hj l3
  by_cases h : v < 0
  · have hs : sgS v false false = ⟨#[45]⟩ := by unfold sgS; rw [if_pos h]
    rw [hs] at hA
    obtain ⟨S, hS1, hS2, hS3, hS4⟩ := neg_pack D hz1.1
    rw [hS1] at hA
    have hS0 : 0 < S.size := by omega
    have hS5 : ((S[0]'hS0).toNat : Int) = 45 := by rw [hS3 hS0]; rfl
    have hne : S.toList.isEmpty = false := empty_no S hS0
    have hSz : S.size ≤ 70 := by omega
    have hS6 : (1 : Int) ≤ S.size := by omega
    have hmag := wrap_mag v h hv'.1
    have hmn : v.natAbs < 18446744073709551616 := by omega
    clear hs hS1 hS2 hS3 hd1
    generalize v.natAbs = m at *
    generalize uN v = u at *
    go_enter Tryd.func8, Tryd.ntmps8
    go_wp2_with (first | (go_at_call 16; refine (hV _).mono ?_; rintro e w1 ⟨rfl, b0⟩; have H0 := BoxAt.new (w0 := w) w1 false false false false false (-1) (-1) c (hbT.trans (b0.mono hbT.size)) hE) | (go_at_call 12; refine (hA _ H0.es).mono ?_; rintro e w2 ⟨rfl, b1⟩; have H1 := H0.call b1; obtain ⟨c0, c1, c2, c3, c4, c5, c6, c7, cf⟩ := H1.cells) | (go_at_call 14; refine (hB _ H1.es).mono ?_; rintro e w3 ⟨rfl, b2⟩; have H2 := H1.call b2) | (go_at_call_of 18 D; refine (hR1 _).mono ?_; rintro e w9 ⟨rfl, rfl⟩) | (go_at_call_of 18 DU; refine (hR2 _).mono ?_; rintro e w9 ⟨rfl, rfl⟩) | (go_at_call 9; refine (hDg _).mono ?_; rintro e w4 ⟨rfl, b4⟩; have H4 := H2.call b4) | (go_at_call 19; refine (hR0 _).mono ?_; rintro e w9 ⟨rfl, rfl⟩) | (go_at_call 11; refine (lives3_any _ H4.es).mono ?_; rintro e w6 ⟨rfl, b6⟩))
    go_ret
    exact ⟨rfl, (H4.bl).trans (b6.mono H4.bl.size)⟩
  · have hs : sgS v false false = ⟨#[]⟩ := by unfold sgS; rw [if_neg h]; rfl
    rw [hs, nil_app'] at hA
    have hD0 : 0 < D.size := by omega
    have hd2 : (((D[0]'hD0).toNat : Int) == 45) = false := by
      have := hd1 hD0
      simp only [beq_eq_false_iff_ne]
      exact this
    have hne : D.toList.isEmpty = false := empty_no D hD0
    have hmu : v.natAbs = uN v := by unfold uN; omega
    rw [hmu] at hR1
    have hdv : decide (v < 0) = false := by simp; omega
    clear hs hd1 hmu
    generalize uN v = u at *
    go_enter Tryd.func8, Tryd.ntmps8
    go_wp2_with (first | (go_at_call 16; refine (hV _).mono ?_; rintro e w1 ⟨rfl, b0⟩; have H0 := BoxAt.new (w0 := w) w1 false false false false false (-1) (-1) c (hbT.trans (b0.mono hbT.size)) hE) | (go_at_call 12; refine (hA _ H0.es).mono ?_; rintro e w2 ⟨rfl, b1⟩; have H1 := H0.call b1; obtain ⟨c0, c1, c2, c3, c4, c5, c6, c7, cf⟩ := H1.cells) | (go_at_call 14; refine (hB _ H1.es).mono ?_; rintro e w3 ⟨rfl, b2⟩; have H2 := H1.call b2) | (go_at_call_of 18 D; refine (hR1 _).mono ?_; rintro e w9 ⟨rfl, rfl⟩) | (go_at_call_of 18 DU; refine (hR2 _).mono ?_; rintro e w9 ⟨rfl, rfl⟩) | (go_at_call 9; refine (hDg _).mono ?_; rintro e w4 ⟨rfl, b4⟩; have H4 := H2.call b4) | (go_at_call 19; refine (hR0 _).mono ?_; rintro e w9 ⟨rfl, rfl⟩) | (go_at_call 11; refine (lives3_any _ H4.es).mono ?_; rintro e w6 ⟨rfl, b6⟩))
    go_ret
    exact ⟨rfl, (H4.bl).trans (b6.mono H4.bl.size)⟩
end Go.Proofs.YtnoelbomcogndabDoor
