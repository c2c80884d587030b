/- The walk of the law FloatsBack. -/
import Derived.Test.YtkeoafidgfmhlabGreatDoorFVerb6
namespace Go.Proofs.YtkeoafidgfmhlabGreatDoor
open Go.RowKit
set_option linter.unusedVariables false
set_option linter.unusedSimpArgs false

theorem five_low : ∃ N M : Nat, N = 1075 ∧ M = 751 ∧ 10 ^ M ≤ 5 ^ N := ⟨1075, 751, rfl, rfl, by decide +kernel⟩
theorem val_low {size : Int} {f ww : Nat} {least : Int} {I : Nat} (h : Ly size f ww least I) {p : Nat} (hp : p < I) (h0 : p ≠ 0) : -330 ≤ oP (val f least p) := by
  obtain ⟨N, M, hN, hM, h5⟩ := five_low
  have hq : 1 ≤ pq f p := by
    have hm : 1 ≤ pm f p := by
      unfold pm
      split
      · rename_i h1
        have := Nat.div_add_mod p (2 ^ f)
        rw [h1, Nat.mul_zero] at this
        omega
      · have := pow_pos2 f; omega
    exact Nat.mul_pos hm (pow_pos2 _)
  have hl : -1074 ≤ least ∧ least ≤ -149 := by rcases h with ⟨-, -, -, rfl, -⟩ | ⟨-, -, -, rfl, -⟩ <;> decide
  have hu : exU 1 (-1075) ≤ un least := by
    have := exU_shift 1 (-1075) (least - 1 + 1075).toNat (by decide) (by omega)
    rw [show (-1075 : Int) + ((least - 1 + 1075).toNat : Nat) = least - 1 by omega, Nat.one_mul] at this
    unfold un
    rw [this]
    have h2 := pow_pos2 (least - 1 + 1075).toNat
    exact Nat.le_mul_of_pos_left _ h2
  have he : exU 1 (-1075) = 5 ^ N * 10 ^ 8925 := by
    rw [exU_dn _ (by decide), Nat.one_mul]
    congr 2
    omega
  have hv : 10 ^ (M + 8925) ≤ val f least p := by
    have h1 : 10 ^ (M + 8925) ≤ exU 1 (-1075) := by rw [he, Nat.pow_add]; exact Nat.mul_le_mul_right _ h5
    have h2 : un least ≤ val f least p := by
      unfold val
      have : 1 ≤ 2 * pq f p := by omega
      exact Nat.le_mul_of_pos_left _ this
    omega
  have := oP_gt hv
  omega
set_option maxRecDepth 1000000 in
set_option maxHeartbeats 4000000 in
theorem back6_walk {bits p k : Nat} {n c Q : Int} {b : Bool} {S T : ByteArray} (hZ : Si6 b n) (hFi : Fi6 bits n p) (hV : Vb7 false false false false false (-1) (-1) 118 k ⟨#[118, 103, 71]⟩ c) (hF : FlC p n false false false false false (-1) (-1) c T true) (hR : R6C T S Q) (hRd : ReadC S Q n p 0) (hSh : ShC p n S Q 0) (w : World) :
    Calls Tryz.prog 7 #[.agg #[.int .u64 bits, .bool b], .int .u64 k] w fun e w' => e = .returned (.bool true) ∧ Below w.heap.size w w' := by
  have hL := lives6_any
  have hBa := bare6_any 118
  have hbA : Below w.heap.size w (w.alloc (.cells #[.int .u64 bits, .bool b] 35)) := (Below.refl _ _).alloc (Nat.le_refl _) _
  go_enter Tryz.func7, Tryz.ntmps7
  go_wp2_with (first
    | (go_at_call 9; (with_reducible refine (hZ _).mono ?_); rintro x w1 ⟨rfl, rfl⟩)
    | (go_at_call 15; (with_reducible refine (hFi _).mono ?_); rintro x w1 ⟨rfl, rfl⟩)
    | (go_at_call 18; refine (hBa _).mono ?_; rintro x w2 ⟨rfl, hb2⟩; obtain ⟨y2, rfl⟩ := Cl.start hb2)
    | (go_at_call 17; (with_reducible refine (hV _).mono ?_); rintro x w3 ⟨rfl, hb3⟩; obtain ⟨y3, rfl⟩ := Cl.next hb3)
    | (go_at_call 12; (with_reducible refine (hF _).mono ?_); rintro x w4 ⟨rfl, hb4⟩; obtain ⟨y4, rfl⟩ := Cl.next hb4)
    | (go_at_call 19; (with_reducible refine (hR _).mono ?_); rintro x w5 ⟨rfl, hb5⟩; obtain ⟨y5, rfl⟩ := Cl.next hb5)
    | (go_at_call 22; (with_reducible refine (hRd _).mono ?_); rintro x w6 ⟨rfl, hb6⟩; have bA := keepb hb6 (B := y5.w.heap.size) (x := .string S) (y := .int .i64 Q) (by simp [BoxD, go_sem]))
    | (go_at_call 23; (with_reducible refine (hSh _).mono ?_); rintro x w7 ⟨rfl, hb7⟩; have bB := keepb hb7 bA; obtain ⟨r0, r1, r2, r3⟩ := id bB; have hlt : y5.w.heap.size < w7.heap.size := World.block_lt_of_cell? w7 _ r0)
    | (go_at_call 11; refine (hL _).mono ?_; rintro x w8 ⟨rfl, hb8⟩))
  go_ret
  refine ⟨rfl, ?_⟩
  have h1 := bel_call hbA y5.below (Nat.le_refl _)
  have h2 := bel_call (h1.alloc h1.size _) hb6 (Nat.le_refl _)
  have h3 := bel_call h2 hb7 (Nat.le_refl _)
  exact bel_call (h3.alloc h3.size _) hb8 (Nat.le_refl _)
theorem floatsBack_walk (m0 : Int) (b : Bool) (hm0 : (Lit.int .u64 m0).wf = true) (k0 : Int) (hk0 : (Lit.int .u64 k0).wf = true) (w : World) :
    Calls Tryz.prog 7 #[.agg #[.int .u64 m0, .bool b], .int .u64 k0] w fun e w' => e = .returned (.bool true) ∧ Below w.heap.size w w' := by
  obtain ⟨bits, n, f, ww, least, I, p, rfl, h, hp, hZ, hFi, hp9⟩ := pat6 m0 hm0 b
  obtain ⟨g0, g1⟩ := wfu64 k0 hk0
  obtain ⟨k, rfl⟩ := Int.eq_ofNat_of_zero_le g0
  have hbp := bare_small h hp
  obtain ⟨d, hd, gd, hF⟩ := fin_of (bits := p) h (by omega) (by rw [hbp]; exact hp)
  rw [hbp] at hd hF
  have hsg : sgn f ww p = false := by
    have h2 := hbp
    unfold sgn
    unfold bare at h2
    have : p / 2 ^ (f + ww) = 0 := Nat.div_eq_of_lt (by have := Nat.mod_lt p (show 0 < 2 ^ (f + ww) from Nat.pow_pos (by decide)); omega)
    rw [this]; rfl
  rw [hsg] at hF
  have hj : k % 3 < 3 := Nat.mod_lt _ (by decide)
  have hV := verb7_any ⟨#[118, 103, 71]⟩ false false false false false (-1) (-1) 118 k (k % 3) hj (by decide) rfl (by omega)
  have hc : ((((⟨#[118, 103, 71]⟩ : ByteArray)[k % 3]'hj).toNat : Nat) : Int) = 118 ∨ ((((⟨#[118, 103, 71]⟩ : ByteArray)[k % 3]'hj).toNat : Nat) : Int) = 103 ∨ ((((⟨#[118, 103, 71]⟩ : ByteArray)[k % 3]'hj).toNat : Nat) : Int) = 71 := by
    generalize k % 3 = j at hj ⊢
    have : j = 0 ∨ j = 1 ∨ j = 2 := by omega
    rcases this with rfl | rfl | rfl
    · exact .inl rfl
    · exact .inr (.inl rfl)
    · exact .inr (.inr (rfl))
  generalize ((((⟨#[118, 103, 71]⟩ : ByteArray)[k % 3]'hj).toNat : Nat) : Int) = c at hc hV
  have hv : fVerb c = true := by rcases hc with rfl | rfl | rfl <;> decide
  have hfl := float_fin hF false false false false false (-1) (-1) c hv
  rw [filT_bare _ (asc_fin _ _ _ _ _ _ _)] at hfl
  have hvF := (val_ex h hp).2
  have hself : RD f I (un least) (val f least p) p := RD_self (un_pos least) hp
  have hrd : RD f I (un least) d p := SH.read (R := fun x => RD f I (un least) x p) hself hd
  have hll : (oL d).length ≤ 900 := by have := hd.len; have := hvF.len; omega
  have hdl : (oL d).length ≤ 17 := by
    by_cases h0 : p = 0
    · have hl := hd.len
      have e : val f least p = 0 := by subst h0; simp [val, pq, pm]
      rw [e, o_zero.1] at hl
      simp at hl; simp [hl]
    · have hbd := bd_of (f := f) (I := I) (u := un least) (un_pos least) h0 hp
      have hg := gap_of (f := f) (u := un least) h0
      rcases h with ⟨-, rfl, -, -, -⟩ | ⟨-, rfl, -, -, -⟩
      · have := hd.few hbd (N := 9) (by decide) hg (by decide)
        omega
      · exact hd.few hbd (N := 17) (by decide) hg (by decide)
  have hpd : -950 ≤ oP d ∧ oP d ≤ 950 := by
    by_cases h0 : p = 0
    · have e : val f least p = 0 := by subst h0; simp [val, pq, pm]
      rw [e] at hd
      have hd0 : d = 0 := hd.all fun j h1 h2 => by rw [o_zero.1] at h2; simp at h2
      rw [hd0, o_zero.2]; decide
    · have hlo := val_low h hp h0
      have hp1 := hvF.p1
      rcases hd with ⟨m, n1, n2, -, n4, n5⟩ | ⟨-, n2⟩
      · obtain ⟨-, hd2⟩ := pick_R n4 n5
        have hb1 := Bn_le (val f least p) m
        have hq := Qn_lt (v := val f least p) (n := m) (by omega)
        have hqe := Qn_eq (v := val f least p) (n := m) (by omega)
        have hge := Bn_ge (v := val f least p) (n := m) n1 (by omega)
        have hA : An (val f least p) m < 10 ^ (Qn (val f least p) m + m + 1) := by
          have h1 : An (val f least p) m = Bn (val f least p) m + 10 ^ Qn (val f least p) m := rfl
          have h2 : 10 ^ Qn (val f least p) m ≤ 10 ^ (Qn (val f least p) m + m) := Nat.pow_le_pow_right (by decide) (by omega)
          rw [Nat.pow_succ]; omega
        have hdl2 : d < 10 ^ (Qn (val f least p) m + m + 1) := by
          rcases hd2 with rfl | rfl
          · omega
          · exact hA
        have hdg : 10 ^ (Qn (val f least p) m + (m - 1)) ≤ d := by
          rcases hd2 with rfl | rfl
          · exact hge
          · omega
        have h4 := oP_gt hdg
        rcases oP_le hdl2 with h3 | h3
        · omega
        · rw [h3, o_zero.2]; omega
      · rw [n2]; omega
  have hgen : ∀ g, R6C (bigT g (genG false d 21 6)) (oS d) (oP d) := fun g => genRead gd g false hpd.2 hpd.1 (by omega)
  have hR : R6C (finT false (-1) (pm f p) (least + pk f p) (val f least p) d c) (oS d) (oP d) := by
    rcases hc with rfl | rfl | rfl
    · rw [finT_118]
      have e : genT false (min (-1) 1000) (val f least p) d = genG false d 21 6 := by unfold genT; rw [if_pos (by decide)]
      rw [e]; exact hgen false
    · rw [finT_103]
      have e : genT false (min (-1) 1000) (val f least p) d = genG false d 21 6 := by unfold genT; rw [if_pos (by decide)]
      rw [e]; exact hgen false
    · rw [finT_71]
      have e : genT false (min (-1) 1000) (val f least p) d = genG false d 21 6 := by unfold genT; rw [if_pos (by decide)]
      rw [e]; exact hgen true
  exact back6_walk hZ hFi hV hfl hR (readD h gd hrd) hF.sh w
end Go.Proofs.YtkeoafidgfmhlabGreatDoor
