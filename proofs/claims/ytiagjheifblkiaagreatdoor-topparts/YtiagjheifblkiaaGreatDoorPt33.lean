/- FTop, FPi: these texts in one. -/
import Derived.Test.YtiagjheifblkiaaGreatDoorPt31
import Derived.Test.YtiagjheifblkiaaGreatDoorPt32
namespace Go.Proofs.YtiagjheifblkiaaGreatDoor
open Go.RowKit
set_option linter.unusedVariables false
set_option linter.unusedSimpArgs false
def Asc (s : ByteArray) : Prop := ∀ x ∈ s.data.toList, x.toNat < 128
theorem Asc.app {a b : ByteArray} (h : Asc a) (k : Asc b) : Asc (a ++ b) := fun x hx => by
 rw [app_list] at hx
 rcases List.mem_append.1 hx with hx | hx
 ·exact h x hx
 ·exact k x hx
theorem Asc.run {c : Nat} (hc : c < 128) (n : Nat) : Asc (run c n) := fun x hx => by
 rw [run_list] at hx
 have := List.eq_of_mem_replicate hx
 subst this
 simp; omega
theorem Asc.ext {s : ByteArray} (h : Asc s) (a b : Nat) : Asc (s.extract a b) := fun x hx => by
 rw [ext_li] at hx
 exact h x (List.mem_of_mem_take (List.mem_of_mem_drop hx))
theorem Asc.lit {l : List UInt8} (h : l.all (fun x => decide (x.toNat < 128)) = true) : Asc ⟨l.toArray⟩ := fun x hx => by
 have := List.all_eq_true.1 h x (by simpa using hx)
 simpa using this
theorem asc_dig (b n : Nat) (hb : 0 < b) (h16 : b ≤ 16) : Asc (digT false b n) := fun x hx => digS_ascii false b n hb h16 x hx
theorem asc_oS (v : Nat) : Asc (oS v) := fun x hx => by
 have := (isD_iff x).1 (allD_mem (o_dig v) hx)
 omega
theorem Asc.lnA {s : ByteArray} (h : Asc s) (n : Int) : Asc (lnA s n) := (Asc.run (by decide) _).app h
theorem Asc.lnB {s : ByteArray} (h : Asc s) (n : Int) : Asc (lnB s n) := h.app (Asc.run (by decide) _)
theorem asc46 : Asc ⟨#[46]⟩ := Asc.lit (l := [46]) (by decide)
theorem asc48 : Asc ⟨#[48]⟩ := Asc.lit (l := [48]) (by decide)
theorem asc_sx (n : Int) : Asc (sx1 n) := by
 unfold sx1
 split
 ·exact Asc.lit (l := [45]) (by decide)
 ·exact Asc.lit (l := [43]) (by decide)
theorem Asc.ptd {a b : ByteArray} (h : Asc a) (k : Asc b) (sh : Bool) : Asc (ptd sh a b) := by
 unfold Go.Proofs.YtiagjheifblkiaaGreatDoor.ptd
 split
 ·exact h
 ·exact (h.app asc46).app k
theorem asc_sgd (n l : Int) : Asc (sgd n l) := (asc_sx n).app ((asc_dig 10 _ (by decide) (by decide)).lnA _)
theorem Asc.sci {d : ByteArray} (h : Asc d) (sh : Bool) (x : Int) : Asc (sci sh d x) := (((h.ext _ _).ptd (h.ext _ _) sh).app (Asc.lit (l := [101]) (by decide))).app (asc_sgd _ _)
theorem Asc.arA {d : ByteArray} (h : Asc d) (p : Int) : Asc (arA d p) := by
 unfold Go.Proofs.YtiagjheifblkiaaGreatDoor.arA
 split
 ·exact asc48
 ·exact (h.lnB _).ext _ _
theorem Asc.arB {d : ByteArray} (h : Asc d) (p : Int) : Asc (arB d p) := by
 unfold Go.Proofs.YtiagjheifblkiaaGreatDoor.arB
 split
 ·exact h.lnA _
 ·exact (h.lnB _).ext _ _
theorem asc_exp (sh : Bool) (P : Int) (v : Nat) : Asc (expT sh P v) := ((asc_oS _).lnB _).sci _ _
theorem asc_fix (sh : Bool) (P : Int) (v : Nat) : Asc (fixT sh P v) := ((asc_oS _).arA _).ptd (((asc_oS _).arB _).lnB _) _
theorem asc_genD (sh : Bool) (d : Nat) (c : Int) : Asc (genD sh d c) := by
 unfold genD
 split
 ·exact ((asc_oS _).lnB _).lnB _
 ·exact (asc_oS _).lnB _
theorem asc_genG (sh : Bool) (d : Nat) (t c : Int) : Asc (genG sh d t c) := by
 unfold genG
 split
 ·exact (asc_genD _ _ _).sci _ _
 ·exact ((asc_genD _ _ _).arA _).ptd ((asc_genD _ _ _).arB _) _
theorem asc_gen (sh : Bool) (P : Int) (v d : Nat) : Asc (genT sh P v d) := by
 unfold genT
 split <;> exact asc_genG _ _ _ _
theorem asc_par (m : Nat) (e : Int) : Asc (parT m e) := ((asc_dig 10 _ (by decide) (by decide)).app (Asc.lit (l := [112]) (by decide))).app (asc_sgd _ _)
theorem asc_hxP {d : ByteArray} (h : Asc d) (P : Int) : Asc (hxP d P) := by
 unfold hxP
 split
 ·intro x hx
  obtain ⟨k, h1, -⟩ := rtr_split d.data.toList
  refine h x ?_
  rw [h1]
  exact List.mem_append_left _ (by simpa using hx)
 ·exact (h.ext _ _).lnB _
theorem asc_hex (sh : Bool) (P : Int) (m : Nat) (e : Int) : Asc (hexT sh P m e) := by
 have hD : Asc (hxD m P) := (asc_dig 16 _ (by decide) (by decide)).lnA _
 exact (((Asc.lit (l := [48, 120]) (by decide)).app ((hD.ext _ _).ptd (asc_hxP (hD.ext _ _) _) _)).app (Asc.lit (l := [112]) (by decide))).app (asc_sgd _ _)
theorem asc_num (sh : Bool) (P : Int) (m : Nat) (e : Int) (v d : Nat) (verb : Int) : Asc (numTF sh P m e v d verb) := by
 unfold numTF
 repeat' split
 ·exact asc_exp _ _ _
 ·exact asc_fix _ _ _
 ·exact asc_par _ _
 ·exact asc_hex _ _ _ _
 ·exact asc_gen _ _ _ _
theorem rnd_pt (v : Nat) (n : Int) : oP (rnd v n) ≤ max (oP v + 1) 0 := by
 unfold rnd
 split
 ·rw [o_zero.2]; omega
 ·split
  ·omega
  ·rename_i h1 h2
   obtain ⟨k, rfl⟩ := Int.eq_ofNat_of_zero_le (show 0 ≤ n by omega)
   have hl := o_low v
   obtain ⟨Q, hQ⟩ := Int.eq_ofNat_of_zero_le (show 0 ≤ oP v - (k : Int) + 10000 by omega)
   rw [hQ, Int.toNat_natCast]
   have hv : v < 10 ^ (Q + k) := (o_dec v).lt (by omega)
   obtain ⟨u, hu, hu2, -, -⟩ := near_top hv
   have h3 : near v Q < 10 ^ (Q + k + 1) := by
    rw [hu, Nat.pow_succ, Nat.pow_add]
    have h4 := Nat.mul_le_mul_right (10 ^ Q) hu2
    have h5 := Nat.mul_pos (pow_pos10 Q) (pow_pos10 k)
    rw [Nat.mul_comm (10 ^ k)] at h4
    omega
   rcases oP_le h3 with h | h
   ·omega
   ·rw [h, o_zero.2]; omega
theorem oP_lo (v : Nat) : -10000 ≤ oP v := by have := o_low v; omega
theorem pw0_in {v : Nat} (h : oP v ≤ 2000) : -20000 ≤ pw0 v ∧ pw0 v ≤ 2000 := by
 have := oP_lo v
 unfold pw0
 split <;> omega
theorem expC {bits m v : Nat} {size e P : Int} {sh : Bool} (hX : ExC m e (oS v) (oP v)) (fv : Fine v) (hP : P ≤ 1000) (w : World) : Calls Tryz.prog 321 #[.agg #[.int .u64 (bits : Nat), .int .i64 size, .int .u64 (m : Nat), .int .i64 e, .int .i64 P, .bool sh]] w fun x w' => x = .returned (.string (expT sh P v)) ∧ Below w.heap.size w w' := by
 have hk : plcF P + 1 = cntE P := rfl
 have h0 : 0 ≤ plcF P ∧ plcF P ≤ 1000 := by unfold plcF; split <;> omega
 have hl := rnd_len (v := v) (c := cntE P) (by omega)
 have hp := rnd_pt v (cntE P)
 have hp0 := oP_lo (rnd v (cntE P))
 have hp1 := fv.p1
 have hx := pw0_in (v := rnd v (cntE P)) (by omega)
 have hz := lnB_size (oS (rnd v (cntE P))) (cntE P)
 have hs := oS_size (rnd v (cntE P))
 exact expo_walk (k := plcF P) fplaces_any (value_walk hX) (by rw [hk]; exact roundC _ fv.good) (by rw [hk]; exact fun w => flenB_any _ _ w (by omega) (by omega) (by omega)) (fpower_any _ (by omega) (by omega)) (fsci_any _ _ (by omega) (by omega) (by omega) (by omega)) (by omega) h0.1 w
theorem fixC {bits m v : Nat} {size e P : Int} {sh : Bool} (hX : ExC m e (oS v) (oP v)) (fv : Fine v) (hP : P ≤ 1000) (w : World) : Calls Tryz.prog 322 #[.agg #[.int .u64 (bits : Nat), .int .i64 size, .int .u64 (m : Nat), .int .i64 e, .int .i64 P, .bool sh]] w fun x w' => x = .returned (.string (fixT sh P v)) ∧ Below w.heap.size w w' := by
 have h0 : 0 ≤ plcF P ∧ plcF P ≤ 1000 := by unfold plcF; split <;> omega
 have hl := plc_low (v := v) h0.1 h0.2
 have hp : oP (plc v (plcF P)) ≤ max (oP v + 1) 0 := rnd_pt v _
 have hp0 := oP_lo (plc v (plcF P))
 have hp1 := fv.p1
 have hs := oS_size (plc v (plcF P))
 have hb := arB_size_is (oS (plc v (plcF P))) (oP (plc v (plcF P)))
 have ha := arA_size (oS (plc v (plcF P))) (oP (plc v (plcF P))) (by omega)
 have hz := lnB_size (arB (oS (plc v (plcF P))) (oP (plc v (plcF P)))) (plcF P)
 exact fixed_walk (k := plcF P) fplaces_any (value_walk hX) (placesC _ fv.good) (fun w => faround_any _ _ w (by omega) (by omega) (by omega)) (fun w => flenB_any _ _ w (by omega) (by omega) (by omega)) (fun w => fpointed_any _ _ w (by omega) (by omega)) w
theorem genW {bits m d : Nat} {size e P : Int} {sh : Bool} {most cnt : Int} (hB : BrC bits m size e P sh (oS d) (oP d) most cnt) (hdB : (oL d).length ≤ 2000) (hp1 : oP d ≤ 2000) (hc0 : 0 ≤ cnt) (hc : cnt ≤ 1000) (w : World) : Calls Tryz.prog 323 #[.agg #[.int .u64 (bits : Nat), .int .i64 size, .int .u64 (m : Nat), .int .i64 e, .int .i64 P, .bool sh]] w fun x w' => x = .returned (.string (genG sh d most cnt)) ∧ Below w.heap.size w w' := by
 have hp0 := oP_lo d
 have hs := oS_size d
 have hx := pw0_in hp1
 have z1 := lnB_size (oS d) 1
 have z2 := lnB_size (lnB (oS d) 1) cnt
 have hL : LbC (oS d) 1 (lnB (oS d) 1) := fun w => flenB_any _ _ w (by omega) (by omega) (by omega)
 have hW := fpower_any d (by omega) (by omega)
 have hgz : 1 ≤ (genD sh d cnt).size ∧ (genD sh d cnt).size ≤ 4000 := by
  unfold genD
  split <;> omega
 have hD : if sh = true then LbC (lnB (oS d) 1) cnt (genD sh d cnt) else genD sh d cnt = lnB (oS d) 1 := by
  unfold genD
  split
  ·exact fun w => flenB_any _ _ w (by omega) (by omega) (by omega)
  ·rfl
 unfold genG
 by_cases h : pw0 d < -4 ∨ most ≤ pw0 d
 ·rw [if_pos h]
  exact gen_sci hB hL hW hD h (fsci_any _ _ (by omega) (by omega) (by omega) (by omega)) w
 ·rw [if_neg h]
  have ha := arA_size (genD sh d cnt) (pw0 d + 1) (by omega)
  have hb := arB_size_is (genD sh d cnt) (pw0 d + 1)
  exact gen_pt hB hL hW hD (by omega) (by omega) (fun w => faround_any _ _ w (by omega) (by omega) (by omega)) (fun w => fpointed_any _ _ w (by omega) (by omega)) (by omega) w
theorem genC {bits m v d : Nat} {size e P : Int} {sh : Bool} (hX : ExC m e (oS v) (oP v)) (fv : Fine v) (hS : ShC bits size (oS d) (oP d) 0) (gd : (oL d).length ≤ 2000) (gp : oP d ≤ 2000) (hP : P ≤ 1000) (w : World) : Calls Tryz.prog 323 #[.agg #[.int .u64 (bits : Nat), .int .i64 size, .int .u64 (m : Nat), .int .i64 e, .int .i64 P, .bool sh]] w fun x w' => x = .returned (.string (genT sh P v d)) ∧ Below w.heap.size w w' := by
 unfold genT
 by_cases h : P < 0
 ·rw [if_pos h]
  exact genW (brief_short h hS) gd gp (by decide) (by decide) w
 ·rw [if_neg h]
  have hl := rnd_len (v := v) (c := max P 1) (by omega)
  have hp := rnd_pt v (max P 1)
  have hp1 := fv.p1
  exact genW (brief_round h (value_walk hX) (roundC _ fv.good)) (by omega) (by omega) (by omega) (by omega) w
theorem parC {bits m : Nat} {size e P : Int} {sh : Bool} (hm : m < 9007199254740992) (he0 : -2000 ≤ e) (he1 : e ≤ 2000) (w : World) : Calls Tryz.prog 324 #[.agg #[.int .u64 (bits : Nat), .int .i64 size, .int .u64 (m : Nat), .int .i64 e, .int .i64 P, .bool sh]] w fun x w' => x = .returned (.string (parT m e)) ∧ Below w.heap.size w w' := by
 have h1 := digT_size false 10 m
 have h2 := sgd_size e 1 (by decide)
 have hD : DgC (m : Nat) 10 (digT false 10 m) := fun w => idigits_any m 10 w (by omega) (.inr (.inr (.inl rfl)))
 exact parts_walk hD (fun w => fsigned_any e 1 w (by omega) (by omega) (by decide) (by decide)) (by omega) w
theorem nmE_in {m : Nat} {e P : Int} (he0 : -2000 ≤ e) (he1 : e ≤ 2000) : -3000 ≤ nmE m e P ∧ nmE m e P ≤ 3000 := by
 have : nmS m ≤ 53 := by unfold nmS; omega
 unfold nmE
 repeat' split
 all_goals omega
theorem hexC {bits m : Nat} {size e P : Int} {sh : Bool} (hm : m < 2 ^ 53) (he0 : -2000 ≤ e) (he1 : e ≤ 2000) (hP : P ≤ 1000) (w : World) : Calls Tryz.prog 325 #[.agg #[.int .u64 (bits : Nat), .int .i64 size, .int .u64 (m : Nat), .int .i64 e, .int .i64 P, .bool sh]] w fun x w' => x = .returned (.string (hexT sh P m e)) ∧ Below w.heap.size w w' := by
 have hs := hxD_size m P hm
 have hM : nmM m P < 18446744073709551616 := by
  by_cases h0 : m = 0
  ·subst h0
   have e1 : nmM 0 P = 0 := by simp [nmM]
   omega
  ·obtain ⟨-, q, h1, h2⟩ := nm_in h0 hm
   have e13 : (16 : Nat) ^ 13 = 4503599627370496 := by decide
   have hr : rb (m * 2 ^ nmS m) P ≤ 2 * 16 ^ 13 := by
    rw [h1]
    by_cases hc : P < 0 ∨ 13 ≤ P
    ·rw [rb_all hc]; omega
    ·obtain ⟨n, rfl⟩ := Int.eq_ofNat_of_zero_le (show 0 ≤ P by omega)
     have hn : n < 13 := by omega
     rw [rb_some hn]
     have h3 := Nat.mul_le_mul_right (16 ^ (13 - n)) (kpt_le hn h2)
     rw [← u13 hn] at h3
     omega
   unfold nmM
   rw [if_neg h0]
   split <;> omega
 have h1 := digT_size false 16 (nmM m P)
 have hx := nmE_in (m := m) (P := P) he0 he1
 have hb : ((hxD m P).extract 1 (hxD m P).size).size = 13 := by rw [ByteArray.size_extract, hs]; decide
 have ha : ((hxD m P).extract 0 1).size ≤ 1 := by rw [ByteArray.size_extract]; omega
 have hhp : (hxP ((hxD m P).extract 1 (hxD m P).size) P).size ≤ 2000 := by
  unfold hxP
  split
  ·rw [mk_size]
   have := rtr_len ((hxD m P).extract 1 (hxD m P).size).data.toList
   rw [list_len] at this; omega
  ·rw [lnB_size, ByteArray.size_extract]; omega
 have ht := ptd_size sh ((hxD m P).extract 0 1) (hxP ((hxD m P).extract 1 (hxD m P).size) P)
 have hg := sgd_size (nmE m e P) 2 (by decide)
 have hD : DgC (nmM m P : Nat) 16 (digT false 16 (nmM m P)) := fun w => idigits_any (nmM m P) 16 w hM (.inr (.inr (.inr rfl)))
 have hL : LaC (digT false 16 (nmM m P)) 14 (hxD m P) := fun w => flen_any (digT false 16 (nmM m P)) 14 w (by omega) (by omega) (by omega)
 exact hex_walk (fnormal_any hm (by omega) (by omega)) hD hL (by omega) rfl rfl (hexPart_any hb (by omega)) (fun w => fpointed_any _ _ w (by omega) (by omega)) (fun w => fsigned_any _ 2 w (by omega) (by omega) (by decide) (by decide)) (by omega) w
theorem num_size {sh : Bool} {P : Int} {m v d : Nat} {e verb : Int} (fv : Fine v) (gd : (oL d).length ≤ 2000) (gp : oP d ≤ 2000) (hm : m < 2 ^ 53) (hP : P ≤ 1000) : 1 ≤ (numTF sh P m e v d verb).size ∧ (numTF sh P m e v d verb).size ≤ 150000 := by
 have hG : ∀ (d : Nat) (most cnt : Int), (oL d).length ≤ 2000 → oP d ≤ 2000 → cnt ≤ 1000 → 1 ≤ (genG sh d most cnt).size ∧ (genG sh d most cnt).size ≤ 150000 := by
  intro d most cnt h1 h2 h3
  have hx := pw0_in h2
  have hs := oS_size d
  have z1 := lnB_size (oS d) 1
  have z2 := lnB_size (lnB (oS d) 1) cnt
  have hgz : 1 ≤ (genD sh d cnt).size ∧ (genD sh d cnt).size ≤ 4000 := by
   unfold genD
   split <;> omega
  unfold genG
  split
  ·have := sci_size sh (genD sh d cnt) (pw0 d) (by omega)
   omega
  ·have h4 := arA_size (genD sh d cnt) (pw0 d + 1) (by omega)
   have h5 := arB_size_is (genD sh d cnt) (pw0 d + 1)
   have h6 := ptd_size sh (arA (genD sh d cnt) (pw0 d + 1)) (arB (genD sh d cnt) (pw0 d + 1))
   omega
 have hp1 := fv.p1
 unfold numTF
 split
 ·have h0 : 1 ≤ cntE P ∧ cntE P ≤ 1001 := by unfold cntE; split <;> omega
  have hl := rnd_len (v := v) (c := cntE P) h0.1
  have hs := oS_size (rnd v (cntE P))
  have hz := lnB_size (oS (rnd v (cntE P))) (cntE P)
  have := sci_size sh (lnB (oS (rnd v (cntE P))) (cntE P)) (pw0 (rnd v (cntE P))) (by omega)
  unfold expT
  omega
 ·split
  ·have h0 : 0 ≤ plcF P ∧ plcF P ≤ 1000 := by unfold plcF; split <;> omega
   have hl := plc_low (v := v) h0.1 h0.2
   have hp : oP (plc v (plcF P)) ≤ max (oP v + 1) 0 := rnd_pt v _
   have hs := oS_size (plc v (plcF P))
   have hb := arB_size_is (oS (plc v (plcF P))) (oP (plc v (plcF P)))
   have ha := arA_size (oS (plc v (plcF P))) (oP (plc v (plcF P))) (by omega)
   have hz := lnB_size (arB (oS (plc v (plcF P))) (oP (plc v (plcF P)))) (plcF P)
   have := ptd_size sh (arA (oS (plc v (plcF P))) (oP (plc v (plcF P)))) (lnB (arB (oS (plc v (plcF P))) (oP (plc v (plcF P)))) (plcF P))
   unfold fixT
   omega
  ·split
   ·have h1 := digT_size false 10 m
    have h2 := sgd_size e 1 (by decide)
    have h3 : (⟨#[112]⟩ : ByteArray).size = 1 := rfl
    unfold parT
    rw [app_size, app_size]; omega
   ·split
    ·have hs := hxD_size m P hm
     have hb : ((hxD m P).extract 1 (hxD m P).size).size = 13 := by rw [ByteArray.size_extract, hs]; decide
     have ha : ((hxD m P).extract 0 1).size ≤ 1 := by rw [ByteArray.size_extract]; omega
     have hhp : (hxP ((hxD m P).extract 1 (hxD m P).size) P).size ≤ 2000 := by
      unfold hxP
      split
      ·rw [mk_size]
       have := rtr_len ((hxD m P).extract 1 (hxD m P).size).data.toList
       rw [list_len] at this; omega
      ·rw [lnB_size, ByteArray.size_extract]; omega
     have ht := ptd_size sh ((hxD m P).extract 0 1) (hxP ((hxD m P).extract 1 (hxD m P).size) P)
     have hg := sgd_size (nmE m e P) 2 (by decide)
     have h3 : (⟨#[112]⟩ : ByteArray).size = 1 := rfl
     have h4 : (⟨#[48, 120]⟩ : ByteArray).size = 2 := rfl
     unfold hexT
     rw [app_size, app_size, app_size]; omega
    ·unfold genT
     split
     ·exact hG d 21 6 gd gp (by decide)
     ·have hl := rnd_len (v := v) (c := max P 1) (by omega)
      have hp := rnd_pt v (max P 1)
      exact hG _ _ _ (by omega) (by omega) (by omega)
theorem upper_size (l : List UInt8) : (Lib.toUpperA l).length = l.length := by simp [Lib.toUpperA]
theorem big_size (g : Bool) (s : ByteArray) : (bigT g s).size = s.size := by
 unfold bigT
 split
 ·rw [mk_size, upper_size, list_len]
 ·rfl
structure FinB (bits : Nat) (size : Int) (sg : Bool) (m : Nat) (e : Int) (v d : Nat) : Prop where
 pt : PtC bits size sg m e 0
 ex : ExC m e (oS v) (oP v)
 fv : Fine v
 sh : ShC bits size (oS d) (oP d) 0
 dl : (oL d).length ≤ 2000
 dp : oP d ≤ 2000
 m53 : m < 2 ^ 53
 e0 : -2000 ≤ e
 e1 : e ≤ 2000
theorem upC {T : ByteArray} (hz : T.size ≤ 150000) (ha : Asc T) (w : World) : Calls Tryz.prog 290 #[.string T] w fun x w' => x = .returned (.string (bigT true T)) ∧ Below w.heap.size w w' := Tryz.strings_ToUpper_ascii _ w (by omega) (fun j b hj => ha b (List.mem_of_getElem? hj))
theorem fin_size {sh : Bool} {prec : Int} {m v d : Nat} {e verb : Int} (fv : Fine v) (gd : (oL d).length ≤ 2000) (gp : oP d ≤ 2000) (hm : m < 2 ^ 53) : 1 ≤ (finT sh prec m e v d verb).size ∧ (finT sh prec m e v d verb).size ≤ 150000 := by
 unfold finT
 rw [big_size]
 exact num_size fv gd gp hm (by omega)
theorem finT_101 (sh : Bool) (prec : Int) (m : Nat) (e : Int) (v d : Nat) : finT sh prec m e v d 101 = expT sh (min prec 1000) v := by
 cases sh <;> simp [finT, numTF, bigT, grV]
theorem finT_69 (sh : Bool) (prec : Int) (m : Nat) (e : Int) (v d : Nat) : finT sh prec m e v d 69 = bigT true (expT sh (min prec 1000) v) := by
 cases sh <;> simp [finT, numTF, bigT, grV]
theorem finT_102 (sh : Bool) (prec : Int) (m : Nat) (e : Int) (v d : Nat) : finT sh prec m e v d 102 = fixT sh (min prec 1000) v := by
 cases sh <;> simp [finT, numTF, bigT, grV]
theorem finT_70 (sh : Bool) (prec : Int) (m : Nat) (e : Int) (v d : Nat) : finT sh prec m e v d 70 = fixT sh (min prec 1000) v := by
 cases sh <;> simp [finT, numTF, bigT, grV]
theorem finT_103 (sh : Bool) (prec : Int) (m : Nat) (e : Int) (v d : Nat) : finT sh prec m e v d 103 = genT sh (min prec 1000) v d := by
 cases sh <;> simp [finT, numTF, bigT, grV]
theorem finT_71 (sh : Bool) (prec : Int) (m : Nat) (e : Int) (v d : Nat) : finT sh prec m e v d 71 = bigT true (genT sh (min prec 1000) v d) := by
 cases sh <;> simp [finT, numTF, bigT, grV]
theorem finT_118 (sh : Bool) (prec : Int) (m : Nat) (e : Int) (v d : Nat) : finT sh prec m e v d 118 = genT false (min prec 1000) v d := by
 cases sh <;> simp [finT, numTF, bigT, grV]
theorem finT_98 (sh : Bool) (prec : Int) (m : Nat) (e : Int) (v d : Nat) : finT sh prec m e v d 98 = parT m e := by
 cases sh <;> simp [finT, numTF, bigT, grV]
theorem finT_120 (sh : Bool) (prec : Int) (m : Nat) (e : Int) (v d : Nat) : finT sh prec m e v d 120 = hexT sh (min prec 1000) m e := by
 cases sh <;> simp [finT, numTF, bigT, grV]
theorem finT_88 (sh : Bool) (prec : Int) (m : Nat) (e : Int) (v d : Nat) : finT sh prec m e v d 88 = bigT true (hexT sh (min prec 1000) m e) := by
 cases sh <;> simp [finT, numTF, bigT, grV]
theorem float_fin {bits m v d : Nat} {size e : Int} {sg : Bool} (h : FinB bits size sg m e v d) (p mi sh sp z : Bool) (wid prec verb : Int) (hv : fVerb verb = true) : FlCq bits size p mi sh sp z wid prec verb (filT (sgF sg p sp) (finT sh prec m e v d verb) mi z wid) true := by
 have e53 : (2 : Nat) ^ 53 = 9007199254740992 := by decide
 have hZ := (fin_size (sh := sh) (prec := prec) (e := e) (verb := verb) h.fv h.dl h.dp h.m53).2
 have hg := sgF_size sg p sp
 have hF : ∀ (T : ByteArray) (w : World), T.size ≤ 150000 → Calls Tryz.prog 291 #[.string (sgF sg p sp), .string T, .agg #[.bool p, .bool mi, .bool sh, .bool sp, .bool z, .int .i64 wid, .int .i64 prec, .int .i32 verb]] w fun x w' => x = .returned (.string (filT (sgF sg p sp) T mi z wid)) ∧ Below w.heap.size w w' := fun T w hT => filled_any _ _ p mi sh sp z wid prec verb w hg (by omega)
 have hS : ∀ w, Calls Tryz.prog 287 #[.bool sg, .agg #[.bool p, .bool mi, .bool sh, .bool sp, .bool z, .int .i64 wid, .int .i64 prec, .int .i32 verb]] w fun x w' => x = .returned (.string (sgF sg p sp)) ∧ Below w.heap.size w w' := fun w => fsign_any sg p mi sh sp z wid prec verb w
 have hP : min prec 1000 ≤ 1000 := by omega
 have hv := of_decide_eq_true hv
 rcases hv with rfl | rfl | rfl | rfl | rfl | rfl | rfl | rfl | rfl | rfl
 ·rw [finT_101] at hZ ⊢
  cases sh
  ·exact fin_101_false p mi sp z wid prec h.pt rfl (fun w => expC h.ex h.fv hP w) hS (fun w => hF _ w hZ)
  ·exact fin_101_true p mi sp z wid prec h.pt rfl (fun w => expC h.ex h.fv hP w) hS (fun w => hF _ w hZ)
 ·rw [finT_69] at hZ ⊢
  have hZ2 := hZ
  rw [big_size] at hZ2
  cases sh
  ·exact fin_69_false p mi sp z wid prec h.pt rfl (fun w => expC h.ex h.fv hP w) (fun w => upC hZ2 (asc_exp _ _ _) w) hS (fun w => hF _ w hZ)
  ·exact fin_69_true p mi sp z wid prec h.pt rfl (fun w => expC h.ex h.fv hP w) (fun w => upC hZ2 (asc_exp _ _ _) w) hS (fun w => hF _ w hZ)
 ·rw [finT_102] at hZ ⊢
  cases sh
  ·exact fin_102_false p mi sp z wid prec h.pt rfl (fun w => fixC h.ex h.fv hP w) hS (fun w => hF _ w hZ)
  ·exact fin_102_true p mi sp z wid prec h.pt rfl (fun w => fixC h.ex h.fv hP w) hS (fun w => hF _ w hZ)
 ·rw [finT_70] at hZ ⊢
  cases sh
  ·exact fin_70_false p mi sp z wid prec h.pt rfl (fun w => fixC h.ex h.fv hP w) hS (fun w => hF _ w hZ)
  ·exact fin_70_true p mi sp z wid prec h.pt rfl (fun w => fixC h.ex h.fv hP w) hS (fun w => hF _ w hZ)
 ·rw [finT_103] at hZ ⊢
  cases sh
  ·exact fin_103_false p mi sp z wid prec h.pt rfl (fun w => genC h.ex h.fv h.sh h.dl h.dp hP w) hS (fun w => hF _ w hZ)
  ·exact fin_103_true p mi sp z wid prec h.pt rfl (fun w => genC h.ex h.fv h.sh h.dl h.dp hP w) hS (fun w => hF _ w hZ)
 ·rw [finT_71] at hZ ⊢
  have hZ2 := hZ
  rw [big_size] at hZ2
  cases sh
  ·exact fin_71_false p mi sp z wid prec h.pt rfl (fun w => genC h.ex h.fv h.sh h.dl h.dp hP w) (fun w => upC hZ2 (asc_gen _ _ _ _) w) hS (fun w => hF _ w hZ)
  ·exact fin_71_true p mi sp z wid prec h.pt rfl (fun w => genC h.ex h.fv h.sh h.dl h.dp hP w) (fun w => upC hZ2 (asc_gen _ _ _ _) w) hS (fun w => hF _ w hZ)
 ·rw [finT_118] at hZ ⊢
  cases sh
  ·exact fin_118_false p mi sp z wid prec h.pt rfl (fun w => genC h.ex h.fv h.sh h.dl h.dp hP w) hS (fun w => hF _ w hZ)
  ·exact fin_118_true p mi sp z wid prec h.pt rfl (fun w => genC h.ex h.fv h.sh h.dl h.dp hP w) hS (fun w => hF _ w hZ)
 ·rw [finT_98] at hZ ⊢
  cases sh
  ·exact fin_98_false p mi sp z wid prec h.pt rfl (fun w => parC (by rw [← e53]; exact h.m53) h.e0 h.e1 w) hS (fun w => hF _ w hZ)
  ·exact fin_98_true p mi sp z wid prec h.pt rfl (fun w => parC (by rw [← e53]; exact h.m53) h.e0 h.e1 w) hS (fun w => hF _ w hZ)
 ·rw [finT_120] at hZ ⊢
  cases sh
  ·exact fin_120_false p mi sp z wid prec h.pt rfl (fun w => hexC h.m53 h.e0 h.e1 hP w) hS (fun w => hF _ w hZ)
  ·exact fin_120_true p mi sp z wid prec h.pt rfl (fun w => hexC h.m53 h.e0 h.e1 hP w) hS (fun w => hF _ w hZ)
 ·rw [finT_88] at hZ ⊢
  have hZ2 := hZ
  rw [big_size] at hZ2
  cases sh
  ·exact fin_88_false p mi sp z wid prec h.pt rfl (fun w => hexC h.m53 h.e0 h.e1 hP w) (fun w => upC hZ2 (asc_hex _ _ _ _) w) hS (fun w => hF _ w hZ)
  ·exact fin_88_true p mi sp z wid prec h.pt rfl (fun w => hexC h.m53 h.e0 h.e1 hP w) (fun w => upC hZ2 (asc_hex _ _ _ _) w) hS (fun w => hF _ w hZ)
theorem ptc_any {bits : Nat} {size : Int} {f ww : Nat} {least : Int} {I : Nat} (h : Ly size f ww least I) (hb : bits < 18446744073709551616) : PtC bits size (sgn f ww bits) (ptM f ww I bits) (ptE f ww I least bits) (ptK f ww I bits) := fun w => sparts_any h hb w
theorem fin_of {bits : Nat} {size : Int} {f ww : Nat} {least : Int} {I : Nat} (h : Ly size f ww least I) (hb : bits < 18446744073709551616) (hp : bare f ww bits < I) : ∃ d, SH (fun x => RD f I (un least) x (bare f ww bits)) (val f least (bare f ww bits)) d ∧ Good d ∧ FinB bits size (sgn f ww bits) (pm f (bare f ww bits)) (least + pk f (bare f ww bits)) (val f least (bare f ww bits)) d := by
 obtain ⟨d, hdB⟩ := sh_ex (fun x => RD f I (un least) x (bare f ww bits)) (val f least (bare f ww bits))
 have fv := (val_ex h hp).2
 have gd := hdB.good fv
 have hpt := ptc_any h hb
 have e1 : ptM f ww I bits = pm f (bare f ww bits) := by unfold ptM; rw [if_pos hp]
 have e2 : ptE f ww I least bits = least + pk f (bare f ww bits) := by unfold ptE; rw [if_pos hp]
 have e3 : ptK f ww I bits = 0 := by unfold ptK; rw [if_pos hp]
 rw [e1, e2, e3] at hpt
 obtain ⟨q0, q1, hI, hI2, -, -, -, -, q2⟩ := h.pk
 have q3 := q2 _ hp
 have q4 := h.pm (bare f ww bits)
 have hsh : ShC bits size (oS d) (oP d) 0 := fun w => by
  by_cases h0 : bare f ww bits = 0
  ·have hv0 : val f least (bare f ww bits) = 0 := by rw [h0]; simp [val, pq, pm]
   have hd0 : d = 0 := by
    rw [hv0] at hdB
    exact hdB.all fun j h1 h2 => by rw [o_zero.1] at h2; simp at h2
   have := short_none h hb (.inr h0) w
   rw [if_pos h0] at this
   rw [hd0, zero_S, o_zero.2]
   exact this
  ·exact short_ok h hb hp h0 hdB w
 have dp : oP d ≤ 2000 := by
  rcases hdB with ⟨n, n1, n2, -, n4, n5⟩ | ⟨-, n2⟩
  ·obtain ⟨-, hd2⟩ := pick_R n4 n5
   have hb1 := Bn_le (val f least (bare f ww bits)) n
   have hq := Qn_lt (v := val f least (bare f ww bits)) (n := n) (by omega)
   have hqe := Qn_eq (v := val f least (bare f ww bits)) (n := n) (by omega)
   have hp1 := fv.p1
   have hA : An (val f least (bare f ww bits)) n < 10 ^ (Qn (val f least (bare f ww bits)) n + n + 1) := by
    have h1 : An (val f least (bare f ww bits)) n = Bn (val f least (bare f ww bits)) n + 10 ^ Qn (val f least (bare f ww bits)) n := rfl
    have h2 : 10 ^ Qn (val f least (bare f ww bits)) n ≤ 10 ^ (Qn (val f least (bare f ww bits)) n + n) := Nat.pow_le_pow_right (by decide) (by omega)
    rw [Nat.pow_succ]; omega
   have hdl : d < 10 ^ (Qn (val f least (bare f ww bits)) n + n + 1) := by
    rcases hd2 with rfl | rfl
    ·omega
    ·exact hA
   rcases oP_le hdl with h3 | h3
   ·omega
   ·rw [h3, o_zero.2]; decide
  ·rw [n2]; have := fv.p1; omega
 exact ⟨d, hdB, gd, hpt, exactD h hp, fv, hsh, gd.len, dp, by rw [show (2 : Nat) ^ 53 = 9007199254740992 by decide]; exact q4, by omega, by omega⟩
theorem float_odd {bits : Nat} {size : Int} {f ww : Nat} {least : Int} {I : Nat} (h : Ly size f ww least I) (hb : bits < 18446744073709551616) (p mi sh sp z : Bool) (wid prec verb : Int) (hv : fVerb verb = true) : (bare f ww bits = I → FlCq bits size p mi sh sp z wid prec verb (padS (sgI (sgn f ww bits) p sp ++ ⟨#[73, 110, 102]⟩) mi false wid) true) ∧ (I < bare f ww bits → FlCq bits size p mi sh sp z wid prec verb (padS (sgF false p sp ++ ⟨#[78, 97, 78]⟩) mi false wid) true) := by
 have hpt := ptc_any h hb
 refine ⟨fun h1 => ?_, fun h1 => ?_⟩
 ·have e3 : ptK f ww I bits = 1 := by unfold ptK; rw [if_neg (by omega), if_pos h1]
  rw [e3] at hpt
  exact float_inf p mi sh sp z wid prec verb (writer_yes hv) hpt
 ·have e3 : ptK f ww I bits = 2 := by unfold ptK; rw [if_neg (by omega), if_neg (by omega)]
  rw [e3] at hpt
  exact float_nan p mi sh sp z wid prec verb (writer_yes hv) hpt
end Go.Proofs.YtiagjheifblkiaaGreatDoor
namespace Go.Proofs.YtiagjheifblkiaaGreatDoor
open Go.RowKit
set_option linter.unusedVariables false
set_option linter.unusedSimpArgs false
theorem pi_val : ∃ v : Nat, val 52 (-1074) 4614256656552045848 = v ∧ oS (plc v 2) = ⟨#[51, 49, 52]⟩ ∧ oP (plc v 2) = 1 := by
 have h := (val_ex lyB (p := 4614256656552045848) (by decide)).1
 have hm : pm 52 4614256656552045848 = 7074237752028440 := by decide
 have hk : ((-1074 : Int) + pk 52 4614256656552045848) = -51 := by decide
 rw [hm, hk, exU_dn _ (by decide)] at h
 obtain ⟨K, hK⟩ : ∃ K : Nat, K = 9952 := ⟨_, rfl⟩
 have e1 : ((-51 : Int) + 10000).toNat + 3 = K := by rw [hK]; rfl
 have e2 : (7074237752028440 : Nat) * 5 ^ (-(-51 : Int)).toNat = 3141592653589793115997963468544185161590576171875 * 10 ^ 3 := by decide
 rw [e2, Nat.mul_assoc, ← Nat.pow_add, Nat.add_comm, e1] at h
 obtain ⟨D, hD⟩ : ∃ D : Nat, D = 3141592653589793115997963468544185161590576171875 := ⟨_, rfl⟩
 have hdB : IsDec [51, 49, 52, 49, 53, 57, 50, 54, 53, 51, 53, 56, 57, 55, 57, 51, 49, 49, 53, 57, 57, 55, 57, 54, 51, 52, 54, 56, 53, 52, 52, 49, 56, 53, 49, 54, 49, 53, 57, 48, 53, 55, 54, 49, 55, 49, 56, 55, 53] 1 (D * 10 ^ K) := ⟨by decide, by decide, by decide, (fun h => by cases h), by decide, by
  have : ((1 : Int) - ([51, 49, 52, 49, 53, 57, 50, 54, 53, 51, 53, 56, 57, 55, 57, 51, 49, 49, 53, 57, 57, 55, 57, 54, 51, 52, 54, 56, 53, 52, 52, 49, 56, 53, 49, 54, 49, 53, 57, 48, 53, 55, 54, 49, 55, 49, 56, 55, 53] : List UInt8).length + 10000).toNat = K := by rw [hK]; rfl
  rw [this, hD]; rfl⟩
 obtain ⟨o1, o2⟩ := o_of hdB
 rw [← hD] at h
 refine ⟨D * 10 ^ K, h.symm, ?_⟩
 have hr : plc (D * 10 ^ K) 2 = 314 * 10 ^ (K + 46) := by
  unfold plc
  rw [← o2, show (1 : Int) + min (max 2 (-14000)) 14000 = 3 from rfl]
  unfold rnd
  rw [if_neg (by decide), if_neg (by rw [← o1]; decide), ← o2]
  have e3 : ((1 : Int) - 3 + 10000).toNat = K + 46 := by rw [hK]; rfl
  rw [e3]
  have hp := pow_pos10 K
  have q1 : D * 10 ^ K / 10 ^ (K + 46) = 314 := by
   rw [Nat.pow_add, ← Nat.div_div_eq_div_mul, Nat.mul_div_cancel _ hp, hD]
  have q2 : D * 10 ^ K % 10 ^ (K + 46) = D % 10 ^ 46 * 10 ^ K := by
   rw [Nat.pow_add, Nat.mul_comm D, Nat.mul_mod_mul_left, Nat.mul_comm]
  have q3 : 2 * (D % 10 ^ 46) < 10 ^ 46 := by rw [hD]; decide
  have q4 : 2 * (D % 10 ^ 46 * 10 ^ K) < 10 ^ (K + 46) := by
   rw [Nat.pow_add, ← Nat.mul_assoc, Nat.mul_comm (10 ^ K)]
   exact Nat.mul_lt_mul_of_pos_right q3 hp
  unfold near
  rw [q1, q2, if_pos (.inl q4)]
 have hd3 : IsDec [51, 49, 52] 1 (314 * 10 ^ (K + 46)) := ⟨by decide, by decide, by decide, (fun h => by cases h), by decide, by
  have : ((1 : Int) - ([51, 49, 52] : List UInt8).length + 10000).toNat = K + 46 := by rw [hK]; rfl
  rw [this]; rfl⟩
 obtain ⟨r1, r2⟩ := o_of hd3
 rw [hr]
 exact ⟨by unfold oS; rw [← r1], r2.symm⟩
theorem pi_fix : FlCq 4614256656552045848 64 false false false false false 8 2 102 ⟨#[32, 32, 32, 32, 51, 46, 49, 52]⟩ true := by
 obtain ⟨d, hdB, gd, hF⟩ := fin_of (bits := 4614256656552045848) lyB (by decide) (by decide)
 have hb : bare 52 11 4614256656552045848 = 4614256656552045848 := by decide
 have hs : sgn 52 11 4614256656552045848 = false := by decide
 rw [hb, hs] at hF
 obtain ⟨v, hv, h1, h2⟩ := pi_val
 rw [hv] at hF
 have := float_fin hF false false false false false 8 2 102 (by decide)
 rw [finT_102] at this
 have e : fixT false (min 2 1000) v = ⟨#[51, 46, 49, 52]⟩ := by
  unfold fixT
  rw [show plcF (min 2 1000) = 2 from rfl, h1, h2]
  decide
 rw [e] at this
 have e2 : filT (sgF false false false) ⟨#[51, 46, 49, 52]⟩ false false 8 = ⟨#[32, 32, 32, 32, 51, 46, 49, 52]⟩ := by decide +kernel
 rw [e2] at this
 exact this
end Go.Proofs.YtiagjheifblkiaaGreatDoor
