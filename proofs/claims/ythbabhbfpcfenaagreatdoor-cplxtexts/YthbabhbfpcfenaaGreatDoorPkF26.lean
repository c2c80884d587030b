/- SLaw, FTop, FLive, FLaw, MVerb: these texts in one. -/
import Derived.Test.YthbabhbfpcfenaaGreatDoorPkF20
import Derived.Test.YthbabhbfpcfenaaGreatDoorPkF22
import Derived.Test.YthbabhbfpcfenaaGreatDoorPkF23
import Derived.Test.YthbabhbfpcfenaaGreatDoorPkF24
import Derived.Test.YthbabhbfpcfenaaGreatDoorPkF25
import Derived.Test.YthbabhbfpcfenaaGreatDoorPkF8
import Derived.Test.YthbabhbfpcfenaaGreatDoorPkF1
/- What the laws' patterns are: contracts at a finite pattern of any bits. -/
namespace Go.Proofs.YthbabhbfpcfenaaGreatDoor
open Go.RowKit
set_option linter.unusedVariables false
set_option linter.unusedSimpArgs false

abbrev ExC (m : Nat) (e : Int) (S : ByteArray) (P : Int) : Prop := ∀ w, Calls Tryz.prog 114 #[.int .u64 m, .int .i64 e] w fun x w' => x = .returned (.tuple #[.agg #[.string S, .int .i64 P], .int .i64 0]) ∧ Below w.heap.size w w'
theorem exC {m : Nat} {e : Int} (hm : m < 18446744073709551616) (h0 : -1200 ≤ e) (h1 : e ≤ 1200) : ExC m e (oS (exU m e)) (oP (exU m e)) := fun w => by
  have := exact_any m e w hm
  have e1 : xE e = 0 := if_neg (by omega)
  have e2 : xV m e = exU m e := if_pos e1
  rw [e1, e2] at this; exact this
theorem exactD {size : Int} {f ww : Nat} {least : Int} {I p : Nat} (h : Ly size f ww least I) (hp : p < I) : ExC (pm f p) (least + pk f p) (oS (val f least p)) (oP (val f least p)) := by
  obtain ⟨h0, h1, -, -, -, -, -, -, h2⟩ := h.pk
  have h3 := h2 p hp
  have h4 := h.pm p
  have := exC (m := pm f p) (e := least + pk f p) (by omega) (by omega) (by omega)
  rw [(val_ex h hp).1] at this
  exact this
end Go.Proofs.YthbabhbfpcfenaaGreatDoor

/- Package floats' Float: the contract of every call. -/
namespace Go.Proofs.YthbabhbfpcfenaaGreatDoor
open Go.RowKit
set_option linter.unusedVariables false
set_option linter.unusedSimpArgs false

/-- Bytes below 128. -/
def Asc (s : ByteArray) : Prop := ∀ x ∈ s.data.toList, x.toNat < 128
theorem Asc.app {a b : ByteArray} (h : Asc a) (k : Asc b) : Asc (a ++ b) := fun x hx => by
  rw [app_list] at hx
  rcases List.mem_append.1 hx with hx | hx
  · exact h x hx
  · exact k x hx
theorem Asc.run {c : Nat} (hc : c < 128) (n : Nat) : Asc (run c n) := fun x hx => by
  rw [run_list] at hx
  have := List.eq_of_mem_replicate hx
  subst this
  simp; omega
theorem Asc.ext {s : ByteArray} (h : Asc s) (a b : Nat) : Asc (s.extract a b) := fun x hx => by
  rw [ext_li] at hx
  exact h x (List.mem_of_mem_take (List.mem_of_mem_drop hx))
theorem Asc.lit {l : List UInt8} (h : l.all (fun x => decide (x.toNat < 128)) = true) : Asc ⟨l.toArray⟩ := fun x hx => by
  have := List.all_eq_true.1 h x (by simpa using hx)
  simpa using this
theorem asc_dig (b n : Nat) (hb : 0 < b) (h16 : b ≤ 16) : Asc (digT false b n) := fun x hx => digS_ascii false b n hb h16 x hx
theorem asc_oS (v : Nat) : Asc (oS v) := fun x hx => by
  have := (isD_iff x).1 (allD_mem (o_dig v) hx)
  omega
theorem Asc.lnA {s : ByteArray} (h : Asc s) (n : Int) : Asc (lnA s n) := (Asc.run (by decide) _).app h
theorem Asc.lnB {s : ByteArray} (h : Asc s) (n : Int) : Asc (lnB s n) := h.app (Asc.run (by decide) _)
theorem asc46 : Asc ⟨#[46]⟩ := Asc.lit (l := [46]) (by decide)
theorem asc48 : Asc ⟨#[48]⟩ := Asc.lit (l := [48]) (by decide)
theorem asc_sx (n : Int) : Asc (sx1 n) := by
  unfold sx1
  split
  · exact Asc.lit (l := [45]) (by decide)
  · exact Asc.lit (l := [43]) (by decide)
theorem Asc.ptd {a b : ByteArray} (h : Asc a) (k : Asc b) (sh : Bool) : Asc (ptd sh a b) := by
  unfold Go.Proofs.YthbabhbfpcfenaaGreatDoor.ptd
  split
  · exact h
  · exact (h.app asc46).app k
theorem asc_sgd (n l : Int) : Asc (sgd n l) := (asc_sx n).app ((asc_dig 10 _ (by decide) (by decide)).lnA _)
theorem Asc.sci {d : ByteArray} (h : Asc d) (sh : Bool) (x : Int) : Asc (sci sh d x) := (((h.ext _ _).ptd (h.ext _ _) sh).app (Asc.lit (l := [101]) (by decide))).app (asc_sgd _ _)
theorem Asc.arA {d : ByteArray} (h : Asc d) (p : Int) : Asc (arA d p) := by
  unfold Go.Proofs.YthbabhbfpcfenaaGreatDoor.arA
  split
  · exact asc48
  · exact (h.lnB _).ext _ _
theorem Asc.arB {d : ByteArray} (h : Asc d) (p : Int) : Asc (arB d p) := by
  unfold Go.Proofs.YthbabhbfpcfenaaGreatDoor.arB
  split
  · exact h.lnA _
  · exact (h.lnB _).ext _ _
theorem asc_exp (sh : Bool) (P : Int) (v : Nat) : Asc (expT sh P v) := ((asc_oS _).lnB _).sci _ _
theorem asc_fix (sh : Bool) (P : Int) (v : Nat) : Asc (fixT sh P v) := ((asc_oS _).arA _).ptd (((asc_oS _).arB _).lnB _) _
theorem asc_genD (sh : Bool) (d : Nat) (c : Int) : Asc (genD sh d c) := by
  unfold genD
  split
  · exact ((asc_oS _).lnB _).lnB _
  · exact (asc_oS _).lnB _
theorem asc_genG (sh : Bool) (d : Nat) (t c : Int) : Asc (genG sh d t c) := by
  unfold genG
  split
  · exact (asc_genD _ _ _).sci _ _
  · exact ((asc_genD _ _ _).arA _).ptd ((asc_genD _ _ _).arB _) _
theorem asc_gen (sh : Bool) (P : Int) (v d : Nat) : Asc (genT sh P v d) := by
  unfold genT
  split <;> exact asc_genG _ _ _ _
theorem asc_par (m : Nat) (e : Int) : Asc (parT m e) := ((asc_dig 10 _ (by decide) (by decide)).app (Asc.lit (l := [112]) (by decide))).app (asc_sgd _ _)
theorem asc_hxP {d : ByteArray} (h : Asc d) (P : Int) : Asc (hxP d P) := by
  unfold hxP
  split
  · intro x hx
    obtain ⟨k, h1, -⟩ := rtr_split d.data.toList
    refine h x ?_
    rw [h1]
    exact List.mem_append_left _ (by simpa using hx)
  · exact (h.ext _ _).lnB _
theorem asc_hex (sh : Bool) (P : Int) (m : Nat) (e : Int) : Asc (hexT sh P m e) := by
  have hD : Asc (hxD m P) := (asc_dig 16 _ (by decide) (by decide)).lnA _
  exact (((Asc.lit (l := [48, 120]) (by decide)).app ((hD.ext _ _).ptd (asc_hxP (hD.ext _ _) _) _)).app (Asc.lit (l := [112]) (by decide))).app (asc_sgd _ _)
theorem asc_num (sh : Bool) (P : Int) (m : Nat) (e : Int) (v d : Nat) (verb : Int) : Asc (numT sh P m e v d verb) := by
  unfold numT
  repeat' split
  · exact asc_exp _ _ _
  · exact asc_fix _ _ _
  · exact asc_par _ _
  · exact asc_hex _ _ _ _
  · exact asc_gen _ _ _ _
/-- Where a rounding's point lies. -/
theorem rnd_pt (v : Nat) (n : Int) : oP (rnd v n) ≤ max (oP v + 1) 0 := by
  unfold rnd
  split
  · rw [o_zero.2]; omega
  · split
    · omega
    · rename_i h1 h2
      obtain ⟨k, rfl⟩ := Int.eq_ofNat_of_zero_le (show 0 ≤ n by omega)
      have hl := o_low v
      obtain ⟨Q, hQ⟩ := Int.eq_ofNat_of_zero_le (show 0 ≤ oP v - (k : Int) + 10000 by omega)
      rw [hQ, Int.toNat_natCast]
      have hv : v < 10 ^ (Q + k) := (o_dec v).lt (by omega)
      obtain ⟨u, hu, hu2, -, -⟩ := near_top hv
      have h3 : near v Q < 10 ^ (Q + k + 1) := by
        rw [hu, Nat.pow_succ, Nat.pow_add]
        have h4 := Nat.mul_le_mul_right (10 ^ Q) hu2
        have h5 := Nat.mul_pos (pow_pos10 Q) (pow_pos10 k)
        rw [Nat.mul_comm (10 ^ k)] at h4
        omega
      rcases oP_le h3 with h | h
      · omega
      · rw [h, o_zero.2]; omega
theorem oP_lo (v : Nat) : -10000 ≤ oP v := by have := o_low v; omega
theorem pw0_in {v : Nat} (h : oP v ≤ 2000) : -20000 ≤ pw0 v ∧ pw0 v ≤ 2000 := by
  have := oP_lo v
  unfold pw0
  split <;> omega
theorem expC {bits m v : Nat} {size e P : Int} {sh : Bool} (hX : ExC m e (oS v) (oP v)) (fv : Fine v) (hP : P ≤ 1000) (w : World) : Calls Tryz.prog 38 #[.agg #[.int .u64 (bits : Nat), .int .i64 size, .int .u64 (m : Nat), .int .i64 e, .int .i64 P, .bool sh]] w fun x w' => x = .returned (.string (expT sh P v)) ∧ Below w.heap.size w w' := by
  have hk : plcF P + 1 = cntE P := rfl
  have h0 : 0 ≤ plcF P ∧ plcF P ≤ 1000 := by unfold plcF; split <;> omega
  have hl := rnd_len (v := v) (c := cntE P) (by omega)
  have hp := rnd_pt v (cntE P)
  have hp0 := oP_lo (rnd v (cntE P))
  have hp1 := fv.p1
  have hx := pw0_in (v := rnd v (cntE P)) (by omega)
  have hz := lnB_size (oS (rnd v (cntE P))) (cntE P)
  have hs := oS_size (rnd v (cntE P))
  exact expo_walk (k := plcF P) fplaces_any (value_walk hX) (by rw [hk]; exact roundC _ fv.good) (by rw [hk]; exact fun w => flenB_any _ _ w (by omega) (by omega) (by omega)) (fpower_any _ (by omega) (by omega)) (fsci_any _ _ (by omega) (by omega) (by omega) (by omega)) (by omega) h0.1 w
theorem fixC {bits m v : Nat} {size e P : Int} {sh : Bool} (hX : ExC m e (oS v) (oP v)) (fv : Fine v) (hP : P ≤ 1000) (w : World) : Calls Tryz.prog 39 #[.agg #[.int .u64 (bits : Nat), .int .i64 size, .int .u64 (m : Nat), .int .i64 e, .int .i64 P, .bool sh]] w fun x w' => x = .returned (.string (fixT sh P v)) ∧ Below w.heap.size w w' := by
  have h0 : 0 ≤ plcF P ∧ plcF P ≤ 1000 := by unfold plcF; split <;> omega
  have hl := plc_low (v := v) h0.1 h0.2
  have hp : oP (plc v (plcF P)) ≤ max (oP v + 1) 0 := rnd_pt v _
  have hp0 := oP_lo (plc v (plcF P))
  have hp1 := fv.p1
  have hs := oS_size (plc v (plcF P))
  have hb := arB_size_is (oS (plc v (plcF P))) (oP (plc v (plcF P)))
  have ha := arA_size (oS (plc v (plcF P))) (oP (plc v (plcF P))) (by omega)
  have hz := lnB_size (arB (oS (plc v (plcF P))) (oP (plc v (plcF P)))) (plcF P)
  exact fixed_walk (k := plcF P) fplaces_any (value_walk hX) (placesC _ fv.good) (fun w => faround_any _ _ w (by omega) (by omega) (by omega)) (fun w => flenB_any _ _ w (by omega) (by omega) (by omega)) (fun w => fpointed_any _ _ w (by omega) (by omega)) w
theorem genW {bits m d : Nat} {size e P : Int} {sh : Bool} {most cnt : Int} (hB : BrC bits m size e P sh (oS d) (oP d) most cnt) (hd : (oL d).length ≤ 2000) (hp1 : oP d ≤ 2000) (hc0 : 0 ≤ cnt) (hc : cnt ≤ 1000) (w : World) : Calls Tryz.prog 40 #[.agg #[.int .u64 (bits : Nat), .int .i64 size, .int .u64 (m : Nat), .int .i64 e, .int .i64 P, .bool sh]] w fun x w' => x = .returned (.string (genG sh d most cnt)) ∧ Below w.heap.size w w' := by
  have hp0 := oP_lo d
  have hs := oS_size d
  have hx := pw0_in hp1
  have z1 := lnB_size (oS d) 1
  have z2 := lnB_size (lnB (oS d) 1) cnt
  have hL : LbC (oS d) 1 (lnB (oS d) 1) := fun w => flenB_any _ _ w (by omega) (by omega) (by omega)
  have hW := fpower_any d (by omega) (by omega)
  have hgz : 1 ≤ (genD sh d cnt).size ∧ (genD sh d cnt).size ≤ 4000 := by
    unfold genD
    split <;> omega
  have hD : if sh = true then LbC (lnB (oS d) 1) cnt (genD sh d cnt) else genD sh d cnt = lnB (oS d) 1 := by
    unfold genD
    split
    · exact fun w => flenB_any _ _ w (by omega) (by omega) (by omega)
    · rfl
  unfold genG
  by_cases h : pw0 d < -4 ∨ most ≤ pw0 d
  · rw [if_pos h]
    exact gen_sci hB hL hW hD h (fsci_any _ _ (by omega) (by omega) (by omega) (by omega)) w
  · rw [if_neg h]
    have ha := arA_size (genD sh d cnt) (pw0 d + 1) (by omega)
    have hb := arB_size_is (genD sh d cnt) (pw0 d + 1)
    exact gen_pt hB hL hW hD (by omega) (by omega) (fun w => faround_any _ _ w (by omega) (by omega) (by omega)) (fun w => fpointed_any _ _ w (by omega) (by omega)) (by omega) w
theorem genC {bits m v d : Nat} {size e P : Int} {sh : Bool} (hX : ExC m e (oS v) (oP v)) (fv : Fine v) (hS : ShC bits size (oS d) (oP d) 0) (gd : (oL d).length ≤ 2000) (gp : oP d ≤ 2000) (hP : P ≤ 1000) (w : World) : Calls Tryz.prog 40 #[.agg #[.int .u64 (bits : Nat), .int .i64 size, .int .u64 (m : Nat), .int .i64 e, .int .i64 P, .bool sh]] w fun x w' => x = .returned (.string (genT sh P v d)) ∧ Below w.heap.size w w' := by
  unfold genT
  by_cases h : P < 0
  · rw [if_pos h]
    exact genW (brief_short h hS) gd gp (by decide) (by decide) w
  · rw [if_neg h]
    have hl := rnd_len (v := v) (c := max P 1) (by omega)
    have hp := rnd_pt v (max P 1)
    have hp1 := fv.p1
    exact genW (brief_round h (value_walk hX) (roundC _ fv.good)) (by omega) (by omega) (by omega) (by omega) w
theorem parC {bits m : Nat} {size e P : Int} {sh : Bool} (hm : m < 9007199254740992) (he0 : -2000 ≤ e) (he1 : e ≤ 2000) (w : World) : Calls Tryz.prog 41 #[.agg #[.int .u64 (bits : Nat), .int .i64 size, .int .u64 (m : Nat), .int .i64 e, .int .i64 P, .bool sh]] w fun x w' => x = .returned (.string (parT m e)) ∧ Below w.heap.size w w' := by
  have h1 := digT_size false 10 m
  have h2 := sgd_size e 1 (by decide)
  have hD : DgC (m : Nat) 10 (digT false 10 m) := fun w => idigits_any m 10 w (by omega) (.inr (.inr (.inl rfl)))
  exact parts_walk hD (fun w => fsigned_any e 1 w (by omega) (by omega) (by decide) (by decide)) (by omega) w
theorem nmE_in {m : Nat} {e P : Int} (he0 : -2000 ≤ e) (he1 : e ≤ 2000) : -3000 ≤ nmE m e P ∧ nmE m e P ≤ 3000 := by
  have : nmS m ≤ 53 := by unfold nmS; omega
  unfold nmE
  repeat' split
  all_goals omega
theorem hexC {bits m : Nat} {size e P : Int} {sh : Bool} (hm : m < 2 ^ 53) (he0 : -2000 ≤ e) (he1 : e ≤ 2000) (hP : P ≤ 1000) (w : World) : Calls Tryz.prog 42 #[.agg #[.int .u64 (bits : Nat), .int .i64 size, .int .u64 (m : Nat), .int .i64 e, .int .i64 P, .bool sh]] w fun x w' => x = .returned (.string (hexT sh P m e)) ∧ Below w.heap.size w w' := by
  have hs := hxD_size m P hm
  have hM : nmM m P < 18446744073709551616 := by
    by_cases h0 : m = 0
    · subst h0
      have e1 : nmM 0 P = 0 := by simp [nmM]
      omega
    · obtain ⟨-, q, h1, h2⟩ := nm_in h0 hm
      have e13 : (16 : Nat) ^ 13 = 4503599627370496 := by decide
      have hr : rb (m * 2 ^ nmS m) P ≤ 2 * 16 ^ 13 := by
        rw [h1]
        by_cases hc : P < 0 ∨ 13 ≤ P
        · rw [rb_all hc]; omega
        · obtain ⟨n, rfl⟩ := Int.eq_ofNat_of_zero_le (show 0 ≤ P by omega)
          have hn : n < 13 := by omega
          rw [rb_some hn]
          have h3 := Nat.mul_le_mul_right (16 ^ (13 - n)) (kpt_le hn h2)
          rw [← u13 hn] at h3
          omega
      unfold nmM
      rw [if_neg h0]
      split <;> omega
  have h1 := digT_size false 16 (nmM m P)
  have hx := nmE_in (m := m) (P := P) he0 he1
  have hb : ((hxD m P).extract 1 (hxD m P).size).size = 13 := by rw [ByteArray.size_extract, hs]; decide
  have ha : ((hxD m P).extract 0 1).size ≤ 1 := by rw [ByteArray.size_extract]; omega
  have hhp : (hxP ((hxD m P).extract 1 (hxD m P).size) P).size ≤ 2000 := by
    unfold hxP
    split
    · rw [mk_size]
      have := rtr_len ((hxD m P).extract 1 (hxD m P).size).data.toList
      rw [list_len] at this; omega
    · rw [lnB_size, ByteArray.size_extract]; omega
  have ht := ptd_size sh ((hxD m P).extract 0 1) (hxP ((hxD m P).extract 1 (hxD m P).size) P)
  have hg := sgd_size (nmE m e P) 2 (by decide)
  have hD : DgC (nmM m P : Nat) 16 (digT false 16 (nmM m P)) := fun w => idigits_any (nmM m P) 16 w hM (.inr (.inr (.inr rfl)))
  have hL : LaC (digT false 16 (nmM m P)) 14 (hxD m P) := fun w => flen_any (digT false 16 (nmM m P)) 14 w (by omega) (by omega) (by omega)
  exact hex_walk (fnormal_any hm (by omega) (by omega)) hD hL (by omega) rfl rfl (hexPart_any hb (by omega)) (fun w => fpointed_any _ _ w (by omega) (by omega)) (fun w => fsigned_any _ 2 w (by omega) (by omega) (by decide) (by decide)) (by omega) w
/-- A finite number's text has at least a byte, and no great many. -/
theorem num_size {sh : Bool} {P : Int} {m v d : Nat} {e verb : Int} (fv : Fine v) (gd : (oL d).length ≤ 2000) (gp : oP d ≤ 2000) (hm : m < 2 ^ 53) (hP : P ≤ 1000) : 1 ≤ (numT sh P m e v d verb).size ∧ (numT sh P m e v d verb).size ≤ 150000 := by
  have hG : ∀ (d : Nat) (most cnt : Int), (oL d).length ≤ 2000 → oP d ≤ 2000 → cnt ≤ 1000 → 1 ≤ (genG sh d most cnt).size ∧ (genG sh d most cnt).size ≤ 150000 := by
    intro d most cnt h1 h2 h3
    have hx := pw0_in h2
    have hs := oS_size d
    have z1 := lnB_size (oS d) 1
    have z2 := lnB_size (lnB (oS d) 1) cnt
    have hgz : 1 ≤ (genD sh d cnt).size ∧ (genD sh d cnt).size ≤ 4000 := by
      unfold genD
      split <;> omega
    unfold genG
    split
    · have := sci_size sh (genD sh d cnt) (pw0 d) (by omega)
      omega
    · have h4 := arA_size (genD sh d cnt) (pw0 d + 1) (by omega)
      have h5 := arB_size_is (genD sh d cnt) (pw0 d + 1)
      have h6 := ptd_size sh (arA (genD sh d cnt) (pw0 d + 1)) (arB (genD sh d cnt) (pw0 d + 1))
      omega
  have hp1 := fv.p1
  unfold numT
  split
  · have h0 : 1 ≤ cntE P ∧ cntE P ≤ 1001 := by unfold cntE; split <;> omega
    have hl := rnd_len (v := v) (c := cntE P) h0.1
    have hs := oS_size (rnd v (cntE P))
    have hz := lnB_size (oS (rnd v (cntE P))) (cntE P)
    have := sci_size sh (lnB (oS (rnd v (cntE P))) (cntE P)) (pw0 (rnd v (cntE P))) (by omega)
    unfold expT
    omega
  · split
    · have h0 : 0 ≤ plcF P ∧ plcF P ≤ 1000 := by unfold plcF; split <;> omega
      have hl := plc_low (v := v) h0.1 h0.2
      have hp : oP (plc v (plcF P)) ≤ max (oP v + 1) 0 := rnd_pt v _
      have hs := oS_size (plc v (plcF P))
      have hb := arB_size_is (oS (plc v (plcF P))) (oP (plc v (plcF P)))
      have ha := arA_size (oS (plc v (plcF P))) (oP (plc v (plcF P))) (by omega)
      have hz := lnB_size (arB (oS (plc v (plcF P))) (oP (plc v (plcF P)))) (plcF P)
      have := ptd_size sh (arA (oS (plc v (plcF P))) (oP (plc v (plcF P)))) (lnB (arB (oS (plc v (plcF P))) (oP (plc v (plcF P)))) (plcF P))
      unfold fixT
      omega
    · split
      · have h1 := digT_size false 10 m
        have h2 := sgd_size e 1 (by decide)
        have h3 : (⟨#[112]⟩ : ByteArray).size = 1 := rfl
        unfold parT
        rw [app_size, app_size]; omega
      · split
        · have hs := hxD_size m P hm
          have hb : ((hxD m P).extract 1 (hxD m P).size).size = 13 := by rw [ByteArray.size_extract, hs]; decide
          have ha : ((hxD m P).extract 0 1).size ≤ 1 := by rw [ByteArray.size_extract]; omega
          have hhp : (hxP ((hxD m P).extract 1 (hxD m P).size) P).size ≤ 2000 := by
            unfold hxP
            split
            · rw [mk_size]
              have := rtr_len ((hxD m P).extract 1 (hxD m P).size).data.toList
              rw [list_len] at this; omega
            · rw [lnB_size, ByteArray.size_extract]; omega
          have ht := ptd_size sh ((hxD m P).extract 0 1) (hxP ((hxD m P).extract 1 (hxD m P).size) P)
          have hg := sgd_size (nmE m e P) 2 (by decide)
          have h3 : (⟨#[112]⟩ : ByteArray).size = 1 := rfl
          have h4 : (⟨#[48, 120]⟩ : ByteArray).size = 2 := rfl
          unfold hexT
          rw [app_size, app_size, app_size]; omega
        · unfold genT
          split
          · exact hG d 21 6 gd gp (by decide)
          · have hl := rnd_len (v := v) (c := max P 1) (by omega)
            have hp := rnd_pt v (max P 1)
            exact hG _ _ _ (by omega) (by omega) (by omega)
theorem upper_size (l : List UInt8) : (Lib.toUpperA l).length = l.length := by simp [Lib.toUpperA]
theorem big_size (g : Bool) (s : ByteArray) : (bigT g s).size = s.size := by
  unfold bigT
  split
  · rw [mk_size, upper_size, list_len]
  · rfl
/-- What stands for a finite pattern. -/
structure FinB (bits : Nat) (size : Int) (sg : Bool) (m : Nat) (e : Int) (v d : Nat) : Prop where
  pt : PtC bits size sg m e 0
  ex : ExC m e (oS v) (oP v)
  fv : Fine v
  sh : ShC bits size (oS d) (oP d) 0
  dl : (oL d).length ≤ 2000
  dp : oP d ≤ 2000
  m53 : m < 2 ^ 53
  e0 : -2000 ≤ e
  e1 : e ≤ 2000
theorem upC {T : ByteArray} (hz : T.size ≤ 150000) (ha : Asc T) (w : World) : Calls Tryz.prog 28 #[.string T] w fun x w' => x = .returned (.string (bigT true T)) ∧ Below w.heap.size w w' := Tryz.strings_ToUpper_ascii _ w (by omega) (fun j b hj => ha b (List.mem_of_getElem? hj))
theorem fin_size {sh : Bool} {prec : Int} {m v d : Nat} {e verb : Int} (fv : Fine v) (gd : (oL d).length ≤ 2000) (gp : oP d ≤ 2000) (hm : m < 2 ^ 53) : 1 ≤ (finT sh prec m e v d verb).size ∧ (finT sh prec m e v d verb).size ≤ 150000 := by
  unfold finT
  rw [big_size]
  exact num_size fv gd gp hm (by omega)
theorem finT_101 (sh : Bool) (prec : Int) (m : Nat) (e : Int) (v d : Nat) : finT sh prec m e v d 101 = expT sh (min prec 1000) v := by
  cases sh <;> simp [finT, numT, bigT, grV]
theorem finT_69 (sh : Bool) (prec : Int) (m : Nat) (e : Int) (v d : Nat) : finT sh prec m e v d 69 = bigT true (expT sh (min prec 1000) v) := by
  cases sh <;> simp [finT, numT, bigT, grV]
theorem finT_102 (sh : Bool) (prec : Int) (m : Nat) (e : Int) (v d : Nat) : finT sh prec m e v d 102 = fixT sh (min prec 1000) v := by
  cases sh <;> simp [finT, numT, bigT, grV]
theorem finT_70 (sh : Bool) (prec : Int) (m : Nat) (e : Int) (v d : Nat) : finT sh prec m e v d 70 = fixT sh (min prec 1000) v := by
  cases sh <;> simp [finT, numT, bigT, grV]
theorem finT_103 (sh : Bool) (prec : Int) (m : Nat) (e : Int) (v d : Nat) : finT sh prec m e v d 103 = genT sh (min prec 1000) v d := by
  cases sh <;> simp [finT, numT, bigT, grV]
theorem finT_71 (sh : Bool) (prec : Int) (m : Nat) (e : Int) (v d : Nat) : finT sh prec m e v d 71 = bigT true (genT sh (min prec 1000) v d) := by
  cases sh <;> simp [finT, numT, bigT, grV]
theorem finT_118 (sh : Bool) (prec : Int) (m : Nat) (e : Int) (v d : Nat) : finT sh prec m e v d 118 = genT false (min prec 1000) v d := by
  cases sh <;> simp [finT, numT, bigT, grV]
theorem finT_98 (sh : Bool) (prec : Int) (m : Nat) (e : Int) (v d : Nat) : finT sh prec m e v d 98 = parT m e := by
  cases sh <;> simp [finT, numT, bigT, grV]
theorem finT_120 (sh : Bool) (prec : Int) (m : Nat) (e : Int) (v d : Nat) : finT sh prec m e v d 120 = hexT sh (min prec 1000) m e := by
  cases sh <;> simp [finT, numT, bigT, grV]
theorem finT_88 (sh : Bool) (prec : Int) (m : Nat) (e : Int) (v d : Nat) : finT sh prec m e v d 88 = bigT true (hexT sh (min prec 1000) m e) := by
  cases sh <;> simp [finT, numT, bigT, grV]
/-- Float of a finite number by each of its verbs. -/
theorem float_fin {bits m v d : Nat} {size e : Int} {sg : Bool} (h : FinB bits size sg m e v d) (p mi sh sp z : Bool) (wid prec verb : Int) (hv : fVerb verb = true) : FlC bits size p mi sh sp z wid prec verb (filT (sgF sg p sp) (finT sh prec m e v d verb) mi z wid) true := by
  have e53 : (2 : Nat) ^ 53 = 9007199254740992 := by decide
  have hZ := (fin_size (sh := sh) (prec := prec) (e := e) (verb := verb) h.fv h.dl h.dp h.m53).2
  have hg := sgF_size sg p sp
  have hF : ∀ (T : ByteArray) (w : World), T.size ≤ 150000 → Calls Tryz.prog 29 #[.string (sgF sg p sp), .string T, .agg #[.bool p, .bool mi, .bool sh, .bool sp, .bool z, .int .i64 wid, .int .i64 prec, .int .i32 verb]] w fun x w' => x = .returned (.string (filT (sgF sg p sp) T mi z wid)) ∧ Below w.heap.size w w' := fun T w hT => filled_any _ _ p mi sh sp z wid prec verb w hg (by omega)
  have hS : ∀ w, Calls Tryz.prog 25 #[.bool sg, .agg #[.bool p, .bool mi, .bool sh, .bool sp, .bool z, .int .i64 wid, .int .i64 prec, .int .i32 verb]] w fun x w' => x = .returned (.string (sgF sg p sp)) ∧ Below w.heap.size w w' := fun w => fsign_any sg p mi sh sp z wid prec verb w
  have hP : min prec 1000 ≤ 1000 := by omega
  have hv := of_decide_eq_true hv
  rcases hv with rfl | rfl | rfl | rfl | rfl | rfl | rfl | rfl | rfl | rfl
  · rw [finT_101] at hZ ⊢
    cases sh
    · exact fin_101_false p mi sp z wid prec h.pt rfl (fun w => expC h.ex h.fv hP w) hS (fun w => hF _ w hZ)
    · exact fin_101_true p mi sp z wid prec h.pt rfl (fun w => expC h.ex h.fv hP w) hS (fun w => hF _ w hZ)
  · rw [finT_69] at hZ ⊢
    have hZ2 := hZ
    rw [big_size] at hZ2
    cases sh
    · exact fin_69_false p mi sp z wid prec h.pt rfl (fun w => expC h.ex h.fv hP w) (fun w => upC hZ2 (asc_exp _ _ _) w) hS (fun w => hF _ w hZ)
    · exact fin_69_true p mi sp z wid prec h.pt rfl (fun w => expC h.ex h.fv hP w) (fun w => upC hZ2 (asc_exp _ _ _) w) hS (fun w => hF _ w hZ)
  · rw [finT_102] at hZ ⊢
    cases sh
    · exact fin_102_false p mi sp z wid prec h.pt rfl (fun w => fixC h.ex h.fv hP w) hS (fun w => hF _ w hZ)
    · exact fin_102_true p mi sp z wid prec h.pt rfl (fun w => fixC h.ex h.fv hP w) hS (fun w => hF _ w hZ)
  · rw [finT_70] at hZ ⊢
    cases sh
    · exact fin_70_false p mi sp z wid prec h.pt rfl (fun w => fixC h.ex h.fv hP w) hS (fun w => hF _ w hZ)
    · exact fin_70_true p mi sp z wid prec h.pt rfl (fun w => fixC h.ex h.fv hP w) hS (fun w => hF _ w hZ)
  · rw [finT_103] at hZ ⊢
    cases sh
    · exact fin_103_false p mi sp z wid prec h.pt rfl (fun w => genC h.ex h.fv h.sh h.dl h.dp hP w) hS (fun w => hF _ w hZ)
    · exact fin_103_true p mi sp z wid prec h.pt rfl (fun w => genC h.ex h.fv h.sh h.dl h.dp hP w) hS (fun w => hF _ w hZ)
  · rw [finT_71] at hZ ⊢
    have hZ2 := hZ
    rw [big_size] at hZ2
    cases sh
    · exact fin_71_false p mi sp z wid prec h.pt rfl (fun w => genC h.ex h.fv h.sh h.dl h.dp hP w) (fun w => upC hZ2 (asc_gen _ _ _ _) w) hS (fun w => hF _ w hZ)
    · exact fin_71_true p mi sp z wid prec h.pt rfl (fun w => genC h.ex h.fv h.sh h.dl h.dp hP w) (fun w => upC hZ2 (asc_gen _ _ _ _) w) hS (fun w => hF _ w hZ)
  · rw [finT_118] at hZ ⊢
    cases sh
    · exact fin_118_false p mi sp z wid prec h.pt rfl (fun w => genC h.ex h.fv h.sh h.dl h.dp hP w) hS (fun w => hF _ w hZ)
    · exact fin_118_true p mi sp z wid prec h.pt rfl (fun w => genC h.ex h.fv h.sh h.dl h.dp hP w) hS (fun w => hF _ w hZ)
  · rw [finT_98] at hZ ⊢
    cases sh
    · exact fin_98_false p mi sp z wid prec h.pt rfl (fun w => parC (by rw [← e53]; exact h.m53) h.e0 h.e1 w) hS (fun w => hF _ w hZ)
    · exact fin_98_true p mi sp z wid prec h.pt rfl (fun w => parC (by rw [← e53]; exact h.m53) h.e0 h.e1 w) hS (fun w => hF _ w hZ)
  · rw [finT_120] at hZ ⊢
    cases sh
    · exact fin_120_false p mi sp z wid prec h.pt rfl (fun w => hexC h.m53 h.e0 h.e1 hP w) hS (fun w => hF _ w hZ)
    · exact fin_120_true p mi sp z wid prec h.pt rfl (fun w => hexC h.m53 h.e0 h.e1 hP w) hS (fun w => hF _ w hZ)
  · rw [finT_88] at hZ ⊢
    have hZ2 := hZ
    rw [big_size] at hZ2
    cases sh
    · exact fin_88_false p mi sp z wid prec h.pt rfl (fun w => hexC h.m53 h.e0 h.e1 hP w) (fun w => upC hZ2 (asc_hex _ _ _ _) w) hS (fun w => hF _ w hZ)
    · exact fin_88_true p mi sp z wid prec h.pt rfl (fun w => hexC h.m53 h.e0 h.e1 hP w) (fun w => upC hZ2 (asc_hex _ _ _ _) w) hS (fun w => hF _ w hZ)
/-- A pattern is finite, or Inf, or NaN. -/
theorem ptc_any {bits : Nat} {size : Int} {f ww : Nat} {least : Int} {I : Nat} (h : Ly size f ww least I) (hb : bits < 18446744073709551616) : PtC bits size (sgn f ww bits) (ptM f ww I bits) (ptE f ww I least bits) (ptK f ww I bits) := fun w => parts_any h hb w
theorem fin_of {bits : Nat} {size : Int} {f ww : Nat} {least : Int} {I : Nat} (h : Ly size f ww least I) (hb : bits < 18446744073709551616) (hp : bare f ww bits < I) : ∃ d, SH (fun x => RD f I (un least) x (bare f ww bits)) (val f least (bare f ww bits)) d ∧ Good d ∧ FinB bits size (sgn f ww bits) (pm f (bare f ww bits)) (least + pk f (bare f ww bits)) (val f least (bare f ww bits)) d := by
  obtain ⟨d, hd⟩ := sh_ex (fun x => RD f I (un least) x (bare f ww bits)) (val f least (bare f ww bits))
  have fv := (val_ex h hp).2
  have gd := hd.good fv
  have hpt := ptc_any h hb
  have e1 : ptM f ww I bits = pm f (bare f ww bits) := by unfold ptM; rw [if_pos hp]
  have e2 : ptE f ww I least bits = least + pk f (bare f ww bits) := by unfold ptE; rw [if_pos hp]
  have e3 : ptK f ww I bits = 0 := by unfold ptK; rw [if_pos hp]
  rw [e1, e2, e3] at hpt
  obtain ⟨q0, q1, hI, hI2, -, -, -, -, q2⟩ := h.pk
  have q3 := q2 _ hp
  have q4 := h.pm (bare f ww bits)
  have hsh : ShC bits size (oS d) (oP d) 0 := fun w => by
    by_cases h0 : bare f ww bits = 0
    · have hv0 : val f least (bare f ww bits) = 0 := by rw [h0]; simp [val, pq, pm]
      have hd0 : d = 0 := by
        rw [hv0] at hd
        exact hd.all fun j h1 h2 => by rw [o_zero.1] at h2; simp at h2
      have := short_none h hb (.inr h0) w
      rw [if_pos h0] at this
      rw [hd0, zero_S, o_zero.2]
      exact this
    · exact short_ok h hb hp h0 hd w
  have dp : oP d ≤ 2000 := by
    rcases hd with ⟨n, n1, n2, -, n4, n5⟩ | ⟨-, n2⟩
    · obtain ⟨-, hd2⟩ := pick_R n4 n5
      have hb1 := Bn_le (val f least (bare f ww bits)) n
      have hq := Qn_lt (v := val f least (bare f ww bits)) (n := n) (by omega)
      have hqe := Qn_eq (v := val f least (bare f ww bits)) (n := n) (by omega)
      have hp1 := fv.p1
      have hA : An (val f least (bare f ww bits)) n < 10 ^ (Qn (val f least (bare f ww bits)) n + n + 1) := by
        have h1 : An (val f least (bare f ww bits)) n = Bn (val f least (bare f ww bits)) n + 10 ^ Qn (val f least (bare f ww bits)) n := rfl
        have h2 : 10 ^ Qn (val f least (bare f ww bits)) n ≤ 10 ^ (Qn (val f least (bare f ww bits)) n + n) := Nat.pow_le_pow_right (by decide) (by omega)
        rw [Nat.pow_succ]; omega
      have hdl : d < 10 ^ (Qn (val f least (bare f ww bits)) n + n + 1) := by
        rcases hd2 with rfl | rfl
        · omega
        · exact hA
      rcases oP_le hdl with h3 | h3
      · omega
      · rw [h3, o_zero.2]; decide
    · rw [n2]; have := fv.p1; omega
  exact ⟨d, hd, gd, hpt, exactD h hp, fv, hsh, gd.len, dp, by rw [show (2 : Nat) ^ 53 = 9007199254740992 by decide]; exact q4, by omega, by omega⟩
/-- No other size. -/
theorem ptc_no {bits : Nat} {size : Int} (h1 : ¬ size = 32) (h2 : ¬ size = 64) : PtC bits size false 0 0 3 := fun w => parts_size h1 h2 w
/-- Float, whatever it is asked for. -/
theorem float_none {bits : Nat} {size : Int} (hb : bits < 18446744073709551616) (p mi sh sp z : Bool) (wid prec verb : Int) (h : fVerb verb = false ∨ (¬ size = 32 ∧ ¬ size = 64)) : FlC bits size p mi sh sp z wid prec verb ⟨#[]⟩ false := by
  by_cases hs : size = 32 ∨ size = 64
  · have hv : fVerb verb = false := by rcases h with h | h; · exact h
                                       · omega
    rcases hs with rfl | rfl
    · exact float_verb p mi sh sp z wid prec verb (writer_no hv) (ptc_any lyA hb)
    · exact float_verb p mi sh sp z wid prec verb (writer_no hv) (ptc_any lyB hb)
  · cases hv : fVerb verb with
    | false => exact float_verb p mi sh sp z wid prec verb (writer_no hv) (ptc_no (by omega) (by omega))
    | true => exact float_size p mi sh sp z wid prec verb (writer_yes hv) (ptc_no (by omega) (by omega))
theorem float_odd {bits : Nat} {size : Int} {f ww : Nat} {least : Int} {I : Nat} (h : Ly size f ww least I) (hb : bits < 18446744073709551616) (p mi sh sp z : Bool) (wid prec verb : Int) (hv : fVerb verb = true) : (bare f ww bits = I → FlC bits size p mi sh sp z wid prec verb (padS (sgI (sgn f ww bits) p sp ++ ⟨#[73, 110, 102]⟩) mi false wid) true) ∧ (I < bare f ww bits → FlC bits size p mi sh sp z wid prec verb (padS (sgF false p sp ++ ⟨#[78, 97, 78]⟩) mi false wid) true) := by
  have hpt := ptc_any h hb
  refine ⟨fun h1 => ?_, fun h1 => ?_⟩
  · have e3 : ptK f ww I bits = 1 := by unfold ptK; rw [if_neg (by omega), if_pos h1]
    rw [e3] at hpt
    exact float_inf p mi sh sp z wid prec verb (writer_yes hv) hpt
  · have e3 : ptK f ww I bits = 2 := by unfold ptK; rw [if_neg (by omega), if_neg (by omega)]
    rw [e3] at hpt
    exact float_nan p mi sh sp z wid prec verb (writer_yes hv) hpt
end Go.Proofs.YthbabhbfpcfenaaGreatDoor

/- The document's examples that every law of layer 6 asks. -/
namespace Go.Proofs.YthbabhbfpcfenaaGreatDoor
open Go.RowKit
set_option linter.unusedVariables false
set_option linter.unusedSimpArgs false

theorem SH.uniq {R : Nat → Prop} {v d d' : Nat} (h : SH R v d) (k : SH R v d') : d = d' := by
  rcases h with ⟨n, h1, h2, h3, h4, h5⟩ | ⟨h1, h2⟩
  · exact pick_uniq h5 (k.at h1 h2 h3 h4)
  · rw [h2, k.all h1]
theorem live_sh : ∃ K P : Nat, K = 9999 ∧ P = 4591870180066957722 ∧ SH (fun x => RD 52 9218868437227405312 (un (-1074)) x P) (val 52 (-1074) P) (10 ^ K) := by
  obtain ⟨K, hK, hm, k1, k2, k3, k4, k5⟩ := live_nums
  obtain ⟨P, hP⟩ : ∃ P : Nat, P = 4591870180066957722 := ⟨_, rfl⟩
  refine ⟨K, P, hK, hP, ?_⟩
  have hP1 : 4591870180066957721 = P - 1 := by rw [hP]
  rw [hP1, ← hP] at hm
  rw [← hP] at k1 k2 k3 k4 k5
  have hr : RD 52 9218868437227405312 (un (-1074)) (10 ^ K) P := by
    rw [RD_bounds (by omega) (by omega), if_pos (by rw [hP])]
    exact hm
  generalize hv : val 52 (-1074) P = v at *
  have hp : oP v = 0 := by
    have a := oP_gt k1
    rcases oP_le k2 with b | b
    · omega
    · have := pow_pos10 K; omega
  have hq : Qn v 1 = K := by unfold Qn; omega
  have hB : Bn v 1 = 10 ^ K := by unfold Bn; rw [hq, k3, Nat.one_mul]
  have hl : 1 < (oL v).length := by
    rcases Nat.lt_or_ge 1 (oL v).length with h | h
    · exact h
    · exact absurd ((o_dec v).mod (E := K) (by omega)) k5
  have hn : near v (Qn v 1) = Bn v 1 := by
    unfold near Bn
    rw [hq, if_pos (.inl k4)]
  have hR : RD 52 9218868437227405312 (un (-1074)) (Bn v 1) P := by rw [hB]; exact hr
  exact .inl ⟨1, Nat.le_refl _, hl, fun j h1 h2 => by omega, fun h => h.1 hR, .inl ⟨hR, .inr hn, hB.symm⟩⟩
theorem filT_bare (t : ByteArray) (h : Asc t) : filT (sgF false false false) t false false (-1) = t := by
  have e0 : sgF false false false = ⟨#[]⟩ := rfl
  have ea : (⟨#[]⟩ : ByteArray) ++ t = t := by
    apply ByteArray.ext; apply Array.ext'
    rw [app_list]; rfl
  unfold filT
  rw [if_neg (by simp), e0, ea]
  unfold padS
  have ew : wdt (((wdt (-1) : Nat) : Int) - (cntR t : Nat)) = 0 := by
    have : wdt (-1) = 0 := rfl
    rw [this]; unfold wdt; omega
  rw [ew, run_zero]
  simp only [Bool.false_eq_true, if_false]
  exact ea
abbrev FlB (bits : Nat) (verb : Int) (s : ByteArray) (b : Bool) : Prop := FlC bits 64 false false false false false (-1) (-1) verb s b
theorem one_half : ∃ v : Nat, val 52 (-1074) 4609434218613702656 = v ∧ oS v = ⟨#[49, 53]⟩ ∧ oP v = 1 ∧ v ≠ 0 := by
  have h := (val_ex lyB (p := 4609434218613702656) (by decide)).1
  have hm : pm 52 4609434218613702656 = 6755399441055744 := by decide
  have hk : ((-1074 : Int) + pk 52 4609434218613702656) = -52 := by decide
  rw [hm, hk, exU_dn _ (by decide)] at h
  obtain ⟨K, hK⟩ : ∃ K : Nat, K = 9999 := ⟨_, rfl⟩
  have e1 : ((-52 : Int) + 10000).toNat + 51 = K := by rw [hK]; rfl
  have e2 : (6755399441055744 : Nat) * 5 ^ (-(-52 : Int)).toNat = 15 * 10 ^ 51 := by decide
  rw [e2, Nat.mul_assoc, ← Nat.pow_add, Nat.add_comm, e1] at h
  have hd : IsDec [49, 53] 1 (15 * 10 ^ K) := ⟨by decide, by decide, by decide, (fun h => by cases h), by decide, by
    have : ((1 : Int) - ([49, 53] : List UInt8).length + 10000).toNat = K := by rw [hK]; rfl
    rw [this]; rfl⟩
  obtain ⟨o1, o2⟩ := o_of hd
  refine ⟨15 * 10 ^ K, h.symm, ?_, o2.symm, ?_⟩
  · unfold oS; rw [← o1]
  · have := pow_pos10 K; omega
theorem live_e : FlB 4609434218613702656 101 ⟨#[49, 46, 53, 48, 48, 48, 48, 48, 101, 43, 48, 48]⟩ true := by
  obtain ⟨d, hd, gd, hF⟩ := fin_of (bits := 4609434218613702656) lyB (by decide) (by decide)
  have hb : bare 52 11 4609434218613702656 = 4609434218613702656 := by decide
  have hs : sgn 52 11 4609434218613702656 = false := by decide
  rw [hb, hs] at hF
  obtain ⟨v, hv, h1, h2, h3⟩ := one_half
  rw [hv] at hF
  have := float_fin hF false false false false false (-1) (-1) 101 (by decide)
  rw [finT_101, filT_bare _ (asc_exp _ _ _)] at this
  have e : expT false (min (-1) 1000) v = ⟨#[49, 46, 53, 48, 48, 48, 48, 48, 101, 43, 48, 48]⟩ := by
    have hl : (oL v).length = 2 := by rw [← oS_size, h1]; rfl
    have hr : rnd v (cntE (min (-1) 1000)) = v := by
      have : cntE (min (-1) 1000) = 7 := by decide
      unfold rnd
      rw [this, if_neg (by decide), if_pos (by omega)]
    have hp : pw0 v = 0 := by unfold pw0; rw [if_neg h3, h2]; rfl
    unfold expT
    rw [hr, hp, h1]
    decide
  rw [e] at this
  exact this
theorem live_v : FlB 4591870180066957722 118 ⟨#[48, 46, 49]⟩ true := by
  obtain ⟨d, hd, gd, hF⟩ := fin_of (bits := 4591870180066957722) lyB (by decide) (by decide)
  have hb : bare 52 11 4591870180066957722 = 4591870180066957722 := by decide
  have hs : sgn 52 11 4591870180066957722 = false := by decide
  rw [hb] at hd
  rw [hb, hs] at hF
  obtain ⟨K, P, hK, hP, hsh⟩ := live_sh
  rw [← hP] at hd
  have hdK := hd.uniq hsh
  have := float_fin hF false false false false false (-1) (-1) 118 (by decide)
  rw [finT_118, filT_bare _ (asc_gen _ _ _ _)] at this
  obtain ⟨o1, o2⟩ := one_G (-1) K (by omega)
  have e : ∀ v, genT false (min (-1) 1000) v d = ⟨#[48, 46, 49]⟩ := by
    intro v
    have hd1 : oS d = ⟨#[49]⟩ := by rw [hdK]; exact o1
    have hd2 : oP d = 0 := by rw [hdK]; exact o2
    have hp : pw0 d = -1 := by
      have : d ≠ 0 := by rw [hdK]; have := pow_pos10 K; omega
      unfold pw0; rw [if_neg this, hd2]; rfl
    unfold genT
    rw [if_pos (by decide)]
    unfold genG genD
    rw [hp, hd1]
    decide
  rw [e] at this
  exact this
theorem live_d : FlB 0 100 ⟨#[]⟩ false := float_none (by decide) false false false false false (-1) (-1) 100 (.inl (by decide))
end Go.Proofs.YthbabhbfpcfenaaGreatDoor

/- What the laws of layer 6 share: sized, what a padded text is. -/
namespace Go.Proofs.YthbabhbfpcfenaaGreatDoor
open Go.RowKit
set_option linter.unusedVariables false
set_option linter.unusedSimpArgs false

/-- The runes of plain bytes are their bytes. -/
theorem cnt_asc (s : ByteArray) (h : Asc s) : cntR s = s.size := by
  have key : ∀ (k p : Nat), p + k = s.size → cntFrom s p = k := by
    intro k
    induction k with
    | zero => intro p hp; exact cntFrom_end s p (by omega)
    | succ k ih =>
      intro p hp
      have hb : bt s p < 128 := by
        rw [← bt_at s p (by omega)]
        exact h _ (List.getElem_mem (by rw [list_len]; omega))
      rw [cntFrom_step s p (by omega), dec_ascii s p hb, ih (p + 1) (by omega)]; omega
  unfold cntR
  exact key s.size 0 (by omega)
theorem asc_sgF (neg p sp : Bool) : Asc (sgF neg p sp) := by
  cases neg <;> cases p <;> cases sp
  all_goals first | exact Asc.lit (l := []) (by decide) | exact Asc.lit (l := [45]) (by decide) | exact Asc.lit (l := [43]) (by decide) | exact Asc.lit (l := [32]) (by decide)
theorem asc_sgI (neg p sp : Bool) : Asc (sgI neg p sp) := by
  cases neg <;> cases p <;> cases sp
  all_goals first | exact Asc.lit (l := [45]) (by decide) | exact Asc.lit (l := [43]) (by decide) | exact Asc.lit (l := [32]) (by decide)
theorem asc_big {g : Bool} {s : ByteArray} (h : Asc s) : Asc (bigT g s) := by
  unfold bigT
  split
  · intro x hx
    have hx' : x ∈ Lib.toUpperA s.data.toList := by simpa using hx
    unfold Lib.toUpperA at hx'
    obtain ⟨y, hy, rfl⟩ := List.mem_map.1 hx'
    have h1 := h y hy
    have h2 : (Lib.upperB y).toNat = if 97 ≤ y.toNat ∧ y.toNat ≤ 122 then y.toNat - 32 else y.toNat := by
      have : ∀ y : Fin 256, (Lib.upperB (UInt8.ofNat y.val)).toNat = if 97 ≤ y.val ∧ y.val ≤ 122 then y.val - 32 else y.val := by decide +kernel
      have h3 := this ⟨y.toNat, y.toNat_lt⟩
      simpa using h3
    rw [h2]
    split <;> omega
  · exact h
theorem asc_fin (sh : Bool) (prec : Int) (m : Nat) (e : Int) (v d : Nat) (verb : Int) : Asc (finT sh prec m e v d verb) := asc_big (asc_num _ _ _ _ _ _ _)
/-- So many blanks are lacking. -/
def lk (s : ByteArray) (wid : Int) : Nat := wdt ((wdt wid : Nat) - (s.size : Nat) : Int)
theorem padS_asc {s : ByteArray} (h : Asc s) (mi : Bool) (wid : Int) : padS s mi false wid = if mi = true then s ++ run 32 (lk s wid) else run 32 (lk s wid) ++ s := by
  unfold padS lk
  rw [cnt_asc s h]
  cases mi <;> rfl
theorem padS_off (s : ByteArray) (mi : Bool) : padS s mi false (-1) = s := by
  have ew : wdt (((wdt (-1) : Nat) : Int) - (cntR s : Nat)) = 0 := by
    have : wdt (-1) = 0 := rfl
    rw [this]; unfold wdt; omega
  unfold padS
  rw [ew, run_zero]
  cases mi
  · show (⟨#[]⟩ : ByteArray) ++ s = s
    apply ByteArray.ext; apply Array.ext'
    rw [app_list]; rfl
  · show s ++ (⟨#[]⟩ : ByteArray) = s
    apply ByteArray.ext; apply Array.ext'
    rw [app_list]; simp
theorem filT_off (s t : ByteArray) (mi z : Bool) (hs : s.size ≤ 1) : filT s t mi z (-1) = s ++ t := by
  unfold filT
  rw [padS_off]
  split
  · have : wdt (-1) = 0 := rfl
    rw [lnA_none t _ (by rw [this]; omega)]
  · rfl
end Go.Proofs.YthbabhbfpcfenaaGreatDoor

/- The document's Verb. -/
namespace Go.Proofs.YthbabhbfpcfenaaGreatDoor
open Go.RowKit
set_option linter.unusedVariables false
set_option linter.unusedSimpArgs false

/-- The text of the verbs. -/
abbrev vbS : ByteArray := ⟨#[118, 101, 69, 102, 70, 103, 71, 98, 120, 88]⟩
def vbL : List Int := [118, 101, 69, 102, 70, 103, 71, 98, 120, 88]
theorem vb_dec (k : Nat) (h : k < 10) : Utf8.decode vbS k = ((vbL.getD k 0).toNat, 1) := by
  have : ∀ k : Fin 10, Utf8.decode vbS k.val = ((vbL.getD k.val 0).toNat, 1) := by decide
  exact this ⟨k, h⟩
theorem vb_step (k : Nat) (h : k < 10) (verb : Int) : decide (verb ∈ vbL.take (k + 1)) = (decide (verb ∈ vbL.take k) || decide (vbL.getD k 0 = verb)) := by
  have hl : k < vbL.length := h
  rw [List.take_succ_eq_append_getElem hl]
  have e : vbL.getD k 0 = vbL[k] := by rw [List.getD_eq_getElem?_getD, List.getElem?_eq_getElem hl, Option.getD_some]
  rw [e]
  have e2 : (verb ∈ vbL.take k ++ [vbL[k]]) ↔ (verb ∈ vbL.take k ∨ vbL[k] = verb) := by
    rw [List.mem_append, List.mem_singleton, eq_comm (a := verb) (b := vbL[k])]
  by_cases h1 : verb ∈ vbL.take k
  · rw [decide_eq_true h1, decide_eq_true (e2.2 (.inl h1))]; rfl
  · by_cases h2 : vbL[k] = verb
    · rw [decide_eq_true (e2.2 (.inr h2)), decide_eq_true h2]; simp
    · have h3 : ¬ (verb ∈ vbL.take k ++ [vbL[k]]) := fun h => (e2.1 h).elim h1 h2
      rw [decide_eq_false h1, decide_eq_false h2, decide_eq_false h3]; rfl
theorem vb_all (verb : Int) : decide (verb ∈ vbL.take 10) = fVerb verb := by
  have e : vbL.take 10 = vbL := rfl
  rw [e]
  unfold fVerb vbL
  apply decide_eq_decide.2
  simp only [List.mem_cons, List.not_mem_nil, or_false]
  omega
theorem vb_pos (k : Nat) (h : k < 10) : (((vbL.getD k 0).toNat : Nat) : Int) = vbL.getD k 0 := by
  have : ∀ k : Fin 10, (((vbL.getD k.val 0).toNat : Nat) : Int) = vbL.getD k.val 0 := by decide
  exact this ⟨k, h⟩
set_option maxRecDepth 1000000 in
set_option maxHeartbeats 800000 in
theorem mverb_any (verb : Int) (w : World) : Calls Tryz.prog 15 #[.int .i32 verb] w fun e w' => e = .returned (.bool (fVerb verb)) ∧ Below w.heap.size w w' := by
  have HD : Hid (∀ k, k < 10 → Utf8.decode vbS k = ((vbL.getD k 0).toNat, 1)) := vb_dec
  have HP : Hid (∀ k, k < 10 → (((vbL.getD k 0).toNat : Nat) : Int) = vbL.getD k 0) := vb_pos
  have HS : Hid (∀ k, k < 10 → decide (verb ∈ vbL.take (k + 1)) = (decide (verb ∈ vbL.take k) || decide (vbL.getD k 0 = verb))) := fun k h => vb_step k h verb
  have HT : Hid (∀ k, k ≤ 10 → decide (verb ∈ vbL.take k) = true → fVerb verb = true) := fun k hk h => by
    rw [← vb_all]
    have := of_decide_eq_true h
    exact decide_eq_true ((List.take_prefix_take_left hk).subset this)
  have HA : Hid (decide (verb ∈ vbL.take 10) = fVerb verb) := vb_all verb
  have hz : vbS.size = 10 := rfl
  go_enter Tryz.func15, Tryz.ntmps15
  go_wp2
  go_loopw [4] (fun n w' => ∃ pos : Nat, w' = w.iter vbS pos ∧ pos ≤ 10 ∧ Hid (decide (verb ∈ vbL.take pos) = false)) (fun _ w' => 10 - w'.iterPos w.heap.size)
  case atStart => exact ⟨0, rfl, by omega, rfl⟩
  case round =>
    obtain ⟨pos, rfl, hpos, HM⟩ := hrel
    by_cases hp : pos < 10
    · have hd := HD.out pos hp
      have hpp := HP.out pos hp
      have hst := HS.out pos hp
      rw [HM.out, Bool.false_or] at hst
      have hnx : ∀ ty, (Instr.next (.pointer (some ⟨w.heap.size, 0, none⟩)) true ty).run Tryz.prog (w.iter vbS pos) = _ := fun ty => run_next_any w vbS pos ty (by rw [hz]; exact hp)
      rw [hd] at hnx
      simp only [hpp] at hnx
      by_cases hv : vbL.getD pos 0 = verb
      · have HF : Hid (fVerb verb = true) := HT.out (pos + 1) (by omega) (by rw [hst]; exact decide_eq_true hv)
        have b1 : (vbL.getD pos 0 == verb) = true := beq_iff_eq.2 hv
        clear HD HP HS HT HA HM hst hd hpp hv
        generalize vbL.getD pos 0 = c at *
        go_wp2
        go_ret
        rw [HF.out]
        exact ⟨rfl, iter_below _ _ _⟩
      · have b1 : (vbL.getD pos 0 == verb) = false := beq_eq_false_iff_ne.2 hv
        have HM2 : Hid (decide (verb ∈ vbL.take (pos + 1)) = false) := by show _ = _; rw [hst]; exact decide_eq_false hv
        clear HD HP HS HT HA HM hst hd hpp hv
        generalize vbL.getD pos 0 = c at *
        go_wp2
        go_roundw
        case rel => exact ⟨pos + 1, rfl, by omega, HM2⟩
        case measure =>
          simp
          omega
    · have hnx : ∀ ty, (Instr.next (.pointer (some ⟨w.heap.size, 0, none⟩)) true ty).run Tryz.prog (w.iter vbS pos) = _ := fun ty => run_next_end w vbS pos ty (by rw [hz]; exact hp)
      have HF : Hid (fVerb verb = false) := by
        show _ = _
        rw [← HA.out, ← HM.out, show pos = 10 by omega]
      clear HD HP HS HT HA HM
      go_wp2
      go_ret
      rw [HF.out]
      exact ⟨rfl, iter_below _ _ _⟩
abbrev MvC (verb : Int) (b : Bool) : Prop := ∀ w, Calls Tryz.prog 15 #[.int .i32 verb] w fun e w' => e = .returned (.bool b) ∧ Below w.heap.size w w'
end Go.Proofs.YthbabhbfpcfenaaGreatDoor
