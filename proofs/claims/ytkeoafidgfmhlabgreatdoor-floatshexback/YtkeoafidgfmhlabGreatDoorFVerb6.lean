/- The laws' verb and finite; great letters. -/
import Derived.Test.YtkeoafidgfmhlabGreatDoorFReadM
namespace Go.Proofs.YtkeoafidgfmhlabGreatDoor
open Go.RowKit
set_option linter.unusedVariables false
set_option linter.unusedSimpArgs false

abbrev Vb7 (p mi sh sp z : Bool) (wid prec verb : Int) (k : Nat) (vs : ByteArray) (c : Int) : Prop := ∀ w, Calls Tryz.prog 17 #[.agg #[.bool p, .bool mi, .bool sh, .bool sp, .bool z, .int .i64 wid, .int .i64 prec, .int .i32 verb], .int .u64 k, .string vs] w fun e w' => e = .returned (.agg #[.bool p, .bool mi, .bool sh, .bool sp, .bool z, .int .i64 wid, .int .i64 prec, .int .i32 c]) ∧ Below w.heap.size w w'
set_option maxRecDepth 1000000 in
set_option maxHeartbeats 400000 in
theorem verb7_any (vs : ByteArray) (p mi sh sp z : Bool) (wid prec verb : Int) (k j : Nat) (hj : j < vs.size) (hv : vs.size ≤ 100) (hk : k % vs.size = j) (hk2 : k < 18446744073709551616) : Vb7 p mi sh sp z wid prec verb k vs ((vs[j]'hj).toNat : Nat) := fun w => by
  have h1 : (k : Int) % (vs.size : Nat) = (j : Nat) := by omega
  have h2 : (k : Int).tmod (vs.size : Nat) = (j : Nat) := by rw [Int.tmod_eq_emod_of_nonneg (by omega)]; exact h1
  have h3 : ¬ ((vs.size : Nat) : Int) = 0 := by omega
  have hx : (vs[j]'hj).toNat < 256 := (vs[j]'hj).toNat_lt
  have hw1 : IntKind.i32.wrap ((vs[j]'hj).toNat : Nat) = ((vs[j]'hj).toNat : Nat) := by rw [IntKind.wrap_i32]; omega
  have hw2 : IntKind.u64.wrap ((vs.size : Nat) : Int) = (vs.size : Nat) := by rw [wrapU]; omega
  have hjI : (j : Int) < (vs.size : Nat) := by omega
  clear hk
  go_enter Tryz.func17, Tryz.ntmps17
  go_wp2
  exact bodyPost_ret (v := .agg #[.bool p, .bool mi, .bool sh, .bool sp, .bool z, .int .i64 wid, .int .i64 prec, .int .i32 ((vs[j]'hj).toNat:Nat)]) (by simp [results, Tryz.results17, go_sem]) rfl ⟨rfl, ((Below.refl _ _).alloc (Nat.le_refl _) _).alloc (by simp) _⟩
abbrev Fi6 (bits : Nat) (n : Int) (p : Nat) : Prop := ∀ w, Calls Tryz.prog 15 #[.int .u64 bits, .int .i64 n] w fun e w' => e = .returned (.int .u64 p) ∧ w' = w
set_option maxRecDepth 1000000 in
theorem fin6_64 {bits p0 p : Nat} (hand : Go.bits BinOp.and IntKind.u64 (bits : Int) 9223372036854775807 = (p0 : Nat)) (hp : p0 < 9218868437227405312 ∧ p = p0 ∨ ¬ p0 < 9218868437227405312 ∧ p = p0 - 9218868437227405312) (hb : p0 < 9300000000000000000) : Fi6 bits 64 p := fun w => by
  have hJ0 : Hid ((0 : Int) ≤ 9218868437227405312) := by show (0 : Int) ≤ 9218868437227405312; decide
  rcases hp with ⟨h1, rfl⟩ | ⟨h1, h2⟩
  · have hpI : Hid ((p : Int) < 9218868437227405312) := by show (p : Int) < 9218868437227405312; omega
    clear h1 hb
    go_enter Tryz.func15, Tryz.ntmps15
    go_upto_region 5 with fail
    have hpI := hpI.out
    have hJ0 := hJ0.out
    clear hand
    generalize hJ : (9218868437227405312 : Int) = J at *
    have HJ : Hid (J = 9218868437227405312) := hJ.symm
    clear hJ
    go_wp2
    go_ret
    have e := HJ.out
    clear HJ
    subst e
    exact ⟨rfl, rfl⟩
  · have hpI : Hid (9218868437227405312 ≤ (p0 : Int)) := by show 9218868437227405312 ≤ (p0 : Int); omega
    have hlI : Hid ((p0 : Int) < 9300000000000000000) := by show (p0 : Int) < 9300000000000000000; omega
    rw [show ((p : Nat) : Int) = (p0 : Int) - 9218868437227405312 by omega]
    clear h1 h2 hb
    go_enter Tryz.func15, Tryz.ntmps15
    go_upto_region 5 with fail
    have hpI := hpI.out
    have hlI := hlI.out
    have hJ0 := hJ0.out
    clear hand
    generalize hJ : (9218868437227405312 : Int) = J at *
    have HJ : Hid (J = 9218868437227405312) := hJ.symm
    clear hJ
    go_wp2
    go_ret
    have e := HJ.out
    clear HJ
    subst e
    exact ⟨rfl, rfl⟩
set_option maxRecDepth 1000000 in
theorem fin6_32 {bits p0 p : Nat} (hand : Go.bits BinOp.and IntKind.u64 (bits : Int) 2147483647 = (p0 : Nat)) (hp : p0 < 2139095040 ∧ p = p0 ∨ ¬ p0 < 2139095040 ∧ p = p0 - 2139095040) (hb : p0 < 9300000000000000000) : Fi6 bits 32 p := fun w => by
  have hJ0 : Hid ((0 : Int) ≤ 2139095040) := by show (0 : Int) ≤ 2139095040; decide
  rcases hp with ⟨h1, rfl⟩ | ⟨h1, h2⟩
  · have hpI : Hid ((p : Int) < 2139095040) := by show (p : Int) < 2139095040; omega
    clear h1 hb
    go_enter Tryz.func15, Tryz.ntmps15
    go_upto_region 5 with fail
    have hpI := hpI.out
    have hJ0 := hJ0.out
    clear hand
    generalize hJ : (2139095040 : Int) = J at *
    have HJ : Hid (J = 2139095040) := hJ.symm
    clear hJ
    go_wp2
    go_ret
    have e := HJ.out
    clear HJ
    subst e
    exact ⟨rfl, rfl⟩
  · have hpI : Hid (2139095040 ≤ (p0 : Int)) := by show 2139095040 ≤ (p0 : Int); omega
    have hlI : Hid ((p0 : Int) < 9300000000000000000) := by show (p0 : Int) < 9300000000000000000; omega
    rw [show ((p : Nat) : Int) = (p0 : Int) - 2139095040 by omega]
    clear h1 h2 hb
    go_enter Tryz.func15, Tryz.ntmps15
    go_upto_region 5 with fail
    have hpI := hpI.out
    have hlI := hlI.out
    have hJ0 := hJ0.out
    clear hand
    generalize hJ : (2139095040 : Int) = J at *
    have HJ : Hid (J = 2139095040) := hJ.symm
    clear hJ
    go_wp2
    go_ret
    have e := HJ.out
    clear HJ
    subst e
    exact ⟨rfl, rfl⟩
theorem pat6 (m0 : Int) (hm0 : (Lit.int .u64 m0).wf = true) (b : Bool) : ∃ (bits : Nat) (n : Int) (f ww : Nat) (least : Int) (I p : Nat), m0 = (bits : Int) ∧ Ly n f ww least I ∧ p < I ∧ Si6 b n ∧ Fi6 bits n p ∧ p < 9300000000000000000 := by
  have hw := wfu64 m0 hm0
  obtain ⟨bits, rfl⟩ := Int.eq_ofNat_of_zero_le hw.1
  have hb : bits < 18446744073709551616 := by omega
  have hZ := sized6_any b
  cases b with
  | true =>
    have hp : bits % (9223372036854775807 + 1) < 9223372036854775808 := Nat.mod_lt _ (by decide)
    have ha := bits_low bits 63 9223372036854775807 hb rfl (by decide)
    generalize bits % (9223372036854775807 + 1) = p0 at *
    refine ⟨bits, 64, 52, 11, -1074, 9218868437227405312, if p0 < 9218868437227405312 then p0 else p0 - 9218868437227405312, rfl, lyB, by split <;> omega, hZ, ?_, by split <;> omega⟩
    refine fin6_64 ha ?_ (by omega)
    split
    · exact .inl ⟨by assumption, rfl⟩
    · exact .inr ⟨by assumption, rfl⟩
  | false =>
    have hp : bits % (2147483647 + 1) < 2147483648 := Nat.mod_lt _ (by decide)
    have ha := bits_low bits 31 2147483647 hb rfl (by decide)
    generalize bits % (2147483647 + 1) = p0 at *
    refine ⟨bits, 32, 23, 8, -149, 2139095040, if p0 < 2139095040 then p0 else p0 - 2139095040, rfl, lyA, by split <;> omega, hZ, ?_, by split <;> omega⟩
    refine fin6_32 ha ?_ (by omega)
    split
    · exact .inl ⟨by assumption, rfl⟩
    · exact .inr ⟨by assumption, rfl⟩
/-- Bytes below the small letters stay. -/
theorem up7 {l : List UInt8} (h : ∀ x ∈ l, x.toNat < 97) : Lib.toUpperA l = l := by
  have h2 : ∀ y : Fin 256, y.val < 97 → Lib.upperB (UInt8.ofNat y.val) = UInt8.ofNat y.val := by decide +kernel
  unfold Lib.toUpperA
  conv => rhs; rw [← List.map_id l]
  apply List.map_congr_left
  intro x hx
  have h3 := h2 ⟨x.toNat, x.toNat_lt⟩ (h x hx)
  simpa using h3
theorem up7_app (a b : List UInt8) : Lib.toUpperA (a ++ b) = Lib.toUpperA a ++ Lib.toUpperA b := by simp [Lib.toUpperA]
theorem low7 {l : List UInt8} (h : allD l = true) : ∀ x ∈ l, x.toNat < 97 := fun x hx => by
  have := (isD_iff x).1 (allD_mem h hx)
  omega
theorem low7_ptd (sh : Bool) {A B : ByteArray} (hA : allD A.data.toList = true) (hB : allD B.data.toList = true) : ∀ x ∈ (ptd sh A B).data.toList, x.toNat < 97 := fun x hx => by
  unfold ptd at hx
  split at hx
  · exact low7 hA x hx
  · rw [app_list, app_list] at hx
    rcases List.mem_append.1 hx with hx | hx
    · rcases List.mem_append.1 hx with hx | hx
      · exact low7 hA x hx
      · have : x = 46 := by simpa using hx
        subst this; decide
    · exact low7 hB x hx
theorem low7_sgd (n : Int) : ∀ x ∈ (sgd n 2).data.toList, x.toNat < 97 := fun x hx => by
  unfold sgd at hx
  rw [app_list, lnA_list] at hx
  rcases List.mem_append.1 hx with hx | hx
  · unfold sx1 at hx
    split at hx
    · have : x = 45 := by simpa using hx
      subst this; decide
    · have : x = 43 := by simpa using hx
      subst this; decide
  · exact low7 (by rw [allD_append, allD_rep, allD_dig10]; rfl) x hx
theorem big7 {A G : ByteArray} (h : ∀ x ∈ A.data.toList, x.toNat < 97) (k : ∀ x ∈ G.data.toList, x.toNat < 97) : bigT true ((A ++ ⟨#[101]⟩) ++ G) = (A ++ ⟨#[69]⟩) ++ G := by
  unfold bigT
  rw [if_pos rfl]
  apply ByteArray.ext; apply Array.ext'
  rw [app_list, app_list, app_list, app_list]
  show Lib.toUpperA _ = _
  rw [up7_app, up7_app, up7 h, up7 k]
  rfl
theorem big7_same {A : ByteArray} (h : ∀ x ∈ A.data.toList, x.toNat < 97) : bigT true A = A := by
  unfold bigT
  rw [if_pos rfl]
  apply ByteArray.ext; apply Array.ext'
  exact up7 h
theorem ext_dig {G : ByteArray} (h : allD G.data.toList = true) (a b : Nat) : allD (G.extract a b).data.toList = true := by
  rw [ext_li]; exact allD_of fun x hx => allD_mem h (List.mem_of_mem_take (List.mem_of_mem_drop hx))
/-- What g writes of a decimal is read as it. -/
theorem genRead {d : Nat} (gd : Good d) (g sh : Bool) (hp : oP d ≤ 950) (hp0 : -950 ≤ oP d) (hl : (oL d).length ≤ 100) : R6C (bigT g (genG sh d 21 6)) (oS d) (oP d) := by
  have hs := oS_size d
  have hGa : allD (genD sh d 6).data.toList = true := by
    have hr : ∀ n, allD (run 48 n).data.toList = true := fun n => by rw [run_list]; exact allD_rep n
    have hB : ∀ {s : ByteArray} (n : Int), allD s.data.toList = true → allD (lnB s n).data.toList = true := fun {s} n hs => by unfold lnB; rw [app_list, allD_append, hs, hr]; rfl
    unfold genD
    split
    · exact hB _ (hB _ (o_dig d))
    · exact hB _ (o_dig d)
  have hGz : 1 ≤ (genD sh d 6).size ∧ (genD sh d 6).size ≤ 100 ∧ (genD sh d 6).size ≤ max (oL d).length 6 := by
    unfold genD
    split
    · rw [lnB_size, lnB_size]; omega
    · rw [lnB_size]; omega
  have hV : V (genD sh d 6).data.toList (pw0 d + 1) = d := by
    have h1 : V (oS d).data.toList (pw0 d + 1) = d := by
      by_cases h : d = 0
      · subst h
        rw [zero_S]
        simp [V, num_nil]
      · have e : pw0 d + 1 = oP d := by unfold pw0; rw [if_neg h]; omega
        rw [e]; exact o_val d
    have hpw : -952 ≤ pw0 d := by unfold pw0; split <;> omega
    unfold genD
    split
    · rw [V_lnB _ _ _ (by rw [lnB_size]; omega), V_lnB _ _ _ (by omega), h1]
    · rw [V_lnB _ _ _ (by omega), h1]
  have hpw : -952 ≤ pw0 d ∧ pw0 d ≤ 950 := by unfold pw0; split <;> omega
  unfold genG
  split
  · cases g with
    | false => exact sciRead (mk := ⟨#[101]⟩) sh (.inl rfl) hGa hGz.1 (by omega) (by omega) (by omega) (by rw [Int.add_comm]; exact hV)
    | true =>
      unfold sci
      rw [big7 (low7_ptd sh (ext_dig hGa _ _) (ext_dig hGa _ _)) (low7_sgd _)]
      exact sciRead (mk := ⟨#[69]⟩) sh (.inr rfl) hGa hGz.1 (by omega) (by omega) (by omega) (by rw [Int.add_comm]; exact hV)
  · rename_i hc
    have hz := arB_size_is (genD sh d 6) (pw0 d + 1)
    obtain ⟨dA, dB⟩ := around_dig hGa (pw0 d + 1) 0
    have hA := arA_size (genD sh d 6) (pw0 d + 1) (by omega)
    have hAz : (arA (genD sh d 6) (pw0 d + 1)).size ≤ 30 := by
      unfold arA
      split
      · decide
      · rw [ByteArray.size_extract]; omega
    rw [lnB_none _ _ (by omega)] at dB
    have hv := V_around (genD sh d 6) (pw0 d + 1) 0 (by omega) (by omega)
    rw [lnB_none _ _ (by omega), hV] at hv
    have hE : ∀ g, bigT g (ptd sh (arA (genD sh d 6) (pw0 d + 1)) (arB (genD sh d 6) (pw0 d + 1))) = ptd sh (arA (genD sh d 6) (pw0 d + 1)) (arB (genD sh d 6) (pw0 d + 1)) := fun g => by
      cases g
      · rfl
      · exact big7_same (low7_ptd sh dA dB)
    rw [hE]
    exact posRead sh dA dB hA.2 (by omega) hv
end Go.Proofs.YtkeoafidgfmhlabGreatDoor
