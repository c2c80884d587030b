/- WTopBits, Laid15B, OpenBits9: these texts in one. -/
import Derived.Test.YtiagjheifblkiaaGreatDoorUTopBi
import Derived.Test.YtiagjheifblkiaaGreatDoorRows
import Derived.Test.YtiagjheifblkiaaGreatDoorPt7
import Derived.Test.YtiagjheifblkiaaGreatDoorPt2
import Derived.WalkKit
import Derived.ProofKit
import Derived.LaidMore
import Derived.Lay
import Derived.OpenShut
import Derived.Stop.Joined
namespace Go.Proofs.YtiagjheifblkiaaGreatDoor
open Go.RowKit
set_option linter.unusedVariables false
set_option linter.unusedSimpArgs false
theorem o_int {M u K : Nat} (hM : M ≤ 3000) (hK : K = 10000) (hu : u = M * 10 ^ K) : ∃ QN : Nat, oP u = QN ∧ QN ≤ 10 ∧ (oL u).length ≤ QN ∧ num (oL u) * 10 ^ (QN - (oL u).length) = M := by
 have hd := o_dec u
 have hl := hd.low
 have hv := hd.val.trans hu
 have hge : ((oL u).length : Int) ≤ oP u := by
  by_cases h0 : oL u = []
  ·rw [h0, hd.nil h0]; decide
  ·refine Int.not_lt.1 fun hlt => ?_
   have hnl := num_last hd.dig hd.lst h0
   obtain ⟨a, ha⟩ : ∃ a, (oP u - (oL u).length + 10000).toNat = a := ⟨_, rfl⟩
   obtain ⟨t, ht⟩ : ∃ t : Nat, K = a + (t + 1) := ⟨K - 1 - a, by omega⟩
   rw [ha, ht, Nat.pow_add, Nat.mul_comm (10 ^ a), ← Nat.mul_assoc] at hv
   have h2 : num (oL u) = M * 10 ^ (t + 1) := Nat.eq_of_mul_eq_mul_right (Nat.pow_pos (by decide)) hv
   rw [h2, Nat.pow_succ, ← Nat.mul_assoc] at hnl
   exact hnl (Nat.mul_mod_left _ _)
 obtain ⟨QN, hQ⟩ := Int.eq_ofNat_of_zero_le (show 0 ≤ oP u by omega)
 have hle : QN ≤ 10 := by
  have hlt : u < 10 ^ (K + 4) := by
   rw [hu, Nat.pow_add, Nat.mul_comm]
   exact Nat.mul_lt_mul_of_pos_left (show M < 10 ^ 4 by omega) (Nat.pow_pos (by decide))
  rcases oP_le hlt with h | h
  ·omega
  ·have := hd.nil (oL_nil.2 h)
   omega
 refine ⟨QN, hQ, hle, by omega, ?_⟩
 have e : (oP u - (oL u).length + 10000).toNat = (QN - (oL u).length) + K := by omega
 rw [e, Nat.pow_add, ← Nat.mul_assoc] at hv
 exact Nat.eq_of_mul_eq_mul_right (Nat.pow_pos (by decide)) hv
theorem int_back {X : ByteArray} {M : Nat} (hM : M ≤ 3000) (dX : allD X.data.toList = true) (nX : num X.data.toList = M) (h1 : 1 ≤ X.size) (h9 : X.size ≤ 1000) :
  ∃ (S : ByteArray) (QN : Nat) (pw : Nat → Nat), R6C X S QN ∧ QN ≤ 10 ∧ S.size ≤ 10 ∧ pw 0 = 0 ∧ pw QN = M ∧ ∀ j, j < QN → pw j ≤ 3000 ∧ ((∃ h : j < S.size, 48 ≤ (S[j]'h).toNat ∧ (S[j]'h).toNat ≤ 57 ∧ pw (j + 1) = 10 * pw j + ((S[j]'h).toNat - 48)) ∨ (¬ j < S.size ∧ pw (j + 1) = 10 * pw j)) := by
 obtain ⟨K, hK⟩ : ∃ K, K = 10000 := ⟨_, rfl⟩
 obtain ⟨u, hu⟩ : ∃ u, M * 10 ^ K = u := ⟨_, rfl⟩
 have hV : V (X.data.toList ++ (⟨#[]⟩ : ByteArray).data.toList) X.size = u := by
  rw [← hu]
  have e : X.data.toList ++ (⟨#[]⟩ : ByteArray).data.toList = X.data.toList := by simp
  rw [e]
  exact V_mk nX (by rw [list_len]; omega)
 have hR := posRead (A := X) (B := ⟨#[]⟩) false dX rfl h1 (by show X.size + 0 ≤ 2000; omega) hV
 have ep : ptd false X ⟨#[]⟩ = X := by unfold ptd; rw [if_pos ⟨rfl, rfl⟩]
 rw [ep] at hR
 obtain ⟨QN, hQ, hle, hlen, hnum⟩ := o_int hM hK hu.symm
 rw [hQ] at hR
 have hd := o_dec u
 have hz := oS_size u
 refine ⟨oS u, QN, fun j => num ((oL u).take j) * 10 ^ (j - (oL u).length), hR, hle, by omega, ?_, ?_, fun j hj => ⟨?_, ?_⟩⟩
 ·show num ((oL u).take 0) * _ = 0
  rw [List.take_zero]; simp [num]
 ·show num ((oL u).take QN) * _ = M
  rw [List.take_of_length_le hlen]; exact hnum
 ·show num ((oL u).take j) * 10 ^ (j - (oL u).length) ≤ 3000
  have e : num (oL u) = num ((oL u).take j) * 10 ^ ((oL u).drop j).length + num ((oL u).drop j) := by rw [← num_append, List.take_append_drop]
  have h2 : num ((oL u).take j) ≤ num (oL u) := by
   have := Nat.mul_le_mul_left (num ((oL u).take j)) (pow_pos10 ((oL u).drop j).length)
   omega
  have h3 : 10 ^ (j - (oL u).length) ≤ 10 ^ (QN - (oL u).length) := Nat.pow_le_pow_right (by decide) (by omega)
  have h4 := Nat.mul_le_mul h2 h3
  omega
 ·by_cases hl : j < (oL u).length
  ·refine .inl ⟨by omega, ?_⟩
   have hx : ((oS u)[j]'(by omega)) = (oL u)[j] := rfl
   rw [hx]
   have hm := (isD_iff _).1 (allD_mem hd.dig (List.getElem_mem hl))
   refine ⟨hm.1, hm.2, ?_⟩
   show num ((oL u).take (j + 1)) * 10 ^ (j + 1 - (oL u).length) = 10 * (num ((oL u).take j) * 10 ^ (j - (oL u).length)) + _
   rw [List.take_succ_eq_append_getElem hl, num_snoc, show j + 1 - (oL u).length = 0 by omega, show j - (oL u).length = 0 by omega]
   show (_ * 10 + ((oL u)[j].toNat - 48)) * 1 = _
   omega
  ·refine .inr ⟨by omega, ?_⟩
   show num ((oL u).take (j + 1)) * 10 ^ (j + 1 - (oL u).length) = 10 * (num ((oL u).take j) * 10 ^ (j - (oL u).length))
   rw [List.take_of_length_le (by omega), List.take_of_length_le (by omega), show j + 1 - (oL u).length = (j - (oL u).length) + 1 by omega, Nat.pow_succ]
   rw [Nat.mul_comm (10 ^ _) 10, Nat.mul_left_comm]
theorem par_eq (m : Nat) (e : Int) : ∃ SG : ByteArray, ((e < 0 ∧ SG = ⟨#[112, 45]⟩ ∧ e = -(e.natAbs : Int)) ∨ (¬ e < 0 ∧ SG = ⟨#[112, 43]⟩ ∧ e = e.natAbs)) ∧ (digT false 10 m ++ SG) ++ digT false 10 e.natAbs = parT m e := by
 have hz := digT_size false 10 e.natAbs
 have hl : lnA (digT false 10 e.natAbs) 1 = digT false 10 e.natAbs := by
  apply ByteArray.ext; apply Array.ext'
  rw [lnA_list, show (1 - ((digT false 10 e.natAbs).size : Nat) : Int).toNat = 0 by omega]; rfl
 unfold parT sgd sx1
 rw [hl]
 by_cases h : e < 0
 ·refine ⟨⟨#[112, 45]⟩, .inl ⟨h, rfl, by omega⟩, ?_⟩
  rw [if_pos h]
  apply ByteArray.ext; apply Array.ext'
  simp only [app_list, List.append_assoc]; rfl
 ·refine ⟨⟨#[112, 43]⟩, .inr ⟨h, rfl, by omega⟩, ?_⟩
  rw [if_neg h]
  apply ByteArray.ext; apply Array.ext'
  simp only [app_list, List.append_assoc]; rfl
theorem bi_prs (c : UInt8) (hc : c = 98 ∨ c = 120) : ∃ p, prs (⟨#[37, c]⟩ : ByteArray).data.toList = [p] ∧ p.kind = 1 ∧ p.wid.k = 0 ∧ p.prec.k = 0 ∧ p.arg.k = 0 ∧ p.wid.a.k = 0 ∧ p.prec.a.k = 0 ∧ p.verb = c.toNat ∧ spQ p = ⟨false, false, false, false, false, -1, -1, c.toNat⟩ := by
 rcases hc with rfl | rfl <;> exact ⟨_, rfl, rfl, rfl, rfl, rfl, rfl, rfl, rfl, rfl⟩
theorem bs_prs : ∃ p, prs (⟨#[37, 46, 42, 98]⟩ : ByteArray).data.toList = [p] ∧ p.kind = 1 ∧ p.wid.k = 0 ∧ p.wid.a.k = 0 ∧ p.prec.k = 2 ∧ p.prec.a.k = 0 ∧ p.arg.k = 0 ∧ ∃ x, spQ p = ⟨false, false, false, false, false, -1, x, 98⟩ := ⟨_, rfl, rfl, rfl, rfl, rfl, rfl, rfl, _, rfl⟩
set_option maxHeartbeats 2000000 in
theorem bits_any {bits p k m : Nat} {n e prec q : Int} {b sg : Bool} (hq : max 0 (min prec 1000) = q) (hFl : Fl9 bits b k p n (oS (exU m e)) (oP (exU m e))) (hP : PtC p n sg m e 0)
  (hPb : ∀ (A : Nat) (W : World), Esc W → KN W → A < W.heap.size → W.rangeAt A 0 [.int .i64 k, .string ⟨#[]⟩, .int .u64 p, .int .u64 0, .string ⟨#[]⟩, .slice none 0 0, .slice none 0 0, .int .i64 0] → Calls Tryz.prog 9 #[.slice none 0 0, .string ⟨#[37, 98]⟩, .slice (some ⟨A, 0, none⟩) 1 1] W fun x w' => x = .returned (.string (parT m e)) ∧ Below W.heap.size W w')
  (hPs : ∀ (A : Nat) (W : World), Esc W → KN W → A < W.heap.size → W.rangeAt A 0 [.int .i64 6, .string ⟨#[]⟩, .int .u64 q, .int .u64 0, .string ⟨#[]⟩, .slice none 0 0, .slice none 0 0, .int .i64 0, .int .i64 k, .string ⟨#[]⟩, .int .u64 p, .int .u64 0, .string ⟨#[]⟩, .slice none 0 0, .slice none 0 0, .int .i64 0] → Calls Tryz.prog 9 #[.slice none 0 0, .string ⟨#[37, 46, 42, 98]⟩, .slice (some ⟨A, 0, none⟩) 2 2] W fun x w' => x = .returned (.string (parT m e)) ∧ Below W.heap.size W w')
  (hPx : (hexT false (-1) m e).size ≤ 1000 → ∀ (A : Nat) (W : World), Esc W → KN W → A < W.heap.size → W.rangeAt A 0 [.int .i64 k, .string ⟨#[]⟩, .int .u64 p, .int .u64 0, .string ⟨#[]⟩, .slice none 0 0, .slice none 0 0, .int .i64 0] → Calls Tryz.prog 9 #[.slice none 0 0, .string ⟨#[37, 120]⟩, .slice (some ⟨A, 0, none⟩) 1 1] W fun x w' => x = .returned (.string (hexT false (-1) m e)) ∧ Below W.heap.size W w')
  (hm : m < 2 ^ 53) (he0 : -1074 ≤ e) (he1 : e ≤ 1000) (w : World) (hk : KN w) (he : Esc w) :
  Calls Tryz.prog 5 #[.agg #[.int .u64 bits, .bool b], .int .i64 prec] w fun e w' => e = .returned (.bool true) ∧ Below w.heap.size w w' := by
 have p53 : (2 : Nat) ^ 53 = 9007199254740992 := by decide
 obtain ⟨SG, hSG, hWT⟩ := par_eq m e
 obtain ⟨a0, H, B, k1, s, hD, hH, hB, hkk, ca, cb, hs, hv, hn1, hn0, h2⟩ := hex_back hm e
 have hkl : B.length + k1 = 13 := by
  have := congrArg List.length hkk
  rw [hH, List.length_append, List.length_replicate] at this
  omega
 obtain ⟨y0, hy⟩ : ∃ y0, nmE m e (-1) = y0 := ⟨_, rfl⟩
 rw [hy] at hn1 hn0
 have hy0 : -2000 ≤ y0 ∧ y0 ≤ 2000 := by
  by_cases h : m = 0
  ·have := hn0 h; omega
  ·have := hn1 h; omega
 obtain ⟨G, hG⟩ : ∃ G, (a0 :: B).foldl (fun n x => n * 16 + hvD x) 0 = G := ⟨_, rfl⟩
 rw [hG] at hv
 have hall : ∀ x ∈ a0 :: B, HexC x := fun x hx => by
  rcases List.mem_cons.1 hx with rfl | hx
  ·exact ca
  ·exact cb x hx
 have hgB : gL (a0 :: B) = (G, 1 + B.length) := by
  have := gL_fold (a0 :: B) (fun x hx => (hall x hx).hv.2) (0, 0)
  rw [hG] at this
  unfold gL
  rw [this, List.length_cons]
  congr 1
  show 0 + _ = _
  omega
 have p14 : (16 : Nat) ^ 14 = 72057594037927936 := by decide
 have hG64 : G < 72057594037927936 := by
  have h1 := gL_lt (a0 :: B) (fun x hx => .inr (hall x hx).hv.1) (0, 0)
  have h3 : ((a0 :: B).foldl gS (0, 0)).1 = G := congrArg (·.1) hgB
  rw [h3] at h1
  have h4 : (16 : Nat) ^ (a0 :: B).length ≤ 16 ^ 14 := Nat.pow_le_pow_right (by decide) (by rw [List.length_cons]; omega)
  have h5 : ((0, 0) : Nat × Nat).1 + 1 = 1 := rfl
  rw [h5, Nat.one_mul] at h1
  omega
 obtain ⟨R, hR, hRl⟩ : ∃ R : List UInt8, ((R = [] ∧ B = []) ∨ (R = 46 :: B ∧ B ≠ [])) ∧ R.length ≤ 14 := by
  by_cases h : B = []
  ·exact ⟨[], .inl ⟨rfl, h⟩, by simp⟩
  ·exact ⟨46 :: B, .inr ⟨rfl, h⟩, by rw [List.length_cons]; omega⟩
 have hRm : ∀ x ∈ R, x.toNat = 46 ∨ HexC x := fun x hx => by
  rcases hR with ⟨rfl, -⟩ | ⟨rfl, -⟩
  ·simp at hx
  ·rcases List.mem_cons.1 hx with rfl | hx
   ·exact .inl rfl
   ·exact .inr (cb x hx)
 have hgR : gL (a0 :: R) = (G, 1 + B.length) := by
  rcases hR with ⟨rfl, rfl⟩ | ⟨rfl, -⟩
  ·exact hgB
  ·rw [← hgB]; rfl
 have e1 : ((hxD m (-1)).extract 0 1).data.toList = [a0] := by rw [ext_li, hD]; rfl
 have e2 : ((hxD m (-1)).extract 1 (hxD m (-1)).size).data.toList = H := by rw [ext_li, List.take_of_length_le (by rw [list_len]; exact Nat.le_refl _), hD]; rfl
 have e3 : (hxP ((hxD m (-1)).extract 1 (hxD m (-1)).size) (-1)).data.toList = B := by
  rw [hxP_neg, e2, hB]
 obtain ⟨T, hT⟩ : ∃ T, hexT false (-1) m e = T := ⟨_, rfl⟩
 obtain ⟨X, hX⟩ : ∃ X, lnA (digT false 10 y0.natAbs) 2 = X := ⟨_, rfl⟩
 obtain ⟨sb, hsb, hsb2⟩ : ∃ sb : UInt8, (sx1 y0).data.toList = [sb] ∧ (sb.toNat = 45 ∧ y0 = -(y0.natAbs : Int) ∨ sb.toNat = 43 ∧ y0 = y0.natAbs) := by
  unfold sx1
  split
  ·exact ⟨45, rfl, .inl ⟨rfl, by omega⟩⟩
  ·exact ⟨43, rfl, .inr ⟨rfl, by omega⟩⟩
 have hP0 : (ptd false ((hxD m (-1)).extract 0 1) (hxP ((hxD m (-1)).extract 1 (hxD m (-1)).size) (-1))).data.toList = a0 :: R := by
  have hz : (hxP ((hxD m (-1)).extract 1 (hxD m (-1)).size) (-1)).size = B.length := by rw [← list_len, e3]
  unfold ptd
  rcases hR with ⟨rfl, hb⟩ | ⟨rfl, hb⟩
  ·rw [if_pos ⟨by rw [hz, hb]; rfl, rfl⟩, e1]
  ·have : 0 < B.length := List.length_pos_iff.2 hb
   rw [if_neg (by rw [hz]; omega), app_list, app_list, e1, e3]; rfl
 have hTl : T.data.toList = 48 :: 120 :: a0 :: (R ++ (112 :: sb :: X.data.toList)) := by
  rw [← hT]
  unfold hexT sgd
  rw [hy, hX, app_list, app_list, app_list, app_list, hP0, hsb]
  simp
 have hdz := digT_size false 10 y0.natAbs
 have hXz : 2 ≤ X.size ∧ X.size ≤ 100 := by rw [← hX, lnA_size]; omega
 have hXl : X.data.toList = List.replicate (2 - ((digT false 10 y0.natAbs).size : Int)).toNat 48 ++ (digT false 10 y0.natAbs).data.toList := by rw [← hX, lnA_list]
 have dX : allD X.data.toList = true := by rw [hXl, allD_append, allD_rep, allD_dig10]; rfl
 have nX : num X.data.toList = y0.natAbs := by rw [hXl, num_lead, dig_num _ (by omega)]
 have hXL : X.data.toList.length = X.size := list_len X
 have hTz : T.size = R.length + 5 + X.size := by
  rw [← list_len, hTl, List.length_cons, List.length_cons, List.length_cons, List.length_append, List.length_cons, List.length_cons]; omega
 have hdt : ∀ i, i ≤ R.length + 1 + 1 + 1 → (T.data.toList.take i).drop 2 = (a0 :: R).take (i - 2) := fun i hi => by
  rw [List.drop_take, hTl]
  show (a0 :: (R ++ (112 :: sb :: X.data.toList))).take (i - 2) = _
  rw [← List.cons_append, List.take_append_of_le_length (by rw [List.length_cons]; omega)]
 rw [hT] at hPx
 replace hPx := hPx (by omega)
 obtain ⟨S1, QN, pw, hR, hQ9, hS9, hp0, hpM, HPw⟩ := int_back (X := X) (M := y0.natAbs) (by omega) dX nX (by omega) (by omega)
 refine tbits_front (N := R.length + 1 + 1 + 1) (G := G) (x0 := ((1 + B.length - 1 : Nat) : Int)) (y0 := y0) (X := X) (pw := pw) hq hFl hP (by omega) (by omega) (by omega) hSG rfl rfl hWT hPb hPs hPx ?_ (by omega) (by omega) ?_ (by omega) (by omega) ?_ ?_ ?_ ?_ ?_ ?_ hR (by omega) (by omega) hp0 HPw (by omega) w hk he
 ·intro z hz
  by_cases h0 : m = 0
  ·have hG0 : G = 0 := by
    rw [h0, Nat.zero_mul] at hv
    rcases Nat.mul_eq_zero.1 hv with h | h
    ·exact h
    ·have : 0 < 16 ^ k1 := Nat.pow_pos (by decide)
     omega
   have := hn0 h0
   have h3 := exC (m := G) (e := z) (by omega) (by omega) (by omega)
   have h4 : exU G z = exU m e := by rw [hG0, h0, exU_nil, exU_nil]
   rw [h4] at h3
   exact h3
  ·have := hn1 h0
   have hze : z = e - s + (4 * k1 : Nat) := by omega
   have h3 := exC (m := G) (e := z) (by omega) (by omega) (by omega)
   have h4 : exU G z = exU m e := by rw [hze]; exact exU_back hv (by omega) (by omega) (by omega)
   rw [h4] at h3
   exact h3
 ·apply ByteArray.ext; apply Array.ext'
  rw [ext_li, hTl]; rfl
 ·intro h
  rw [at_of7 h (x := 112) (by rw [hTl, List.getElem?_cons_succ, List.getElem?_cons_succ, List.getElem?_cons_succ, List.getElem?_append_right (Nat.le_refl _), Nat.sub_self]; rfl)]
  rfl
 ·intro h
  rw [at_of7 h (x := sb) (by rw [hTl, List.getElem?_cons_succ, List.getElem?_cons_succ, List.getElem?_cons_succ, List.getElem?_append_right (by omega), Nat.add_sub_cancel_left]; rfl)]
  rw [hpM]
  exact hsb2
 ·intro i h h2i hi
  by_cases h3 : i = 2
  ·subst h3
   rw [at_of7 h (x := a0) (by rw [hTl]; rfl)]
   exact .inr ca
  ·obtain ⟨j, rfl⟩ : ∃ j, i = j + 1 + 1 + 1 := ⟨i - 3, by omega⟩
   have hj : j < R.length := by omega
   rw [at_of7 h (x := R[j]) (by rw [hTl, List.getElem?_cons_succ, List.getElem?_cons_succ, List.getElem?_cons_succ, List.getElem?_append_left hj, List.getElem?_eq_getElem hj])]
   rcases hRm _ (List.getElem_mem hj) with h4 | h4
   ·exact .inl ⟨h4, by omega⟩
   ·exact .inr h4
 ·intro i hi
  rw [hdt i (by omega)]
  have h1 := gL_lt ((a0 :: R).take (i - 2)) (fun x hx => by
   rcases List.mem_cons.1 (List.mem_of_mem_take hx) with rfl | h
   ·exact .inr ca.hv.1
   ·rcases hRm x h with h | h
    ·exact .inl h
    ·exact .inr h.hv.1) (0, 0)
  have h4 : (16 : Nat) ^ ((a0 :: R).take (i - 2)).length ≤ 16 ^ 14 := Nat.pow_le_pow_right (by decide) (by rw [List.length_take]; omega)
  have h5 : ((0, 0) : Nat × Nat).1 + 1 = 1 := rfl
  rw [h5, Nat.one_mul] at h1
  have h6 : (gL ((a0 :: R).take (i - 2))).1 < 72057594037927936 := by unfold gL; omega
  omega
 ·refine ⟨1 + B.length, ?_, rfl⟩
  rw [hdt _ (Nat.le_refl _), List.take_of_length_le (by rw [List.length_cons]; omega)]
  exact hgR
 ·apply ByteArray.ext; apply Array.ext'
  have hl2 : T.data.toList = (48 :: 120 :: a0 :: (R ++ [112, sb])) ++ X.data.toList := by rw [hTl]; simp
  rw [ext_li, List.take_of_length_le (by rw [list_len]; exact Nat.le_refl _), hl2, List.drop_left' (by simp)]
theorem topBits_walk (m0 : Int) (b : Bool) (hm0 : (Lit.int .u64 m0).wf = true) (prec : Int) (w : World) (hk : KN w) (he : Esc w) :
  Calls Tryz.prog 5 #[.agg #[.int .u64 m0, .bool b], .int .i64 prec] w fun e w' => e = .returned (.bool true) ∧ Below w.heap.size w w' := by
 obtain ⟨bits, n, f, ww, least, I, p, k, rfl, h, hp, hp9, hkn, hFl⟩ := pat9 m0 hm0 b
 have hbp := bare_small h hp
 obtain ⟨d, hdB, gd, hF⟩ := fin_of (bits := p) h (by omega) (by rw [hbp]; exact hp)
 rw [hbp] at hdB hF
 have hsg : sgn f ww p = false := by
  have h2 := hbp
  unfold sgn
  unfold bare at h2
  have : p / 2 ^ (f + ww) = 0 := Nat.div_eq_of_lt (by have := Nat.mod_lt p (show 0 < 2 ^ (f + ww) from Nat.pow_pos (by decide)); omega)
  rw [this]; rfl
 rw [hsg] at hF
 have hl : -1074 ≤ least ∧ least ≤ -149 := by rcases h with ⟨-, -, -, rfl, -⟩ | ⟨-, -, -, rfl, -⟩ <;> decide
 obtain ⟨-, -, -, -, -, -, -, -, q2⟩ := h.pk
 have q3 := q2 _ hp
 have hm := hF.m53
 have h64 : (2 : Nat) ^ 53 = 9007199254740992 := by decide
 obtain ⟨q, hq⟩ : ∃ q, max 0 (min prec 1000) = q := ⟨_, rfl⟩
 have hX2 := exC (m := pm f p) (e := least + pk f p) (by omega) (by omega) (by omega)
 have f1 := float_fin hF false false false false false (-1) (-1) 98 (by decide)
 have f2 := float_fin hF false false false false false (-1) q 98 (by decide)
 have f3 := float_fin hF false false false false false (-1) (-1) 120 (by decide)
 rw [filT_bare _ (asc_fin _ _ _ _ _ _ _), finT_98] at f1
 rw [filT_bare _ (asc_fin _ _ _ _ _ _ _), finT_98] at f2
 rw [filT_bare _ (asc_fin _ _ _ _ _ _ _), finT_120, show min (-1 : Int) 1000 = -1 by decide] at f3
 obtain ⟨c1, a1, a2, a3, a4, a5, a6, a7, a8, a9⟩ := bi_prs 98 (.inl rfl)
 obtain ⟨c2, d1, d2, d3, d4, d5, d6, d7, d8, d9⟩ := bi_prs 120 (.inr rfl)
 obtain ⟨pc, p1, p2, p3, p4, p5, p6, p7, x, p8⟩ := bs_prs
 have z1 : (parT (pm f p) (least + pk f p)).size ≤ 4000 := by
  unfold parT
  have h1 := (digT_size false 10 (pm f p)).1
  have h2 := (sgd_size (least + pk f p) 1 (by decide)).1
  have h3 : (⟨#[112]⟩ : ByteArray).size = 1 := rfl
  rw [app_size, app_size, h3]; omega
 refine bits_any hq (hFl hF.pt hX2) hF.pt (fun A W he hk hA hd => ?_) (fun A W he hk hA hd => ?_) (fun z2 A W he hk hA hd => ?_) hm (by omega) q3 w hk he
 ·refine pr_F1 _ c1 a1 (by decide) a2 a3 a4 a5 a6 a7 (by rw [a8]; decide) (by rw [a8]; decide) (by rw [a9]) hkn (by omega) (T := parT (pm f p) (least + pk f p)) ?_ (by omega) A 1 (by decide) (by decide) W he hk hA hd
  rw [a9]
  exact f1
 ·refine pr_F2 _ pc p1 (by decide) p2 p3 p4 p5 p6 p7 (by rw [p8]; show ¬ (98 : Int) = 37; decide) (by rw [p8]; show ¬ (98 : Int) = 84; decide) (by rw [p8]) q (by omega) (by omega) hkn (by omega) (T := parT (pm f p) (least + pk f p)) ?_ (by omega) A 2 (by decide) (by decide) W he hk hA hd
  rw [p8]
  exact f2
 ·refine pr_F1 _ c2 d1 (by decide) d2 d3 d4 d5 d6 d7 (by rw [d8]; decide) (by rw [d8]; decide) (by rw [d9]) hkn (by omega) (T := hexT false (-1) (pm f p) (least + pk f p)) ?_ (by omega) A 1 (by decide) (by decide) W he hk hA hd
  rw [d9]
  exact f3
end Go.Proofs.YtiagjheifblkiaaGreatDoor
namespace Go.Proofs.YtiagjheifblkiaaGreatDoor
open Go.ChangeShapes Go.WideShapes Go.ChangeAt Go.RowKit
theorem laid.own : ownKnob Tryz.prog.godebug = none := by kernel_rfl
theorem laid.tEsc : (Tryz.prog.globals[4]?).map (·.type) = some 381 := by kernel_rfl
theorem laid.door_met (os : Os) (args : Array Value) : laidMetH Tryz.prog Rows.topBitsRow.laid ((World.laidAll Tryz.prog os Rows.topBitsRow.laid).forCall (fun _ _ => 0) ⟨#[], args, []⟩).memory := by
 rw [MakeChecks.laidMetH_plain _ _ _ (by kernel_rfl)]
 exact laidMet_laidAll _ (by kernel_rfl) (by kernel_rfl)
theorem kn_of {W : World} (h : laidMetH Tryz.prog Rows.topBitsRow.laid W) : KN W := by
 rw [MakeChecks.laidMetH_plain _ _ _ (by kernel_rfl)] at h
 obtain ⟨ps, ⟨_, _, _, _, _, _, _, _, _, _, ⟨g', t', cs, fuel, p, q, hg', ht', hvar, hd, _, _⟩, _⟩, _, _⟩ := h
 have hg : Tryz.prog.globalNamed "platen/values.kindNames" = some 3 := by kernel_rfl
 have hty : (Tryz.prog.globals[3]?).map (·.type) = some 232 := by kernel_rfl
 obtain rfl := Option.some.inj (hg.symm.trans hg')
 obtain rfl := Option.some.inj (hty.symm.trans ht')
 obtain ⟨xs, m, -, hx, -, hxl, hf⟩ := DataW.trod_array Tryz.underlying232 hd
 have hce : Tryz.prog.cellsOf 9 = 1 := by kernel_rfl
 intro i s hs
 have hi : i < 23 := by
  have := (List.getElem?_eq_some_iff.1 hs).1
  simpa [kindN] using this
 have hfi := hf i hi
 obtain ⟨y, hy⟩ : ∃ y, xs[i]? = some y := ⟨xs[i]'(by omega), List.getElem?_eq_getElem (by omega)⟩
 rw [hy, hce, Nat.mul_one] at hfi
 obtain ⟨s', hc, hy1, -⟩ := DataW.trod_string Tryz.underlying9 hfi
 have hlist : xs.map (·.1) = kindN.map fun s => (DataW.lit (.string s.data.toList) : DataW Unit) := by
  have h1 : (DataW.agg (kindN.map fun s => (DataW.lit (.string s.data.toList) : DataW Unit)) : DataW Unit) = .agg (xs.map (·.1)) := congrArg Prod.fst hx
  exact (DataW.agg.inj h1).symm
 have h2 : (xs.map (·.1))[i]? = some y.1 := by rw [List.getElem?_map, hy]; rfl
 rw [hlist, List.getElem?_map, hs] at h2
 have h3 : (DataW.lit (.string s.data.toList) : DataW Unit) = y.1 := Option.some.inj h2
 rw [hy1] at h3
 have h4 : s.data.toList = s'.data.toList := Lit.string.inj (DataW.lit.inj h3)
 have h5 : s = s' := by
  obtain ⟨⟨a⟩⟩ := s
  obtain ⟨⟨b⟩⟩ := s'
  simp only at h4
  rw [h4]
 have h6 : cs[i]? = some (.string s') := by
  have := congrArg (·[0]?) hc
  simpa [List.getElem?_take, List.getElem?_drop] using this
 rw [World.var?_cell hg hvar i, h6, h5]
theorem laid.room {W : World} {p : Addr} {v : Value} (h : W.cell? p = some v) : p.block < W.heap.size := by
 rcases Nat.lt_or_ge p.block W.heap.size with h1 | h1
 ·exact h1
 ·simp [World.cell?, Array.getElem?_eq_none h1] at h
theorem laid.get (l : List Value) (i : Nat) (v : Value) (h : (l.drop i).take 1 = [v]) : l[i]? = some v := by
 have h2 := congrArg (fun x => x[0]?) h
 simpa [List.getElem?_take, List.getElem?_drop] using h2
set_option maxRecDepth 1000000 in
theorem esc_of {W : World} (h : laidMetH Tryz.prog Rows.topBitsRow.laid W) : Esc W := by
 rw [MakeChecks.laidMetH_plain _ _ _ (by kernel_rfl)] at h
 obtain ⟨ps, ⟨_, _, _, _, _, _, _, _, _, _, ⟨_, _, _, _, _, _, _, _, _, _, ⟨g0, t0, cs0, f0, p0, q0, hg0, ht0, hv0, hd0, _, _⟩, _⟩, _⟩, _, _⟩ := h
 obtain rfl : 4 = g0 := Option.some.inj (Eq.trans (Eq.symm (by kernel_rfl)) hg0)
 obtain rfl := Option.some.inj (laid.tEsc.symm.trans ht0)
 obtain ⟨xs, m1, rfl, hx1, hlen, hn, hel⟩ := DataW.trod_array Tryz.underlying381 hd0
 have c1 : Tryz.prog.cellsOf 21 = 1 := by kernel_rfl
 have c7 : Tryz.prog.cellsOf 381 = 7 := by kernel_rfl
 simp only [Prod.mk.injEq, Rows.laid_platen_quote_escapes, DataW.agg.injEq] at hx1
 have key : ∀ i, i < 7 → W.cell? ⟨4, i, none⟩ = some (.int .i32 (escT i : Nat)) := by
  intro i hi
  have hcell := World.var?_cell hg0 hv0 i
  have h0 := hel i hi
  have hx : ∃ x, xs[i]? = some x ∧ x.1 = .lit (.int .i32 (escT i : Nat)) := by
   match xs, hn, hx1 with
   | [x0, x1, x2, x3, x4, x5, x6], _, hx1 =>
     simp only [List.map_cons, List.map_nil, List.cons.injEq] at hx1
     obtain ⟨⟨e0, e1, e2, e3, e4, e5, e6, -⟩, -⟩ := hx1
     match i, hi with
     | 0, _ => exact ⟨x0, rfl, e0.symm⟩
     | 1, _ => exact ⟨x1, rfl, e1.symm⟩
     | 2, _ => exact ⟨x2, rfl, e2.symm⟩
     | 3, _ => exact ⟨x3, rfl, e3.symm⟩
     | 4, _ => exact ⟨x4, rfl, e4.symm⟩
     | 5, _ => exact ⟨x5, rfl, e5.symm⟩
     | 6, _ => exact ⟨x6, rfl, e6.symm⟩
     | n + 7, hi => omega
  obtain ⟨x, hxi, hxv⟩ := hx
  rw [hxi, c1, Nat.mul_one] at h0
  obtain ⟨k, f1, f2, _⟩ := DataW.trod_int Tryz.underlying21 h0
  rw [f2] at hxv
  have hk : k = (escT i : Nat) := by simpa using hxv
  rw [hk] at f1
  rw [hcell]
  have := laid.get _ _ _ f1
  simpa using this
 exact ⟨laid.room (key 0 (by omega)), key⟩
end Go.Proofs.YtiagjheifblkiaaGreatDoor
namespace Go.Proofs.YtiagjheifblkiaaGreatDoor
open Go.ChangeShapes Go.WideShapes Go.ChangeAt Go.RowKit
theorem array2b {α : Type} {cs : Array α} (h : cs.size = 2) : ∃ c0 c1, cs = #[c0, c1] := by
 obtain ⟨l⟩ := cs
 match l, h with
 | [c0, c1], _ => exact ⟨c0, c1, rfl⟩
theorem cellsU64b : Tryz.prog.cellsOf 22 = 1 := by kernel_rfl
theorem cellsBoolb : Tryz.prog.cellsOf 4 = 1 := by kernel_rfl
theorem cellsBits : Tryz.prog.cellsOf 24 = 2 := by kernel_rfl
set_option maxRecDepth 1000000 in
theorem open_bits {H : Type} {enc : TypeId × Value → H} {W : World} {base : Nat} {v : Value} {d : DataW H} {p : List MemPlace}
  (hv : Value.okWide Tryz.prog W .any base 24 v) (h : DataW.Trod enc Tryz.prog W 0 (fun _ => true) true 24 v d p) :
  ∃ (x : Int) (b : Bool), v = .agg #[.int .u64 x, .bool b] ∧ (Lit.int .u64 x).wf = true := by
 obtain ⟨cs, rfl, hsz⟩ := okWide_struct Tryz.underlying24 hv
 obtain ⟨c0, c1, rfl⟩ := array2b (hsz.trans cellsBits)
 obtain ⟨fuel, hf0⟩ := h
 obtain ⟨xs, n, _, _, _, hlen, hf⟩ := DataW.trod_struct Tryz.underlying24 hf0
 match xs, hlen with
 | [y0, y1], _ =>
   have g0 : DataW.trod enc Tryz.prog W 0 (fun _ => true) true n 22 [c0] = some y0 := by simpa [Value.cells, cellsU64b] using hf 0 _ rfl
   have g1 : DataW.trod enc Tryz.prog W 0 (fun _ => true) true n 4 [c1] = some y1 := by simpa [Value.cells, cellsBoolb] using hf 1 _ rfl
   obtain ⟨x, e0, _, w0⟩ := DataW.trod_int Tryz.underlying22 g0
   obtain ⟨b, e1, _⟩ := DataW.trod_bool Tryz.underlying4 g1
   simp only [List.cons.injEq, and_true] at e0 e1
   subst e0 e1
   exact ⟨x, b, rfl, w0⟩
end Go.Proofs.YtiagjheifblkiaaGreatDoor
