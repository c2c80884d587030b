/- FReadM, FVerb6, FExact: these texts in one. -/
import Derived.Test.YtiagjheifblkiaaGreatDoorPt36
namespace Go.Proofs.YtiagjheifblkiaaGreatDoor
open Go.RowKit
set_option linter.unusedVariables false
set_option linter.unusedSimpArgs false
theorem normC_of {s : ByteArray} {p : Int} {u : Nat} (hz : s.size ≤ 2000) (hdB : allD s.data.toList = true) (h0 : -5000 ≤ p) (h1 : p ≤ 5000) (hu : V s.data.toList p = u) : NormC s p (oS u) (oP u) 0 := fun w => by
 have := norm_any s p w (by omega)
 have e := normE_ok (s := s) (p := p) (by omega) hdB (by omega) (by omega)
 rw [e, normV_ok e, hu] at this
 exact this
theorem posRead {A B : ByteArray} {u : Nat} (sh : Bool) (hA : allD A.data.toList = true) (hB : allD B.data.toList = true) (hA1 : 1 ≤ A.size) (hz : A.size + B.size ≤ 2000) (hu : V (A.data.toList ++ B.data.toList) A.size = u) : R6C (ptd sh A B) (oS u) (oP u) := by
 have hAB : allD (A ++ B).data.toList = true := by rw [app_list, allD_append, hA, hB]; rfl
 have hN : NormC (A ++ B) (A.size : Nat) (oS u) (oP u) 0 := normC_of (by rw [app_size]; omega) hAB (by omega) (by omega) (by rw [app_list]; exact hu)
 have hp := ptd_size sh A B
 have hl : A.data.toList.length = A.size := list_len A
 have hsz : (A ++ B).size = A.size + B.size := app_size A B
 by_cases h : B.size = 0 ∧ sh = false
 ·have e : ptd sh A B = A := by unfold ptd; rw [if_pos h]
  have eB : B.data.toList = [] := List.eq_nil_of_length_eq_zero (by rw [list_len]; exact h.1)
  rw [e]
  exact read_plain (D0 := A ++ B) (p0 := A.size) (dot0 := false) (by omega) (by omega) (plain_all hA) (by show _ = _; rw [rdL_all _ hA, app_list, eB, List.append_nil, hl]) hN
 ·have e : (ptd sh A B).data.toList = A.data.toList ++ (46 :: B.data.toList) := by
   unfold ptd
   rw [if_neg h, app_list, app_list]
   simp
  exact read_plain (D0 := A ++ B) (p0 := A.size) (dot0 := true) (by omega) (by omega) (by show Plain10 _; rw [e]; exact plain_dot hA hB) (by show _ = _; rw [e, rdL_dot _ _ hA hB, app_list, hl]) hN
theorem num_lead (k : Nat) (l : List UInt8) : num (List.replicate k 48 ++ l) = num l := by rw [num_append, num_zeros]; simp
theorem dig_num (n : Nat) (hn : n < 18446744073709551616) : num (digT false 10 n).data.toList = n := by
 have h : num (digT false 10 n).data.toList = valL 10 dgD (digS false 10 n) := rfl
 rw [h]
 refine valL_digS false 10 n dgD (by decide) (fun d hdB => ?_) (by rw [show (2 : Nat) ^ 64 = 18446744073709551616 by decide]; exact hn)
 have : ∀ d : Fin 10, dgD (hexB false d.val) = d.val := by decide
 exact this ⟨d, hdB⟩
theorem allD_dig10 (n : Nat) : allD (digT false 10 n).data.toList = true := allD_of fun x hx => by
 obtain ⟨d, hdB, rfl⟩ := digS_mem false 10 n (by decide) x hx
 have : ∀ d : Fin 10, isD (hexB false d.val) = true := by decide
 exact this ⟨d, hdB⟩
theorem allD_rep (k : Nat) : allD (List.replicate k 48) = true := allD_of fun x hx => by rw [List.eq_of_mem_replicate hx]; decide
theorem digF_low (g : Bool) : ∀ (k f m : Nat), m < 10 ^ k → (digF g 10 f m).length ≤ k
 | _, 0, _, _ => Nat.zero_le _
 | 0, f + 1, m, h => by
   have : m = 0 := by simpa using h
   simp [digF, this]
 | k + 1, f + 1, m, h => by
   simp only [digF]
   split
   ·exact Nat.zero_le _
   ·have := digF_low g k f (m / 10) (by rw [Nat.pow_succ] at h; omega)
    rw [List.length_append]
    exact Nat.succ_le_succ this
theorem dig4 (n : Nat) (h : n < 10000) : (digT false 10 n).size ≤ 4 := by
 have h1 := digF_low false 3 64 (n / 10) (by show n / 10 < 1000; omega)
 have h3 : (digT false 10 n).size = (digS false 10 n).length := by simp [digT, ByteArray.size]
 rw [h3]
 unfold digS digP
 rw [List.length_append]
 exact Nat.succ_le_succ h1
theorem sciRead {G mk : ByteArray} {x : Int} {u : Nat} (sh : Bool) (hm : mk = ⟨#[101]⟩ ∨ mk = ⟨#[69]⟩) (hG : allD G.data.toList = true) (h1 : 1 ≤ G.size) (hz : G.size ≤ 2000) (hx0 : -1000 ≤ x) (hx1 : x ≤ 1000) (hu : V G.data.toList (1 + x) = u) : R6C ((ptd sh (G.extract 0 1) (G.extract 1 G.size) ++ mk) ++ sgd x 2) (oS u) (oP u) := by
 obtain ⟨A, hA⟩ : ∃ A, G.extract 0 1 = A := ⟨_, rfl⟩
 obtain ⟨B, hB⟩ : ∃ B, G.extract 1 G.size = B := ⟨_, rfl⟩
 rw [hA, hB]
 have hAl : A.data.toList = G.data.toList.take 1 := by rw [← hA, ext_li]; simp
 have hBl : B.data.toList = G.data.toList.drop 1 := by rw [← hB, ext_li, List.take_of_length_le (by rw [list_len]; exact Nat.le_refl _)]
 have hAz : A.size = 1 := by rw [← hA, ByteArray.size_extract]; omega
 have hBz : B.size = G.size - 1 := by rw [← hB, ByteArray.size_extract]; omega
 have hAB : A.data.toList ++ B.data.toList = G.data.toList := by rw [hAl, hBl, List.take_append_drop]
 have dA : allD A.data.toList = true := by rw [hAl]; exact allD_of fun x hx => allD_mem hG (List.mem_of_mem_take hx)
 have dB : allD B.data.toList = true := by rw [hBl]; exact allD_of fun x hx => allD_mem hG (List.mem_of_mem_drop hx)
 obtain ⟨P, hP⟩ : ∃ P, ptd sh A B = P := ⟨_, rfl⟩
 have hPp : Plain10 P.data.toList ∧ ∃ dot, rdL P.data.toList = (G.data.toList, 1, dot) := by
  rw [← hP]
  by_cases h : B.size = 0 ∧ sh = false
  ·have e : ptd sh A B = A := by unfold ptd; rw [if_pos h]
   have eB : B.data.toList = [] := List.eq_nil_of_length_eq_zero (by rw [list_len]; exact h.1)
   rw [e]
   rw [eB, List.append_nil] at hAB
   exact ⟨plain_all dA, false, by rw [rdL_all _ dA, hAB, ← hAB, list_len, hAz]⟩
  ·have e : (ptd sh A B).data.toList = A.data.toList ++ (46 :: B.data.toList) := by
    unfold ptd
    rw [if_neg h, app_list, app_list]
    simp
   rw [e]
   exact ⟨plain_dot dA dB, true, by rw [rdL_dot _ _ dA dB, hAB, list_len, hAz]⟩
 obtain ⟨hPp, dot, hPr⟩ := hPp
 have hPz := ptd_size sh A B
 rw [hP] at hPz ⊢
 obtain ⟨X, hX⟩ : ∃ X, lnA (digT false 10 x.natAbs) 2 = X := ⟨_, rfl⟩
 have hdz := digT_size false 10 x.natAbs
 have hd4 := dig4 x.natAbs (by omega)
 have hXz : 2 ≤ X.size ∧ X.size ≤ 4 := by rw [← hX, lnA_size]; omega
 have hXl : X.data.toList = List.replicate (2 - ((digT false 10 x.natAbs).size : Int)).toNat 48 ++ (digT false 10 x.natAbs).data.toList := by rw [← hX, lnA_list]
 have dX : allD X.data.toList = true := by rw [hXl, allD_append, allD_rep, allD_dig10]; rfl
 have nX : num X.data.toList = x.natAbs := by rw [hXl, num_lead, dig_num _ (by omega)]
 have hmz : mk.size = 1 := by rcases hm with rfl | rfl <;> rfl
 obtain ⟨sg, hsg⟩ : ∃ sg, sx1 x = sg := ⟨_, rfl⟩
 have hsz : sg.size = 1 := by rw [← hsg]; exact sx1_size x
 have eS : sgd x 2 = sg ++ X := by unfold sgd; rw [hsg, hX]
 rw [eS]
 obtain ⟨s, hs⟩ : ∃ s, (P ++ mk) ++ (sg ++ X) = s := ⟨_, rfl⟩
 rw [hs]
 have hss : s.size = P.size + 1 + (1 + X.size) := by rw [← hs, app_size, app_size, app_size, hmz, hsz]
 have hsl : s.data.toList = P.data.toList ++ (mk.data.toList ++ (sg.data.toList ++ X.data.toList)) := by rw [← hs, app_list, app_list, app_list]; simp
 have hPl : P.data.toList.length = P.size := list_len P
 have hml : mk.data.toList.length = 1 := by rw [list_len]; exact hmz
 have hgl : sg.data.toList.length = 1 := by rw [list_len]; exact hsz
 have hat : ∀ i (h : i < s.size), (s[i]'h) = s.data.toList[i]'(by rw [list_len]; exact h) := fun i h => rfl
 have HG : ∀ k (h : k < s.size), k < P.size → isD (s[k]'h) = true ∨ ((s[k]'h) = 46 ∧ (rdL (s.data.toList.take k)).2.2 = false) := fun k h hk => by
  have h2 := hPp k (by omega)
  have e1 : (s[k]'h) = P.data.toList[k]'(by omega) := by
   rw [hat]
   simp only [hsl]
   rw [List.getElem_append_left (by omega)]
  have e2 : s.data.toList.take k = P.data.toList.take k := by rw [hsl, List.take_append_of_le_length (by omega)]
  rw [e1, e2]
  exact h2
 have HE : rdL (s.data.toList.take P.size) = (G.data.toList, 1, dot) := by
  rw [hsl, List.take_append_of_le_length (by omega), List.take_of_length_le (by omega)]
  exact hPr
 have hXe : s.extract (P.size + 2) s.size = X := by
  apply ByteArray.ext; apply Array.ext'
  rw [ext_li, List.take_of_length_le (by rw [list_len]; exact Nat.le_refl _), hsl, ← List.append_assoc, ← List.append_assoc]
  rw [List.drop_left' (by rw [List.length_append, List.length_append]; omega)]
 have hce : ∀ (h : P.size < s.size), (s[P.size]'h).toNat = (mk.data.toList[0]'(by omega)).toNat := fun h => by
  rw [hat]
  simp only [hsl]
  rw [List.getElem_append_right (by omega), List.getElem_append_left (by omega)]
  congr 2; omega
 have hcs : ∀ (h : P.size + 1 < s.size), (s[P.size + 1]'h).toNat = (sg.data.toList[0]'(by omega)).toNat := fun h => by
  rw [hat]
  simp only [hsl]
  rw [List.getElem_append_right (by omega), List.getElem_append_right (by omega), List.getElem_append_left (by omega)]
  congr 2; omega
 have hNn : (num X.data.toList : Int) ≤ 1000 := by rw [nX]; omega
 by_cases hxn : x < 0
 ·have esg : sg = ⟨#[45]⟩ := by rw [← hsg]; unfold sx1; rw [if_pos hxn]
  subst esg
  have hN : NormC G ((1 : Nat) - (num X.data.toList : Nat) : Int) (oS u) (oP u) 0 := normC_of hz hG (by omega) (by omega) (by rw [← hu]; congr 1; rw [nX]; omega)
  rcases hm with rfl | rfl
  ·exact read_e_m (by omega) h1 (by omega) (by omega) HG HE (hce _) (hcs _) hXe dX (by show num X.data.toList ≤ 1000; omega) hN
  ·exact read_E_m (by omega) h1 (by omega) (by omega) HG HE (hce _) (hcs _) hXe dX (by show num X.data.toList ≤ 1000; omega) hN
 ·have esg : sg = ⟨#[43]⟩ := by rw [← hsg]; unfold sx1; rw [if_neg hxn]
  subst esg
  have hN : NormC G ((1 : Nat) + (num X.data.toList : Nat) : Int) (oS u) (oP u) 0 := normC_of hz hG (by omega) (by omega) (by rw [← hu]; congr 1; rw [nX]; omega)
  rcases hm with rfl | rfl
  ·exact read_e_p (by omega) h1 (by omega) (by omega) HG HE (hce _) (hcs _) hXe dX (by show num X.data.toList ≤ 1000; omega) hN
  ·exact read_E_p (by omega) h1 (by omega) (by omega) HG HE (hce _) (hcs _) hXe dX (by show num X.data.toList ≤ 1000; omega) hN
theorem V_zeros (l : List UInt8) (k : Nat) (p : Int) (h : -10000 ≤ p - ((l.length : Int) + k)) : V (l ++ List.replicate k 48) p = V l p := by
 unfold V
 rw [num_append, num_zeros, Nat.add_zero, List.length_append, List.length_replicate, Nat.mul_assoc, ← Nat.pow_add]
 congr 2; omega
theorem V_lnB (s : ByteArray) (n p : Int) (h : -10000 ≤ p - max (s.size : Int) n) : V (lnB s n).data.toList p = V s.data.toList p := by
 rw [lnB_list]
 refine V_zeros _ _ _ ?_
 rw [list_len]; omega
theorem V_ahead (l : List UInt8) (n : Nat) (p : Int) : V (List.replicate n 48 ++ l) p = V l (p - n) := by
 unfold V
 rw [num_lead, List.length_append, List.length_replicate]
 congr 2; omega
theorem V_around (G : ByteArray) (q k : Int) (h0 : (G.size : Int) - q ≤ 10000) (hk : k ≤ 10000) : V ((arA G q).data.toList ++ (lnB (arB G q) k).data.toList) (arA G q).size = V G.data.toList q := by
 have hz := lnB_size G q
 have hbz := arB_size_is G q
 rw [lnB_list]
 by_cases h : q ≤ 0
 ·have eA : arA G q = ⟨#[48]⟩ := by unfold arA; rw [if_pos h]
  have eB : (arB G q).data.toList = List.replicate (-q).toNat 48 ++ G.data.toList := by
   unfold arB
   rw [if_pos h, lnA_list]
   congr 2; omega
  rw [eA, eB]
  have e1 : (⟨#[48]⟩ : ByteArray).data.toList ++ ((List.replicate (-q).toNat 48 ++ G.data.toList) ++ List.replicate (k - (arB G q).size).toNat 48) = List.replicate ((-q).toNat + 1) 48 ++ (G.data.toList ++ List.replicate (k - (arB G q).size).toNat 48) := by
   rw [List.replicate_succ, List.append_assoc]
   rfl
  rw [e1, V_ahead, V_zeros]
  ·congr 1
   show ((1 : Nat) : Int) - (((-q).toNat + 1 : Nat) : Int) = q
   omega
  ·rw [list_len]
   show -10000 ≤ ((1 : Nat) : Int) - (((-q).toNat + 1 : Nat) : Int) - _
   omega
 ·have eA : (arA G q).data.toList = (lnB G q).data.toList.take q.toNat := by
   unfold arA
   rw [if_neg h, ext_li, List.drop_zero]
  have eB : (arB G q).data.toList = (lnB G q).data.toList.drop q.toNat := by
   unfold arB
   rw [if_neg h, ext_li, List.take_of_length_le (by rw [list_len]; exact Nat.le_refl _)]
  have eZ : ((arA G q).size : Int) = q := by
   unfold arA
   rw [if_neg h, ByteArray.size_extract]; omega
  rw [← List.append_assoc, eA, eB, List.take_append_drop, eZ, lnB_list, List.append_assoc, List.replicate_append_replicate, V_zeros]
  rw [list_len]; omega
theorem around_dig {G : ByteArray} (h : allD G.data.toList = true) (q k : Int) : allD (arA G q).data.toList = true ∧ allD (lnB (arB G q) k).data.toList = true := by
 have hr : ∀ n, allD (run 48 n).data.toList = true := fun n => by rw [run_list]; exact allD_rep n
 have hB : ∀ {s : ByteArray} (n : Int), allD s.data.toList = true → allD (lnB s n).data.toList = true := fun {s} n hs => by unfold lnB; rw [app_list, allD_append, hs, hr]; rfl
 have hE : ∀ {s : ByteArray} (a b : Nat), allD s.data.toList = true → allD (s.extract a b).data.toList = true := fun {s} a b hs => by rw [ext_li]; exact allD_of fun x hx => allD_mem hs (List.mem_of_mem_take (List.mem_of_mem_drop hx))
 constructor
 ·unfold arA
  split
  ·decide
  ·exact hE _ _ (hB _ h)
 ·refine hB _ ?_
  unfold arB
  split
  ·unfold lnA; rw [app_list, allD_append, hr, h]; rfl
  ·exact hE _ _ (hB _ h)
end Go.Proofs.YtiagjheifblkiaaGreatDoor
namespace Go.Proofs.YtiagjheifblkiaaGreatDoor
open Go.RowKit
set_option linter.unusedVariables false
set_option linter.unusedSimpArgs false
theorem up7 {l : List UInt8} (h : ∀ x ∈ l, x.toNat < 97) : Lib.toUpperA l = l := by
 have h2 : ∀ y : Fin 256, y.val < 97 → Lib.upperB (UInt8.ofNat y.val) = UInt8.ofNat y.val := by decide +kernel
 unfold Lib.toUpperA
 conv => rhs; rw [← List.map_id l]
 apply List.map_congr_left
 intro x hx
 have h3 := h2 ⟨x.toNat, x.toNat_lt⟩ (h x hx)
 simpa using h3
theorem up7_app (a b : List UInt8) : Lib.toUpperA (a ++ b) = Lib.toUpperA a ++ Lib.toUpperA b := by simp [Lib.toUpperA]
theorem low7 {l : List UInt8} (h : allD l = true) : ∀ x ∈ l, x.toNat < 97 := fun x hx => by
 have := (isD_iff x).1 (allD_mem h hx)
 omega
theorem low7_ptd (sh : Bool) {A B : ByteArray} (hA : allD A.data.toList = true) (hB : allD B.data.toList = true) : ∀ x ∈ (ptd sh A B).data.toList, x.toNat < 97 := fun x hx => by
 unfold ptd at hx
 split at hx
 ·exact low7 hA x hx
 ·rw [app_list, app_list] at hx
  rcases List.mem_append.1 hx with hx | hx
  ·rcases List.mem_append.1 hx with hx | hx
   ·exact low7 hA x hx
   ·have : x = 46 := by simpa using hx
    subst this; decide
  ·exact low7 hB x hx
theorem low7_sgd (n : Int) : ∀ x ∈ (sgd n 2).data.toList, x.toNat < 97 := fun x hx => by
 unfold sgd at hx
 rw [app_list, lnA_list] at hx
 rcases List.mem_append.1 hx with hx | hx
 ·unfold sx1 at hx
  split at hx
  ·have : x = 45 := by simpa using hx
   subst this; decide
  ·have : x = 43 := by simpa using hx
   subst this; decide
 ·exact low7 (by rw [allD_append, allD_rep, allD_dig10]; rfl) x hx
theorem big7 {A G : ByteArray} (h : ∀ x ∈ A.data.toList, x.toNat < 97) (k : ∀ x ∈ G.data.toList, x.toNat < 97) : bigT true ((A ++ ⟨#[101]⟩) ++ G) = (A ++ ⟨#[69]⟩) ++ G := by
 unfold bigT
 rw [if_pos rfl]
 apply ByteArray.ext; apply Array.ext'
 rw [app_list, app_list, app_list, app_list]
 show Lib.toUpperA _ = _
 rw [up7_app, up7_app, up7 h, up7 k]
 rfl
theorem big7_same {A : ByteArray} (h : ∀ x ∈ A.data.toList, x.toNat < 97) : bigT true A = A := by
 unfold bigT
 rw [if_pos rfl]
 apply ByteArray.ext; apply Array.ext'
 exact up7 h
theorem ext_dig {G : ByteArray} (h : allD G.data.toList = true) (a b : Nat) : allD (G.extract a b).data.toList = true := by
 rw [ext_li]; exact allD_of fun x hx => allD_mem h (List.mem_of_mem_take (List.mem_of_mem_drop hx))
end Go.Proofs.YtiagjheifblkiaaGreatDoor
namespace Go.Proofs.YtiagjheifblkiaaGreatDoor
open Go.RowKit
set_option linter.unusedVariables false
set_option linter.unusedSimpArgs false
theorem five_low2 : ∃ N M : Nat, N = 1075 ∧ M = 751 ∧ 10 ^ M ≤ 5 ^ N := ⟨1075, 751, rfl, rfl, by decide +kernel⟩
theorem val_low2 {size : Int} {f ww : Nat} {least : Int} {I : Nat} (h : Ly size f ww least I) {p : Nat} (hp : p < I) (h0 : p ≠ 0) : -330 ≤ oP (val f least p) := by
 obtain ⟨N, M, hN, hM, h5⟩ := five_low2
 have hq : 1 ≤ pq f p := by
  have hm : 1 ≤ pm f p := by
   unfold pm
   split
   ·rename_i h1
    have := Nat.div_add_mod p (2 ^ f)
    rw [h1, Nat.mul_zero] at this
    omega
   ·have := pow_pos2 f; omega
  exact Nat.mul_pos hm (pow_pos2 _)
 have hl : -1074 ≤ least ∧ least ≤ -149 := by rcases h with ⟨-, -, -, rfl, -⟩ | ⟨-, -, -, rfl, -⟩ <;> decide
 have hu : exU 1 (-1075) ≤ un least := by
  have := exU_shift 1 (-1075) (least - 1 + 1075).toNat (by decide) (by omega)
  rw [show (-1075 : Int) + ((least - 1 + 1075).toNat : Nat) = least - 1 by omega, Nat.one_mul] at this
  unfold un
  rw [this]
  have h2 := pow_pos2 (least - 1 + 1075).toNat
  exact Nat.le_mul_of_pos_left _ h2
 have he : exU 1 (-1075) = 5 ^ N * 10 ^ 8925 := by
  rw [exU_dn _ (by decide), Nat.one_mul]
  congr 2
  omega
 have hv : 10 ^ (M + 8925) ≤ val f least p := by
  have h1 : 10 ^ (M + 8925) ≤ exU 1 (-1075) := by rw [he, Nat.pow_add]; exact Nat.mul_le_mul_right _ h5
  have h2 : un least ≤ val f least p := by
   unfold val
   have : 1 ≤ 2 * pq f p := by omega
   exact Nat.le_mul_of_pos_left _ this
  omega
 have := oP_gt hv
 omega
theorem V_o1 (r : Nat) : V (oS r).data.toList (1 + pw0 r) = r := by
 by_cases h : r = 0
 ·subst h
  rw [zero_S]
  simp [V, num_nil]
 ·have e : 1 + pw0 r = oP r := by unfold pw0; rw [if_neg h]; omega
  rw [e]; exact o_val r
theorem genReadP {d : Nat} (g : Bool) (most cnt : Int) (hm : most ≤ 400) (hp : oP d ≤ 950) (hp0 : -950 ≤ oP d) (hl : (oL d).length ≤ 800) : R6C (bigT g (genG false d most cnt)) (oS d) (oP d) ∧ (bigT g (genG false d most cnt)).size ≤ 4000 := by
 have hs := oS_size d
 obtain ⟨G, hG⟩ : ∃ G, genD false d cnt = G := ⟨_, rfl⟩
 have hGe : G = lnB (oS d) 1 := by
  rw [← hG]
  unfold genD
  rw [if_neg (by decide)]
 have hGa : allD G.data.toList = true := by
  rw [hGe]
  unfold lnB
  rw [app_list, allD_append, o_dig, show allD (run 48 _).data.toList = true by rw [run_list]; exact allD_rep _]
  rfl
 have hGz : 1 ≤ G.size ∧ G.size ≤ 801 := by
  rw [hGe, lnB_size]
  omega
 have hpw : -952 ≤ pw0 d ∧ pw0 d ≤ 950 := by unfold pw0; split <;> omega
 have hV : V G.data.toList (pw0 d + 1) = d := by
  have h1 : V (oS d).data.toList (pw0 d + 1) = d := by
   rw [Int.add_comm]
   exact V_o1 d
  rw [hGe, V_lnB _ _ _ (by omega), h1]
 rw [big_size]
 unfold genG
 rw [hG]
 split
 ·have hpt := ptd_size false (G.extract 0 1) (G.extract 1 G.size)
  have e0 : (G.extract 0 1).size = 1 := by rw [ByteArray.size_extract]; omega
  have e1 : (G.extract 1 G.size).size = G.size - 1 := by rw [ByteArray.size_extract]; omega
  have hsg := sgd_size (pw0 d) 2 (by decide)
  have hmk : (⟨#[101]⟩ : ByteArray).size = 1 := rfl
  refine ⟨?_, by unfold sci; rw [app_size, app_size]; omega⟩
  cases g with
  | false => exact sciRead (mk := ⟨#[101]⟩) false (.inl rfl) hGa hGz.1 (by omega) (by omega) (by omega) (by rw [Int.add_comm]; exact hV)
  | true =>
    unfold sci
    rw [big7 (low7_ptd false (ext_dig hGa _ _) (ext_dig hGa _ _)) (low7_sgd _)]
    exact sciRead (mk := ⟨#[69]⟩) false (.inr rfl) hGa hGz.1 (by omega) (by omega) (by omega) (by rw [Int.add_comm]; exact hV)
 ·rename_i hc
  have hz := arB_size_is G (pw0 d + 1)
  obtain ⟨dA, dB⟩ := around_dig hGa (pw0 d + 1) 0
  have hA := arA_size G (pw0 d + 1) (by omega)
  have hAz : (arA G (pw0 d + 1)).size ≤ 401 := by
   unfold arA
   split
   ·show 1 ≤ 401; decide
   ·rw [ByteArray.size_extract]; omega
  rw [lnB_none _ _ (by omega)] at dB
  have hv := V_around G (pw0 d + 1) 0 (by omega) (by omega)
  rw [lnB_none _ _ (by omega), hV] at hv
  have hE : ∀ g, bigT g (ptd false (arA G (pw0 d + 1)) (arB G (pw0 d + 1))) = ptd false (arA G (pw0 d + 1)) (arB G (pw0 d + 1)) := fun g => by
   cases g
   ·rfl
   ·exact big7_same (low7_ptd false dA dB)
  have hpt := ptd_size false (arA G (pw0 d + 1)) (arB G (pw0 d + 1))
  refine ⟨?_, by omega⟩
  rw [hE]
  exact posRead false dA dB hA.2 (by omega) hv
end Go.Proofs.YtiagjheifblkiaaGreatDoor
