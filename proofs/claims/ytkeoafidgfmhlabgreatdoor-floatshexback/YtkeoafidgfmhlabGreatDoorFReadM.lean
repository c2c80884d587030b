/- What the texts of floats are read as. -/
import Derived.Test.YtkeoafidgfmhlabGreatDoorFReadE
namespace Go.Proofs.YtkeoafidgfmhlabGreatDoor
open Go.RowKit
set_option linter.unusedVariables false
set_option linter.unusedSimpArgs false

theorem normC_of {s : ByteArray} {p : Int} {u : Nat} (hz : s.size ≤ 2000) (hd : allD s.data.toList = true) (h0 : -5000 ≤ p) (h1 : p ≤ 5000) (hu : V s.data.toList p = u) : NormC s p (oS u) (oP u) 0 := fun w => by
  have := norm_any s p w (by omega)
  have e := normE_ok (s := s) (p := p) (by omega) hd (by omega) (by omega)
  rw [e, normV_ok e, hu] at this
  exact this
/-- A text of digits, a point, digits. -/
theorem posRead {A B : ByteArray} {u : Nat} (sh : Bool) (hA : allD A.data.toList = true) (hB : allD B.data.toList = true) (hA1 : 1 ≤ A.size) (hz : A.size + B.size ≤ 2000) (hu : V (A.data.toList ++ B.data.toList) A.size = u) : R6C (ptd sh A B) (oS u) (oP u) := by
  have hAB : allD (A ++ B).data.toList = true := by rw [app_list, allD_append, hA, hB]; rfl
  have hN : NormC (A ++ B) (A.size : Nat) (oS u) (oP u) 0 := normC_of (by rw [app_size]; omega) hAB (by omega) (by omega) (by rw [app_list]; exact hu)
  have hp := ptd_size sh A B
  have hl : A.data.toList.length = A.size := list_len A
  have hsz : (A ++ B).size = A.size + B.size := app_size A B
  by_cases h : B.size = 0 ∧ sh = false
  · have e : ptd sh A B = A := by unfold ptd; rw [if_pos h]
    have eB : B.data.toList = [] := List.eq_nil_of_length_eq_zero (by rw [list_len]; exact h.1)
    rw [e]
    exact read_plain (D0 := A ++ B) (p0 := A.size) (dot0 := false) (by omega) (by omega) (plain_all hA) (by show _ = _; rw [rdL_all _ hA, app_list, eB, List.append_nil, hl]) hN
  · have e : (ptd sh A B).data.toList = A.data.toList ++ (46 :: B.data.toList) := by
      unfold ptd
      rw [if_neg h, app_list, app_list]
      simp
    exact read_plain (D0 := A ++ B) (p0 := A.size) (dot0 := true) (by omega) (by omega) (by show Plain10 _; rw [e]; exact plain_dot hA hB) (by show _ = _; rw [e, rdL_dot _ _ hA hB, app_list, hl]) hN
theorem num_lead (k : Nat) (l : List UInt8) : num (List.replicate k 48 ++ l) = num l := by rw [num_append, num_zeros]; simp
theorem dig_num (n : Nat) (hn : n < 18446744073709551616) : num (digT false 10 n).data.toList = n := by
  have h : num (digT false 10 n).data.toList = valL 10 dg (digS false 10 n) := rfl
  rw [h]
  refine valL_digS false 10 n dg (by decide) (fun d hd => ?_) (by rw [show (2 : Nat) ^ 64 = 18446744073709551616 by decide]; exact hn)
  have : ∀ d : Fin 10, dg (hexB false d.val) = d.val := by decide
  exact this ⟨d, hd⟩
theorem allD_dig10 (n : Nat) : allD (digT false 10 n).data.toList = true := allD_of fun x hx => by
  obtain ⟨d, hd, rfl⟩ := digS_mem false 10 n (by decide) x hx
  have : ∀ d : Fin 10, isD (hexB false d.val) = true := by decide
  exact this ⟨d, hd⟩
theorem allD_rep (k : Nat) : allD (List.replicate k 48) = true := allD_of fun x hx => by rw [List.eq_of_mem_replicate hx]; decide
/-- A text of digits with an exponent. -/
theorem sciRead {G mk : ByteArray} {x : Int} {u : Nat} (sh : Bool) (hm : mk = ⟨#[101]⟩ ∨ mk = ⟨#[69]⟩) (hG : allD G.data.toList = true) (h1 : 1 ≤ G.size) (hz : G.size ≤ 2000) (hx0 : -1000 ≤ x) (hx1 : x ≤ 1000) (hu : V G.data.toList (1 + x) = u) : R6C ((ptd sh (G.extract 0 1) (G.extract 1 G.size) ++ mk) ++ sgd x 2) (oS u) (oP u) := by
  obtain ⟨A, hA⟩ : ∃ A, G.extract 0 1 = A := ⟨_, rfl⟩
  obtain ⟨B, hB⟩ : ∃ B, G.extract 1 G.size = B := ⟨_, rfl⟩
  rw [hA, hB]
  have hAl : A.data.toList = G.data.toList.take 1 := by rw [← hA, ext_li]; simp
  have hBl : B.data.toList = G.data.toList.drop 1 := by rw [← hB, ext_li, List.take_of_length_le (by rw [list_len]; exact Nat.le_refl _)]
  have hAz : A.size = 1 := by rw [← hA, ByteArray.size_extract]; omega
  have hBz : B.size = G.size - 1 := by rw [← hB, ByteArray.size_extract]; omega
  have hAB : A.data.toList ++ B.data.toList = G.data.toList := by rw [hAl, hBl, List.take_append_drop]
  have dA : allD A.data.toList = true := by rw [hAl]; exact allD_of fun x hx => allD_mem hG (List.mem_of_mem_take hx)
  have dB : allD B.data.toList = true := by rw [hBl]; exact allD_of fun x hx => allD_mem hG (List.mem_of_mem_drop hx)
  obtain ⟨P, hP⟩ : ∃ P, ptd sh A B = P := ⟨_, rfl⟩
  have hPp : Plain10 P.data.toList ∧ ∃ dot, rdL P.data.toList = (G.data.toList, 1, dot) := by
    rw [← hP]
    by_cases h : B.size = 0 ∧ sh = false
    · have e : ptd sh A B = A := by unfold ptd; rw [if_pos h]
      have eB : B.data.toList = [] := List.eq_nil_of_length_eq_zero (by rw [list_len]; exact h.1)
      rw [e]
      rw [eB, List.append_nil] at hAB
      exact ⟨plain_all dA, false, by rw [rdL_all _ dA, hAB, ← hAB, list_len, hAz]⟩
    · have e : (ptd sh A B).data.toList = A.data.toList ++ (46 :: B.data.toList) := by
        unfold ptd
        rw [if_neg h, app_list, app_list]
        simp
      rw [e]
      exact ⟨plain_dot dA dB, true, by rw [rdL_dot _ _ dA dB, hAB, list_len, hAz]⟩
  obtain ⟨hPp, dot, hPr⟩ := hPp
  have hPz := ptd_size sh A B
  rw [hP] at hPz ⊢
  obtain ⟨X, hX⟩ : ∃ X, lnA (digT false 10 x.natAbs) 2 = X := ⟨_, rfl⟩
  have hdz := digT_size false 10 x.natAbs
  have hXz : 2 ≤ X.size ∧ X.size ≤ 100 := by rw [← hX, lnA_size]; omega
  have hXl : X.data.toList = List.replicate (2 - ((digT false 10 x.natAbs).size : Int)).toNat 48 ++ (digT false 10 x.natAbs).data.toList := by rw [← hX, lnA_list]
  have dX : allD X.data.toList = true := by rw [hXl, allD_append, allD_rep, allD_dig10]; rfl
  have nX : num X.data.toList = x.natAbs := by rw [hXl, num_lead, dig_num _ (by omega)]
  have hmz : mk.size = 1 := by rcases hm with rfl | rfl <;> rfl
  obtain ⟨sg, hsg⟩ : ∃ sg, sx1 x = sg := ⟨_, rfl⟩
  have hsz : sg.size = 1 := by rw [← hsg]; exact sx1_size x
  have eS : sgd x 2 = sg ++ X := by unfold sgd; rw [hsg, hX]
  rw [eS]
  obtain ⟨s, hs⟩ : ∃ s, (P ++ mk) ++ (sg ++ X) = s := ⟨_, rfl⟩
  rw [hs]
  have hss : s.size = P.size + 1 + (1 + X.size) := by rw [← hs, app_size, app_size, app_size, hmz, hsz]
  have hsl : s.data.toList = P.data.toList ++ (mk.data.toList ++ (sg.data.toList ++ X.data.toList)) := by rw [← hs, app_list, app_list, app_list]; simp
  have hPl : P.data.toList.length = P.size := list_len P
  have hml : mk.data.toList.length = 1 := by rw [list_len]; exact hmz
  have hgl : sg.data.toList.length = 1 := by rw [list_len]; exact hsz
  have hat : ∀ i (h : i < s.size), (s[i]'h) = s.data.toList[i]'(by rw [list_len]; exact h) := fun i h => rfl
  have HG : ∀ k (h : k < s.size), k < P.size → isD (s[k]'h) = true ∨ ((s[k]'h) = 46 ∧ (rdL (s.data.toList.take k)).2.2 = false) := fun k h hk => by
    have h2 := hPp k (by omega)
    have e1 : (s[k]'h) = P.data.toList[k]'(by omega) := by
      rw [hat]
      simp only [hsl]
      rw [List.getElem_append_left (by omega)]
    have e2 : s.data.toList.take k = P.data.toList.take k := by rw [hsl, List.take_append_of_le_length (by omega)]
    rw [e1, e2]
    exact h2
  have HE : rdL (s.data.toList.take P.size) = (G.data.toList, 1, dot) := by
    rw [hsl, List.take_append_of_le_length (by omega), List.take_of_length_le (by omega)]
    exact hPr
  have hXe : s.extract (P.size + 2) s.size = X := by
    apply ByteArray.ext; apply Array.ext'
    rw [ext_li, List.take_of_length_le (by rw [list_len]; exact Nat.le_refl _), hsl, ← List.append_assoc, ← List.append_assoc]
    rw [List.drop_left' (by rw [List.length_append, List.length_append]; omega)]
  have hce : ∀ (h : P.size < s.size), (s[P.size]'h).toNat = (mk.data.toList[0]'(by omega)).toNat := fun h => by
    rw [hat]
    simp only [hsl]
    rw [List.getElem_append_right (by omega), List.getElem_append_left (by omega)]
    congr 2; omega
  have hcs : ∀ (h : P.size + 1 < s.size), (s[P.size + 1]'h).toNat = (sg.data.toList[0]'(by omega)).toNat := fun h => by
    rw [hat]
    simp only [hsl]
    rw [List.getElem_append_right (by omega), List.getElem_append_right (by omega), List.getElem_append_left (by omega)]
    congr 2; omega
  have hNn : (num X.data.toList : Int) ≤ 1000 := by rw [nX]; omega
  by_cases hxn : x < 0
  · have esg : sg = ⟨#[45]⟩ := by rw [← hsg]; unfold sx1; rw [if_pos hxn]
    subst esg
    have hN : NormC G ((1 : Nat) - (num X.data.toList : Nat) : Int) (oS u) (oP u) 0 := normC_of hz hG (by omega) (by omega) (by rw [← hu]; congr 1; rw [nX]; omega)
    rcases hm with rfl | rfl
    · exact read_e_m (by omega) h1 (by omega) HG HE (hce _) (hcs _) hXe dX (by show num X.data.toList ≤ 1000; omega) hN
    · exact read_E_m (by omega) h1 (by omega) HG HE (hce _) (hcs _) hXe dX (by show num X.data.toList ≤ 1000; omega) hN
  · have esg : sg = ⟨#[43]⟩ := by rw [← hsg]; unfold sx1; rw [if_neg hxn]
    subst esg
    have hN : NormC G ((1 : Nat) + (num X.data.toList : Nat) : Int) (oS u) (oP u) 0 := normC_of hz hG (by omega) (by omega) (by rw [← hu]; congr 1; rw [nX]; omega)
    rcases hm with rfl | rfl
    · exact read_e_p (by omega) h1 (by omega) HG HE (hce _) (hcs _) hXe dX (by show num X.data.toList ≤ 1000; omega) hN
    · exact read_E_p (by omega) h1 (by omega) HG HE (hce _) (hcs _) hXe dX (by show num X.data.toList ≤ 1000; omega) hN
/-- Noughts behind say nothing. -/
theorem V_zeros (l : List UInt8) (k : Nat) (p : Int) (h : -10000 ≤ p - ((l.length : Int) + k)) : V (l ++ List.replicate k 48) p = V l p := by
  unfold V
  rw [num_append, num_zeros, Nat.add_zero, List.length_append, List.length_replicate, Nat.mul_assoc, ← Nat.pow_add]
  congr 2; omega
theorem V_lnB (s : ByteArray) (n p : Int) (h : -10000 ≤ p - max (s.size : Int) n) : V (lnB s n).data.toList p = V s.data.toList p := by
  rw [lnB_list]
  refine V_zeros _ _ _ ?_
  rw [list_len]; omega
theorem V_ahead (l : List UInt8) (n : Nat) (p : Int) : V (List.replicate n 48 ++ l) p = V l (p - n) := by
  unfold V
  rw [num_lead, List.length_append, List.length_replicate]
  congr 2; omega
/-- Around the point the value is the same. -/
theorem V_around (G : ByteArray) (q k : Int) (h0 : (G.size : Int) - q ≤ 10000) (hk : k ≤ 10000) : V ((arA G q).data.toList ++ (lnB (arB G q) k).data.toList) (arA G q).size = V G.data.toList q := by
  have hz := lnB_size G q
  have hbz := arB_size_is G q
  rw [lnB_list]
  by_cases h : q ≤ 0
  · have eA : arA G q = ⟨#[48]⟩ := by unfold arA; rw [if_pos h]
    have eB : (arB G q).data.toList = List.replicate (-q).toNat 48 ++ G.data.toList := by
      unfold arB
      rw [if_pos h, lnA_list]
      congr 2; omega
    rw [eA, eB]
    have e1 : (⟨#[48]⟩ : ByteArray).data.toList ++ ((List.replicate (-q).toNat 48 ++ G.data.toList) ++ List.replicate (k - (arB G q).size).toNat 48) = List.replicate ((-q).toNat + 1) 48 ++ (G.data.toList ++ List.replicate (k - (arB G q).size).toNat 48) := by
      rw [List.replicate_succ, List.append_assoc]
      rfl
    rw [e1, V_ahead, V_zeros]
    · congr 1
      show ((1 : Nat) : Int) - (((-q).toNat + 1 : Nat) : Int) = q
      omega
    · rw [list_len]
      show -10000 ≤ ((1 : Nat) : Int) - (((-q).toNat + 1 : Nat) : Int) - _
      omega
  · have eA : (arA G q).data.toList = (lnB G q).data.toList.take q.toNat := by
      unfold arA
      rw [if_neg h, ext_li, List.drop_zero]
    have eB : (arB G q).data.toList = (lnB G q).data.toList.drop q.toNat := by
      unfold arB
      rw [if_neg h, ext_li, List.take_of_length_le (by rw [list_len]; exact Nat.le_refl _)]
    have eZ : ((arA G q).size : Int) = q := by
      unfold arA
      rw [if_neg h, ByteArray.size_extract]; omega
    rw [← List.append_assoc, eA, eB, List.take_append_drop, eZ, lnB_list, List.append_assoc, List.replicate_append_replicate, V_zeros]
    rw [list_len]; omega
theorem around_dig {G : ByteArray} (h : allD G.data.toList = true) (q k : Int) : allD (arA G q).data.toList = true ∧ allD (lnB (arB G q) k).data.toList = true := by
  have hr : ∀ n, allD (run 48 n).data.toList = true := fun n => by rw [run_list]; exact allD_rep n
  have hB : ∀ {s : ByteArray} (n : Int), allD s.data.toList = true → allD (lnB s n).data.toList = true := fun {s} n hs => by unfold lnB; rw [app_list, allD_append, hs, hr]; rfl
  have hE : ∀ {s : ByteArray} (a b : Nat), allD s.data.toList = true → allD (s.extract a b).data.toList = true := fun {s} a b hs => by rw [ext_li]; exact allD_of fun x hx => allD_mem hs (List.mem_of_mem_take (List.mem_of_mem_drop hx))
  constructor
  · unfold arA
    split
    · decide
    · exact hE _ _ (hB _ h)
  · refine hB _ ?_
    unfold arB
    split
    · unfold lnA; rw [app_list, allD_append, hr, h]; rfl
    · exact hE _ _ (hB _ h)
end Go.Proofs.YtkeoafidgfmhlabGreatDoor
