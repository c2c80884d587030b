/- The document's Cmp, of descriptors in form. -/
import Derived.Test.YtjphklhfigammaaDoorVDocA
import Derived.Test.YtjphklhfigammaaDoorVCmp
import Derived.Deep.DeepCutAuto
import Derived.Deep.CutBlock
namespace Go.Proofs.YtjphklhfigammaaDoor
open Go.RowKit
set_option linter.unusedVariables false
set_option linter.unusedSimpArgs false

theorem sgn_cmp (x y : Int) : sgn2 (decide (x < y)) (decide (y < x)) = cmpI x y := by
  unfold sgn2 cmpI
  by_cases h1 : x < y <;> by_cases h2 : y < x <;> simp [h1, h2]
theorem sgn_cmpS (a b : ByteArray) : sgn2 (Op.bytesLess a.toList b.toList) (!(Op.bytesLess a.toList b.toList || a.toList == b.toList)) = cmpS a b := by
  unfold sgn2 cmpS
  cases Op.bytesLess a.toList b.toList <;> cases (a.toList == b.toList) <;> rfl
/-- What comes first by the kinds' own order: 0 where there is none, or they are the same. -/
def ownC (a b : D) : Int := if a.kind = 1 ∨ (7 ≤ a.kind ∧ a.kind ≤ 11) then cmpI a.bits b.bits else if 2 ≤ a.kind ∧ a.kind ≤ 6 then cmpI (wrap64 a.bits) (wrap64 b.bits) else cmpS a.text b.text
def dcmp (a b : D) : Int := if a.kind ≠ b.kind then (if a.kind < b.kind then -1 else 1) else if keyB a.kind then (if ownC a b = 0 then cmpS a.ty b.ty else ownC a b) else 0
set_option maxRecDepth 1000000 in
set_option maxHeartbeats 4000000 in
theorem ocmp_other (a b : D) (na pa ma qa : Option Addr) (nc pc mc qc : Nat) (w : World) (hk : a.kind ≠ b.kind) :
    Calls Tryd.prog 73 #[DV a (.slice na a.names.length nc) (.slice pa a.parts.length pc), DV b (.slice ma b.names.length mc) (.slice qa b.parts.length qc)] w fun e w' => e = .returned (.int .i64 (dcmp a b)) ∧ Below w.heap.size w w' := by
  obtain ⟨k1, ty1, bits1, imag1, text1, names1, parts1, hook1⟩ := a
  obtain ⟨k2, ty2, bits2, imag2, text2, names2, parts2, hook2⟩ := b
  simp only at hk ⊢
  have e1 : (k1 != k2) = true := by simp [hk]
  have bel : ∀ cs t cs' t', Below w.heap.size w ((w.alloc (.cells cs t)).alloc (.cells cs' t')) := fun _ _ _ _ => ((Below.refl _ _).alloc (Nat.le_refl _) _).alloc (by simp) _
  have HD : Hid (dcmp ⟨k1, ty1, bits1, imag1, text1, names1, parts1, hook1⟩ ⟨k2, ty2, bits2, imag2, text2, names2, parts2, hook2⟩ = if k1 < k2 then -1 else 1) := by show _ = _; unfold dcmp; rw [if_pos hk]
  clear hk
  by_cases hlt : k1 < k2
  · have ho := fun W => osign_any true true W
    go_enter Tryd.func73, Tryd.ntmps73
    go_wp2_with (go_at_call 81; refine (ho _).mono ?_; rintro e w1 ⟨rfl, hw⟩; rw [hw]; clear hw)
    go_ret
    exact ⟨by rw [HD.out, if_pos hlt]; rfl, bel _ _ _ _⟩
  · have ho := fun W => osign_any false true W
    have HE : Hid (dcmp ⟨k1, ty1, bits1, imag1, text1, names1, parts1, hook1⟩ ⟨k2, ty2, bits2, imag2, text2, names2, parts2, hook2⟩ = 1) := by show _ = _; rw [HD.out, if_neg hlt]
    clear HD
    go_enter Tryd.func73, Tryd.ntmps73
    go_wp2_with (go_at_call 81; refine (ho _).mono ?_; rintro e w1 ⟨rfl, hw⟩; rw [hw]; clear hw)
    go_ret
    exact ⟨by rw [HE.out]; rfl, bel _ _ _ _⟩
set_option maxRecDepth 1000000 in
set_option maxHeartbeats 4000000 in
theorem ocmp_uns (k1 : Int) (ty1 ty2 : ByteArray) (bits1 bits2 imag1 imag2 : Int) (text1 text2 : ByteArray) (names1 names2 : List ByteArray) (parts1 parts2 : List D) (hook1 hook2 : Int) (na pa ma qa : Option Addr) (nc pc mc qc : Nat) (w : World) (h0 : (k1 == 1) = false) (h1 : whoB k1 = true) (h2 : sgnB k1 = false) :
    Calls Tryd.prog 73 #[DV ⟨k1, ty1, bits1, imag1, text1, names1, parts1, hook1⟩ (.slice na names1.length nc) (.slice pa parts1.length pc), DV ⟨k1, ty2, bits2, imag2, text2, names2, parts2, hook2⟩ (.slice ma names2.length mc) (.slice qa parts2.length qc)] w fun e w' => e = .returned (.int .i64 (if cmpI bits1 bits2 = 0 then cmpS ty1 ty2 else cmpI bits1 bits2)) ∧ Below w.heap.size w w' := by
  have bel : ∀ cs t cs' t', Below w.heap.size w ((w.alloc (.cells cs t)).alloc (.cells cs' t')) := fun _ _ _ _ => ((Below.refl _ _).alloc (Nat.le_refl _) _).alloc (by simp) _
  have ho := fun l m W => osign_any l m W
  have hwh : ∀ W, Calls Tryd.prog 14 #[.int .i64 k1] W fun e w' => e = .returned (.bool true) ∧ w' = W := fun W => by simpa [h1] using owhole_any k1 W
  have hsg : ∀ W, Calls Tryd.prog 75 #[.int .i64 k1] W fun e w' => e = .returned (.bool false) ∧ w' = W := fun W => by simpa [h2] using osigned_any k1 W
  have hS := sgn_cmp bits1 bits2
  have hT := sgn_cmpS ty1 ty2
  generalize cmpI bits1 bits2 = c at hS ⊢
  generalize cmpS ty1 ty2 = t at hT ⊢
  have hS' : Hid (sgn2 (decide (bits1 < bits2)) (decide (bits2 < bits1)) = c) := by show _ = _; exact hS
  have hT' : Hid (sgn2 (Op.bytesLess ty1.toList ty2.toList) (!Op.bytesLess ty1.toList ty2.toList && !ty1.toList == ty2.toList) = t) := by show _ = _; rw [← hT, Bool.not_or]
  clear hS hT h1 h2
  go_enter Tryd.func73, Tryd.ntmps73
  go_upto_region 11 with (first | (go_at_call 81; refine (ho _ _ _).mono ?_; rintro e w1 ⟨rfl, hw⟩; rw [hw]; clear hw) | (go_at_call 14; refine (hwh _).mono ?_; rintro e w1 ⟨rfl, hw⟩; rw [hw]; clear hw) | (go_at_call 75; refine (hsg _).mono ?_; rintro e w1 ⟨rfl, hw⟩; rw [hw]; clear hw))
  rw [hS'.out]
  clear hS' hwh hsg h0
  by_cases hz : c = 0
  · subst hz
    go_wp2_with (go_at_call 81; refine (ho _ _ _).mono ?_; rintro e w1 ⟨rfl, hw⟩; rw [hw]; clear hw)
    go_ret
    exact ⟨congrArg (fun z => Ending.returned (.int .i64 z)) hT'.out, bel _ _ _ _⟩
  · have e9 : (c == 0) = false := by simp [hz]
    clear ho
    go_wp2
    go_ret
    exact ⟨rfl, bel _ _ _ _⟩
set_option maxRecDepth 1000000 in
set_option maxHeartbeats 4000000 in
theorem ocmp_bool (k1 : Int) (ty1 ty2 : ByteArray) (bits1 bits2 imag1 imag2 : Int) (text1 text2 : ByteArray) (names1 names2 : List ByteArray) (parts1 parts2 : List D) (hook1 hook2 : Int) (na pa ma qa : Option Addr) (nc pc mc qc : Nat) (w : World) :
    Calls Tryd.prog 73 #[DV ⟨1, ty1, bits1, imag1, text1, names1, parts1, hook1⟩ (.slice na names1.length nc) (.slice pa parts1.length pc), DV ⟨1, ty2, bits2, imag2, text2, names2, parts2, hook2⟩ (.slice ma names2.length mc) (.slice qa parts2.length qc)] w fun e w' => e = .returned (.int .i64 (if cmpI bits1 bits2 = 0 then cmpS ty1 ty2 else cmpI bits1 bits2)) ∧ Below w.heap.size w w' := by
  have bel : ∀ cs t cs' t', Below w.heap.size w ((w.alloc (.cells cs t)).alloc (.cells cs' t')) := fun _ _ _ _ => ((Below.refl _ _).alloc (Nat.le_refl _) _).alloc (by simp) _
  have ho := fun l m W => osign_any l m W
  have hS := sgn_cmp bits1 bits2
  have hT := sgn_cmpS ty1 ty2
  generalize cmpI bits1 bits2 = c at hS ⊢
  generalize cmpS ty1 ty2 = t at hT ⊢
  have hS' : Hid (sgn2 (decide (bits1 < bits2)) (decide (bits2 < bits1)) = c) := by show _ = _; exact hS
  have hT' : Hid (sgn2 (Op.bytesLess ty1.toList ty2.toList) (!Op.bytesLess ty1.toList ty2.toList && !ty1.toList == ty2.toList) = t) := by show _ = _; rw [← hT, Bool.not_or]
  clear hS hT
  go_enter Tryd.func73, Tryd.ntmps73
  go_upto_region 11 with (first | (go_at_call 81; refine (ho _ _ _).mono ?_; rintro e w1 ⟨rfl, hw⟩; rw [hw]; clear hw))
  rw [hS'.out]
  clear hS'
  by_cases hz : c = 0
  · subst hz
    go_wp2_with (go_at_call 81; refine (ho _ _ _).mono ?_; rintro e w1 ⟨rfl, hw⟩; rw [hw]; clear hw)
    go_ret
    exact ⟨congrArg (fun z => Ending.returned (.int .i64 z)) hT'.out, bel _ _ _ _⟩
  · have e9 : (c == 0) = false := by simp [hz]
    clear ho
    go_wp2
    go_ret
    exact ⟨rfl, bel _ _ _ _⟩
set_option maxRecDepth 1000000 in
set_option maxHeartbeats 4000000 in
theorem ocmp_sig (k1 : Int) (ty1 ty2 : ByteArray) (bits1 bits2 imag1 imag2 : Int) (text1 text2 : ByteArray) (names1 names2 : List ByteArray) (parts1 parts2 : List D) (hook1 hook2 : Int) (na pa ma qa : Option Addr) (nc pc mc qc : Nat) (w : World) (h0 : (k1 == 1) = false) (h1 : whoB k1 = true) (h2 : sgnB k1 = true) :
    Calls Tryd.prog 73 #[DV ⟨k1, ty1, bits1, imag1, text1, names1, parts1, hook1⟩ (.slice na names1.length nc) (.slice pa parts1.length pc), DV ⟨k1, ty2, bits2, imag2, text2, names2, parts2, hook2⟩ (.slice ma names2.length mc) (.slice qa parts2.length qc)] w fun e w' => e = .returned (.int .i64 (if cmpI (wrap64 bits1) (wrap64 bits2) = 0 then cmpS ty1 ty2 else cmpI (wrap64 bits1) (wrap64 bits2))) ∧ Below w.heap.size w w' := by
  have bel : ∀ cs t cs' t', Below w.heap.size w ((w.alloc (.cells cs t)).alloc (.cells cs' t')) := fun _ _ _ _ => ((Below.refl _ _).alloc (Nat.le_refl _) _).alloc (by simp) _
  have ho := fun l m W => osign_any l m W
  have hwh : ∀ W, Calls Tryd.prog 14 #[.int .i64 k1] W fun e w' => e = .returned (.bool true) ∧ w' = W := fun W => by simpa [h1] using owhole_any k1 W
  have hsg : ∀ W, Calls Tryd.prog 75 #[.int .i64 k1] W fun e w' => e = .returned (.bool true) ∧ w' = W := fun W => by simpa [h2] using osigned_any k1 W
  have hS := sgn_cmp (wrap64 bits1) (wrap64 bits2)
  have hT := sgn_cmpS ty1 ty2
  generalize cmpI (wrap64 bits1) (wrap64 bits2) = c at hS ⊢
  generalize cmpS ty1 ty2 = t at hT ⊢
  have hS' : Hid (sgn2 (decide (wrap64 bits1 < wrap64 bits2)) (decide (wrap64 bits2 < wrap64 bits1)) = c) := by show _ = _; exact hS
  have hT' : Hid (sgn2 (Op.bytesLess ty1.toList ty2.toList) (!Op.bytesLess ty1.toList ty2.toList && !ty1.toList == ty2.toList) = t) := by show _ = _; rw [← hT, Bool.not_or]
  clear hS hT h1 h2
  go_enter Tryd.func73, Tryd.ntmps73
  go_upto_region 11 with (first | (go_at_call 81; refine (ho _ _ _).mono ?_; rintro e w1 ⟨rfl, hw⟩; rw [hw]; clear hw) | (go_at_call 14; refine (hwh _).mono ?_; rintro e w1 ⟨rfl, hw⟩; rw [hw]; clear hw) | (go_at_call 75; refine (hsg _).mono ?_; rintro e w1 ⟨rfl, hw⟩; rw [hw]; clear hw))
  rw [hS'.out]
  clear hS' hwh hsg h0
  by_cases hz : c = 0
  · subst hz
    go_wp2_with (go_at_call 81; refine (ho _ _ _).mono ?_; rintro e w1 ⟨rfl, hw⟩; rw [hw]; clear hw)
    go_ret
    exact ⟨congrArg (fun z => Ending.returned (.int .i64 z)) hT'.out, bel _ _ _ _⟩
  · have e9 : (c == 0) = false := by simp [hz]
    clear ho
    go_wp2
    go_ret
    exact ⟨rfl, bel _ _ _ _⟩
set_option maxRecDepth 1000000 in
set_option maxHeartbeats 4000000 in
theorem ocmp_text (k1 : Int) (ty1 ty2 : ByteArray) (bits1 bits2 imag1 imag2 : Int) (text1 text2 : ByteArray) (names1 names2 : List ByteArray) (parts1 parts2 : List D) (hook1 hook2 : Int) (na pa ma qa : Option Addr) (nc pc mc qc : Nat) (w : World) :
    Calls Tryd.prog 73 #[DV ⟨16, ty1, bits1, imag1, text1, names1, parts1, hook1⟩ (.slice na names1.length nc) (.slice pa parts1.length pc), DV ⟨16, ty2, bits2, imag2, text2, names2, parts2, hook2⟩ (.slice ma names2.length mc) (.slice qa parts2.length qc)] w fun e w' => e = .returned (.int .i64 (if cmpS text1 text2 = 0 then cmpS ty1 ty2 else cmpS text1 text2)) ∧ Below w.heap.size w w' := by
  have bel : ∀ cs t cs' t', Below w.heap.size w ((w.alloc (.cells cs t)).alloc (.cells cs' t')) := fun _ _ _ _ => ((Below.refl _ _).alloc (Nat.le_refl _) _).alloc (by simp) _
  have ho := fun l m W => osign_any l m W
  have hwh : ∀ W, Calls Tryd.prog 14 #[.int .i64 16] W fun e w' => e = .returned (.bool false) ∧ w' = W := fun W => owhole_any 16 W
  have hsg : ∀ W, Calls Tryd.prog 75 #[.int .i64 16] W fun e w' => e = .returned (.bool false) ∧ w' = W := fun W => osigned_any 16 W
  have hS := sgn_cmpS text1 text2
  have hT := sgn_cmpS ty1 ty2
  generalize cmpS text1 text2 = c at hS ⊢
  generalize cmpS ty1 ty2 = t at hT ⊢
  have hS' : Hid (sgn2 (Op.bytesLess text1.toList text2.toList) (!Op.bytesLess text1.toList text2.toList && !text1.toList == text2.toList) = c) := by show _ = _; rw [← hS, Bool.not_or]
  have hT' : Hid (sgn2 (Op.bytesLess ty1.toList ty2.toList) (!Op.bytesLess ty1.toList ty2.toList && !ty1.toList == ty2.toList) = t) := by show _ = _; rw [← hT, Bool.not_or]
  clear hS hT
  go_enter Tryd.func73, Tryd.ntmps73
  go_upto_region 11 with (first | (go_at_call 81; refine (ho _ _ _).mono ?_; rintro e w1 ⟨rfl, hw⟩; rw [hw]; clear hw) | (go_at_call 14; refine (hwh _).mono ?_; rintro e w1 ⟨rfl, hw⟩; rw [hw]; clear hw) | (go_at_call 75; refine (hsg _).mono ?_; rintro e w1 ⟨rfl, hw⟩; rw [hw]; clear hw))
  rw [hS'.out]
  clear hS' hwh hsg
  by_cases hz : c = 0
  · subst hz
    go_wp2_with (go_at_call 81; refine (ho _ _ _).mono ?_; rintro e w1 ⟨rfl, hw⟩; rw [hw]; clear hw)
    go_ret
    exact ⟨congrArg (fun z => Ending.returned (.int .i64 z)) hT'.out, bel _ _ _ _⟩
  · have e9 : (c == 0) = false := by simp [hz]
    clear ho
    go_wp2
    go_ret
    exact ⟨rfl, bel _ _ _ _⟩
set_option maxRecDepth 1000000 in
set_option maxHeartbeats 4000000 in
theorem ocmp_none (k1 : Int) (ty1 ty2 : ByteArray) (bits1 bits2 imag1 imag2 : Int) (text1 text2 : ByteArray) (names1 names2 : List ByteArray) (parts1 parts2 : List D) (hook1 hook2 : Int) (na pa ma qa : Option Addr) (nc pc mc qc : Nat) (w : World) (h0 : (k1 == 1) = false) (h16 : (k1 == 16) = false) (h1 : whoB k1 = false) (h2 : sgnB k1 = false) :
    Calls Tryd.prog 73 #[DV ⟨k1, ty1, bits1, imag1, text1, names1, parts1, hook1⟩ (.slice na names1.length nc) (.slice pa parts1.length pc), DV ⟨k1, ty2, bits2, imag2, text2, names2, parts2, hook2⟩ (.slice ma names2.length mc) (.slice qa parts2.length qc)] w fun e w' => e = .returned (.int .i64 0) ∧ Below w.heap.size w w' := by
  have bel : ∀ cs t cs' t', Below w.heap.size w ((w.alloc (.cells cs t)).alloc (.cells cs' t')) := fun _ _ _ _ => ((Below.refl _ _).alloc (Nat.le_refl _) _).alloc (by simp) _
  have hwh : ∀ W, Calls Tryd.prog 14 #[.int .i64 k1] W fun e w' => e = .returned (.bool false) ∧ w' = W := fun W => by simpa [h1] using owhole_any k1 W
  have hsg : ∀ W, Calls Tryd.prog 75 #[.int .i64 k1] W fun e w' => e = .returned (.bool false) ∧ w' = W := fun W => by simpa [h2] using osigned_any k1 W
  clear h1 h2
  go_enter Tryd.func73, Tryd.ntmps73
  go_wp2_with (first | (go_at_call 14; refine (hwh _).mono ?_; rintro e w1 ⟨rfl, hw⟩; rw [hw]; clear hw) | (go_at_call 75; refine (hsg _).mono ?_; rintro e w1 ⟨rfl, hw⟩; rw [hw]; clear hw))
  go_ret
  exact ⟨rfl, bel _ _ _ _⟩
theorem ocmp_any (a b : D) (na pa ma qa : Option Addr) (nc pc mc qc : Nat) (w : World) :
    Calls Tryd.prog 73 #[DV a (.slice na a.names.length nc) (.slice pa a.parts.length pc), DV b (.slice ma b.names.length mc) (.slice qa b.parts.length qc)] w fun e w' => e = .returned (.int .i64 (dcmp a b)) ∧ Below w.heap.size w w' := by
  by_cases hk : a.kind = b.kind
  · obtain ⟨k1, ty1, bits1, imag1, text1, names1, parts1, hook1⟩ := a
    obtain ⟨k2, ty2, bits2, imag2, text2, names2, parts2, hook2⟩ := b
    simp only at hk ⊢
    subst hk
    unfold dcmp
    simp only [ne_eq, not_true_eq_false, if_false]
    by_cases h1 : k1 = 1
    · subst h1
      simpa [keyB, ownC] using ocmp_bool 0 ty1 ty2 bits1 bits2 imag1 imag2 text1 text2 names1 names2 parts1 parts2 hook1 hook2 na pa ma qa nc pc mc qc w
    by_cases h2 : 7 ≤ k1 ∧ k1 ≤ 11
    · have hq : keyB k1 = true := by simp [keyB]; omega
      have ho : ownC ⟨k1, ty1, bits1, imag1, text1, names1, parts1, hook1⟩ ⟨k1, ty2, bits2, imag2, text2, names2, parts2, hook2⟩ = cmpI bits1 bits2 := by unfold ownC; rw [if_pos (Or.inr h2)]
      rw [if_pos hq, ho]
      exact ocmp_uns k1 ty1 ty2 bits1 bits2 imag1 imag2 text1 text2 names1 names2 parts1 parts2 hook1 hook2 na pa ma qa nc pc mc qc w (by simp [h1]) (by simp [whoB]; omega) (by simp [sgnB]; omega)
    by_cases h3 : 2 ≤ k1 ∧ k1 ≤ 6
    · have hq : keyB k1 = true := by simp [keyB]; omega
      have ho : ownC ⟨k1, ty1, bits1, imag1, text1, names1, parts1, hook1⟩ ⟨k1, ty2, bits2, imag2, text2, names2, parts2, hook2⟩ = cmpI (wrap64 bits1) (wrap64 bits2) := by unfold ownC; rw [if_neg (by dsimp only; omega), if_pos h3]
      rw [if_pos hq, ho]
      exact ocmp_sig k1 ty1 ty2 bits1 bits2 imag1 imag2 text1 text2 names1 names2 parts1 parts2 hook1 hook2 na pa ma qa nc pc mc qc w (by simp [h1]) (by simp [whoB]; omega) (by simp [sgnB]; omega)
    by_cases h4 : k1 = 16
    · subst h4
      simpa [keyB, ownC] using ocmp_text 0 ty1 ty2 bits1 bits2 imag1 imag2 text1 text2 names1 names2 parts1 parts2 hook1 hook2 na pa ma qa nc pc mc qc w
    · have hq : ¬ keyB k1 = true := by simp [keyB]; omega
      rw [if_neg hq]
      exact ocmp_none k1 ty1 ty2 bits1 bits2 imag1 imag2 text1 text2 names1 names2 parts1 parts2 hook1 hook2 na pa ma qa nc pc mc qc w (by simp [h1]) (by simp [h4]) (by simp [whoB]; omega) (by simp [sgnB]; omega)
  · exact ocmp_other a b na pa ma qa nc pc mc qc w hk
end Go.Proofs.YtjphklhfigammaaDoor
