/- The walks of package bigdec: allDigits, inForm, Norm, normBoth, order, lastPlace. -/
import Derived.Test.YthbabhbfpcfenabDoorBMath
import Derived.Test.YthbabhbfpcfenabDoorPlain6
import Derived.Test.YthbabhbfpcfenabDoorQReg
import Derived.Test.YthbabhbfpcfenabDoorShelf
import Derived.Deep.LoopGhost
import Derived.Handy
namespace Go.Proofs.YthbabhbfpcfenabDoor
open Go.RowKit
set_option linter.unusedVariables false

theorem list_len (s : ByteArray) : s.data.toList.length = s.size := (Lib.size_eq s).symm
theorem allD_take (s : ByteArray) (k : Nat) (h : k < s.size) : allD (s.data.toList.take (k + 1)) = (allD (s.data.toList.take k) && isD (s[k]'h)) := by
  have hl : k < s.data.toList.length := by rw [list_len]; exact h
  have e : s.data.toList[k]'hl = s[k]'h := rfl
  rw [List.take_succ_eq_append_getElem hl, allD_append, allD_cons, e]
  simp [allD]
theorem allD_bad (s : ByteArray) (k : Nat) (h : k < s.size) (hb : isD (s[k]'h) = false) : allD s.data.toList = false := by
  have hl : k < s.data.toList.length := by rw [list_len]; exact h
  have hm : (s[k]'h) ∈ s.data.toList := List.getElem_mem hl
  cases ha : allD s.data.toList with
  | false => rfl
  | true => have := allD_mem ha hm; rw [hb] at this; cases this
set_option maxRecDepth 1000000 in
set_option maxHeartbeats 400000 in
theorem alldigits_any (s : ByteArray) (w : World) (hs : s.size ≤ 9223372036854775807) :
    Calls Tryd.prog 25 #[.string s] w fun e w' => e = .returned (.bool (allD s.data.toList)) ∧ w' = w := by
  go_enter Tryd.func25, Tryd.ntmps25
  go_wp2
  go_loopg [6] s.size (fun g i wr => wr = w ∧ ∃ k : Nat, i = .int .i64 k ∧ k + g = s.size ∧ Hid (allD (s.data.toList.take k) = true))
  case atStart => exact ⟨rfl, 0, rfl, Nat.zero_add _, rfl⟩
  case round =>
    obtain ⟨rfl, k, rfl, hkg, HA⟩ := hrel
    by_cases hlt : k < s.size
    · have hltI : (k : Int) < s.size := by omega
      have hx : (s[k]'hlt).toNat < 256 := (s[k]'hlt).toNat_lt
      have HD : Hid (isD (s[k]'hlt) = true ↔ 48 ≤ (s[k]'hlt).toNat ∧ (s[k]'hlt).toNat ≤ 57) := isD_iff _
      have HN : Hid (allD (s.data.toList.take (k + 1)) = (allD (s.data.toList.take k) && isD (s[k]'hlt))) := allD_take s k hlt
      have HB : Hid (isD (s[k]'hlt) = false → allD s.data.toList = false) := allD_bad s k hlt
      by_cases h1 : (s[k]'hlt).toNat < 48
      · have h1I : ((s[k]'hlt).toNat : Int) < 48 := by omega
        have HF : Hid (allD s.data.toList = false) := HB.out (by
          cases hh : isD (s[k]'hlt) with
          | false => rfl
          | true => have := HD.out.1 hh; omega)
        go_wp2
        go_ret
        rw [HF.out]
        exact ⟨rfl, rfl⟩
      · have h1I : ¬ ((s[k]'hlt).toNat : Int) < 48 := by omega
        by_cases h2 : 57 < (s[k]'hlt).toNat
        · have h2I : 57 < ((s[k]'hlt).toNat : Int) := by omega
          have HF : Hid (allD s.data.toList = false) := HB.out (by
            cases hh : isD (s[k]'hlt) with
            | false => rfl
            | true => have := HD.out.1 hh; omega)
          go_wp2
          go_ret
          rw [HF.out]
          exact ⟨rfl, rfl⟩
        · have h2I : ¬ 57 < ((s[k]'hlt).toNat : Int) := by omega
          have HG : Hid (allD (s.data.toList.take (k + 1)) = true) := by
            show allD (s.data.toList.take (k + 1)) = true
            rw [HN.out, HA.out, HD.out.2 ⟨by omega, by omega⟩]; rfl
          go_wp2
          go_roundg (gk - 1)
          case measure => omega
          case rel => exact ⟨rfl, k + 1, by go_num, by omega, HG⟩
    · have hltI : ¬ (k : Int) < s.size := by omega
      have HF : Hid (allD s.data.toList = true) := by
        show allD s.data.toList = true
        have := HA.out
        rw [List.take_of_length_le (by rw [list_len]; omega)] at this
        exact this
      go_wp2
      go_ret
      rw [HF.out]
      exact ⟨rfl, rfl⟩

theorem ltr_len (l : List UInt8) : (ltr l).length ≤ l.length := by
  obtain ⟨k, h1, -⟩ := ltr_split l
  have := congrArg List.length h1
  rw [List.length_append] at this; omega
theorem rtr_len (l : List UInt8) : (rtr l).length ≤ l.length := by
  obtain ⟨k, h1, -⟩ := rtr_split l
  have := congrArg List.length h1
  rw [List.length_append] at this; omega
theorem mk_size (l : List UInt8) : (⟨l.toArray⟩ : ByteArray).size = l.length := by simp [ByteArray.size]
theorem zero_S : oS 0 = ⟨#[]⟩ := by unfold oS; rw [o_zero.1]
set_option maxRecDepth 1000000 in
set_option maxHeartbeats 400000 in
theorem inform_any (s : ByteArray) (p : Int) (w : World) (hd : allD s.data.toList = true) (hz : s.size ≤ 100000) (hp0 : -10000 ≤ p - s.size) (hp1 : p ≤ 100000) :
    Calls Tryd.prog 26 #[.agg #[.string s, .int .i64 p]] w fun e w' => e = .returned (.agg #[.string (oS (V s.data.toList p)), .int .i64 (oP (V s.data.toList p))]) ∧ Below w.heap.size w w' := by
  obtain ⟨f1, f2⟩ := form_o s.data.toList p hd (by rw [list_len]; exact hp0)
  have hL : ∀ w, Calls Tryd.prog 36 #[.string s, .string ⟨#[48]⟩] w fun e w' => e = .returned (.string ⟨(ltr s.data.toList).toArray⟩) ∧ w' = w := fun w => Tryd.strings_TrimLeft_one s 48 (by decide) w
  have l1 := ltr_len s.data.toList
  have l2 := rtr_len (ltr s.data.toList)
  rw [list_len] at l1 f2
  have hR : ∀ w, Calls Tryd.prog 37 #[.string ⟨(ltr s.data.toList).toArray⟩, .string ⟨#[48]⟩] w fun e w' => e = .returned (.string ⟨(rtr (ltr s.data.toList)).toArray⟩) ∧ w' = w := fun w => Tryd.strings_TrimRight_one ⟨(ltr s.data.toList).toArray⟩ 48 (by decide) w (by rw [mk_size]; omega)
  have za := mk_size (ltr s.data.toList)
  have zr := mk_size (rtr (ltr s.data.toList))
  have HS : Hid ((⟨(rtr (ltr s.data.toList)).toArray⟩ : ByteArray) = oS (V s.data.toList p)) := by rw [f1]; rfl
  rw [← za] at f2 l1 l2
  rw [← zr] at l2
  have HP : Hid ((if (⟨(rtr (ltr s.data.toList)).toArray⟩ : ByteArray).size = 0 then 0 else p - ((s.size : Int) - (⟨(ltr s.data.toList).toArray⟩ : ByteArray).size)) = oP (V s.data.toList p)) := by
    show _ = _
    rw [← f2]
    by_cases h : rtr (ltr s.data.toList) = []
    · rw [if_pos h, if_pos (by rw [zr, h]; rfl)]
    · rw [if_neg h, if_neg (by rw [zr]; intro h0; exact h (List.eq_nil_of_length_eq_zero h0))]
  have HZ : Hid ((⟨(rtr (ltr s.data.toList)).toArray⟩ : ByteArray).size = 0 → (⟨(rtr (ltr s.data.toList)).toArray⟩ : ByteArray) = ⟨#[]⟩) := fun h => by
    rw [zr] at h; rw [List.eq_nil_of_length_eq_zero h]
  clear f1 f2 za zr
  generalize (⟨(rtr (ltr s.data.toList)).toArray⟩ : ByteArray) = r at *
  generalize (⟨(ltr s.data.toList).toArray⟩ : ByteArray) = a at *
  generalize V s.data.toList p = v at *
  clear hd
  by_cases h0 : r.size = 0
  · have hue : r.toList.isEmpty = true := empty_yes r h0
    have HP0 : Hid (oP v = 0) := by have := HP.out; rw [if_pos h0] at this; exact this.symm
    have HS0 : Hid (oS v = ⟨#[]⟩) := by show oS v = ⟨#[]⟩; rw [← HS.out]; exact HZ.out h0
    clear HP HS HZ
    go_enter Tryd.func26, Tryd.ntmps26
    go_wp2_with (first | (go_at_call 36; refine (hL _).mono ?_; rintro e w2 ⟨rfl, rfl⟩) | (go_at_call 37; refine (hR _).mono ?_; rintro e w2 ⟨rfl, rfl⟩))
    go_returns
    rw [HP0.out, HS0.out]
    refine ⟨rfl, ?_⟩
    go_grown
  · have hue : r.toList.isEmpty = false := empty_no r (by omega)
    have HP0 : Hid (oP v = p - ((s.size : Int) - a.size)) := by have := HP.out; rw [if_neg h0] at this; exact this.symm
    clear HP HZ
    go_enter Tryd.func26, Tryd.ntmps26
    go_wp2_with (first | (go_at_call 36; refine (hL _).mono ?_; rintro e w2 ⟨rfl, rfl⟩) | (go_at_call 37; refine (hR _).mono ?_; rintro e w2 ⟨rfl, rfl⟩))
    go_returns
    rw [HP0.out, ← HS.out]
    refine ⟨rfl, ?_⟩
    go_grown

theorem keep {W w2 : World} (hb : Below W.heap.size W w2) {p : Addr} {v : Value} (h : W.cell? p = some v) : w2.cell? p = some v := by
  have hp : p.block < W.heap.size := by
    rcases Nat.lt_or_ge p.block W.heap.size with h1 | h1
    · exact h1
    · simp [World.cell?, Array.getElem?_eq_none h1] at h
  exact (hb.cell hp).trans h
theorem keepf {W w2 : World} (hb : Below W.heap.size W w2) {p : Addr} (hp : p.block < W.heap.size) (h : W.frozen? p = false) : w2.frozen? p = false := (hb.frozen hp).trans h
theorem bel_call {B : Nat} {w W w2 : World} (h0 : Below B w W) (hb : Below W.heap.size W w2) (hB : B ≤ w.heap.size) : Below B w w2 := h0.trans (hb.mono (Nat.le_trans hB h0.size))

theorem set_other {W : World} {B i j : Nat} {u v : Value} (hij : i ≠ j) (h : W.cell? ⟨B, j, none⟩ = some v) : (W.setCell ⟨B, i, none⟩ u).cell? ⟨B, j, none⟩ = some v := by
  rw [World.cell?_setCell_other _ _ _ _ (by intro e; have := congrArg Addr.off e; simp at this; exact hij this)]; exact h
theorem set_past {W : World} {B C i j : Nat} {u v : Value} (hij : B ≠ C) (h : W.cell? ⟨C, j, none⟩ = some v) : (W.setCell ⟨B, i, none⟩ u).cell? ⟨C, j, none⟩ = some v := by
  rw [World.cell?_setCell_other _ _ _ _ (by intro e; have := congrArg Addr.block e; simp at this; exact hij this)]; exact h
/-- A box of two cells is stored into. -/
theorem put0 {W : World} {B : Nat} {u : Value} (h0 : W.cell? ⟨B, 0, none⟩ = some u) (x : Value) : (W.setCell ⟨B, 0, none⟩ x).cell? ⟨B, 0, none⟩ = some x := World.cell?_setCell_same _ _ _ h0
theorem put1 {W : World} {B : Nat} {v : Value} (h1 : W.cell? ⟨B, 1, none⟩ = some v) (x y : Value) : ((W.setCell ⟨B, 0, none⟩ x).setCell ⟨B, 1, none⟩ y).cell? ⟨B, 1, none⟩ = some y := World.cell?_setCell_same _ _ _ (set_other (by decide) h1)

/-- Norm's error. -/
def normE (s : ByteArray) (p : Int) : Int := if 2000 < s.size then 2 else if allD s.data.toList = false then 4 else if p < -5000 ∨ 5000 < p then 2 else 0
/-- The number of units that Norm answers. -/
def normV (s : ByteArray) (p : Int) : Nat := if normE s p = 0 then V s.data.toList p else 0
theorem normE_big {s : ByteArray} {p : Int} (h : 2000 < s.size) : normE s p = 2 := if_pos h
theorem normE_form {s : ByteArray} {p : Int} (h : ¬ 2000 < s.size) (h2 : allD s.data.toList = false) : normE s p = 4 := by unfold normE; rw [if_neg h, if_pos h2]
theorem normE_pt {s : ByteArray} {p : Int} (h : ¬ 2000 < s.size) (h2 : allD s.data.toList = true) (h3 : p < -5000 ∨ 5000 < p) : normE s p = 2 := by unfold normE; rw [if_neg h, if_neg (by rw [h2]; simp), if_pos h3]
theorem normE_ok {s : ByteArray} {p : Int} (h : ¬ 2000 < s.size) (h2 : allD s.data.toList = true) (h3 : ¬ p < -5000) (h4 : ¬ 5000 < p) : normE s p = 0 := by unfold normE; rw [if_neg h, if_neg (by rw [h2]; simp), if_neg (by omega)]
theorem normE_zero {s : ByteArray} {p : Int} (h : normE s p = 0) : s.size ≤ 2000 ∧ allD s.data.toList = true ∧ -5000 ≤ p ∧ p ≤ 5000 := by
  unfold normE at h
  split at h
  · cases h
  · split at h
    · cases h
    · split at h
      · cases h
      · rename_i h1 h2 h3
        refine ⟨by omega, ?_, by omega, by omega⟩
        cases hh : allD s.data.toList with
        | true => rfl
        | false => exact absurd hh h2
theorem normV_err {s : ByteArray} {p : Int} {e : Int} (h : normE s p = e) (he : e ≠ 0) : normV s p = 0 := by unfold normV; rw [if_neg (by rw [h]; exact he)]
theorem normV_ok {s : ByteArray} {p : Int} (h : normE s p = 0) : normV s p = V s.data.toList p := if_pos h
set_option maxRecDepth 1000000 in
set_option maxHeartbeats 400000 in
theorem norm_any (s : ByteArray) (p : Int) (w : World) (hs : s.size ≤ 9223372036854775807) :
    Calls Tryd.prog 8 #[.agg #[.string s, .int .i64 p]] w fun e w' => e = .returned (.tuple #[.agg #[.string (oS (normV s p)), .int .i64 (oP (normV s p))], .int .i64 (normE s p)]) ∧ Below w.heap.size w w' := by
  have hA : ∀ w, Calls Tryd.prog 25 #[.string s] w fun e w' => e = .returned (.bool (allD s.data.toList)) ∧ w' = w := fun w => alldigits_any s w hs
  by_cases h1 : 2000 < s.size
  · have h1I : 2000 < (s.size : Int) := by omega
    have HE : Hid (normE s p = 2) := normE_big h1
    have HV : Hid (normV s p = 0) := normV_err HE.out (by decide)
    clear hA
    go_enter Tryd.func8, Tryd.ntmps8
    go_wp2
    go_returns
    rw [HE.out, HV.out, zero_S, o_zero.2]
    exact ⟨rfl, by go_grown⟩
  have h1I : ¬ 2000 < (s.size : Int) := by omega
  cases h2 : allD s.data.toList with
  | false =>
    rw [h2] at hA
    have HE : Hid (normE s p = 4) := normE_form h1 h2
    have HV : Hid (normV s p = 0) := normV_err HE.out (by decide)
    clear h2
    go_enter Tryd.func8, Tryd.ntmps8
    go_wp2_with (go_at_call 25; refine (hA _).mono ?_; rintro e w2 ⟨rfl, rfl⟩)
    go_returns
    rw [HE.out, HV.out, zero_S, o_zero.2]
    exact ⟨rfl, by go_grown⟩
  | true =>
    rw [h2] at hA
    by_cases h3 : p < -5000
    · have HE : Hid (normE s p = 2) := normE_pt h1 h2 (.inl h3)
      have HV : Hid (normV s p = 0) := normV_err HE.out (by decide)
      clear h2
      go_enter Tryd.func8, Tryd.ntmps8
      go_wp2_with (go_at_call 25; refine (hA _).mono ?_; rintro e w2 ⟨rfl, rfl⟩)
      go_returns
      rw [HE.out, HV.out, zero_S, o_zero.2]
      exact ⟨rfl, by go_grown⟩
    by_cases h4 : 5000 < p
    · have HE : Hid (normE s p = 2) := normE_pt h1 h2 (.inr h4)
      have HV : Hid (normV s p = 0) := normV_err HE.out (by decide)
      clear h2
      go_enter Tryd.func8, Tryd.ntmps8
      go_wp2_with (go_at_call 25; refine (hA _).mono ?_; rintro e w2 ⟨rfl, rfl⟩)
      go_returns
      rw [HE.out, HV.out, zero_S, o_zero.2]
      exact ⟨rfl, by go_grown⟩
    have HE : Hid (normE s p = 0) := normE_ok h1 h2 h3 h4
    have HV : Hid (normV s p = V s.data.toList p) := normV_ok HE.out
    have hI : ∀ w, Calls Tryd.prog 26 #[.agg #[.string s, .int .i64 p]] w fun e w' => e = .returned (.agg #[.string (oS (V s.data.toList p)), .int .i64 (oP (V s.data.toList p))]) ∧ Below w.heap.size w w' := fun w => inform_any s p w h2 (by omega) (by omega) (by omega)
    clear h2
    generalize V s.data.toList p = v at *
    generalize hS : oS v = S at *
    generalize hP : oP v = P at *
    have HS : Hid (oS v = S) := hS
    have HP : Hid (oP v = P) := hP
    clear hS hP
    go_enter Tryd.func8, Tryd.ntmps8
    go_wp2_with (first | (go_at_call 25; refine (hA _).mono ?_; rintro e w2 ⟨rfl, rfl⟩) | (go_at_call 26; refine (hI _).mono ?_; rintro e w3 ⟨rfl, hb3⟩; have k0 := keep hb3 (p := ⟨w.heap.size + 1, 0, none⟩) (v := .string ⟨#[]⟩) (by simp); have k1 := keep hb3 (p := ⟨w.heap.size + 1, 1, none⟩) (v := .int .i64 0) (by simp); have k2 := keepf hb3 (p := ⟨w.heap.size + 1, 0, none⟩) (by simp) (by simp); have k3 := keepf hb3 (p := ⟨w.heap.size + 1, 1, none⟩) (by simp) (by simp)))
    refine bodyPost_ret (by simp [results, Tryd.results8, go_sem, put0 k0, put1 k1]; rfl) rfl ?_
    rw [HE.out, HV.out, HS.out, HP.out]
    refine ⟨rfl, ?_⟩
    have h0 := bel_call (B := w.heap.size) (w := w) (by go_grown) hb3 (Nat.le_refl _)
    exact (h0.setCell (by simp) _).setCell (by simp) _
set_option maxRecDepth 1000000 in
theorem order_any (b : Bool) (w : World) : Calls Tryd.prog 39 #[.bool b] w fun e w' => e = .returned (.int .i64 (if b then -1 else 1)) ∧ w' = w := by
  cases b <;>
  · go_enter Tryd.func39, Tryd.ntmps39
    go_wp2
    go_ret
    exact ⟨rfl, rfl⟩
set_option maxRecDepth 1000000 in
theorem lastplace_any (s : ByteArray) (p : Int) (w : World) (hs : s.size ≤ 100000) (hp0 : -100000 ≤ p) (hp1 : p ≤ 100000) :
    Calls Tryd.prog 69 #[.agg #[.string s, .int .i64 p]] w fun e w' => e = .returned (.int .i64 (p - s.size)) ∧ Below w.heap.size w w' := by
  go_enter Tryd.func69, Tryd.ntmps69
  go_wp2
  go_ret
  exact ⟨rfl, by go_grown⟩
end Go.Proofs.YthbabhbfpcfenabDoor
