/- BWalkA, BTopA: these texts in one. -/
import Derived.Test.YtiagjheifblkiaaGreatDoorShelfF
import Derived.Test.YtiagjheifblkiaaGreatDoorPt20
import Derived.Test.YtiagjheifblkiaaGreatDoorPt1
import Derived.Test.YtiagjheifblkiaaGreatDoorShelf
import Derived.Deep.LoopGhost
import Derived.Handy
namespace Go.Proofs.YtiagjheifblkiaaGreatDoor
open Go.RowKit
set_option linter.unusedVariables false
theorem allD_take (s : ByteArray) (k : Nat) (h : k < s.size) : allD (s.data.toList.take (k + 1)) = (allD (s.data.toList.take k) && isD (s[k]'h)) := by
 have hl : k < s.data.toList.length := by rw [list_len]; exact h
 have e : s.data.toList[k]'hl = s[k]'h := rfl
 rw [List.take_succ_eq_append_getElem hl, allD_append, allD_cons, e]
 simp [allD]
theorem allD_bad (s : ByteArray) (k : Nat) (h : k < s.size) (hb : isD (s[k]'h) = false) : allD s.data.toList = false := by
 have hl : k < s.data.toList.length := by rw [list_len]; exact h
 have hm : (s[k]'h) ∈ s.data.toList := List.getElem_mem hl
 cases ha : allD s.data.toList with
 | false => rfl
 | true => have := allD_mem ha hm; rw [hb] at this; cases this
set_option maxRecDepth 1000000 in
set_option maxHeartbeats 400000 in
theorem alldigits_any (s : ByteArray) (w : World) (hs : s.size ≤ 9223372036854775807) :
  Calls Tryz.prog 43 #[.string s] w fun e w' => e = .returned (.bool (allD s.data.toList)) ∧ w' = w := by
 go_enter Tryz.func43, Tryz.ntmps43
 go_wp2
 go_loopg [6] s.size (fun g i wr => wr = w ∧ ∃ k : Nat, i = .int .i64 k ∧ k + g = s.size ∧ Hid (allD (s.data.toList.take k) = true))
 case atStart => exact ⟨rfl, 0, rfl, Nat.zero_add _, rfl⟩
 case round =>
  obtain ⟨rfl, k, rfl, hkg, HA⟩ := hrel
  by_cases hlt : k < s.size
  ·have hltI : (k : Int) < s.size := by omega
   have hx : (s[k]'hlt).toNat < 256 := (s[k]'hlt).toNat_lt
   have HD : Hid (isD (s[k]'hlt) = true ↔ 48 ≤ (s[k]'hlt).toNat ∧ (s[k]'hlt).toNat ≤ 57) := isD_iff _
   have HN : Hid (allD (s.data.toList.take (k + 1)) = (allD (s.data.toList.take k) && isD (s[k]'hlt))) := allD_take s k hlt
   have HB : Hid (isD (s[k]'hlt) = false → allD s.data.toList = false) := allD_bad s k hlt
   by_cases h1 : (s[k]'hlt).toNat < 48
   ·have h1I : ((s[k]'hlt).toNat : Int) < 48 := by omega
    have HF : Hid (allD s.data.toList = false) := HB.out (by
     cases hh : isD (s[k]'hlt) with
     | false => rfl
     | true => have := HD.out.1 hh; omega)
    go_wp2
    go_ret
    rw [HF.out]
    exact ⟨rfl, rfl⟩
   ·have h1I : ¬ ((s[k]'hlt).toNat : Int) < 48 := by omega
    by_cases h2 : 57 < (s[k]'hlt).toNat
    ·have h2I : 57 < ((s[k]'hlt).toNat : Int) := by omega
     have HF : Hid (allD s.data.toList = false) := HB.out (by
      cases hh : isD (s[k]'hlt) with
      | false => rfl
      | true => have := HD.out.1 hh; omega)
     go_wp2
     go_ret
     rw [HF.out]
     exact ⟨rfl, rfl⟩
    ·have h2I : ¬ 57 < ((s[k]'hlt).toNat : Int) := by omega
     have HG : Hid (allD (s.data.toList.take (k + 1)) = true) := by
      show allD (s.data.toList.take (k + 1)) = true
      rw [HN.out, HA.out, HD.out.2 ⟨by omega, by omega⟩]; rfl
     go_wp2
     go_roundg (gk - 1)
     case measure => omega
     case rel => exact ⟨rfl, k + 1, by go_num, by omega, HG⟩
  ·have hltI : ¬ (k : Int) < s.size := by omega
   have HF : Hid (allD s.data.toList = true) := by
    show allD s.data.toList = true
    have := HA.out
    rw [List.take_of_length_le (by rw [list_len]; omega)] at this
    exact this
   go_wp2
   go_ret
   rw [HF.out]
   exact ⟨rfl, rfl⟩
theorem ltr_len (l : List UInt8) : (ltr l).length ≤ l.length := by
 obtain ⟨k, h1, -⟩ := ltr_split l
 have := congrArg List.length h1
 rw [List.length_append] at this; omega
theorem rtr_len (l : List UInt8) : (rtr l).length ≤ l.length := by
 obtain ⟨k, h1, -⟩ := rtr_split l
 have := congrArg List.length h1
 rw [List.length_append] at this; omega
theorem mk_size (l : List UInt8) : (⟨l.toArray⟩ : ByteArray).size = l.length := by simp [ByteArray.size]
theorem zero_S : oS 0 = ⟨#[]⟩ := by unfold oS; rw [o_zero.1]
set_option maxRecDepth 1000000 in
set_option maxHeartbeats 400000 in
theorem inform_any (s : ByteArray) (p : Int) (w : World) (hdB : allD s.data.toList = true) (hz : s.size ≤ 100000) (hp0 : -10000 ≤ p - s.size) (hp1 : p ≤ 100000) :
  Calls Tryz.prog 44 #[.agg #[.string s, .int .i64 p]] w fun e w' => e = .returned (.agg #[.string (oS (V s.data.toList p)), .int .i64 (oP (V s.data.toList p))]) ∧ Below w.heap.size w w' := by
 obtain ⟨f1, f2⟩ := form_o s.data.toList p hdB (by rw [list_len]; exact hp0)
 have hL : ∀ w, Calls Tryz.prog 59 #[.string s, .string ⟨#[48]⟩] w fun e w' => e = .returned (.string ⟨(ltr s.data.toList).toArray⟩) ∧ w' = w := fun w => Tryz.strings_TrimLeft_one s 48 (by decide) w
 have l1 := ltr_len s.data.toList
 have l2 := rtr_len (ltr s.data.toList)
 rw [list_len] at l1 f2
 have hR : ∀ w, Calls Tryz.prog 60 #[.string ⟨(ltr s.data.toList).toArray⟩, .string ⟨#[48]⟩] w fun e w' => e = .returned (.string ⟨(rtr (ltr s.data.toList)).toArray⟩) ∧ w' = w := fun w => Tryz.strings_TrimRight_one ⟨(ltr s.data.toList).toArray⟩ 48 (by decide) w (by rw [mk_size]; omega)
 have za := mk_size (ltr s.data.toList)
 have zr := mk_size (rtr (ltr s.data.toList))
 have HS : Hid ((⟨(rtr (ltr s.data.toList)).toArray⟩ : ByteArray) = oS (V s.data.toList p)) := by rw [f1]; rfl
 rw [← za] at f2 l1 l2
 rw [← zr] at l2
 have HP : Hid ((if (⟨(rtr (ltr s.data.toList)).toArray⟩ : ByteArray).size = 0 then 0 else p - ((s.size : Int) - (⟨(ltr s.data.toList).toArray⟩ : ByteArray).size)) = oP (V s.data.toList p)) := by
  show _ = _
  rw [← f2]
  by_cases h : rtr (ltr s.data.toList) = []
  ·rw [if_pos h, if_pos (by rw [zr, h]; rfl)]
  ·rw [if_neg h, if_neg (by rw [zr]; intro h0; exact h (List.eq_nil_of_length_eq_zero h0))]
 have HZ : Hid ((⟨(rtr (ltr s.data.toList)).toArray⟩ : ByteArray).size = 0 → (⟨(rtr (ltr s.data.toList)).toArray⟩ : ByteArray) = ⟨#[]⟩) := fun h => by
  rw [zr] at h; rw [List.eq_nil_of_length_eq_zero h]
 clear f1 f2 za zr
 generalize (⟨(rtr (ltr s.data.toList)).toArray⟩ : ByteArray) = r at *
 generalize (⟨(ltr s.data.toList).toArray⟩ : ByteArray) = a at *
 generalize V s.data.toList p = v at *
 clear hdB
 by_cases h0 : r.size = 0
 ·have hue : r.toList.isEmpty = true := empty_yes r h0
  have HP0 : Hid (oP v = 0) := by have := HP.out; rw [if_pos h0] at this; exact this.symm
  have HS0 : Hid (oS v = ⟨#[]⟩) := by show oS v = ⟨#[]⟩; rw [← HS.out]; exact HZ.out h0
  clear HP HS HZ
  go_enter Tryz.func44, Tryz.ntmps44
  go_wp2_with (first | (go_at_call 59; refine (hL _).mono ?_; rintro e w2 ⟨rfl, rfl⟩) | (go_at_call 60; refine (hR _).mono ?_; rintro e w2 ⟨rfl, rfl⟩))
  go_returns
  rw [HP0.out, HS0.out]
  refine ⟨rfl, ?_⟩
  go_grown
 ·have hue : r.toList.isEmpty = false := empty_no r (by omega)
  have HP0 : Hid (oP v = p - ((s.size : Int) - a.size)) := by have := HP.out; rw [if_neg h0] at this; exact this.symm
  clear HP HZ
  go_enter Tryz.func44, Tryz.ntmps44
  go_wp2_with (first | (go_at_call 59; refine (hL _).mono ?_; rintro e w2 ⟨rfl, rfl⟩) | (go_at_call 60; refine (hR _).mono ?_; rintro e w2 ⟨rfl, rfl⟩))
  go_returns
  rw [HP0.out, ← HS.out]
  refine ⟨rfl, ?_⟩
  go_grown
theorem keep {W w2 : World} (hb : Below W.heap.size W w2) {p : Addr} {v : Value} (h : W.cell? p = some v) : w2.cell? p = some v := by
 have hp : p.block < W.heap.size := by
  rcases Nat.lt_or_ge p.block W.heap.size with h1 | h1
  ·exact h1
  ·simp [World.cell?, Array.getElem?_eq_none h1] at h
 exact (hb.cell hp).trans h
theorem keepf {W w2 : World} (hb : Below W.heap.size W w2) {p : Addr} (hp : p.block < W.heap.size) (h : W.frozen? p = false) : w2.frozen? p = false := (hb.frozen hp).trans h
theorem bel_call {B : Nat} {w W w2 : World} (h0 : Below B w W) (hb : Below W.heap.size W w2) (hB : B ≤ w.heap.size) : Below B w w2 := h0.trans (hb.mono (Nat.le_trans hB h0.size))
theorem set_otherB {W : World} {B i j : Nat} {u v : Value} (hij : i ≠ j) (h : W.cell? ⟨B, j, none⟩ = some v) : (W.setCell ⟨B, i, none⟩ u).cell? ⟨B, j, none⟩ = some v := by
 rw [World.cell?_setCell_other _ _ _ _ (by intro e; have := congrArg Addr.off e; simp at this; exact hij this)]; exact h
theorem set_past {W : World} {B C i j : Nat} {u v : Value} (hij : B ≠ C) (h : W.cell? ⟨C, j, none⟩ = some v) : (W.setCell ⟨B, i, none⟩ u).cell? ⟨C, j, none⟩ = some v := by
 rw [World.cell?_setCell_other _ _ _ _ (by intro e; have := congrArg Addr.block e; simp at this; exact hij this)]; exact h
theorem put0 {W : World} {B : Nat} {u : Value} (h0 : W.cell? ⟨B, 0, none⟩ = some u) (x : Value) : (W.setCell ⟨B, 0, none⟩ x).cell? ⟨B, 0, none⟩ = some x := World.cell?_setCell_same _ _ _ h0
theorem put1 {W : World} {B : Nat} {v : Value} (h1 : W.cell? ⟨B, 1, none⟩ = some v) (x y : Value) : ((W.setCell ⟨B, 0, none⟩ x).setCell ⟨B, 1, none⟩ y).cell? ⟨B, 1, none⟩ = some y := World.cell?_setCell_same _ _ _ (set_otherB (by decide) h1)
def normE (s : ByteArray) (p : Int) : Int := if 2000 < s.size then 2 else if allD s.data.toList = false then 4 else if p < -5000 ∨ 5000 < p then 2 else 0
def normV (s : ByteArray) (p : Int) : Nat := if normE s p = 0 then V s.data.toList p else 0
theorem normE_big {s : ByteArray} {p : Int} (h : 2000 < s.size) : normE s p = 2 := if_pos h
theorem normE_form {s : ByteArray} {p : Int} (h : ¬ 2000 < s.size) (h2 : allD s.data.toList = false) : normE s p = 4 := by unfold normE; rw [if_neg h, if_pos h2]
theorem normE_pt {s : ByteArray} {p : Int} (h : ¬ 2000 < s.size) (h2 : allD s.data.toList = true) (h3 : p < -5000 ∨ 5000 < p) : normE s p = 2 := by unfold normE; rw [if_neg h, if_neg (by rw [h2]; simp), if_pos h3]
theorem normE_ok {s : ByteArray} {p : Int} (h : ¬ 2000 < s.size) (h2 : allD s.data.toList = true) (h3 : ¬ p < -5000) (h4 : ¬ 5000 < p) : normE s p = 0 := by unfold normE; rw [if_neg h, if_neg (by rw [h2]; simp), if_neg (by omega)]
theorem normE_zero {s : ByteArray} {p : Int} (h : normE s p = 0) : s.size ≤ 2000 ∧ allD s.data.toList = true ∧ -5000 ≤ p ∧ p ≤ 5000 := by
 unfold normE at h
 split at h
 ·cases h
 ·split at h
  ·cases h
  ·split at h
   ·cases h
   ·rename_i h1 h2 h3
    refine ⟨by omega, ?_, by omega, by omega⟩
    cases hh : allD s.data.toList with
    | true => rfl
    | false => exact absurd hh h2
theorem normV_err {s : ByteArray} {p : Int} {e : Int} (h : normE s p = e) (he : e ≠ 0) : normV s p = 0 := by unfold normV; rw [if_neg (by rw [h]; exact he)]
theorem normV_ok {s : ByteArray} {p : Int} (h : normE s p = 0) : normV s p = V s.data.toList p := if_pos h
set_option maxRecDepth 1000000 in
set_option maxHeartbeats 400000 in
theorem norm_any (s : ByteArray) (p : Int) (w : World) (hs : s.size ≤ 9223372036854775807) :
  Calls Tryz.prog 20 #[.agg #[.string s, .int .i64 p]] w fun e w' => e = .returned (.tuple #[.agg #[.string (oS (normV s p)), .int .i64 (oP (normV s p))], .int .i64 (normE s p)]) ∧ Below w.heap.size w w' := by
 have hA : ∀ w, Calls Tryz.prog 43 #[.string s] w fun e w' => e = .returned (.bool (allD s.data.toList)) ∧ w' = w := fun w => alldigits_any s w hs
 by_cases h1 : 2000 < s.size
 ·have h1I : 2000 < (s.size : Int) := by omega
  have HE : Hid (normE s p = 2) := normE_big h1
  have HV : Hid (normV s p = 0) := normV_err HE.out (by decide)
  clear hA
  go_enter Tryz.func20, Tryz.ntmps20
  go_wp2
  go_returns
  rw [HE.out, HV.out, zero_S, o_zero.2]
  exact ⟨rfl, by go_grown⟩
 have h1I : ¬ 2000 < (s.size : Int) := by omega
 cases h2 : allD s.data.toList with
 | false =>
   rw [h2] at hA
   have HE : Hid (normE s p = 4) := normE_form h1 h2
   have HV : Hid (normV s p = 0) := normV_err HE.out (by decide)
   clear h2
   go_enter Tryz.func20, Tryz.ntmps20
   go_wp2_with (go_at_call 43; refine (hA _).mono ?_; rintro e w2 ⟨rfl, rfl⟩)
   go_returns
   rw [HE.out, HV.out, zero_S, o_zero.2]
   exact ⟨rfl, by go_grown⟩
 | true =>
   rw [h2] at hA
   by_cases h3 : p < -5000
   ·have HE : Hid (normE s p = 2) := normE_pt h1 h2 (.inl h3)
    have HV : Hid (normV s p = 0) := normV_err HE.out (by decide)
    clear h2
    go_enter Tryz.func20, Tryz.ntmps20
    go_wp2_with (go_at_call 43; refine (hA _).mono ?_; rintro e w2 ⟨rfl, rfl⟩)
    go_returns
    rw [HE.out, HV.out, zero_S, o_zero.2]
    exact ⟨rfl, by go_grown⟩
   by_cases h4 : 5000 < p
   ·have HE : Hid (normE s p = 2) := normE_pt h1 h2 (.inr h4)
    have HV : Hid (normV s p = 0) := normV_err HE.out (by decide)
    clear h2
    go_enter Tryz.func20, Tryz.ntmps20
    go_wp2_with (go_at_call 43; refine (hA _).mono ?_; rintro e w2 ⟨rfl, rfl⟩)
    go_returns
    rw [HE.out, HV.out, zero_S, o_zero.2]
    exact ⟨rfl, by go_grown⟩
   have HE : Hid (normE s p = 0) := normE_ok h1 h2 h3 h4
   have HV : Hid (normV s p = V s.data.toList p) := normV_ok HE.out
   have hI : ∀ w, Calls Tryz.prog 44 #[.agg #[.string s, .int .i64 p]] w fun e w' => e = .returned (.agg #[.string (oS (V s.data.toList p)), .int .i64 (oP (V s.data.toList p))]) ∧ Below w.heap.size w w' := fun w => inform_any s p w h2 (by omega) (by omega) (by omega)
   clear h2
   generalize V s.data.toList p = v at *
   generalize hS : oS v = S at *
   generalize hP : oP v = P at *
   have HS : Hid (oS v = S) := hS
   have HP : Hid (oP v = P) := hP
   clear hS hP
   go_enter Tryz.func20, Tryz.ntmps20
   go_wp2_with (first | (go_at_call 43; refine (hA _).mono ?_; rintro e w2 ⟨rfl, rfl⟩) | (go_at_call 44; refine (hI _).mono ?_; rintro e w3 ⟨rfl, hb3⟩; have k0 := keep hb3 (p := ⟨w.heap.size + 1, 0, none⟩) (v := .string ⟨#[]⟩) (by simp); have k1 := keep hb3 (p := ⟨w.heap.size + 1, 1, none⟩) (v := .int .i64 0) (by simp); have k2 := keepf hb3 (p := ⟨w.heap.size + 1, 0, none⟩) (by simp) (by simp); have k3 := keepf hb3 (p := ⟨w.heap.size + 1, 1, none⟩) (by simp) (by simp)))
   refine bodyPost_ret (by simp [results, Tryz.results20, go_sem, put0 k0, put1 k1]; rfl) rfl ?_
   rw [HE.out, HV.out, HS.out, HP.out]
   refine ⟨rfl, ?_⟩
   have h0 := bel_call (B := w.heap.size) (w := w) (by go_grown) hb3 (Nat.le_refl _)
   exact (h0.setCell (by simp) _).setCell (by simp) _
set_option maxRecDepth 1000000 in
theorem order_any (b : Bool) (w : World) : Calls Tryz.prog 67 #[.bool b] w fun e w' => e = .returned (.int .i64 (if b then -1 else 1)) ∧ w' = w := by
 cases b <;>
 ·go_enter Tryz.func67, Tryz.ntmps67
  go_wp2
  go_ret
  exact ⟨rfl, rfl⟩
set_option maxRecDepth 1000000 in
theorem lastplace_any (s : ByteArray) (p : Int) (w : World) (hs : s.size ≤ 100000) (hp0 : -100000 ≤ p) (hp1 : p ≤ 100000) :
  Calls Tryz.prog 52 #[.agg #[.string s, .int .i64 p]] w fun e w' => e = .returned (.int .i64 (p - s.size)) ∧ Below w.heap.size w w' := by
 go_enter Tryz.func52, Tryz.ntmps52
 go_wp2
 go_ret
 exact ⟨rfl, by go_grown⟩
end Go.Proofs.YtiagjheifblkiaaGreatDoor
namespace Go.Proofs.YtiagjheifblkiaaGreatDoor
open Go.RowKit
set_option linter.unusedVariables false
theorem keeph {W w2 : World} (hb : Below W.heap.size W w2) {p : Addr} {v : Value} (h : W.cell? p = some v ∧ W.frozen? p = false) : w2.cell? p = some v ∧ w2.frozen? p = false := by
 refine ⟨keep hb h.1, ?_⟩
 have hp : p.block < W.heap.size := by
  rcases Nat.lt_or_ge p.block W.heap.size with h1 | h1
  ·exact h1
  ·have := h.1; simp [World.cell?, Array.getElem?_eq_none h1] at this
 exact (hb.frozen hp).trans h.2
theorem cs_same (W : World) (a : Addr) (v : Value) (h : (W.cell? a).isSome = true) : (W.setCell a v).cell? a = some v := by
 obtain ⟨u, hu⟩ := Option.isSome_iff_exists.1 h
 exact World.cell?_setCell_same _ _ _ hu
def BoxDe (W : World) (B : Nat) (x y : Value) : Prop := W.cell? ⟨B, 0, none⟩ = some x ∧ W.cell? ⟨B, 1, none⟩ = some y ∧ W.frozen? ⟨B, 0, none⟩ = false ∧ W.frozen? ⟨B, 1, none⟩ = false
theorem keepb {W w2 : World} (hb : Below W.heap.size W w2) {B : Nat} {x y : Value} (h : BoxDe W B x y) : BoxDe w2 B x y :=
 ⟨(keeph hb ⟨h.1, h.2.2.1⟩).1, (keeph hb ⟨h.2.1, h.2.2.2⟩).1, (keeph hb ⟨h.1, h.2.2.1⟩).2, (keeph hb ⟨h.2.1, h.2.2.2⟩).2⟩
theorem BoxDe.put {W : World} {B : Nat} {x y : Value} (h : BoxDe W B x y) (x' y' : Value) : BoxDe ((W.setCell ⟨B, 0, none⟩ x').setCell ⟨B, 1, none⟩ y') B x' y' :=
 ⟨set_otherB (by decide) (World.cell?_setCell_same _ _ _ h.1), put1 h.2.1 _ _, by rw [World.frozen?_setCell, World.frozen?_setCell]; exact h.2.2.1, by rw [World.frozen?_setCell, World.frozen?_setCell]; exact h.2.2.2⟩
theorem BoxDe.past {W : World} {B C : Nat} {x y : Value} (h : BoxDe W B x y) (hne : C ≠ B) (x' y' : Value) : BoxDe ((W.setCell ⟨C, 0, none⟩ x').setCell ⟨C, 1, none⟩ y') B x y :=
 ⟨set_past hne (set_past hne h.1), set_past hne (set_past hne h.2.1), by rw [World.frozen?_setCell, World.frozen?_setCell]; exact h.2.2.1, by rw [World.frozen?_setCell, World.frozen?_setCell]; exact h.2.2.2⟩
theorem BoxDe.reads {W : World} {B : Nat} {x y : Value} (h : BoxDe W B x y) : (∀ u, (W.setCell ⟨B, 0, none⟩ u).cell? ⟨B, 0, none⟩ = some u) ∧ (∀ u v, ((W.setCell ⟨B, 0, none⟩ u).setCell ⟨B, 1, none⟩ v).cell? ⟨B, 1, none⟩ = some v) := ⟨fun u => put0 h.1 u, fun u v => put1 h.2.1 u v⟩
def bE (e1 e2 : Int) : Int := if e1 = 0 then e2 else e1
def NormC (s : ByteArray) (p : Int) (S : ByteArray) (P E : Int) : Prop := ∀ w, Calls Tryz.prog 20 #[.agg #[.string s, .int .i64 p]] w fun e w' => e = .returned (.tuple #[.agg #[.string S, .int .i64 P], .int .i64 E]) ∧ Below w.heap.size w w'
set_option maxRecDepth 1000000 in
set_option maxHeartbeats 400000 in
theorem nb_first {s1 s2 S1 : ByteArray} {p1 p2 P1 E1 : Int} (h1 : NormC s1 p1 S1 P1 E1) (hE : ¬ E1 = 0) (w : World) :
  Calls Tryz.prog 32 #[.agg #[.string s1, .int .i64 p1], .agg #[.string s2, .int .i64 p2]] w fun e w' => e = .returned (.tuple #[.agg #[.string ⟨#[]⟩, .int .i64 0], .agg #[.string ⟨#[]⟩, .int .i64 0], .int .i64 E1]) ∧ Below w.heap.size w w' := by
 have hEb : (E1 != 0) = true := by simp [hE]
 go_enter Tryz.func32, Tryz.ntmps32
 go_wp2_with (go_at_call_of 20 s1; refine (h1 _).mono ?_; rintro e w2 ⟨rfl, hb2⟩; obtain ⟨a0, a1, a2, a3⟩ := keepb hb2 (B := w.heap.size) (x := .string s1) (y := .int .i64 p1) (by simp [BoxDe, go_sem]); obtain ⟨r0, r1, r2, r3⟩ := keepb hb2 (B := w.heap.size + 2) (x := .string ⟨#[]⟩) (y := .int .i64 0) (by simp [BoxDe, go_sem]); obtain ⟨t0, t1, t2, t3⟩ := keepb hb2 (B := w.heap.size + 3) (x := .string ⟨#[]⟩) (y := .int .i64 0) (by simp [BoxDe, go_sem]))
 refine bodyPost_ret (by simp [results, Tryz.results32, go_sem, cs_same, r0, r1, t0, t1]; rfl) rfl ?_
 refine ⟨rfl, ?_⟩
 have h0 := bel_call (B := w.heap.size) (w := w) (by go_grown) hb2 (Nat.le_refl _)
 iterate 6 (refine Below.setCell ?_ (by dsimp only; omega) _)
 exact h0
set_option maxRecDepth 1000000 in
set_option maxHeartbeats 800000 in
theorem nb_both {s1 s2 S1 S2 : ByteArray} {p1 p2 P1 P2 : Int} (h1 : NormC s1 p1 S1 P1 0) (h2 : NormC s2 p2 S2 P2 0) (w : World) :
  Calls Tryz.prog 32 #[.agg #[.string s1, .int .i64 p1], .agg #[.string s2, .int .i64 p2]] w fun e w' => e = .returned (.tuple #[.agg #[.string S1, .int .i64 P1], .agg #[.string S2, .int .i64 P2], .int .i64 0]) ∧ Below w.heap.size w w' := by
 go_enter Tryz.func32, Tryz.ntmps32
 go_wp2_with (first
  | (go_at_call_of 20 s1; refine (h1 _).mono ?_; rintro e w2 ⟨rfl, hb2⟩; have bA := keepb hb2 (B := w.heap.size) (x := .string s1) (y := .int .i64 p1) (by simp [BoxDe, go_sem]); have bB := keepb hb2 (B := w.heap.size + 1) (x := .string s2) (y := .int .i64 p2) (by simp [BoxDe, go_sem]); have bR := keepb hb2 (B := w.heap.size + 2) (x := .string ⟨#[]⟩) (y := .int .i64 0) (by simp [BoxDe, go_sem]); have bT := keepb hb2 (B := w.heap.size + 3) (x := .string ⟨#[]⟩) (y := .int .i64 0) (by simp [BoxDe, go_sem]); obtain ⟨a0, a1, a2, a3⟩ := id bA; obtain ⟨b0, b1, b2, b3⟩ := id bB)
  | (go_at_call_of 20 s2; refine (h2 _).mono ?_; rintro e w3 ⟨rfl, hb3⟩; have bA' := keepb hb3 (bA.put (.string S1) (.int .i64 P1)); have bB' := keepb hb3 (bB.past (C := w.heap.size) (by omega) (.string S1) (.int .i64 P1)); have bR' := keepb hb3 (bR.past (C := w.heap.size) (by omega) (.string S1) (.int .i64 P1)); have bT' := keepb hb3 (bT.past (C := w.heap.size) (by omega) (.string S1) (.int .i64 P1)); obtain ⟨c0, c1, c2, c3⟩ := id bA'; obtain ⟨d0, d1, d2, d3⟩ := id bB'; obtain ⟨r0, r1, r2, r3⟩ := id bR'; obtain ⟨t0, t1, t2, t3⟩ := id bT'; obtain ⟨z0, z1⟩ := bB'.reads))
 go_region
 go_wp2
 refine bodyPost_ret (by simp [results, Tryz.results32, go_sem, cs_same, r0, r1, t0, t1]; rfl) rfl ?_
 refine ⟨rfl, ?_⟩
 have h0 := bel_call (B := w.heap.size) (w := w) (by go_grown) hb2 (Nat.le_refl _)
 have h1 := (h0.setCell (p := ⟨w.heap.size, 0, none⟩) (Nat.le_refl _) (.string S1)).setCell (p := ⟨w.heap.size, 1, none⟩) (Nat.le_refl _) (.int .i64 P1)
 have h2 := bel_call h1 hb3 (Nat.le_refl _)
 refine Below.drew ?_
 iterate 6 (refine Below.setCell ?_ (by dsimp only; omega) _)
 exact h2
set_option maxRecDepth 1000000 in
set_option maxHeartbeats 800000 in
theorem nb_second {s1 s2 S1 S2 : ByteArray} {p1 p2 P1 P2 E2 : Int} (h1 : NormC s1 p1 S1 P1 0) (h2 : NormC s2 p2 S2 P2 E2) (hE : ¬ E2 = 0) (w : World) :
  Calls Tryz.prog 32 #[.agg #[.string s1, .int .i64 p1], .agg #[.string s2, .int .i64 p2]] w fun e w' => e = .returned (.tuple #[.agg #[.string ⟨#[]⟩, .int .i64 0], .agg #[.string ⟨#[]⟩, .int .i64 0], .int .i64 E2]) ∧ Below w.heap.size w w' := by
 have hEb : (E2 != 0) = true := by simp [hE]
 go_enter Tryz.func32, Tryz.ntmps32
 go_wp2_with (first
  | (go_at_call_of 20 s1; refine (h1 _).mono ?_; rintro e w2 ⟨rfl, hb2⟩; have bA := keepb hb2 (B := w.heap.size) (x := .string s1) (y := .int .i64 p1) (by simp [BoxDe, go_sem]); have bB := keepb hb2 (B := w.heap.size + 1) (x := .string s2) (y := .int .i64 p2) (by simp [BoxDe, go_sem]); have bR := keepb hb2 (B := w.heap.size + 2) (x := .string ⟨#[]⟩) (y := .int .i64 0) (by simp [BoxDe, go_sem]); have bT := keepb hb2 (B := w.heap.size + 3) (x := .string ⟨#[]⟩) (y := .int .i64 0) (by simp [BoxDe, go_sem]); obtain ⟨a0, a1, a2, a3⟩ := id bA; obtain ⟨b0, b1, b2, b3⟩ := id bB)
  | (go_at_call_of 20 s2; refine (h2 _).mono ?_; rintro e w3 ⟨rfl, hb3⟩; have bA' := keepb hb3 (bA.put (.string S1) (.int .i64 P1)); have bB' := keepb hb3 (bB.past (C := w.heap.size) (by omega) (.string S1) (.int .i64 P1)); have bR' := keepb hb3 (bR.past (C := w.heap.size) (by omega) (.string S1) (.int .i64 P1)); have bT' := keepb hb3 (bT.past (C := w.heap.size) (by omega) (.string S1) (.int .i64 P1)); obtain ⟨c0, c1, c2, c3⟩ := id bA'; obtain ⟨d0, d1, d2, d3⟩ := id bB'; obtain ⟨r0, r1, r2, r3⟩ := id bR'; obtain ⟨t0, t1, t2, t3⟩ := id bT'; obtain ⟨z0, z1⟩ := bB'.reads))
 refine bodyPost_ret (by simp [results, Tryz.results32, go_sem, cs_same, r0, r1, t0, t1]; rfl) rfl ?_
 refine ⟨rfl, ?_⟩
 have h0 := bel_call (B := w.heap.size) (w := w) (by go_grown) hb2 (Nat.le_refl _)
 have h1 := (h0.setCell (p := ⟨w.heap.size, 0, none⟩) (Nat.le_refl _) (.string S1)).setCell (p := ⟨w.heap.size, 1, none⟩) (Nat.le_refl _) (.int .i64 P1)
 have h2 := bel_call h1 hb3 (Nat.le_refl _)
 iterate 6 (refine Below.setCell ?_ (by dsimp only; omega) _)
 exact h2
theorem normC (s : ByteArray) (p : Int) (hs : s.size ≤ 9223372036854775807) : NormC s p (oS (normV s p)) (oP (normV s p)) (normE s p) := fun w => norm_any s p w hs
def BothC (s1 : ByteArray) (p1 : Int) (s2 : ByteArray) (p2 : Int) (S1 : ByteArray) (P1 : Int) (S2 : ByteArray) (P2 E : Int) : Prop := ∀ w, Calls Tryz.prog 32 #[.agg #[.string s1, .int .i64 p1], .agg #[.string s2, .int .i64 p2]] w fun e w' => e = .returned (.tuple #[.agg #[.string S1, .int .i64 P1], .agg #[.string S2, .int .i64 P2], .int .i64 E]) ∧ Below w.heap.size w w'
def bV (e : Int) (v : Nat) : Nat := if e = 0 then v else 0
theorem bothC (s1 s2 : ByteArray) (p1 p2 : Int) (hs1 : s1.size ≤ 9223372036854775807) (hs2 : s2.size ≤ 9223372036854775807) :
  BothC s1 p1 s2 p2 (oS (bV (bE (normE s1 p1) (normE s2 p2)) (normV s1 p1))) (oP (bV (bE (normE s1 p1) (normE s2 p2)) (normV s1 p1))) (oS (bV (bE (normE s1 p1) (normE s2 p2)) (normV s2 p2))) (oP (bV (bE (normE s1 p1) (normE s2 p2)) (normV s2 p2))) (bE (normE s1 p1) (normE s2 p2)) := fun w => by
 have h1 := normC s1 p1 hs1
 have h2 := normC s2 p2 hs2
 by_cases e1 : normE s1 p1 = 0
 ·rw [e1] at h1
  have eb : bE (normE s1 p1) (normE s2 p2) = normE s2 p2 := if_pos e1
  rw [eb]
  by_cases e2 : normE s2 p2 = 0
  ·rw [e2] at h2 ⊢
   have := nb_both h1 h2 w
   simpa [bV] using this
  ·have := nb_second h1 h2 e2 w
   simpa [bV, e2, zero_S, o_zero.2] using this
 ·have eb : bE (normE s1 p1) (normE s2 p2) = normE s1 p1 := if_neg e1
  rw [eb]
  have := nb_first (s2 := s2) (p2 := p2) h1 e1 w
  simpa [bV, e1, zero_S, o_zero.2] using this
set_option maxRecDepth 1000000 in
set_option maxHeartbeats 800000 in
theorem cmp_err {s1 s2 S1 S2 : ByteArray} {p1 p2 P1 P2 E : Int} (hB : BothC s1 p1 s2 p2 S1 P1 S2 P2 E) (hE : ¬ E = 0) (w : World) :
  Calls Tryz.prog 50 #[.agg #[.string s1, .int .i64 p1], .agg #[.string s2, .int .i64 p2]] w fun e w' => e = .returned (.tuple #[.int .i64 0, .int .i64 E]) ∧ Below w.heap.size w w' := by
 have hEb : (E != 0) = true := by simp [hE]
 go_enter Tryz.func50, Tryz.ntmps50
 go_wp2_with (go_at_call 32; refine (hB _).mono ?_; rintro e w2 ⟨rfl, hb2⟩; have bA := keepb hb2 (B := w.heap.size) (x := .string s1) (y := .int .i64 p1) (by simp [BoxDe, go_sem]); have bB := keepb hb2 (B := w.heap.size + 1) (x := .string s2) (y := .int .i64 p2) (by simp [BoxDe, go_sem]); obtain ⟨a0, a1, a2, a3⟩ := id bA; obtain ⟨b0, b1, b2, b3⟩ := id bB)
 go_ret2
 refine ⟨rfl, ?_⟩
 have h0 := bel_call (B := w.heap.size) (w := w) (by go_grown) hb2 (Nat.le_refl _)
 iterate 4 (refine Below.setCell ?_ (by dsimp only; omega) _)
 exact h0
set_option maxRecDepth 1000000 in
set_option maxHeartbeats 1600000 in
theorem cmp_ok {s1 s2 : ByteArray} {p1 p2 : Int} {v u : Nat} (hB : BothC s1 p1 s2 p2 (oS v) (oP v) (oS u) (oP u) 0) (w : World) :
  Calls Tryz.prog 50 #[.agg #[.string s1, .int .i64 p1], .agg #[.string s2, .int .i64 p2]] w fun e w' => e = .returned (.tuple #[.int .i64 (ordN v u), .int .i64 0]) ∧ Below w.heap.size w w' := by
 have hC : ∀ w, Calls Tryz.prog 68 #[.string (oS v), .string (oS u)] w fun e w' => e = .returned (.int .i64 (Lib.compareBytes (oL v) (oL u))) ∧ w' = w := fun w => Tryz.strings_Compare (oS v) (oS u) w
 have HR : Hid (oL v = [] ∨ oL u = [] ∨ oP v = oP u → Lib.compareBytes (oL v) (oL u) = ordN v u) := cmp_rest
 have HL : Hid (oL v ≠ [] → oL u ≠ [] → oP v < oP u → v < u) := cmp_points
 have HG : Hid (oL u ≠ [] → oL v ≠ [] → oP u < oP v → u < v) := cmp_points
 have zv := oS_size v
 have zu := oS_size u
 have nv : oL v = [] ↔ (oS v).size = 0 := by rw [zv]; exact List.length_eq_zero_iff.symm
 have nu : oL u = [] ↔ (oS u).size = 0 := by rw [zu]; exact List.length_eq_zero_iff.symm
 simp only [ne_eq] at HL HG
 rw [nv, nu] at HL HG HR
 clear zv zu nv nu
 generalize Lib.compareBytes (oL v) (oL u) = cb at *
 generalize oS v = S1 at *
 generalize oS u = S2 at *
 generalize oP v = P1 at *
 generalize oP u = P2 at *
 by_cases h1 : S1.size = 0
 ·have e1 : S1.toList.isEmpty = true := empty_yes S1 h1
  have HE : Hid (cb = ordN v u) := HR.out (.inl h1)
  clear HR HL HG h1
  go_enter Tryz.func50, Tryz.ntmps50
  go_wp2_with (first | (go_at_call 32; refine (hB _).mono ?_; rintro e w2 ⟨rfl, hb2⟩; have bA := keepb hb2 (B := w.heap.size) (x := .string s1) (y := .int .i64 p1) (by simp [BoxDe, go_sem]); have bB := keepb hb2 (B := w.heap.size + 1) (x := .string s2) (y := .int .i64 p2) (by simp [BoxDe, go_sem]); obtain ⟨a0, a1, a2, a3⟩ := id bA; obtain ⟨b0, b1, b2, b3⟩ := id bB; obtain ⟨y0, y1⟩ := bA.reads; obtain ⟨z0, z1⟩ := (bB.past (C := w.heap.size) (by omega) (.string S1) (.int .i64 P1)).reads) | (go_at_call 68; refine (hC _).mono ?_; rintro e w3 ⟨rfl, rfl⟩))
  go_ret2
  rw [← HE.out]
  refine ⟨rfl, ?_⟩
  have h0 := bel_call (B := w.heap.size) (w := w) (by go_grown) hb2 (Nat.le_refl _)
  iterate 4 (refine Below.setCell ?_ (by dsimp only; omega) _)
  exact h0
 have e1 : S1.toList.isEmpty = false := empty_no S1 (by omega)
 by_cases h2 : S2.size = 0
 ·have e2 : S2.toList.isEmpty = true := empty_yes S2 h2
  have HE : Hid (cb = ordN v u) := HR.out (.inr (.inl h2))
  clear HR HL HG h1 h2
  go_enter Tryz.func50, Tryz.ntmps50
  go_wp2_with (first | (go_at_call 32; refine (hB _).mono ?_; rintro e w2 ⟨rfl, hb2⟩; have bA := keepb hb2 (B := w.heap.size) (x := .string s1) (y := .int .i64 p1) (by simp [BoxDe, go_sem]); have bB := keepb hb2 (B := w.heap.size + 1) (x := .string s2) (y := .int .i64 p2) (by simp [BoxDe, go_sem]); obtain ⟨a0, a1, a2, a3⟩ := id bA; obtain ⟨b0, b1, b2, b3⟩ := id bB; obtain ⟨y0, y1⟩ := bA.reads; obtain ⟨z0, z1⟩ := (bB.past (C := w.heap.size) (by omega) (.string S1) (.int .i64 P1)).reads) | (go_at_call 68; refine (hC _).mono ?_; rintro e w3 ⟨rfl, rfl⟩))
  go_ret2
  rw [← HE.out]
  refine ⟨rfl, ?_⟩
  have h0 := bel_call (B := w.heap.size) (w := w) (by go_grown) hb2 (Nat.le_refl _)
  iterate 4 (refine Below.setCell ?_ (by dsimp only; omega) _)
  exact h0
 have e2 : S2.toList.isEmpty = false := empty_no S2 (by omega)
 by_cases h3 : P1 = P2
 ·have HE : Hid (cb = ordN v u) := HR.out (.inr (.inr h3))
  have h3b : (P1 != P2) = false := by simp [h3]
  clear HR HL HG h1 h2 h3
  go_enter Tryz.func50, Tryz.ntmps50
  go_wp2_with (first | (go_at_call 32; refine (hB _).mono ?_; rintro e w2 ⟨rfl, hb2⟩; have bA := keepb hb2 (B := w.heap.size) (x := .string s1) (y := .int .i64 p1) (by simp [BoxDe, go_sem]); have bB := keepb hb2 (B := w.heap.size + 1) (x := .string s2) (y := .int .i64 p2) (by simp [BoxDe, go_sem]); obtain ⟨a0, a1, a2, a3⟩ := id bA; obtain ⟨b0, b1, b2, b3⟩ := id bB; obtain ⟨y0, y1⟩ := bA.reads; obtain ⟨z0, z1⟩ := (bB.past (C := w.heap.size) (by omega) (.string S1) (.int .i64 P1)).reads) | (go_at_call 68; refine (hC _).mono ?_; rintro e w3 ⟨rfl, rfl⟩))
  go_ret2
  rw [← HE.out]
  refine ⟨rfl, ?_⟩
  have h0 := bel_call (B := w.heap.size) (w := w) (by go_grown) hb2 (Nat.le_refl _)
  iterate 4 (refine Below.setCell ?_ (by dsimp only; omega) _)
  exact h0
 have h3b : (P1 != P2) = true := by simp [h3]
 by_cases h4 : P1 < P2
 ·have HE : Hid (ordN v u = -1) := ordN_lt (HL.out h1 h2 h4)
  have h4b : decide (P1 < P2) = true := by simp [h4]
  have hO : ∀ w, Calls Tryz.prog 67 #[.bool true] w fun e w' => e = .returned (.int .i64 (-1)) ∧ w' = w := fun w => order_any true w
  clear HR HL HG h1 h2
  go_enter Tryz.func50, Tryz.ntmps50
  go_wp2_with (first | (go_at_call 32; refine (hB _).mono ?_; rintro e w2 ⟨rfl, hb2⟩; have bA := keepb hb2 (B := w.heap.size) (x := .string s1) (y := .int .i64 p1) (by simp [BoxDe, go_sem]); have bB := keepb hb2 (B := w.heap.size + 1) (x := .string s2) (y := .int .i64 p2) (by simp [BoxDe, go_sem]); obtain ⟨a0, a1, a2, a3⟩ := id bA; obtain ⟨b0, b1, b2, b3⟩ := id bB; obtain ⟨y0, y1⟩ := bA.reads; obtain ⟨z0, z1⟩ := (bB.past (C := w.heap.size) (by omega) (.string S1) (.int .i64 P1)).reads) | (go_at_call 67; refine (hO _).mono ?_; rintro e w3 ⟨rfl, rfl⟩))
  go_ret2
  rw [HE.out]
  refine ⟨rfl, ?_⟩
  have h0 := bel_call (B := w.heap.size) (w := w) (by go_grown) hb2 (Nat.le_refl _)
  iterate 4 (refine Below.setCell ?_ (by dsimp only; omega) _)
  exact h0
 ·have HE : Hid (ordN v u = 1) := ordN_gt (HG.out h2 h1 (by omega))
  have h4b : decide (P1 < P2) = false := by simp; omega
  have hO : ∀ w, Calls Tryz.prog 67 #[.bool false] w fun e w' => e = .returned (.int .i64 1) ∧ w' = w := fun w => order_any false w
  clear HR HL HG h1 h2
  go_enter Tryz.func50, Tryz.ntmps50
  go_wp2_with (first | (go_at_call 32; refine (hB _).mono ?_; rintro e w2 ⟨rfl, hb2⟩; have bA := keepb hb2 (B := w.heap.size) (x := .string s1) (y := .int .i64 p1) (by simp [BoxDe, go_sem]); have bB := keepb hb2 (B := w.heap.size + 1) (x := .string s2) (y := .int .i64 p2) (by simp [BoxDe, go_sem]); obtain ⟨a0, a1, a2, a3⟩ := id bA; obtain ⟨b0, b1, b2, b3⟩ := id bB; obtain ⟨y0, y1⟩ := bA.reads; obtain ⟨z0, z1⟩ := (bB.past (C := w.heap.size) (by omega) (.string S1) (.int .i64 P1)).reads) | (go_at_call 67; refine (hO _).mono ?_; rintro e w3 ⟨rfl, rfl⟩))
  go_ret2
  rw [HE.out]
  refine ⟨rfl, ?_⟩
  have h0 := bel_call (B := w.heap.size) (w := w) (by go_grown) hb2 (Nat.le_refl _)
  iterate 4 (refine Below.setCell ?_ (by dsimp only; omega) _)
  exact h0
theorem cmp_any (s1 s2 : ByteArray) (p1 p2 : Int) (w : World) (hs1 : s1.size ≤ 9223372036854775807) (hs2 : s2.size ≤ 9223372036854775807) :
  Calls Tryz.prog 50 #[.agg #[.string s1, .int .i64 p1], .agg #[.string s2, .int .i64 p2]] w fun e w' => e = .returned (.tuple #[.int .i64 (if bE (normE s1 p1) (normE s2 p2) = 0 then ordN (normV s1 p1) (normV s2 p2) else 0), .int .i64 (bE (normE s1 p1) (normE s2 p2))]) ∧ Below w.heap.size w w' := by
 have hB := bothC s1 s2 p1 p2 hs1 hs2
 by_cases hE : bE (normE s1 p1) (normE s2 p2) = 0
 ·rw [hE] at hB ⊢
  simp only [bV, if_true] at hB ⊢
  exact cmp_ok hB w
 ·rw [if_neg hE]
  exact cmp_err hB hE w
end Go.Proofs.YtiagjheifblkiaaGreatDoor
