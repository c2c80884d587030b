/- BTopD, Lives4, BLaw, FText: these texts in one. -/
import Derived.Test.YtiagjheifblkiaaGreatDoorPt24
import Derived.Test.YtiagjheifblkiaaGreatDoorPt1
import Derived.Lib.Join
import Derived.Lib.BitFns
namespace Go.Proofs.YtiagjheifblkiaaGreatDoor
open Go.RowKit
set_option linter.unusedVariables false
def RoundedC (S : ByteArray) (P n : Int) (S2 : ByteArray) (P2 : Int) : Prop := ∀ w, Calls Tryz.prog 23 #[.agg #[.string S, .int .i64 P], .int .i64 n] w fun e w' => e = .returned (.agg #[.string S2, .int .i64 P2]) ∧ Below w.heap.size w w'
set_option maxRecDepth 1000000 in
set_option maxHeartbeats 800000 in
theorem round_err {s S : ByteArray} {p P E : Int} (n : Int) (hN : NormC s p S P E) (hE : ¬ E = 0) (w : World) :
  Calls Tryz.prog 11 #[.agg #[.string s, .int .i64 p], .int .i64 n] w fun e w' => e = .returned (.tuple #[.agg #[.string ⟨#[]⟩, .int .i64 0], .int .i64 E]) ∧ Below w.heap.size w w' := by
 have hEb : (E != 0) = true := by simp [hE]
 go_enter Tryz.func11, Tryz.ntmps11
 go_wp2_with (go_at_call 20; refine (hN _).mono ?_; rintro e w2 ⟨rfl, hb2⟩; obtain ⟨a0, a1, a2, a3⟩ := keepb hb2 (B := w.heap.size) (x := .string s) (y := .int .i64 p) (by simp [BoxDe, go_sem]); obtain ⟨r0, r1, r2, r3⟩ := keepb hb2 (B := w.heap.size + 1) (x := .string ⟨#[]⟩) (y := .int .i64 0) (by simp [BoxDe, go_sem]))
 refine bodyPost_ret (by simp [results, Tryz.results11, go_sem, cs_same, r0, r1]; rfl) rfl ?_
 refine ⟨rfl, ?_⟩
 have h0 := bel_call (B := w.heap.size) (w := w) (by go_grown) hb2 (Nat.le_refl _)
 iterate 4 (refine Below.setCell ?_ (by dsimp only; omega) _)
 exact h0
set_option maxRecDepth 1000000 in
set_option maxHeartbeats 800000 in
theorem round_ok {s S S2 : ByteArray} {p P n P2 : Int} (hN : NormC s p S P 0) (hR : RoundedC S P n S2 P2) (w : World) :
  Calls Tryz.prog 11 #[.agg #[.string s, .int .i64 p], .int .i64 n] w fun e w' => e = .returned (.tuple #[.agg #[.string S2, .int .i64 P2], .int .i64 0]) ∧ Below w.heap.size w w' := by
 go_enter Tryz.func11, Tryz.ntmps11
 go_wp2_with (first
  | (go_at_call 20; refine (hN _).mono ?_; rintro e w2 ⟨rfl, hb2⟩; have bA := keepb hb2 (B := w.heap.size) (x := .string s) (y := .int .i64 p) (by simp [BoxDe, go_sem]); have bR := keepb hb2 (B := w.heap.size + 1) (x := .string ⟨#[]⟩) (y := .int .i64 0) (by simp [BoxDe, go_sem]); obtain ⟨a0, a1, a2, a3⟩ := id bA; obtain ⟨y0, y1⟩ := bA.reads)
  | (go_at_call 23; refine (hR _).mono ?_; rintro e w3 ⟨rfl, hb3⟩; obtain ⟨r0, r1, r2, r3⟩ := keepb hb3 (bR.past (C := w.heap.size) (by omega) (.string S) (.int .i64 P))))
 refine bodyPost_ret (by simp [results, Tryz.results11, go_sem, cs_same, r0, r1]; rfl) rfl ?_
 refine ⟨rfl, ?_⟩
 have h0 := bel_call (B := w.heap.size) (w := w) (by go_grown) hb2 (Nat.le_refl _)
 have h1 := (h0.setCell (p := ⟨w.heap.size, 0, none⟩) (Nat.le_refl _) (.string S)).setCell (p := ⟨w.heap.size, 1, none⟩) (Nat.le_refl _) (.int .i64 P)
 have h2 := bel_call h1 hb3 (Nat.le_refl _)
 iterate 2 (refine Below.setCell ?_ (by dsimp only; omega) _)
 exact h2
theorem round_any (s : ByteArray) (p n : Int) (w : World) (hs : s.size ≤ 9223372036854775807) :
  Calls Tryz.prog 11 #[.agg #[.string s, .int .i64 p], .int .i64 n] w fun e w' => e = .returned (.tuple #[.agg #[.string (oS (bV (normE s p) (rnd (normV s p) n))), .int .i64 (oP (bV (normE s p) (rnd (normV s p) n)))], .int .i64 (normE s p)]) ∧ Below w.heap.size w w' := by
 have hN := normC s p hs
 have nn := nrm_norm s p
 by_cases hE : normE s p = 0
 ·rw [hE] at hN ⊢
  have e : bV 0 (rnd (normV s p) n) = rnd (normV s p) n := if_pos rfl
  rw [e]
  exact round_ok hN (fun w => rounded_any (normV s p) n w (by have := nn.len; omega) (by have := nn.pt; omega)) w
 ·have e : bV (normE s p) (rnd (normV s p) n) = 0 := if_neg hE
  rw [e, zero_S, o_zero.2]
  exact round_err n hN hE w
set_option maxRecDepth 1000000 in
set_option maxHeartbeats 800000 in
theorem places_err {s S : ByteArray} {p P E : Int} (k : Int) (hN : NormC s p S P E) (hE : ¬ E = 0) (w : World) :
  Calls Tryz.prog 12 #[.agg #[.string s, .int .i64 p], .int .i64 k] w fun e w' => e = .returned (.tuple #[.agg #[.string ⟨#[]⟩, .int .i64 0], .int .i64 E]) ∧ Below w.heap.size w w' := by
 have hEb : (E != 0) = true := by simp [hE]
 go_enter Tryz.func12, Tryz.ntmps12
 go_wp2_with (go_at_call 20; refine (hN _).mono ?_; rintro e w2 ⟨rfl, hb2⟩; obtain ⟨a0, a1, a2, a3⟩ := keepb hb2 (B := w.heap.size) (x := .string s) (y := .int .i64 p) (by simp [BoxDe, go_sem]); obtain ⟨r0, r1, r2, r3⟩ := keepb hb2 (B := w.heap.size + 1) (x := .string ⟨#[]⟩) (y := .int .i64 0) (by simp [BoxDe, go_sem]))
 refine bodyPost_ret (by simp [results, Tryz.results12, go_sem, cs_same, r0, r1]; rfl) rfl ?_
 refine ⟨rfl, ?_⟩
 have h0 := bel_call (B := w.heap.size) (w := w) (by go_grown) hb2 (Nat.le_refl _)
 iterate 4 (refine Below.setCell ?_ (by dsimp only; omega) _)
 exact h0
set_option maxRecDepth 1000000 in
set_option maxHeartbeats 800000 in
theorem places_ok {s S S2 : ByteArray} {p P k c P2 : Int} (hN : NormC s p S P 0) (hc : min (max k (-14000)) 14000 = c) (hR : RoundedC S P (P + c) S2 P2) (hP : P ≤ 100000) (hP0 : -100000 ≤ P) (hc0 : -14000 ≤ c) (hc1 : c ≤ 14000) (w : World) :
  Calls Tryz.prog 12 #[.agg #[.string s, .int .i64 p], .int .i64 k] w fun e w' => e = .returned (.tuple #[.agg #[.string S2, .int .i64 P2], .int .i64 0]) ∧ Below w.heap.size w w' := by
 go_enter Tryz.func12, Tryz.ntmps12
 go_wp2_with (first
  | (go_at_call 20; refine (hN _).mono ?_; rintro e w2 ⟨rfl, hb2⟩; have bA := keepb hb2 (B := w.heap.size) (x := .string s) (y := .int .i64 p) (by simp [BoxDe, go_sem]); have bR := keepb hb2 (B := w.heap.size + 1) (x := .string ⟨#[]⟩) (y := .int .i64 0) (by simp [BoxDe, go_sem]); obtain ⟨a0, a1, a2, a3⟩ := id bA; obtain ⟨y0, y1⟩ := bA.reads)
  | (go_at_call 23; refine (hR _).mono ?_; rintro e w3 ⟨rfl, hb3⟩; obtain ⟨r0, r1, r2, r3⟩ := keepb hb3 (bR.past (C := w.heap.size) (by omega) (.string S) (.int .i64 P))))
 refine bodyPost_ret (by simp [results, Tryz.results12, go_sem, cs_same, r0, r1]; rfl) rfl ?_
 refine ⟨rfl, ?_⟩
 have h0 := bel_call (B := w.heap.size) (w := w) (by go_grown) hb2 (Nat.le_refl _)
 have h1 := (h0.setCell (p := ⟨w.heap.size, 0, none⟩) (Nat.le_refl _) (.string S)).setCell (p := ⟨w.heap.size, 1, none⟩) (Nat.le_refl _) (.int .i64 P)
 have h2 := bel_call h1 hb3 (Nat.le_refl _)
 iterate 2 (refine Below.setCell ?_ (by dsimp only; omega) _)
 exact h2
theorem places_any (s : ByteArray) (p k : Int) (w : World) (hs : s.size ≤ 9223372036854775807) :
  Calls Tryz.prog 12 #[.agg #[.string s, .int .i64 p], .int .i64 k] w fun e w' => e = .returned (.tuple #[.agg #[.string (oS (bV (normE s p) (plc (normV s p) k))), .int .i64 (oP (bV (normE s p) (plc (normV s p) k)))], .int .i64 (normE s p)]) ∧ Below w.heap.size w w' := by
 have hN := normC s p hs
 have nn := nrm_norm s p
 have hlow := nn.low
 have hpt := nn.pt
 have hlen := nn.len
 by_cases hE : normE s p = 0
 ·rw [hE] at hN ⊢
  have e : bV 0 (plc (normV s p) k) = plc (normV s p) k := if_pos rfl
  rw [e]
  exact places_ok hN rfl (fun w => rounded_any (normV s p) _ w (by omega) (by omega)) (by omega) (by omega) (by omega) (by omega) w
 ·have e : bV (normE s p) (plc (normV s p) k) = 0 := if_neg hE
  rw [e, zero_S, o_zero.2]
  exact places_err k hN hE w
set_option maxRecDepth 1000000 in
set_option maxHeartbeats 800000 in
theorem exact_no (m : Nat) (e : Int) (w : World) (he : e < -1200 ∨ 1200 < e) :
  Calls Tryz.prog 18 #[.int .u64 m, .int .i64 e] w fun e w' => e = .returned (.tuple #[.agg #[.string ⟨#[]⟩, .int .i64 0], .int .i64 1]) ∧ Below w.heap.size w w' := by
 rcases he with h | h
 ·go_enter Tryz.func18, Tryz.ntmps18
  go_wp2
  go_returns
  exact ⟨rfl, by go_grown⟩
 ·have h' : ¬ e < -1200 := by omega
  go_enter Tryz.func18, Tryz.ntmps18
  go_wp2
  go_returns
  exact ⟨rfl, by go_grown⟩
theorem keepb2 {W w2 : World} {B0 : Nat} (hb : Below B0 W w2) {B : Nat} {x y : Value} (hB : B < B0) (h : BoxDe W B x y) : BoxDe w2 B x y :=
 ⟨(hb.cell (p := ⟨B, 0, none⟩) hB).trans h.1, (hb.cell (p := ⟨B, 1, none⟩) hB).trans h.2.1, (hb.frozen (p := ⟨B, 0, none⟩) hB).trans h.2.2.1, (hb.frozen (p := ⟨B, 1, none⟩) hB).trans h.2.2.2⟩
theorem whole_v {B : Nat} {ao : Option Addr} {n c : Nat} {xs : List Nat} {last : Int} (w : World) (h : Lm w B ao n c xs) (hn : n ≤ 10000) (hl0 : -10000 ≤ last) (hl1 : last ≤ 6000) {v : Nat} (hv : lv xs * 10 ^ (last + 10000).toNat = v) :
  Calls Tryz.prog 38 #[.slice ao n c, .int .i64 last] w fun e w' => e = .returned (.agg #[.string (oS v), .int .i64 (oP v)]) ∧ Below w.heap.size w w' := by
 rw [← hv]; exact whole_any B ao n c xs last w h hn hl0 hl1
set_option maxRecDepth 1000000 in
set_option maxHeartbeats 800000 in
theorem exact_up (m e : Nat) (w : World) (hm : m < 18446744073709551616) (he : e ≤ 1200) :
  Calls Tryz.prog 18 #[.int .u64 m, .int .i64 e] w fun x w' => x = .returned (.tuple #[.agg #[.string (oS (exU m e)), .int .i64 (oP (exU m e))], .int .i64 0]) ∧ Below w.heap.size w w' := by
 have HV : Hid (∀ xs ys, lv xs = m → lv ys = lv xs * 2 ^ e → lv ys * 10 ^ ((0 : Int) + 10000).toNat = exU m e) := fun xs ys h1 h2 => by
  unfold exU
  rw [if_pos (by omega), h2, h1, Int.toNat_natCast]
 generalize exU m e = v at *
 generalize hS : oS v = S at *
 generalize hP : oP v = P at *
 have hW : ∀ {B : Nat} {ao : Option Addr} {n c : Nat} {xs : List Nat} (w : World), Lm w B ao n c xs → n ≤ 10000 → lv xs * 10 ^ ((0 : Int) + 10000).toNat = v → Calls Tryz.prog 38 #[.slice ao n c, .int .i64 0] w fun e w' => e = .returned (.agg #[.string S, .int .i64 P]) ∧ Below w.heap.size w w' := fun w h hn hv => by
  have := whole_v w h hn (by omega) (by omega) hv
  rw [hS, hP] at this; exact this
 clear hS hP
 go_enter Tryz.func18, Tryz.ntmps18
 go_wp2_with (first
  | (go_at_call 37; refine (limbsof_any m _ hm).mono ?_; rintro x w2 ⟨⟨ao, n, c, rfl, hn, xs, hL, hv⟩, hb2⟩; have bR := keepb hb2 (B := w.heap.size) (x := .string ⟨#[]⟩) (y := .int .i64 0) (by simp [BoxDe, go_sem]))
  | (go_at_call 39; refine (multiplied_2 _ ao n c e xs _ hL hb2.size (by omega) he).mono ?_; rintro x w3 ⟨⟨ao2, n2, c2, rfl, hn2, ys, hL2, hv2⟩, hb3⟩; have bR2 := keepb2 hb3 (by simp) bR; have HW := HV.out xs ys hv hv2)
  | (go_at_call 38; refine (hW _ hL2 (by omega) HW).mono ?_; rintro x w4 ⟨rfl, hb4⟩; obtain ⟨r0, r1, r2, r3⟩ := keepb hb4 bR2))
 refine bodyPost_ret (by simp [results, Tryz.results18, go_sem, cs_same, r0, r1]; rfl) rfl ?_
 refine ⟨rfl, ?_⟩
 have h0 := bel_call (B := w.heap.size) (w := w) (by go_grown) hb2 (Nat.le_refl _)
 have h1 := h0.trans (hb3.mono (by simp))
 have h2 := bel_call h1 hb4 (Nat.le_refl _)
 iterate 2 (refine Below.setCell ?_ (by dsimp only; omega) _)
 exact h2
set_option maxRecDepth 1000000 in
set_option maxHeartbeats 800000 in
theorem exact_down (m k : Nat) (w : World) (hm : m < 18446744073709551616) (hk0 : 0 < k) (hk : k ≤ 1200) :
  Calls Tryz.prog 18 #[.int .u64 m, .int .i64 (-(k : Int))] w fun x w' => x = .returned (.tuple #[.agg #[.string (oS (exU m (-(k : Int)))), .int .i64 (oP (exU m (-(k : Int))))], .int .i64 0]) ∧ Below w.heap.size w w' := by
 have HV : Hid (∀ xs ys, lv xs = m → lv ys = lv xs * 5 ^ k → lv ys * 10 ^ (-(k : Int) + 10000).toNat = exU m (-(k : Int))) := fun xs ys h1 h2 => by
  unfold exU
  rw [if_neg (by omega), h2, h1, Int.neg_neg, Int.toNat_natCast]
 generalize exU m (-(k : Int)) = v at *
 generalize hS : oS v = S at *
 generalize hP : oP v = P at *
 have hW : ∀ {B : Nat} {ao : Option Addr} {n c : Nat} {xs : List Nat} (w : World), Lm w B ao n c xs → n ≤ 10000 → lv xs * 10 ^ (-(k : Int) + 10000).toNat = v → Calls Tryz.prog 38 #[.slice ao n c, .int .i64 (-(k : Int))] w fun e w' => e = .returned (.agg #[.string S, .int .i64 P]) ∧ Below w.heap.size w w' := fun w h hn hv => by
  have := whole_v w h hn (by omega) (by omega) hv
  rw [hS, hP] at this; exact this
 clear hS hP
 have hkI : ¬ 0 ≤ -(k : Int) := by omega
 have hk1 : 0 < (k : Int) := by omega
 go_enter Tryz.func18, Tryz.ntmps18
 go_wp2_with (first
  | (go_at_call 37; refine (limbsof_any m _ hm).mono ?_; rintro x w2 ⟨⟨ao, n, c, rfl, hn, xs, hL, hv⟩, hb2⟩; have bR := keepb hb2 (B := w.heap.size) (x := .string ⟨#[]⟩) (y := .int .i64 0) (by simp [BoxDe, go_sem]))
  | (go_at_call 39; refine (multiplied_5 _ ao n c k xs _ hL hb2.size (by omega) hk).mono ?_; rintro x w3 ⟨⟨ao2, n2, c2, rfl, hn2, ys, hL2, hv2⟩, hb3⟩; have bR2 := keepb2 hb3 (by simp) bR; have HW := HV.out xs ys hv hv2)
  | (go_at_call 38; refine (hW _ hL2 (by omega) HW).mono ?_; rintro x w4 ⟨rfl, hb4⟩; obtain ⟨r0, r1, r2, r3⟩ := keepb hb4 bR2))
 refine bodyPost_ret (by simp [results, Tryz.results18, go_sem, cs_same, r0, r1]; rfl) rfl ?_
 refine ⟨rfl, ?_⟩
 have h0 := bel_call (B := w.heap.size) (w := w) (by go_grown) hb2 (Nat.le_refl _)
 have h1 := h0.trans (hb3.mono (by simp))
 have h2 := bel_call h1 hb4 (Nat.le_refl _)
 iterate 2 (refine Below.setCell ?_ (by dsimp only; omega) _)
 exact h2
def xE (e : Int) : Int := if e < -1200 ∨ 1200 < e then 1 else 0
def xV (m : Nat) (e : Int) : Nat := if xE e = 0 then exU m e else 0
theorem exact_any (m : Nat) (e : Int) (w : World) (hm : m < 18446744073709551616) :
  Calls Tryz.prog 18 #[.int .u64 m, .int .i64 e] w fun x w' => x = .returned (.tuple #[.agg #[.string (oS (xV m e)), .int .i64 (oP (xV m e))], .int .i64 (xE e)]) ∧ Below w.heap.size w w' := by
 by_cases he : e < -1200 ∨ 1200 < e
 ·have e1 : xE e = 1 := if_pos he
  have e2 : xV m e = 0 := by unfold xV; rw [e1]; rfl
  rw [e1, e2, zero_S, o_zero.2]
  exact exact_no m e w he
 ·have e1 : xE e = 0 := if_neg he
  have e2 : xV m e = exU m e := by unfold xV; rw [if_pos e1]
  rw [e1, e2]
  by_cases h0 : 0 ≤ e
  ·obtain ⟨k, rfl⟩ : ∃ k : Nat, e = (k : Int) := ⟨e.toNat, by omega⟩
   exact exact_up m k w hm (by omega)
  ·obtain ⟨k, rfl⟩ : ∃ k : Nat, e = -(k : Int) := ⟨(-e).toNat, by omega⟩
   exact exact_down m k w hm (by omega) (by omega)
end Go.Proofs.YtiagjheifblkiaaGreatDoor
namespace Go.Proofs.YtiagjheifblkiaaGreatDoor
open Go.RowKit
set_option linter.unusedVariables false
theorem wfu64 (n : Int) (h : (Lit.int .u64 n).wf = true) : 0 ≤ n ∧ n < 18446744073709551616 := by
 have e1 : IntKind.u64.min = 0 := by decide
 have e2 : IntKind.u64.max = 18446744073709551615 := by decide
 simp [Lit.wf] at h
 omega
end Go.Proofs.YtiagjheifblkiaaGreatDoor
namespace Go.Proofs.YtiagjheifblkiaaGreatDoor
open Go.RowKit
set_option linter.unusedVariables false
structure Good (v : Nat) : Prop where
 len : (oL v).length ≤ 2000
 p0 : -5000 ≤ oP v
 p1 : oP v ≤ 5000
theorem Good.normE {v : Nat} (h : Good v) : normE (oS v) (oP v) = 0 := by
 have hl := h.len
 have h0 := h.p0
 have h1 := h.p1
 exact normE_ok (by rw [oS_size]; omega) (o_dig v) (by omega) (by omega)
theorem norm_o {v : Nat} (h : Go.Proofs.YtiagjheifblkiaaGreatDoor.normE (oS v) (oP v) = 0) : normV (oS v) (oP v) = v := by rw [normV_ok h]; exact o_val v
theorem Good.normV {v : Nat} (h : Good v) : normV (oS v) (oP v) = v := norm_o h.normE
theorem cnt_le {v u j q : Nat} (h : v = u * 10 ^ j) (hu : u < 10 ^ q) : (oL v).length ≤ q := by
 by_cases hv : v = 0
 ·rw [hv, o_zero.1]; exact Nat.zero_le _
 ·have hdB := o_dec v
  have hl := hdB.ne hv
  have hx := num_last hdB.dig hdB.lst hl
  have e := hdB.val.trans h
  have haj : j ≤ (oP v - (oL v).length + 10000).toNat := by
   rcases Nat.lt_or_ge (oP v - (oL v).length + 10000).toNat j with h1 | h1
   ·exact (pow_split hx h1 e).elim
   ·exact h1
  obtain ⟨c, hc⟩ : ∃ c, (oP v - (oL v).length + 10000).toNat = c + j := ⟨_, (Nat.sub_add_cancel haj).symm⟩
  rw [hc, Nat.pow_add, ← Nat.mul_assoc] at e
  have e2 := Nat.eq_of_mul_eq_mul_right (pow_pos10 j) e
  have hc1 : 1 ≤ 10 ^ c := pow_pos10 c
  have h2 : num (oL v) * 1 ≤ num (oL v) * 10 ^ c := Nat.mul_le_mul_left _ hc1
  obtain ⟨x, t, ht⟩ := List.exists_cons_of_ne_nil hl
  have h3 := num_head (ht ▸ hdB.dig) (ht ▸ hdB.hdB)
  rw [← ht] at h3
  have h4 : 10 ^ t.length < 10 ^ q := by omega
  have := (Nat.pow_lt_pow_iff_right (by decide)).1 h4
  rw [ht, List.length_cons]; omega
theorem mod_quot {v J K : Nat} (hm : v % 10 ^ J = 0) (hv : v < 10 ^ (J + K)) : ∃ u, v = u * 10 ^ J ∧ u < 10 ^ K := by
 refine ⟨v / 10 ^ J, ?_, ?_⟩
 ·have := Nat.div_add_mod v (10 ^ J)
  rw [hm, Nat.add_zero, Nat.mul_comm] at this; exact this.symm
 ·rw [Nat.pow_add, Nat.mul_comm] at hv
  exact Nat.div_lt_of_lt_mul (by rw [Nat.mul_comm]; exact hv)
theorem good_of {v J K : Nat} (hm : v % 10 ^ J = 0) (hv : v < 10 ^ (J + K)) (hJ : 5000 ≤ J) (hK : J + K ≤ 15000) (hK2 : K ≤ 2000) : Good v := by
 obtain ⟨u, h1, h2⟩ := mod_quot hm hv
 have hl := cnt_le h1 h2
 by_cases h0 : v = 0
 ·subst h0
  exact ⟨by rw [o_zero.1]; simp, by rw [o_zero.2]; decide, by rw [o_zero.2]; decide⟩
 ·have hu : 1 ≤ u := by
   rcases Nat.eq_zero_or_pos u with h | h
   ·subst h; rw [Nat.zero_mul] at h1; exact absurd h1 h0
   ·exact h
  have hg := oP_gt (v := v) (q := J) (by rw [h1]; have := Nat.mul_le_mul_right (10 ^ J) hu; omega)
  rcases oP_le hv with h3 | h3
  ·exact ⟨by omega, by omega, by omega⟩
  ·exact absurd h3 h0
theorem big_const : ∃ N M : Nat, N = 1200 ∧ M = 839 ∧ (5 : Nat) ^ N < 10 ^ M ∧ (2 : Nat) ^ N < 10 ^ M := ⟨1200, 839, rfl, rfl, by decide +kernel, by decide +kernel⟩
theorem m_big {m k b N M : Nat} (hm : m < 18446744073709551616) (hb0 : 0 < b) (hk : k ≤ N) (h2 : b ^ N < 10 ^ M) : m * b ^ k < 10 ^ (20 + M) := by
 have h1 : b ^ k ≤ b ^ N := Nat.pow_le_pow_right hb0 hk
 have h4 : (10 : Nat) ^ 20 = 100000000000000000000 := by decide
 rw [Nat.pow_add]
 exact Nat.mul_lt_mul'' (by omega) (by omega)
theorem pow_mod (u j : Nat) : u * 10 ^ j % 10 ^ j = 0 := Nat.mul_mod_left _ _
theorem exU_up (m : Nat) {e : Int} (h : 0 ≤ e) : exU m e = m * 2 ^ e.toNat * 10 ^ ((0 : Int) + 10000).toNat := if_pos h
theorem exU_dn (m : Nat) {e : Int} (h : ¬ 0 ≤ e) : exU m e = m * 5 ^ (-e).toNat * 10 ^ (e + 10000).toNat := if_neg h
theorem exU_split {m : Nat} {e : Int} (hm : m < 18446744073709551616) (h0 : -1200 ≤ e) (h1 : e ≤ 1200) : ∃ J u q, exU m e = u * 10 ^ J ∧ u < 10 ^ q ∧ q ≤ 859 ∧ 8800 ≤ J ∧ J ≤ 10000 := by
 obtain ⟨N, M, hN, hM, h5, h2⟩ := big_const
 by_cases he : 0 ≤ e
 ·rw [exU_up m he]
  exact ⟨((0 : Int) + 10000).toNat, _, 20 + M, rfl, m_big hm (by decide) (by omega) h2, by omega, by omega, by omega⟩
 ·rw [exU_dn m he]
  exact ⟨(e + 10000).toNat, _, 20 + M, rfl, m_big hm (by decide) (by omega) h5, by omega, by omega, by omega⟩
theorem good_small {v J u q : Nat} (h : v = u * 10 ^ J) (hu : u < 10 ^ q) (hq : q ≤ 1000) (h0 : 8800 ≤ J) (h1 : J ≤ 10000) : Good v := by
 refine good_of (J := J) (K := q) (by rw [h]; exact pow_mod u J) ?_ (by omega) (by omega) (by omega)
 rw [h, Nat.pow_add, Nat.mul_comm (10 ^ J)]
 exact Nat.mul_lt_mul_of_pos_right hu (pow_pos10 J)
theorem exU_good {m : Nat} {e : Int} (hm : m < 18446744073709551616) (h0 : -1200 ≤ e) (h1 : e ≤ 1200) : Good (exU m e) ∧ Good (exU m e + exU m e) := by
 obtain ⟨J, u, q, h2, h3, h6, h4, h5⟩ := exU_split hm h0 h1
 have hp : (10 : Nat) ^ (q + 1) = 10 ^ q * 10 := Nat.pow_succ ..
 exact ⟨good_small h2 h3 (by omega) h4 h5, good_small (u := u + u) (q := q + 1) (by rw [h2, Nat.add_mul]) (by omega) (by omega) h4 h5⟩
theorem exU_double (m : Nat) (e : Int) (h0 : -1200 ≤ e) (h1 : e ≤ 1199) : exU m (e + 1) = exU m e + exU m e := by
 by_cases he : 0 ≤ e
 ·rw [exU_up m he, exU_up m (show 0 ≤ e + 1 by omega), show (e + 1).toNat = e.toNat + 1 by omega, Nat.pow_succ, ← Nat.mul_assoc]
  generalize (10 : Nat) ^ ((0 : Int) + 10000).toNat = A
  generalize m * 2 ^ e.toNat = B
  rw [Nat.mul_comm B 2, Nat.mul_assoc, Nat.two_mul]
 ·by_cases he1 : e = -1
  ·subst he1
   have e1 : ((-1 : Int) + 1).toNat = 0 := by decide
   have e2 : (-(-1 : Int)).toNat = 1 := by decide
   have e3 : ((0 : Int) + 10000).toNat = ((-1 : Int) + 10000).toNat + 1 := by decide
   rw [exU_up m (show (0 : Int) ≤ -1 + 1 by decide), exU_dn m he, e1, e2, e3, Nat.pow_succ]
   generalize (10 : Nat) ^ ((-1 : Int) + 10000).toNat = A
   rw [Nat.pow_zero, Nat.pow_one, Nat.mul_one, ← Nat.mul_assoc, Nat.mul_assoc m 5 A, Nat.mul_left_comm m 5 A]
   generalize m * A = B
   omega
  ·rw [exU_dn m he, exU_dn m (show ¬ 0 ≤ e + 1 by omega), show (-e).toNat = (-(e + 1)).toNat + 1 by omega, show (e + 1 + 10000).toNat = (e + 10000).toNat + 1 by omega, Nat.pow_succ, Nat.pow_succ]
   generalize (5 : Nat) ^ (-(e + 1)).toNat = C
   generalize (10 : Nat) ^ (e + 10000).toNat = A
   have h3 : m * C * (A * 10) = m * C * A * 10 := by rw [Nat.mul_assoc (m * C) A 10]
   have h4 : m * (C * 5) * A = m * C * A * 5 := by rw [← Nat.mul_assoc m C 5, Nat.mul_assoc (m * C) 5 A, Nat.mul_comm 5 A, ← Nat.mul_assoc]
   rw [h3, h4]
   generalize m * C * A = B
   omega
theorem Cl.after {W : World} {x : Cl W} {o : Obj} {w6 : World} (hb : Below (x.w.alloc o).heap.size (x.w.alloc o) w6) : ∃ y : Cl W, w6 = y.w :=
 ⟨⟨w6, bel_call (x.below.alloc x.below.size _) hb (Nat.le_refl _)⟩, rfl⟩
theorem Cl.next {W : World} {x : Cl W} {w6 : World} (hb : Below x.w.heap.size x.w w6) : ∃ y : Cl W, w6 = y.w :=
 ⟨⟨w6, bel_call x.below hb (Nat.le_refl _)⟩, rfl⟩
abbrev AddC (s1 : ByteArray) (p1 : Int) (s2 : ByteArray) (p2 : Int) (S : ByteArray) (P E : Int) : Prop := ∀ w, Calls Tryz.prog 15 #[.agg #[.string s1, .int .i64 p1], .agg #[.string s2, .int .i64 p2]] w fun e w' => e = .returned (.tuple #[.agg #[.string S, .int .i64 P], .int .i64 E]) ∧ Below w.heap.size w w'
abbrev CmpC (s1 : ByteArray) (p1 : Int) (s2 : ByteArray) (p2 : Int) (r E : Int) : Prop := ∀ w, Calls Tryz.prog 50 #[.agg #[.string s1, .int .i64 p1], .agg #[.string s2, .int .i64 p2]] w fun e w' => e = .returned (.tuple #[.int .i64 r, .int .i64 E]) ∧ Below w.heap.size w w'
theorem oS_fit (v : Nat) (h : Good v) : (oS v).size ≤ 9223372036854775807 := by rw [oS_size]; have := h.len; omega
theorem cmpC {v u : Nat} (hv : Good v) (hu : Good u) : CmpC (oS v) (oP v) (oS u) (oP u) (ordN v u) 0 := fun w => by
 have := cmp_any (oS v) (oS u) (oP v) (oP u) w (oS_fit v hv) (oS_fit u hu)
 rw [hv.normE, hu.normE, hv.normV, hu.normV] at this
 have e0 : bE 0 0 = 0 := rfl
 rw [e0, if_pos rfl] at this
 exact this
end Go.Proofs.YtiagjheifblkiaaGreatDoor
namespace Go.Proofs.YtiagjheifblkiaaGreatDoor
open Go.RowKit
set_option linter.unusedVariables false
set_option linter.unusedSimpArgs false
def lnA (s : ByteArray) (n : Int) : ByteArray := run 48 (n - (s.size : Nat)).toNat ++ s
def lnB (s : ByteArray) (n : Int) : ByteArray := s ++ run 48 (n - (s.size : Nat)).toNat
theorem lnA_size (s : ByteArray) (n : Int) : (lnA s n).size = s.size + (n - (s.size : Nat)).toNat := by unfold lnA; rw [app_size, run_size]; omega
theorem lnB_size (s : ByteArray) (n : Int) : (lnB s n).size = s.size + (n - (s.size : Nat)).toNat := by unfold lnB; rw [app_size, run_size]
def ptd (sh : Bool) (a b : ByteArray) : ByteArray := if b.size = 0 ∧ sh = false then a else (a ++ ⟨#[46]⟩) ++ b
theorem ptd_size (sh : Bool) (a b : ByteArray) : a.size ≤ (ptd sh a b).size ∧ (ptd sh a b).size ≤ a.size + 1 + b.size := by
 have h : (⟨#[46]⟩ : ByteArray).size = 1 := rfl
 unfold ptd
 split
 ·omega
 ·rw [app_size, app_size]; omega
def sx1 (n : Int) : ByteArray := if n < 0 then ⟨#[45]⟩ else ⟨#[43]⟩
theorem sx1_size (n : Int) : (sx1 n).size = 1 := by unfold sx1; split <;> rfl
def sgd (n : Int) (least : Int) : ByteArray := sx1 n ++ lnA (digT false 10 n.natAbs) least
theorem sgd_size (n : Int) (least : Int) (h : least ≤ 10) : (sgd n least).size ≤ 80 ∧ 2 ≤ (sgd n least).size := by
 have h1 := sx1_size n
 have h2 := digT_size false 10 n.natAbs
 have h3 := lnA_size (digT false 10 n.natAbs) least
 unfold sgd
 rw [app_size]; omega
def sci (sh : Bool) (d : ByteArray) (x : Int) : ByteArray := (ptd sh (d.extract 0 1) (d.extract 1 d.size) ++ ⟨#[101]⟩) ++ sgd x 2
theorem sci_size (sh : Bool) (d : ByteArray) (x : Int) (hdB : d.size ≤ 100000) : (sci sh d x).size ≤ 100090 ∧ 3 ≤ (sci sh d x).size := by
 have h1 := ptd_size sh (d.extract 0 1) (d.extract 1 d.size)
 have h2 := sgd_size x 2 (by decide)
 have h3 : (⟨#[101]⟩ : ByteArray).size = 1 := rfl
 have h4 : (d.extract 0 1).size ≤ 1 := by rw [ByteArray.size_extract]; omega
 have h5 : (d.extract 0 1).size + (d.extract 1 d.size).size ≤ d.size := by rw [ByteArray.size_extract, ByteArray.size_extract]; omega
 unfold sci
 rw [app_size, app_size]; omega
def arA (d : ByteArray) (p : Int) : ByteArray := if p ≤ 0 then ⟨#[48]⟩ else (lnB d p).extract 0 p.toNat
def arB (d : ByteArray) (p : Int) : ByteArray := if p ≤ 0 then lnA d ((d.size : Nat) - p) else (lnB d p).extract p.toNat (lnB d p).size
theorem arA_size (d : ByteArray) (p : Int) (hp : p ≤ 100000) : (arA d p).size ≤ 100000 ∧ 1 ≤ (arA d p).size := by
 have h := lnB_size d p
 unfold arA
 split
 ·exact ⟨by decide, by decide⟩
 ·rw [ByteArray.size_extract]; omega
def pw0 (v : Nat) : Int := if v = 0 then 0 else oP v - 1
def cntE (P : Int) : Int := (if P < 0 then 6 else P) + 1
def expT (sh : Bool) (P : Int) (v : Nat) : ByteArray := sci sh (lnB (oS (rnd v (cntE P))) (cntE P)) (pw0 (rnd v (cntE P)))
def plcF (P : Int) : Int := if P < 0 then 6 else P
def fixT (sh : Bool) (P : Int) (v : Nat) : ByteArray := ptd sh (arA (oS (plc v (plcF P))) (oP (plc v (plcF P)))) (lnB (arB (oS (plc v (plcF P))) (oP (plc v (plcF P)))) (plcF P))
def genD (sh : Bool) (d : Nat) (cnt : Int) : ByteArray := if sh = true then lnB (lnB (oS d) 1) cnt else lnB (oS d) 1
def genG (sh : Bool) (d : Nat) (most cnt : Int) : ByteArray := if pw0 d < -4 ∨ most ≤ pw0 d then sci sh (genD sh d cnt) (pw0 d) else ptd sh (arA (genD sh d cnt) (pw0 d + 1)) (arB (genD sh d cnt) (pw0 d + 1))
def genT (sh : Bool) (P : Int) (v d : Nat) : ByteArray := if P < 0 then genG sh d 21 6 else genG sh (rnd v (max P 1)) (max P 1) (max P 1)
def parT (m : Nat) (e : Int) : ByteArray := (digT false 10 m ++ ⟨#[112]⟩) ++ sgd e 1
def rbU (c : Nat) : Nat := 2 ^ (4 * (13 - c))
def rbW (m c : Nat) : Nat := if m % rbU c > rbU c / 2 ∨ (m % rbU c = rbU c / 2 ∧ m / rbU c % 2 = 1) then m / rbU c + 1 else m / rbU c
def rb (m : Nat) (P : Int) : Nat := if P < 0 ∨ 13 ≤ P then m else rbW m P.toNat * rbU P.toNat
def nmS (m : Nat) : Nat := 53 - Lib.bitLen m
def nmM (m : Nat) (P : Int) : Nat := if m = 0 then 0 else if rb (m * 2 ^ nmS m) P / 2 ^ 52 = 2 then rb (m * 2 ^ nmS m) P / 2 else rb (m * 2 ^ nmS m) P
def nmE (m : Nat) (e P : Int) : Int := if m = 0 then 0 else if rb (m * 2 ^ nmS m) P / 2 ^ 52 = 2 then e + 52 - nmS m + 1 else e + 52 - nmS m
def hxD (m : Nat) (P : Int) : ByteArray := lnA (digT false 16 (nmM m P)) 14
def hxP (d : ByteArray) (P : Int) : ByteArray := if P < 0 then ⟨(rtr d.data.toList).toArray⟩ else lnB (d.extract 0 (min P 13).toNat) P
def hexT (sh : Bool) (P : Int) (m : Nat) (e : Int) : ByteArray :=
 (((⟨#[48, 120]⟩ : ByteArray) ++ ptd sh ((hxD m P).extract 0 1) (hxP ((hxD m P).extract 1 (hxD m P).size) P)) ++ ⟨#[112]⟩) ++ sgd (nmE m e P) 2
def fVerb (v : Int) : Bool := decide (v = 101 ∨ v = 69 ∨ v = 102 ∨ v = 70 ∨ v = 103 ∨ v = 71 ∨ v = 118 ∨ v = 98 ∨ v = 120 ∨ v = 88)
def grV (v : Int) : Bool := decide (v = 69 ∨ v = 71 ∨ v = 88)
def numTF (sh : Bool) (P : Int) (m : Nat) (e : Int) (v d : Nat) (verb : Int) : ByteArray :=
 if verb = 101 ∨ verb = 69 then expT sh P v else if verb = 102 ∨ verb = 70 then fixT sh P v else if verb = 98 then parT m e else if verb = 120 ∨ verb = 88 then hexT sh P m e else genT sh P v d
def bigT (g : Bool) (s : ByteArray) : ByteArray := if g = true then ⟨(Lib.toUpperA s.data.toList).toArray⟩ else s
def finT (sh : Bool) (prec : Int) (m : Nat) (e : Int) (v d : Nat) (verb : Int) : ByteArray := bigT (grV verb) (numTF (sh && decide (verb ≠ 118)) (min prec 1000) m e v d verb)
def sgF (neg p sp : Bool) : ByteArray := if neg = true then ⟨#[45]⟩ else signA p sp
theorem sgF_size (neg p sp : Bool) : (sgF neg p sp).size ≤ 1 := by cases neg <;> cases p <;> cases sp <;> decide
def filT (sign t : ByteArray) (mi z : Bool) (wid : Int) : ByteArray := padS (sign ++ (if z = true ∧ mi = false then lnA t ((wdt wid : Nat) - (sign.size : Nat)) else t)) mi false wid
end Go.Proofs.YtiagjheifblkiaaGreatDoor
