/- The walks of Round, Places, Exact. -/
import Derived.Test.YthbabhbfpcfenabDoorBTopC
namespace Go.Proofs.YthbabhbfpcfenabDoor
open Go.RowKit
set_option linter.unusedVariables false

def RoundedC (S : ByteArray) (P n : Int) (S2 : ByteArray) (P2 : Int) : Prop := ∀ w, Calls Tryd.prog 62 #[.agg #[.string S, .int .i64 P], .int .i64 n] w fun e w' => e = .returned (.agg #[.string S2, .int .i64 P2]) ∧ Below w.heap.size w w'
set_option maxRecDepth 1000000 in
set_option maxHeartbeats 800000 in
theorem round_err {s S : ByteArray} {p P E : Int} (n : Int) (hN : NormC s p S P E) (hE : ¬ E = 0) (w : World) :
    Calls Tryd.prog 54 #[.agg #[.string s, .int .i64 p], .int .i64 n] w fun e w' => e = .returned (.tuple #[.agg #[.string ⟨#[]⟩, .int .i64 0], .int .i64 E]) ∧ Below w.heap.size w w' := by
  have hEb : (E != 0) = true := by simp [hE]
  go_enter Tryd.func54, Tryd.ntmps54
  go_wp2_with (go_at_call 8; refine (hN _).mono ?_; rintro e w2 ⟨rfl, hb2⟩; obtain ⟨a0, a1, a2, a3⟩ := keepb hb2 (B := w.heap.size) (x := .string s) (y := .int .i64 p) (by simp [BoxD, go_sem]); obtain ⟨r0, r1, r2, r3⟩ := keepb hb2 (B := w.heap.size + 1) (x := .string ⟨#[]⟩) (y := .int .i64 0) (by simp [BoxD, go_sem]))
  refine bodyPost_ret (by simp [results, Tryd.results54, go_sem, cs_same, r0, r1]; rfl) rfl ?_
  refine ⟨rfl, ?_⟩
  have h0 := bel_call (B := w.heap.size) (w := w) (by go_grown) hb2 (Nat.le_refl _)
  iterate 4 (refine Below.setCell ?_ (by dsimp only; omega) _)
  exact h0
set_option maxRecDepth 1000000 in
set_option maxHeartbeats 800000 in
theorem round_ok {s S S2 : ByteArray} {p P n P2 : Int} (hN : NormC s p S P 0) (hR : RoundedC S P n S2 P2) (w : World) :
    Calls Tryd.prog 54 #[.agg #[.string s, .int .i64 p], .int .i64 n] w fun e w' => e = .returned (.tuple #[.agg #[.string S2, .int .i64 P2], .int .i64 0]) ∧ Below w.heap.size w w' := by
  go_enter Tryd.func54, Tryd.ntmps54
  go_wp2_with (first
    | (go_at_call 8; refine (hN _).mono ?_; rintro e w2 ⟨rfl, hb2⟩; have bA := keepb hb2 (B := w.heap.size) (x := .string s) (y := .int .i64 p) (by simp [BoxD, go_sem]); have bR := keepb hb2 (B := w.heap.size + 1) (x := .string ⟨#[]⟩) (y := .int .i64 0) (by simp [BoxD, go_sem]); obtain ⟨a0, a1, a2, a3⟩ := id bA; obtain ⟨y0, y1⟩ := bA.reads)
    | (go_at_call 62; refine (hR _).mono ?_; rintro e w3 ⟨rfl, hb3⟩; obtain ⟨r0, r1, r2, r3⟩ := keepb hb3 (bR.past (C := w.heap.size) (by omega) (.string S) (.int .i64 P))))
  refine bodyPost_ret (by simp [results, Tryd.results54, go_sem, cs_same, r0, r1]; rfl) rfl ?_
  refine ⟨rfl, ?_⟩
  have h0 := bel_call (B := w.heap.size) (w := w) (by go_grown) hb2 (Nat.le_refl _)
  have h1 := (h0.setCell (p := ⟨w.heap.size, 0, none⟩) (Nat.le_refl _) (.string S)).setCell (p := ⟨w.heap.size, 1, none⟩) (Nat.le_refl _) (.int .i64 P)
  have h2 := bel_call h1 hb3 (Nat.le_refl _)
  iterate 2 (refine Below.setCell ?_ (by dsimp only; omega) _)
  exact h2
theorem round_any (s : ByteArray) (p n : Int) (w : World) (hs : s.size ≤ 9223372036854775807) :
    Calls Tryd.prog 54 #[.agg #[.string s, .int .i64 p], .int .i64 n] w fun e w' => e = .returned (.tuple #[.agg #[.string (oS (bV (normE s p) (rnd (normV s p) n))), .int .i64 (oP (bV (normE s p) (rnd (normV s p) n)))], .int .i64 (normE s p)]) ∧ Below w.heap.size w w' := by
  have hN := normC s p hs
  have nn := nrm_norm s p
  by_cases hE : normE s p = 0
  · rw [hE] at hN ⊢
    have e : bV 0 (rnd (normV s p) n) = rnd (normV s p) n := if_pos rfl
    rw [e]
    exact round_ok hN (fun w => rounded_any (normV s p) n w (by have := nn.len; omega) (by have := nn.pt; omega)) w
  · have e : bV (normE s p) (rnd (normV s p) n) = 0 := if_neg hE
    rw [e, zero_S, o_zero.2]
    exact round_err n hN hE w
set_option maxRecDepth 1000000 in
set_option maxHeartbeats 800000 in
theorem exact_no (m : Nat) (e : Int) (w : World) (he : e < -1200 ∨ 1200 < e) :
    Calls Tryd.prog 41 #[.int .u64 m, .int .i64 e] w fun e w' => e = .returned (.tuple #[.agg #[.string ⟨#[]⟩, .int .i64 0], .int .i64 1]) ∧ Below w.heap.size w w' := by
  rcases he with h | h
  · go_enter Tryd.func41, Tryd.ntmps41
    go_wp2
    go_returns
    exact ⟨rfl, by go_grown⟩
  · have h' : ¬ e < -1200 := by omega
    go_enter Tryd.func41, Tryd.ntmps41
    go_wp2
    go_returns
    exact ⟨rfl, by go_grown⟩
theorem keepb2 {W w2 : World} {B0 : Nat} (hb : Below B0 W w2) {B : Nat} {x y : Value} (hB : B < B0) (h : BoxD W B x y) : BoxD w2 B x y :=
  ⟨(hb.cell (p := ⟨B, 0, none⟩) hB).trans h.1, (hb.cell (p := ⟨B, 1, none⟩) hB).trans h.2.1, (hb.frozen (p := ⟨B, 0, none⟩) hB).trans h.2.2.1, (hb.frozen (p := ⟨B, 1, none⟩) hB).trans h.2.2.2⟩
theorem whole_v {B : Nat} {ao : Option Addr} {n c : Nat} {xs : List Nat} {last : Int} (w : World) (h : Lm w B ao n c xs) (hn : n ≤ 10000) (hl0 : -10000 ≤ last) (hl1 : last ≤ 6000) {v : Nat} (hv : lv xs * 10 ^ (last + 10000).toNat = v) :
    Calls Tryd.prog 52 #[.slice ao n c, .int .i64 last] w fun e w' => e = .returned (.agg #[.string (oS v), .int .i64 (oP v)]) ∧ Below w.heap.size w w' := by
  rw [← hv]; exact whole_any B ao n c xs last w h hn hl0 hl1
set_option maxRecDepth 1000000 in
set_option maxHeartbeats 800000 in
theorem exact_up (m e : Nat) (w : World) (hm : m < 18446744073709551616) (he : e ≤ 1200) :
    Calls Tryd.prog 41 #[.int .u64 m, .int .i64 e] w fun x w' => x = .returned (.tuple #[.agg #[.string (oS (exU m e)), .int .i64 (oP (exU m e))], .int .i64 0]) ∧ Below w.heap.size w w' := by
  have HV : Hid (∀ xs ys, lv xs = m → lv ys = lv xs * 2 ^ e → lv ys * 10 ^ ((0 : Int) + 10000).toNat = exU m e) := fun xs ys h1 h2 => by
    unfold exU
    rw [if_pos (by omega), h2, h1, Int.toNat_natCast]
  generalize exU m e = v at *
  generalize hS : oS v = S at *
  generalize hP : oP v = P at *
  have hW : ∀ {B : Nat} {ao : Option Addr} {n c : Nat} {xs : List Nat} (w : World), Lm w B ao n c xs → n ≤ 10000 → lv xs * 10 ^ ((0 : Int) + 10000).toNat = v → Calls Tryd.prog 52 #[.slice ao n c, .int .i64 0] w fun e w' => e = .returned (.agg #[.string S, .int .i64 P]) ∧ Below w.heap.size w w' := fun w h hn hv => by
    have := whole_v w h hn (by omega) (by omega) hv
    rw [hS, hP] at this; exact this
  clear hS hP
  go_enter Tryd.func41, Tryd.ntmps41
  go_wp2_with (first
    | (go_at_call 51; refine (limbsof_any m _ hm).mono ?_; rintro x w2 ⟨⟨ao, n, c, rfl, hn, xs, hL, hv⟩, hb2⟩; have bR := keepb hb2 (B := w.heap.size) (x := .string ⟨#[]⟩) (y := .int .i64 0) (by simp [BoxD, go_sem]))
    | (go_at_call 53; refine (multiplied_2 _ ao n c e xs _ hL hb2.size (by omega) he).mono ?_; rintro x w3 ⟨⟨ao2, n2, c2, rfl, hn2, ys, hL2, hv2⟩, hb3⟩; have bR2 := keepb2 hb3 (by simp) bR; have HW := HV.out xs ys hv hv2)
    | (go_at_call 52; refine (hW _ hL2 (by omega) HW).mono ?_; rintro x w4 ⟨rfl, hb4⟩; obtain ⟨r0, r1, r2, r3⟩ := keepb hb4 bR2))
  refine bodyPost_ret (by simp [results, Tryd.results41, go_sem, cs_same, r0, r1]; rfl) rfl ?_
  refine ⟨rfl, ?_⟩
  have h0 := bel_call (B := w.heap.size) (w := w) (by go_grown) hb2 (Nat.le_refl _)
  have h1 := h0.trans (hb3.mono (by simp))
  have h2 := bel_call h1 hb4 (Nat.le_refl _)
  iterate 2 (refine Below.setCell ?_ (by dsimp only; omega) _)
  exact h2
set_option maxRecDepth 1000000 in
set_option maxHeartbeats 800000 in
theorem exact_down (m k : Nat) (w : World) (hm : m < 18446744073709551616) (hk0 : 0 < k) (hk : k ≤ 1200) :
    Calls Tryd.prog 41 #[.int .u64 m, .int .i64 (-(k : Int))] w fun x w' => x = .returned (.tuple #[.agg #[.string (oS (exU m (-(k : Int)))), .int .i64 (oP (exU m (-(k : Int))))], .int .i64 0]) ∧ Below w.heap.size w w' := by
  have HV : Hid (∀ xs ys, lv xs = m → lv ys = lv xs * 5 ^ k → lv ys * 10 ^ (-(k : Int) + 10000).toNat = exU m (-(k : Int))) := fun xs ys h1 h2 => by
    unfold exU
    rw [if_neg (by omega), h2, h1, Int.neg_neg, Int.toNat_natCast]
  generalize exU m (-(k : Int)) = v at *
  generalize hS : oS v = S at *
  generalize hP : oP v = P at *
  have hW : ∀ {B : Nat} {ao : Option Addr} {n c : Nat} {xs : List Nat} (w : World), Lm w B ao n c xs → n ≤ 10000 → lv xs * 10 ^ (-(k : Int) + 10000).toNat = v → Calls Tryd.prog 52 #[.slice ao n c, .int .i64 (-(k : Int))] w fun e w' => e = .returned (.agg #[.string S, .int .i64 P]) ∧ Below w.heap.size w w' := fun w h hn hv => by
    have := whole_v w h hn (by omega) (by omega) hv
    rw [hS, hP] at this; exact this
  clear hS hP
  have hkI : ¬ 0 ≤ -(k : Int) := by omega
  have hk1 : 0 < (k : Int) := by omega
  go_enter Tryd.func41, Tryd.ntmps41
  go_wp2_with (first
    | (go_at_call 51; refine (limbsof_any m _ hm).mono ?_; rintro x w2 ⟨⟨ao, n, c, rfl, hn, xs, hL, hv⟩, hb2⟩; have bR := keepb hb2 (B := w.heap.size) (x := .string ⟨#[]⟩) (y := .int .i64 0) (by simp [BoxD, go_sem]))
    | (go_at_call 53; refine (multiplied_5 _ ao n c k xs _ hL hb2.size (by omega) hk).mono ?_; rintro x w3 ⟨⟨ao2, n2, c2, rfl, hn2, ys, hL2, hv2⟩, hb3⟩; have bR2 := keepb2 hb3 (by simp) bR; have HW := HV.out xs ys hv hv2)
    | (go_at_call 52; refine (hW _ hL2 (by omega) HW).mono ?_; rintro x w4 ⟨rfl, hb4⟩; obtain ⟨r0, r1, r2, r3⟩ := keepb hb4 bR2))
  refine bodyPost_ret (by simp [results, Tryd.results41, go_sem, cs_same, r0, r1]; rfl) rfl ?_
  refine ⟨rfl, ?_⟩
  have h0 := bel_call (B := w.heap.size) (w := w) (by go_grown) hb2 (Nat.le_refl _)
  have h1 := h0.trans (hb3.mono (by simp))
  have h2 := bel_call h1 hb4 (Nat.le_refl _)
  iterate 2 (refine Below.setCell ?_ (by dsimp only; omega) _)
  exact h2
/-- Exact's error, and its number of units. -/
def xE (e : Int) : Int := if e < -1200 ∨ 1200 < e then 1 else 0
def xV (m : Nat) (e : Int) : Nat := if xE e = 0 then exU m e else 0
theorem exact_any (m : Nat) (e : Int) (w : World) (hm : m < 18446744073709551616) :
    Calls Tryd.prog 41 #[.int .u64 m, .int .i64 e] w fun x w' => x = .returned (.tuple #[.agg #[.string (oS (xV m e)), .int .i64 (oP (xV m e))], .int .i64 (xE e)]) ∧ Below w.heap.size w w' := by
  by_cases he : e < -1200 ∨ 1200 < e
  · have e1 : xE e = 1 := if_pos he
    have e2 : xV m e = 0 := by unfold xV; rw [e1]; rfl
    rw [e1, e2, zero_S, o_zero.2]
    exact exact_no m e w he
  · have e1 : xE e = 0 := if_neg he
    have e2 : xV m e = exU m e := by unfold xV; rw [if_pos e1]
    rw [e1, e2]
    by_cases h0 : 0 ≤ e
    · obtain ⟨k, rfl⟩ : ∃ k : Nat, e = (k : Int) := ⟨e.toNat, by omega⟩
      exact exact_up m k w hm (by omega)
    · obtain ⟨k, rfl⟩ : ∃ k : Nat, e = -(k : Int) := ⟨(-e).toNat, by omega⟩
      exact exact_down m k w hm (by omega) (by omega)
end Go.Proofs.YthbabhbfpcfenabDoor
