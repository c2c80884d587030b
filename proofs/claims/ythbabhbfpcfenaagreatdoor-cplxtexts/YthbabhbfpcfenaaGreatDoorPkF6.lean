/- BRnd, BTopB: these texts in one. -/
import Derived.Test.YthbabhbfpcfenaaGreatDoorPkF2
import Derived.Test.YthbabhbfpcfenaaGreatDoorPkF5
/- Plain mathematics of layer 4: what is rounded; what Norm leaves. -/
namespace Go.Proofs.YthbabhbfpcfenaaGreatDoor
open Go.RowKit

/-- What Norm leaves: few digits, a point that is not far. -/
structure Nrm (v : Nat) : Prop where
  len : (oL v).length ≤ 2000
  pt : oP v ≤ 5000
  low : -7000 ≤ oP v - (oL v).length
theorem nrm_zero : Nrm 0 := ⟨by rw [o_zero.1]; simp, by rw [o_zero.2]; decide, by rw [o_zero.1, o_zero.2]; simp⟩
theorem nrm_norm (s : ByteArray) (p : Int) : Nrm (normV s p) := by
  unfold normV
  split
  · rename_i h
    obtain ⟨h1, h2, h3, h4⟩ := normE_zero h
    obtain ⟨f1, f2⟩ := form_o s.data.toList p h2 (by rw [list_len]; omega)
    have l1 := ltr_len s.data.toList
    have l2 := rtr_len (ltr s.data.toList)
    rw [list_len] at l1 f2
    rw [f1] at l2 f2
    refine ⟨by omega, ?_, ?_⟩
    · by_cases he : oL (V s.data.toList p) = []
      · rw [if_pos he] at f2; omega
      · rw [if_neg he] at f2; omega
    · by_cases he : oL (V s.data.toList p) = []
      · rw [if_pos he] at f2; rw [← f2, he]; simp
      · rw [if_neg he] at f2; omega
  · exact nrm_zero
theorem o_val (v : Nat) : V (oL v) (oP v) = v := (o_dec v).val
theorem o_low (v : Nat) : -10000 ≤ oP v - (oL v).length := (o_dec v).low
theorem o_dig (v : Nat) : allD (oS v).data.toList = true := (o_dec v).dig

/-- A decimal rounded to so many digits. -/
def rnd (v : Nat) (n : Int) : Nat := if n < 0 then 0 else if ((oL v).length : Int) ≤ n then v else near v (oP v - n + 10000).toNat
/-- The nearest number that has nothing below a place. -/
def nst (v : Nat) (p : Int) : Nat := if p ≤ oP v - (oL v).length ∨ oL v = [] then v else if oP v - p < 0 then 0 else near v (p + 10000).toNat
theorem nst_rnd (v : Nat) (n : Int) : nst v (oP v - n) = rnd v n := by
  unfold nst rnd
  by_cases h0 : oL v = []
  · have hv : v = 0 := oL_nil.1 h0
    rw [if_pos (.inr h0)]
    by_cases hn : n < 0
    · rw [if_pos hn, hv]
    · rw [if_neg hn, if_pos (by rw [h0]; simp; omega)]
  · have hl : 0 < (oL v).length := by
      rcases Nat.eq_zero_or_pos (oL v).length with h | h
      · exact absurd (List.eq_nil_of_length_eq_zero h) h0
      · exact h
    by_cases h1 : ((oL v).length : Int) ≤ n
    · rw [if_pos (.inl (by omega)), if_neg (by omega), if_pos h1]
    · rw [if_neg (by intro h; rcases h with h | h; omega; exact h0 h)]
      by_cases hn : n < 0
      · rw [if_pos (by omega), if_pos hn]
      · rw [if_neg (by omega), if_neg hn, if_neg h1]
/-- The document's Round. -/
def rndD (v : Nat) (n : Int) : Nat := if n < 0 then 0 else if 2000 < n then v else nst v (oP v - n)
theorem rndD_eq {v : Nat} (h : Nrm v) (n : Int) : rndD v n = rnd v n := by
  have hl := h.len
  unfold rndD
  by_cases h1 : n < 0
  · rw [if_pos h1]; unfold rnd; rw [if_pos h1]
  · rw [if_neg h1]
    by_cases h2 : 2000 < n
    · rw [if_pos h2]; unfold rnd; rw [if_neg h1, if_pos (by omega)]
    · rw [if_neg h2, nst_rnd]
/-- The program's Places, and the document's. -/
def plc (v : Nat) (k : Int) : Nat := rnd v (oP v + min (max k (-14000)) 14000)
def plcD (v : Nat) (k : Int) : Nat := if 20000 < k then v else if k < -20000 then 0 else nst v (-k)
theorem plcD_eq {v : Nat} (h : Nrm v) (k : Int) : plcD v k = plc v k := by
  have h1 := h.len
  have h2 := h.pt
  have h3 := h.low
  unfold plcD plc
  by_cases k1 : 14000 < k
  · have e : rnd v (oP v + min (max k (-14000)) 14000) = v := by
      unfold rnd; rw [if_neg (by omega), if_pos (by omega)]
    rw [e]
    by_cases k2 : 20000 < k
    · rw [if_pos k2]
    · rw [if_neg k2, if_neg (by omega)]; unfold nst; rw [if_pos (.inl (by omega))]
  · by_cases k2 : k < -14000
    · have e : rnd v (oP v + min (max k (-14000)) 14000) = 0 := by
        unfold rnd; rw [if_pos (by omega)]
      rw [e, if_neg (by omega)]
      by_cases k3 : k < -20000
      · rw [if_pos k3]
      · rw [if_neg k3]; unfold nst
        by_cases h0 : oL v = []
        · rw [if_pos (.inr h0)]; exact oL_nil.1 h0
        · rw [if_neg (by intro h; rcases h with h | h; omega; exact h0 h), if_pos (by omega)]
    · rw [if_neg (by omega), if_neg (by omega), show min (max k (-14000)) 14000 = k by omega, ← nst_rnd]
      congr 1; omega
/-- Exact: m times 2 to the power of e, in units. -/
def exU (m : Nat) (e : Int) : Nat := if 0 ≤ e then m * 2 ^ e.toNat * 10 ^ ((0 : Int) + 10000).toNat else m * 5 ^ (-e).toNat * 10 ^ (e + 10000).toNat
/-- Add's error, and its sum. -/
def aE (e : Int) (n : Nat) : Int := if e = 0 then (if 2000 < (oL n).length then 2 else 0) else e
def aV (e : Int) (n : Nat) : Nat := if aE e n = 0 then n else 0
end Go.Proofs.YthbabhbfpcfenaaGreatDoor

/- The walks of Add, roundsUp, rounded. -/
namespace Go.Proofs.YthbabhbfpcfenaaGreatDoor
open Go.RowKit
set_option linter.unusedVariables false

def PlusC (S1 : ByteArray) (P1 : Int) (S2 : ByteArray) (P2 : Int) (S : ByteArray) (P : Int) : Prop := ∀ w, Calls Tryz.prog 137 #[.agg #[.string S1, .int .i64 P1], .agg #[.string S2, .int .i64 P2]] w fun e w' => e = .returned (.agg #[.string S, .int .i64 P]) ∧ Below w.heap.size w w'
theorem plusC {v u : Nat} (h1 : (oL v).length ≤ 16000) (h2 : (oL u).length ≤ 16000) (h3 : oP v ≤ 6000) (h4 : oP u ≤ 6000) : PlusC (oS v) (oP v) (oS u) (oP u) (oS (v + u)) (oP (v + u)) := fun w => by
  have k1 := o_low v
  have k2 := o_low u
  have z1 := oS_size v
  have z2 := oS_size u
  have := plus_any (oS v) (oS u) (oP v) (oP u) w (o_dig v) (o_dig u) (by omega) (by omega) (by omega) (by omega) h3 h4
  have e1 : V (oS v).data.toList (oP v) = v := o_val v
  have e2 : V (oS u).data.toList (oP u) = u := o_val u
  rw [e1, e2] at this
  exact this
set_option maxRecDepth 1000000 in
set_option maxHeartbeats 800000 in
theorem add_err {s1 s2 S1 S2 : ByteArray} {p1 p2 P1 P2 E : Int} (hB : BothC s1 p1 s2 p2 S1 P1 S2 P2 E) (hE : ¬ E = 0) (w : World) :
    Calls Tryz.prog 180 #[.agg #[.string s1, .int .i64 p1], .agg #[.string s2, .int .i64 p2]] w fun e w' => e = .returned (.tuple #[.agg #[.string ⟨#[]⟩, .int .i64 0], .int .i64 E]) ∧ Below w.heap.size w w' := by
  have hEb : (E != 0) = true := by simp [hE]
  go_enter Tryz.func180, Tryz.ntmps180
  go_wp2_with (go_at_call 184; refine (hB _).mono ?_; rintro e w2 ⟨rfl, hb2⟩; have bA := keepb hb2 (B := w.heap.size) (x := .string s1) (y := .int .i64 p1) (by simp [BoxD, go_sem]); have bB := keepb hb2 (B := w.heap.size + 1) (x := .string s2) (y := .int .i64 p2) (by simp [BoxD, go_sem]); obtain ⟨r0, r1, r2, r3⟩ := keepb hb2 (B := w.heap.size + 2) (x := .string ⟨#[]⟩) (y := .int .i64 0) (by simp [BoxD, go_sem]); obtain ⟨a0, a1, a2, a3⟩ := id bA; obtain ⟨b0, b1, b2, b3⟩ := id bB)
  refine bodyPost_ret (by simp [results, Tryz.results180, go_sem, cs_same, r0, r1]; rfl) rfl ?_
  refine ⟨rfl, ?_⟩
  have h0 := bel_call (B := w.heap.size) (w := w) (by go_grown) hb2 (Nat.le_refl _)
  iterate 6 (refine Below.setCell ?_ (by dsimp only; omega) _)
  exact h0
set_option maxRecDepth 1000000 in
set_option maxHeartbeats 1600000 in
theorem add_ok {s1 s2 S1 S2 S : ByteArray} {p1 p2 P1 P2 P : Int} (hB : BothC s1 p1 s2 p2 S1 P1 S2 P2 0) (hP : PlusC S1 P1 S2 P2 S P) (hS : S.size ≤ 2000) (w : World) :
    Calls Tryz.prog 180 #[.agg #[.string s1, .int .i64 p1], .agg #[.string s2, .int .i64 p2]] w fun e w' => e = .returned (.tuple #[.agg #[.string S, .int .i64 P], .int .i64 0]) ∧ Below w.heap.size w w' := by
  have hSI : ¬ 2000 < (S.size : Int) := by omega
  go_enter Tryz.func180, Tryz.ntmps180
  go_wp2_with (first
    | (go_at_call 184; refine (hB _).mono ?_; rintro e w2 ⟨rfl, hb2⟩; have bA := keepb hb2 (B := w.heap.size) (x := .string s1) (y := .int .i64 p1) (by simp [BoxD, go_sem]); have bB := keepb hb2 (B := w.heap.size + 1) (x := .string s2) (y := .int .i64 p2) (by simp [BoxD, go_sem]); have bR := keepb hb2 (B := w.heap.size + 2) (x := .string ⟨#[]⟩) (y := .int .i64 0) (by simp [BoxD, go_sem]); obtain ⟨a0, a1, a2, a3⟩ := id bA; obtain ⟨b0, b1, b2, b3⟩ := id bB; obtain ⟨y0, y1⟩ := bA.reads; obtain ⟨z0, z1⟩ := (bB.past (C := w.heap.size) (by omega) (.string S1) (.int .i64 P1)).reads)
    | (go_at_call 137; refine (hP _).mono ?_; rintro e w3 ⟨rfl, hb3⟩; have bR' := keepb hb3 ((bR.past (C := w.heap.size) (by omega) (.string S1) (.int .i64 P1)).past (C := w.heap.size + 1) (by omega) (.string S2) (.int .i64 P2)); have hsz : w.heap.size + 2 < w3.heap.size := World.block_lt_of_cell? w3 _ bR'.1; have hne : ¬ w3.heap.size = w.heap.size + 2 := (by omega); have hne2 : ¬ w.heap.size + 2 = w3.heap.size := (by omega); obtain ⟨r0, r1, r2, r3⟩ := id bR'))
  refine bodyPost_ret (by simp [results, Tryz.results180, go_sem, cs_same, r0, r1, hsz]; rfl) rfl ?_
  refine ⟨rfl, ?_⟩
  have h0 := bel_call (B := w.heap.size) (w := w) (by go_grown) hb2 (Nat.le_refl _)
  have h1 := (h0.setCell (p := ⟨w.heap.size, 0, none⟩) (Nat.le_refl _) (.string S1)).setCell (p := ⟨w.heap.size, 1, none⟩) (Nat.le_refl _) (.int .i64 P1)
  have h2 := (h1.setCell (p := ⟨w.heap.size + 1, 0, none⟩) (Nat.le_succ _) (.string S2)).setCell (p := ⟨w.heap.size + 1, 1, none⟩) (Nat.le_succ _) (.int .i64 P2)
  have h3 := bel_call h2 hb3 (Nat.le_refl _)
  refine Below.alloc ?_ (by simp; omega) _
  iterate 2 (refine Below.setCell ?_ (by dsimp only; omega) _)
  exact h3
set_option maxRecDepth 1000000 in
set_option maxHeartbeats 1600000 in
theorem add_big {s1 s2 S1 S2 S : ByteArray} {p1 p2 P1 P2 P : Int} (hB : BothC s1 p1 s2 p2 S1 P1 S2 P2 0) (hP : PlusC S1 P1 S2 P2 S P) (hS : 2000 < S.size) (w : World) :
    Calls Tryz.prog 180 #[.agg #[.string s1, .int .i64 p1], .agg #[.string s2, .int .i64 p2]] w fun e w' => e = .returned (.tuple #[.agg #[.string ⟨#[]⟩, .int .i64 0], .int .i64 2]) ∧ Below w.heap.size w w' := by
  have hSI : 2000 < (S.size : Int) := by omega
  go_enter Tryz.func180, Tryz.ntmps180
  go_wp2_with (first
    | (go_at_call 184; refine (hB _).mono ?_; rintro e w2 ⟨rfl, hb2⟩; have bA := keepb hb2 (B := w.heap.size) (x := .string s1) (y := .int .i64 p1) (by simp [BoxD, go_sem]); have bB := keepb hb2 (B := w.heap.size + 1) (x := .string s2) (y := .int .i64 p2) (by simp [BoxD, go_sem]); have bR := keepb hb2 (B := w.heap.size + 2) (x := .string ⟨#[]⟩) (y := .int .i64 0) (by simp [BoxD, go_sem]); obtain ⟨a0, a1, a2, a3⟩ := id bA; obtain ⟨b0, b1, b2, b3⟩ := id bB; obtain ⟨y0, y1⟩ := bA.reads; obtain ⟨z0, z1⟩ := (bB.past (C := w.heap.size) (by omega) (.string S1) (.int .i64 P1)).reads)
    | (go_at_call 137; refine (hP _).mono ?_; rintro e w3 ⟨rfl, hb3⟩; have bR' := keepb hb3 ((bR.past (C := w.heap.size) (by omega) (.string S1) (.int .i64 P1)).past (C := w.heap.size + 1) (by omega) (.string S2) (.int .i64 P2)); have hsz : w.heap.size + 2 < w3.heap.size := World.block_lt_of_cell? w3 _ bR'.1; have hne : ¬ w3.heap.size = w.heap.size + 2 := (by omega); have hne2 : ¬ w.heap.size + 2 = w3.heap.size := (by omega); obtain ⟨r0, r1, r2, r3⟩ := id bR'))
  refine bodyPost_ret (by simp [results, Tryz.results180, go_sem, cs_same, r0, r1, hsz]; rfl) rfl ?_
  refine ⟨rfl, ?_⟩
  have h0 := bel_call (B := w.heap.size) (w := w) (by go_grown) hb2 (Nat.le_refl _)
  have h1 := (h0.setCell (p := ⟨w.heap.size, 0, none⟩) (Nat.le_refl _) (.string S1)).setCell (p := ⟨w.heap.size, 1, none⟩) (Nat.le_refl _) (.int .i64 P1)
  have h2 := (h1.setCell (p := ⟨w.heap.size + 1, 0, none⟩) (Nat.le_succ _) (.string S2)).setCell (p := ⟨w.heap.size + 1, 1, none⟩) (Nat.le_succ _) (.int .i64 P2)
  have h3 := bel_call h2 hb3 (Nat.le_refl _)
  refine Below.alloc ?_ (by simp; omega) _
  iterate 2 (refine Below.setCell ?_ (by dsimp only; omega) _)
  exact h3
/-- What Add answers. -/
theorem add_any (s1 s2 : ByteArray) (p1 p2 : Int) (w : World) (hs1 : s1.size ≤ 9223372036854775807) (hs2 : s2.size ≤ 9223372036854775807) :
    Calls Tryz.prog 180 #[.agg #[.string s1, .int .i64 p1], .agg #[.string s2, .int .i64 p2]] w fun e w' => e = .returned (.tuple #[.agg #[.string (oS (aV (bE (normE s1 p1) (normE s2 p2)) (normV s1 p1 + normV s2 p2))), .int .i64 (oP (aV (bE (normE s1 p1) (normE s2 p2)) (normV s1 p1 + normV s2 p2)))], .int .i64 (aE (bE (normE s1 p1) (normE s2 p2)) (normV s1 p1 + normV s2 p2))]) ∧ Below w.heap.size w w' := by
  have hB := bothC s1 s2 p1 p2 hs1 hs2
  have n1 := nrm_norm s1 p1
  have n2 := nrm_norm s2 p2
  have hP := plusC (v := normV s1 p1) (u := normV s2 p2) (by have := n1.len; omega) (by have := n2.len; omega) (by have := n1.pt; omega) (by have := n2.pt; omega)
  have hz := oS_size (normV s1 p1 + normV s2 p2)
  by_cases hE : bE (normE s1 p1) (normE s2 p2) = 0
  · rw [hE] at hB ⊢
    simp only [bV, if_true] at hB
    by_cases hl : 2000 < (oL (normV s1 p1 + normV s2 p2)).length
    · have e1 : aE 0 (normV s1 p1 + normV s2 p2) = 2 := by unfold aE; rw [if_pos rfl, if_pos hl]
      have e2 : aV 0 (normV s1 p1 + normV s2 p2) = 0 := by unfold aV; rw [e1]; rfl
      rw [e1, e2, zero_S, o_zero.2]
      exact add_big hB hP (by omega) w
    · have e1 : aE 0 (normV s1 p1 + normV s2 p2) = 0 := by unfold aE; rw [if_pos rfl, if_neg hl]
      have e2 : aV 0 (normV s1 p1 + normV s2 p2) = normV s1 p1 + normV s2 p2 := by unfold aV; rw [e1]; rfl
      rw [e1, e2]
      exact add_ok hB hP (by omega) w
  · have e1 : aE (bE (normE s1 p1) (normE s2 p2)) (normV s1 p1 + normV s2 p2) = bE (normE s1 p1) (normE s2 p2) := by unfold aE; rw [if_neg hE]
    have e2 : aV (bE (normE s1 p1) (normE s2 p2)) (normV s1 p1 + normV s2 p2) = 0 := by unfold aV; rw [e1, if_neg hE]
    rw [e1, e2, zero_S, o_zero.2]
    exact add_err hB hE w

end Go.Proofs.YthbabhbfpcfenaaGreatDoor
