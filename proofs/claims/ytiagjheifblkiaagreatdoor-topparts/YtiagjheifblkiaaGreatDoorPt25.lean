/- BTopB, BTopC, BTopD, Lives4: these texts in one. -/
import Derived.Test.YtiagjheifblkiaaGreatDoorPt21
import Derived.Test.YtiagjheifblkiaaGreatDoorPt24
namespace Go.Proofs.YtiagjheifblkiaaGreatDoor
open Go.RowKit
set_option linter.unusedVariables false
def PlusC (S1 : ByteArray) (P1 : Int) (S2 : ByteArray) (P2 : Int) (S : ByteArray) (P : Int) : Prop := ∀ w, Calls Tryz.prog 33 #[.agg #[.string S1, .int .i64 P1], .agg #[.string S2, .int .i64 P2]] w fun e w' => e = .returned (.agg #[.string S, .int .i64 P]) ∧ Below w.heap.size w w'
theorem plusC {v u : Nat} (h1 : (oL v).length ≤ 16000) (h2 : (oL u).length ≤ 16000) (h3 : oP v ≤ 6000) (h4 : oP u ≤ 6000) : PlusC (oS v) (oP v) (oS u) (oP u) (oS (v + u)) (oP (v + u)) := fun w => by
 have k1 := o_low v
 have k2 := o_low u
 have z1 := oS_size v
 have z2 := oS_size u
 have := plus_any (oS v) (oS u) (oP v) (oP u) w (o_dig v) (o_dig u) (by omega) (by omega) (by omega) (by omega) h3 h4
 have e1 : V (oS v).data.toList (oP v) = v := o_val v
 have e2 : V (oS u).data.toList (oP u) = u := o_val u
 rw [e1, e2] at this
 exact this
set_option maxRecDepth 1000000 in
set_option maxHeartbeats 800000 in
theorem add_err {s1 s2 S1 S2 : ByteArray} {p1 p2 P1 P2 E : Int} (hB : BothC s1 p1 s2 p2 S1 P1 S2 P2 E) (hE : ¬ E = 0) (w : World) :
  Calls Tryz.prog 15 #[.agg #[.string s1, .int .i64 p1], .agg #[.string s2, .int .i64 p2]] w fun e w' => e = .returned (.tuple #[.agg #[.string ⟨#[]⟩, .int .i64 0], .int .i64 E]) ∧ Below w.heap.size w w' := by
 have hEb : (E != 0) = true := by simp [hE]
 go_enter Tryz.func15, Tryz.ntmps15
 go_wp2_with (go_at_call 32; refine (hB _).mono ?_; rintro e w2 ⟨rfl, hb2⟩; have bA := keepb hb2 (B := w.heap.size) (x := .string s1) (y := .int .i64 p1) (by simp [BoxDe, go_sem]); have bB := keepb hb2 (B := w.heap.size + 1) (x := .string s2) (y := .int .i64 p2) (by simp [BoxDe, go_sem]); obtain ⟨r0, r1, r2, r3⟩ := keepb hb2 (B := w.heap.size + 2) (x := .string ⟨#[]⟩) (y := .int .i64 0) (by simp [BoxDe, go_sem]); obtain ⟨a0, a1, a2, a3⟩ := id bA; obtain ⟨b0, b1, b2, b3⟩ := id bB)
 refine bodyPost_ret (by simp [results, Tryz.results15, go_sem, cs_same, r0, r1]; rfl) rfl ?_
 refine ⟨rfl, ?_⟩
 have h0 := bel_call (B := w.heap.size) (w := w) (by go_grown) hb2 (Nat.le_refl _)
 iterate 6 (refine Below.setCell ?_ (by dsimp only; omega) _)
 exact h0
set_option maxRecDepth 1000000 in
set_option maxHeartbeats 1600000 in
theorem add_ok {s1 s2 S1 S2 S : ByteArray} {p1 p2 P1 P2 P : Int} (hB : BothC s1 p1 s2 p2 S1 P1 S2 P2 0) (hP : PlusC S1 P1 S2 P2 S P) (hS : S.size ≤ 2000) (w : World) :
  Calls Tryz.prog 15 #[.agg #[.string s1, .int .i64 p1], .agg #[.string s2, .int .i64 p2]] w fun e w' => e = .returned (.tuple #[.agg #[.string S, .int .i64 P], .int .i64 0]) ∧ Below w.heap.size w w' := by
 have hSI : ¬ 2000 < (S.size : Int) := by omega
 go_enter Tryz.func15, Tryz.ntmps15
 go_wp2_with (first
  | (go_at_call 32; refine (hB _).mono ?_; rintro e w2 ⟨rfl, hb2⟩; have bA := keepb hb2 (B := w.heap.size) (x := .string s1) (y := .int .i64 p1) (by simp [BoxDe, go_sem]); have bB := keepb hb2 (B := w.heap.size + 1) (x := .string s2) (y := .int .i64 p2) (by simp [BoxDe, go_sem]); have bR := keepb hb2 (B := w.heap.size + 2) (x := .string ⟨#[]⟩) (y := .int .i64 0) (by simp [BoxDe, go_sem]); obtain ⟨a0, a1, a2, a3⟩ := id bA; obtain ⟨b0, b1, b2, b3⟩ := id bB; obtain ⟨y0, y1⟩ := bA.reads; obtain ⟨z0, z1⟩ := (bB.past (C := w.heap.size) (by omega) (.string S1) (.int .i64 P1)).reads)
  | (go_at_call 33; refine (hP _).mono ?_; rintro e w3 ⟨rfl, hb3⟩; have bR' := keepb hb3 ((bR.past (C := w.heap.size) (by omega) (.string S1) (.int .i64 P1)).past (C := w.heap.size + 1) (by omega) (.string S2) (.int .i64 P2)); have hsz : w.heap.size + 2 < w3.heap.size := World.block_lt_of_cell? w3 _ bR'.1; have hne : ¬ w3.heap.size = w.heap.size + 2 := (by omega); have hne2 : ¬ w.heap.size + 2 = w3.heap.size := (by omega); obtain ⟨r0, r1, r2, r3⟩ := id bR'))
 refine bodyPost_ret (by simp [results, Tryz.results15, go_sem, cs_same, r0, r1, hsz]; rfl) rfl ?_
 refine ⟨rfl, ?_⟩
 have h0 := bel_call (B := w.heap.size) (w := w) (by go_grown) hb2 (Nat.le_refl _)
 have h1 := (h0.setCell (p := ⟨w.heap.size, 0, none⟩) (Nat.le_refl _) (.string S1)).setCell (p := ⟨w.heap.size, 1, none⟩) (Nat.le_refl _) (.int .i64 P1)
 have h2 := (h1.setCell (p := ⟨w.heap.size + 1, 0, none⟩) (Nat.le_succ _) (.string S2)).setCell (p := ⟨w.heap.size + 1, 1, none⟩) (Nat.le_succ _) (.int .i64 P2)
 have h3 := bel_call h2 hb3 (Nat.le_refl _)
 refine Below.alloc ?_ (by simp; omega) _
 iterate 2 (refine Below.setCell ?_ (by dsimp only; omega) _)
 exact h3
set_option maxRecDepth 1000000 in
set_option maxHeartbeats 1600000 in
theorem add_big {s1 s2 S1 S2 S : ByteArray} {p1 p2 P1 P2 P : Int} (hB : BothC s1 p1 s2 p2 S1 P1 S2 P2 0) (hP : PlusC S1 P1 S2 P2 S P) (hS : 2000 < S.size) (w : World) :
  Calls Tryz.prog 15 #[.agg #[.string s1, .int .i64 p1], .agg #[.string s2, .int .i64 p2]] w fun e w' => e = .returned (.tuple #[.agg #[.string ⟨#[]⟩, .int .i64 0], .int .i64 2]) ∧ Below w.heap.size w w' := by
 have hSI : 2000 < (S.size : Int) := by omega
 go_enter Tryz.func15, Tryz.ntmps15
 go_wp2_with (first
  | (go_at_call 32; refine (hB _).mono ?_; rintro e w2 ⟨rfl, hb2⟩; have bA := keepb hb2 (B := w.heap.size) (x := .string s1) (y := .int .i64 p1) (by simp [BoxDe, go_sem]); have bB := keepb hb2 (B := w.heap.size + 1) (x := .string s2) (y := .int .i64 p2) (by simp [BoxDe, go_sem]); have bR := keepb hb2 (B := w.heap.size + 2) (x := .string ⟨#[]⟩) (y := .int .i64 0) (by simp [BoxDe, go_sem]); obtain ⟨a0, a1, a2, a3⟩ := id bA; obtain ⟨b0, b1, b2, b3⟩ := id bB; obtain ⟨y0, y1⟩ := bA.reads; obtain ⟨z0, z1⟩ := (bB.past (C := w.heap.size) (by omega) (.string S1) (.int .i64 P1)).reads)
  | (go_at_call 33; refine (hP _).mono ?_; rintro e w3 ⟨rfl, hb3⟩; have bR' := keepb hb3 ((bR.past (C := w.heap.size) (by omega) (.string S1) (.int .i64 P1)).past (C := w.heap.size + 1) (by omega) (.string S2) (.int .i64 P2)); have hsz : w.heap.size + 2 < w3.heap.size := World.block_lt_of_cell? w3 _ bR'.1; have hne : ¬ w3.heap.size = w.heap.size + 2 := (by omega); have hne2 : ¬ w.heap.size + 2 = w3.heap.size := (by omega); obtain ⟨r0, r1, r2, r3⟩ := id bR'))
 refine bodyPost_ret (by simp [results, Tryz.results15, go_sem, cs_same, r0, r1, hsz]; rfl) rfl ?_
 refine ⟨rfl, ?_⟩
 have h0 := bel_call (B := w.heap.size) (w := w) (by go_grown) hb2 (Nat.le_refl _)
 have h1 := (h0.setCell (p := ⟨w.heap.size, 0, none⟩) (Nat.le_refl _) (.string S1)).setCell (p := ⟨w.heap.size, 1, none⟩) (Nat.le_refl _) (.int .i64 P1)
 have h2 := (h1.setCell (p := ⟨w.heap.size + 1, 0, none⟩) (Nat.le_succ _) (.string S2)).setCell (p := ⟨w.heap.size + 1, 1, none⟩) (Nat.le_succ _) (.int .i64 P2)
 have h3 := bel_call h2 hb3 (Nat.le_refl _)
 refine Below.alloc ?_ (by simp; omega) _
 iterate 2 (refine Below.setCell ?_ (by dsimp only; omega) _)
 exact h3
theorem add_any (s1 s2 : ByteArray) (p1 p2 : Int) (w : World) (hs1 : s1.size ≤ 9223372036854775807) (hs2 : s2.size ≤ 9223372036854775807) :
  Calls Tryz.prog 15 #[.agg #[.string s1, .int .i64 p1], .agg #[.string s2, .int .i64 p2]] w fun e w' => e = .returned (.tuple #[.agg #[.string (oS (aV (bE (normE s1 p1) (normE s2 p2)) (normV s1 p1 + normV s2 p2))), .int .i64 (oP (aV (bE (normE s1 p1) (normE s2 p2)) (normV s1 p1 + normV s2 p2)))], .int .i64 (aE (bE (normE s1 p1) (normE s2 p2)) (normV s1 p1 + normV s2 p2))]) ∧ Below w.heap.size w w' := by
 have hB := bothC s1 s2 p1 p2 hs1 hs2
 have n1 := nrm_norm s1 p1
 have n2 := nrm_norm s2 p2
 have hP := plusC (v := normV s1 p1) (u := normV s2 p2) (by have := n1.len; omega) (by have := n2.len; omega) (by have := n1.pt; omega) (by have := n2.pt; omega)
 have hz := oS_size (normV s1 p1 + normV s2 p2)
 by_cases hE : bE (normE s1 p1) (normE s2 p2) = 0
 ·rw [hE] at hB ⊢
  simp only [bV, if_true] at hB
  by_cases hl : 2000 < (oL (normV s1 p1 + normV s2 p2)).length
  ·have e1 : aE 0 (normV s1 p1 + normV s2 p2) = 2 := by unfold aE; rw [if_pos rfl, if_pos hl]
   have e2 : aV 0 (normV s1 p1 + normV s2 p2) = 0 := by unfold aV; rw [e1]; rfl
   rw [e1, e2, zero_S, o_zero.2]
   exact add_big hB hP (by omega) w
  ·have e1 : aE 0 (normV s1 p1 + normV s2 p2) = 0 := by unfold aE; rw [if_pos rfl, if_neg hl]
   have e2 : aV 0 (normV s1 p1 + normV s2 p2) = normV s1 p1 + normV s2 p2 := by unfold aV; rw [e1]; rfl
   rw [e1, e2]
   exact add_ok hB hP (by omega) w
 ·have e1 : aE (bE (normE s1 p1) (normE s2 p2)) (normV s1 p1 + normV s2 p2) = bE (normE s1 p1) (normE s2 p2) := by unfold aE; rw [if_neg hE]
  have e2 : aV (bE (normE s1 p1) (normE s2 p2)) (normV s1 p1 + normV s2 p2) = 0 := by unfold aV; rw [e1, if_neg hE]
  rw [e1, e2, zero_S, o_zero.2]
  exact add_err hB hE w
end Go.Proofs.YtiagjheifblkiaaGreatDoor
namespace Go.Proofs.YtiagjheifblkiaaGreatDoor
open Go.RowKit
set_option linter.unusedVariables false
theorem getL (s : ByteArray) (i : Nat) (h : i < s.size) : s.data.toList.getD i 0 = s[i]'h := by
 have hl : i < s.data.toList.length := by rw [list_len]; exact h
 rw [List.getD_eq_getElem?_getD, List.getElem?_eq_getElem hl, Option.getD_some]; rfl
set_option maxRecDepth 1000000 in
set_option maxHeartbeats 800000 in
theorem roundsup_any (s : ByteArray) (n : Nat) (w : World) (hdB : allD s.data.toList = true) (hn : n < s.size) (hs : s.size ≤ 1000000) :
  Calls Tryz.prog 49 #[.string s, .int .i64 n] w fun e w' => e = .returned (.bool (ups s.data.toList n)) ∧ w' = w := by
 obtain ⟨x0, x1⟩ := allD_at s hdB n hn
 have HU : Hid (ups s.data.toList n = if (s[n]'hn).toNat ≠ 53 then decide (53 < (s[n]'hn).toNat) else if n + 1 < s.size then true else decide (0 < n) && decide (dgD (s.data.toList.getD (n - 1) 0) % 2 = 1)) := by
  show _ = _
  have hiff : (s[n]'hn = 53) = ((s[n]'hn).toNat = 53) := propext ⟨fun e => by rw [e]; rfl, fun e => UInt8.toNat_inj.1 (by rw [e]; rfl)⟩
  unfold ups
  rw [getL s n hn, list_len]
  simp only [ne_eq, hiff]
 have hnI : (n : Int) < s.size := by omega
 by_cases h5 : (s[n]'hn).toNat = 53
 ·have h5I : ((s[n]'hn).toNat : Int) = 53 := by omega
  have h5b : (((s[n]'hn).toNat : Int) != 53) = false := by simp [h5]
  by_cases h6 : n + 1 < s.size
  ·have h6I : (n : Int) + 1 < s.size := by omega
   have HF : Hid (ups s.data.toList n = true) := by show _ = _; rw [HU.out, if_neg (by simp [h5]), if_pos h6]
   clear HU
   go_enter Tryz.func49, Tryz.ntmps49
   go_wp2
   go_ret
   rw [HF.out]
   exact ⟨rfl, rfl⟩
  ·have h6I : ¬ (n : Int) + 1 < s.size := by omega
   rcases Nat.eq_zero_or_pos n with h0 | h0
   ·subst h0
    have HF : Hid (ups s.data.toList 0 = false) := by show _ = _; rw [HU.out, if_neg (by simp [h5]), if_neg h6]; rfl
    clear HU
    go_enter Tryz.func49, Tryz.ntmps49
    go_wp2
    go_ret
    rw [HF.out]
    exact ⟨rfl, rfl⟩
   ·obtain ⟨j, rfl⟩ : ∃ j, n = j + 1 := ⟨n - 1, by omega⟩
    have hj : j < s.size := by omega
    obtain ⟨y0, y1⟩ := allD_at s hdB j hj
    have HF : Hid (ups s.data.toList (j + 1) = decide (((s[j]'hj).toNat - 48) % 2 = 1)) := by
     show _ = _
     rw [HU.out, if_neg (by simp [h5]), if_neg h6, Nat.add_sub_cancel, getL s j hj, decide_eq_true (Nat.succ_pos j), Bool.true_and]
     rfl
    clear HU hdB
    have hjI : (j : Int) < s.size := by omega
    obtain ⟨y, hy⟩ : ∃ y, (s[j]'hj).toNat = y := ⟨_, rfl⟩
    rw [hy] at HF y0 y1
    obtain ⟨z, hz⟩ : ∃ z : Nat, (y : Int) - 48 = (z : Int) := ⟨y - 48, by omega⟩
    have hz2 : y - 48 = z := by omega
    rw [hz2] at HF
    clear hz2
    by_cases hp : z % 2 = 1
    ·have hp1 : (z : Int) % 2 = 1 := by omega
     go_enter Tryz.func49, Tryz.ntmps49
     go_wp2
     go_ret
     rw [HF.out]
     refine ⟨?_, rfl⟩
     simp [hp]
    ·have hp1 : (z : Int) % 2 = 0 := by omega
     go_enter Tryz.func49, Tryz.ntmps49
     go_wp2
     go_ret
     rw [HF.out]
     refine ⟨?_, rfl⟩
     simp [hp]
 ·have h5b : (((s[n]'hn).toNat : Int) != 53) = true := by simp; omega
  have HF : Hid (ups s.data.toList n = decide (53 < (s[n]'hn).toNat)) := by show _ = _; rw [HU.out, if_pos h5]
  have h5I : ¬ ((s[n]'hn).toNat : Int) = 53 := by omega
  clear HU hdB
  by_cases h6 : 53 < (s[n]'hn).toNat
  ·have h6I : 53 < ((s[n]'hn).toNat : Int) := by omega
   go_enter Tryz.func49, Tryz.ntmps49
   go_wp2
   go_ret
   rw [HF.out]
   refine ⟨?_, rfl⟩
   simp [h6]
  ·have h6I : ¬ 53 < ((s[n]'hn).toNat : Int) := by omega
   go_enter Tryz.func49, Tryz.ntmps49
   go_wp2
   go_ret
   rw [HF.out]
   refine ⟨?_, rfl⟩
   simp [h6]
theorem one_V (p : Int) (P : Nat) (h : p + 10000 = (P : Int) + 1) : V (⟨#[49]⟩ : ByteArray).data.toList p = 10 ^ P := by
 show num [49] * 10 ^ (p - ((1 : Nat) : Int) + 10000).toNat = 10 ^ P
 rw [show (p - ((1 : Nat) : Int) + 10000).toNat = P by omega, show num [49] = 1 from rfl, Nat.one_mul]
set_option maxRecDepth 1000000 in
set_option maxHeartbeats 800000 in
theorem rounded_any (v : Nat) (n : Int) (w : World) (hl : (oL v).length ≤ 16000) (hp : oP v ≤ 5900) :
  Calls Tryz.prog 23 #[.agg #[.string (oS v), .int .i64 (oP v)], .int .i64 n] w fun e w' => e = .returned (.agg #[.string (oS (rnd v n)), .int .i64 (oP (rnd v n))]) ∧ Below w.heap.size w w' := by
 have hz := oS_size v
 have hlow := o_low v
 by_cases h1 : n < 0
 ·have HR : Hid (rnd v n = 0) := if_pos h1
  generalize oS v = S at *
  generalize oP v = P at *
  go_enter Tryz.func23, Tryz.ntmps23
  go_wp2
  go_returns
  rw [HR.out, zero_S, o_zero.2]
  exact ⟨rfl, by go_grown⟩
 by_cases h2 : ((oL v).length : Int) ≤ n
 ·have HR : Hid (rnd v n = v) := by show _ = _; unfold rnd; rw [if_neg h1, if_pos h2]
  rw [← hz] at h2
  rw [HR.out]
  generalize oS v = S at *
  generalize oP v = P at *
  go_enter Tryz.func23, Tryz.ntmps23
  go_wp2
  go_returns
  exact ⟨rfl, by go_grown⟩
 obtain ⟨k, rfl⟩ : ∃ k : Nat, n = (k : Int) := ⟨n.toNat, by omega⟩
 have hk : k < (oL v).length := by omega
 obtain ⟨Q, hQ⟩ : ∃ Q : Nat, oP v - k + 10000 = (Q : Int) := ⟨(oP v - k + 10000).toNat, by omega⟩
 have hrnd : rnd v k = near v Q := by
  unfold rnd; rw [if_neg h1, if_neg h2, hQ]; rfl
 have hnear := ups_near (o_dec v) k hk Q hQ
 have htk := take_V (o_dec v) k (by omega) Q hQ
 have hTl : ((oS v).extract 0 k).data.toList = (oL v).take k := ext_list (oS v) k
 have hTd : allD ((oS v).extract 0 k).data.toList = true := by
  rw [hTl]; exact allD_of fun x hx => allD_mem (o_dec v).dig (List.mem_of_mem_take hx)
 have hTs : ((oS v).extract 0 k).size = k := ext_size0 (oS v) k (by omega)
 have hU : ∀ w, Calls Tryz.prog 49 #[.string (oS v), .int .i64 k] w fun e w' => e = .returned (.bool (ups (oL v) k)) ∧ w' = w := fun w => roundsup_any (oS v) k w (o_dig v) (by omega) (by omega)
 have hI : ∀ w, Calls Tryz.prog 44 #[.agg #[.string ((oS v).extract 0 k), .int .i64 (oP v)]] w fun e w' => e = .returned (.agg #[.string (oS (v / 10 ^ Q * 10 ^ Q)), .int .i64 (oP (v / 10 ^ Q * 10 ^ Q))]) ∧ Below w.heap.size w w' := fun w => by
  have := inform_any ((oS v).extract 0 k) (oP v) w hTd (by omega) (by omega) (by omega)
  rw [hTl, htk] at this
  exact this
 have hP : PlusC ((oS v).extract 0 k) (oP v) ⟨#[49]⟩ (oP v - k + 1) (oS (v / 10 ^ Q * 10 ^ Q + 10 ^ Q)) (oP (v / 10 ^ Q * 10 ^ Q + 10 ^ Q)) := fun w => by
  have := plus_any ((oS v).extract 0 k) ⟨#[49]⟩ (oP v) (oP v - k + 1) w hTd rfl (by omega) (by decide) (by omega) (by show -10000 ≤ oP v - k + 1 - ((1 : Nat) : Int); omega) (by omega) (by omega)
  rw [hTl, htk, one_V (oP v - k + 1) Q (by omega)] at this
  exact this
 have hkI : ¬ (oS v).size ≤ k := by omega
 have hk0 : k < (oS v).size := by omega
 have hkl : k ≤ 16000 := by omega
 have hp1 : -16000 ≤ oP v := by omega
 have h2' : ¬ ((oS v).size : Int) ≤ (k : Int) := by omega
 rw [hrnd, hnear]
 clear hrnd hnear htk hTl hTd hTs hQ hlow hz h2 h1 hk hl
 cases hu : ups (oL v) k with
 | false =>
   rw [hu] at hU
   clear hu hP
   rw [if_neg (by simp)]
   generalize v / 10 ^ Q * 10 ^ Q = r at *
   generalize hT : (oS v).extract 0 k = T at *
   generalize oS v = S at *
   generalize oP v = P at *
   generalize oS r = S2 at *
   generalize oP r = P2 at *
   go_enter Tryz.func23, Tryz.ntmps23
   go_wp2
   go_region
   go_wp2_with (first | (go_at_call 49; refine (hU _).mono ?_; rintro e w4 ⟨rfl, rfl⟩) | (go_at_call 44; refine (hI _).mono ?_; rintro e w5 ⟨rfl, hb5⟩; obtain ⟨r0, r1, r2, r3⟩ := keepb hb5 (B := w.heap.size + 1) (x := .string ⟨#[]⟩) (y := .int .i64 0) (by simp [BoxDe, go_sem])))
   refine bodyPost_ret (by simp [results, Tryz.results23, go_sem, cs_same, r0, r1]; rfl) rfl ?_
   refine ⟨rfl, ?_⟩
   have h0 := bel_call (B := w.heap.size) (w := w) (by go_grown) hb5 (Nat.le_refl _)
   iterate 2 (refine Below.setCell ?_ (by dsimp only; omega) _)
   exact h0
 | true =>
   rw [hu] at hU
   clear hu hI
   rw [if_pos rfl]
   generalize v / 10 ^ Q * 10 ^ Q + 10 ^ Q = r at *
   generalize hT : (oS v).extract 0 k = T at *
   generalize oS v = S at *
   generalize oP v = P at *
   generalize oS r = S2 at *
   generalize oP r = P2 at *
   go_enter Tryz.func23, Tryz.ntmps23
   go_wp2
   go_region
   go_wp2_with (first | (go_at_call 49; refine (hU _).mono ?_; rintro e w4 ⟨rfl, rfl⟩) | (go_at_call 33; refine (hP _).mono ?_; rintro e w5 ⟨rfl, hb5⟩; obtain ⟨r0, r1, r2, r3⟩ := keepb hb5 (B := w.heap.size + 1) (x := .string ⟨#[]⟩) (y := .int .i64 0) (by simp [BoxDe, go_sem])))
   refine bodyPost_ret (by simp [results, Tryz.results23, go_sem, cs_same, r0, r1]; rfl) rfl ?_
   refine ⟨rfl, ?_⟩
   have h0 := bel_call (B := w.heap.size) (w := w) (by go_grown) hb5 (Nat.le_refl _)
   iterate 2 (refine Below.setCell ?_ (by dsimp only; omega) _)
   exact h0
end Go.Proofs.YtiagjheifblkiaaGreatDoor
namespace Go.Proofs.YtiagjheifblkiaaGreatDoor
open Go.RowKit
set_option linter.unusedVariables false
def RoundedC (S : ByteArray) (P n : Int) (S2 : ByteArray) (P2 : Int) : Prop := ∀ w, Calls Tryz.prog 23 #[.agg #[.string S, .int .i64 P], .int .i64 n] w fun e w' => e = .returned (.agg #[.string S2, .int .i64 P2]) ∧ Below w.heap.size w w'
set_option maxRecDepth 1000000 in
set_option maxHeartbeats 800000 in
theorem round_err {s S : ByteArray} {p P E : Int} (n : Int) (hN : NormC s p S P E) (hE : ¬ E = 0) (w : World) :
  Calls Tryz.prog 11 #[.agg #[.string s, .int .i64 p], .int .i64 n] w fun e w' => e = .returned (.tuple #[.agg #[.string ⟨#[]⟩, .int .i64 0], .int .i64 E]) ∧ Below w.heap.size w w' := by
 have hEb : (E != 0) = true := by simp [hE]
 go_enter Tryz.func11, Tryz.ntmps11
 go_wp2_with (go_at_call 20; refine (hN _).mono ?_; rintro e w2 ⟨rfl, hb2⟩; obtain ⟨a0, a1, a2, a3⟩ := keepb hb2 (B := w.heap.size) (x := .string s) (y := .int .i64 p) (by simp [BoxDe, go_sem]); obtain ⟨r0, r1, r2, r3⟩ := keepb hb2 (B := w.heap.size + 1) (x := .string ⟨#[]⟩) (y := .int .i64 0) (by simp [BoxDe, go_sem]))
 refine bodyPost_ret (by simp [results, Tryz.results11, go_sem, cs_same, r0, r1]; rfl) rfl ?_
 refine ⟨rfl, ?_⟩
 have h0 := bel_call (B := w.heap.size) (w := w) (by go_grown) hb2 (Nat.le_refl _)
 iterate 4 (refine Below.setCell ?_ (by dsimp only; omega) _)
 exact h0
set_option maxRecDepth 1000000 in
set_option maxHeartbeats 800000 in
theorem round_ok {s S S2 : ByteArray} {p P n P2 : Int} (hN : NormC s p S P 0) (hR : RoundedC S P n S2 P2) (w : World) :
  Calls Tryz.prog 11 #[.agg #[.string s, .int .i64 p], .int .i64 n] w fun e w' => e = .returned (.tuple #[.agg #[.string S2, .int .i64 P2], .int .i64 0]) ∧ Below w.heap.size w w' := by
 go_enter Tryz.func11, Tryz.ntmps11
 go_wp2_with (first
  | (go_at_call 20; refine (hN _).mono ?_; rintro e w2 ⟨rfl, hb2⟩; have bA := keepb hb2 (B := w.heap.size) (x := .string s) (y := .int .i64 p) (by simp [BoxDe, go_sem]); have bR := keepb hb2 (B := w.heap.size + 1) (x := .string ⟨#[]⟩) (y := .int .i64 0) (by simp [BoxDe, go_sem]); obtain ⟨a0, a1, a2, a3⟩ := id bA; obtain ⟨y0, y1⟩ := bA.reads)
  | (go_at_call 23; refine (hR _).mono ?_; rintro e w3 ⟨rfl, hb3⟩; obtain ⟨r0, r1, r2, r3⟩ := keepb hb3 (bR.past (C := w.heap.size) (by omega) (.string S) (.int .i64 P))))
 refine bodyPost_ret (by simp [results, Tryz.results11, go_sem, cs_same, r0, r1]; rfl) rfl ?_
 refine ⟨rfl, ?_⟩
 have h0 := bel_call (B := w.heap.size) (w := w) (by go_grown) hb2 (Nat.le_refl _)
 have h1 := (h0.setCell (p := ⟨w.heap.size, 0, none⟩) (Nat.le_refl _) (.string S)).setCell (p := ⟨w.heap.size, 1, none⟩) (Nat.le_refl _) (.int .i64 P)
 have h2 := bel_call h1 hb3 (Nat.le_refl _)
 iterate 2 (refine Below.setCell ?_ (by dsimp only; omega) _)
 exact h2
theorem round_any (s : ByteArray) (p n : Int) (w : World) (hs : s.size ≤ 9223372036854775807) :
  Calls Tryz.prog 11 #[.agg #[.string s, .int .i64 p], .int .i64 n] w fun e w' => e = .returned (.tuple #[.agg #[.string (oS (bV (normE s p) (rnd (normV s p) n))), .int .i64 (oP (bV (normE s p) (rnd (normV s p) n)))], .int .i64 (normE s p)]) ∧ Below w.heap.size w w' := by
 have hN := normC s p hs
 have nn := nrm_norm s p
 by_cases hE : normE s p = 0
 ·rw [hE] at hN ⊢
  have e : bV 0 (rnd (normV s p) n) = rnd (normV s p) n := if_pos rfl
  rw [e]
  exact round_ok hN (fun w => rounded_any (normV s p) n w (by have := nn.len; omega) (by have := nn.pt; omega)) w
 ·have e : bV (normE s p) (rnd (normV s p) n) = 0 := if_neg hE
  rw [e, zero_S, o_zero.2]
  exact round_err n hN hE w
set_option maxRecDepth 1000000 in
set_option maxHeartbeats 800000 in
theorem places_err {s S : ByteArray} {p P E : Int} (k : Int) (hN : NormC s p S P E) (hE : ¬ E = 0) (w : World) :
  Calls Tryz.prog 12 #[.agg #[.string s, .int .i64 p], .int .i64 k] w fun e w' => e = .returned (.tuple #[.agg #[.string ⟨#[]⟩, .int .i64 0], .int .i64 E]) ∧ Below w.heap.size w w' := by
 have hEb : (E != 0) = true := by simp [hE]
 go_enter Tryz.func12, Tryz.ntmps12
 go_wp2_with (go_at_call 20; refine (hN _).mono ?_; rintro e w2 ⟨rfl, hb2⟩; obtain ⟨a0, a1, a2, a3⟩ := keepb hb2 (B := w.heap.size) (x := .string s) (y := .int .i64 p) (by simp [BoxDe, go_sem]); obtain ⟨r0, r1, r2, r3⟩ := keepb hb2 (B := w.heap.size + 1) (x := .string ⟨#[]⟩) (y := .int .i64 0) (by simp [BoxDe, go_sem]))
 refine bodyPost_ret (by simp [results, Tryz.results12, go_sem, cs_same, r0, r1]; rfl) rfl ?_
 refine ⟨rfl, ?_⟩
 have h0 := bel_call (B := w.heap.size) (w := w) (by go_grown) hb2 (Nat.le_refl _)
 iterate 4 (refine Below.setCell ?_ (by dsimp only; omega) _)
 exact h0
set_option maxRecDepth 1000000 in
set_option maxHeartbeats 800000 in
theorem places_ok {s S S2 : ByteArray} {p P k c P2 : Int} (hN : NormC s p S P 0) (hc : min (max k (-14000)) 14000 = c) (hR : RoundedC S P (P + c) S2 P2) (hP : P ≤ 100000) (hP0 : -100000 ≤ P) (hc0 : -14000 ≤ c) (hc1 : c ≤ 14000) (w : World) :
  Calls Tryz.prog 12 #[.agg #[.string s, .int .i64 p], .int .i64 k] w fun e w' => e = .returned (.tuple #[.agg #[.string S2, .int .i64 P2], .int .i64 0]) ∧ Below w.heap.size w w' := by
 go_enter Tryz.func12, Tryz.ntmps12
 go_wp2_with (first
  | (go_at_call 20; refine (hN _).mono ?_; rintro e w2 ⟨rfl, hb2⟩; have bA := keepb hb2 (B := w.heap.size) (x := .string s) (y := .int .i64 p) (by simp [BoxDe, go_sem]); have bR := keepb hb2 (B := w.heap.size + 1) (x := .string ⟨#[]⟩) (y := .int .i64 0) (by simp [BoxDe, go_sem]); obtain ⟨a0, a1, a2, a3⟩ := id bA; obtain ⟨y0, y1⟩ := bA.reads)
  | (go_at_call 23; refine (hR _).mono ?_; rintro e w3 ⟨rfl, hb3⟩; obtain ⟨r0, r1, r2, r3⟩ := keepb hb3 (bR.past (C := w.heap.size) (by omega) (.string S) (.int .i64 P))))
 refine bodyPost_ret (by simp [results, Tryz.results12, go_sem, cs_same, r0, r1]; rfl) rfl ?_
 refine ⟨rfl, ?_⟩
 have h0 := bel_call (B := w.heap.size) (w := w) (by go_grown) hb2 (Nat.le_refl _)
 have h1 := (h0.setCell (p := ⟨w.heap.size, 0, none⟩) (Nat.le_refl _) (.string S)).setCell (p := ⟨w.heap.size, 1, none⟩) (Nat.le_refl _) (.int .i64 P)
 have h2 := bel_call h1 hb3 (Nat.le_refl _)
 iterate 2 (refine Below.setCell ?_ (by dsimp only; omega) _)
 exact h2
theorem places_any (s : ByteArray) (p k : Int) (w : World) (hs : s.size ≤ 9223372036854775807) :
  Calls Tryz.prog 12 #[.agg #[.string s, .int .i64 p], .int .i64 k] w fun e w' => e = .returned (.tuple #[.agg #[.string (oS (bV (normE s p) (plc (normV s p) k))), .int .i64 (oP (bV (normE s p) (plc (normV s p) k)))], .int .i64 (normE s p)]) ∧ Below w.heap.size w w' := by
 have hN := normC s p hs
 have nn := nrm_norm s p
 have hlow := nn.low
 have hpt := nn.pt
 have hlen := nn.len
 by_cases hE : normE s p = 0
 ·rw [hE] at hN ⊢
  have e : bV 0 (plc (normV s p) k) = plc (normV s p) k := if_pos rfl
  rw [e]
  exact places_ok hN rfl (fun w => rounded_any (normV s p) _ w (by omega) (by omega)) (by omega) (by omega) (by omega) (by omega) w
 ·have e : bV (normE s p) (plc (normV s p) k) = 0 := if_neg hE
  rw [e, zero_S, o_zero.2]
  exact places_err k hN hE w
set_option maxRecDepth 1000000 in
set_option maxHeartbeats 800000 in
theorem exact_no (m : Nat) (e : Int) (w : World) (he : e < -1200 ∨ 1200 < e) :
  Calls Tryz.prog 18 #[.int .u64 m, .int .i64 e] w fun e w' => e = .returned (.tuple #[.agg #[.string ⟨#[]⟩, .int .i64 0], .int .i64 1]) ∧ Below w.heap.size w w' := by
 rcases he with h | h
 ·go_enter Tryz.func18, Tryz.ntmps18
  go_wp2
  go_returns
  exact ⟨rfl, by go_grown⟩
 ·have h' : ¬ e < -1200 := by omega
  go_enter Tryz.func18, Tryz.ntmps18
  go_wp2
  go_returns
  exact ⟨rfl, by go_grown⟩
theorem keepb2 {W w2 : World} {B0 : Nat} (hb : Below B0 W w2) {B : Nat} {x y : Value} (hB : B < B0) (h : BoxDe W B x y) : BoxDe w2 B x y :=
 ⟨(hb.cell (p := ⟨B, 0, none⟩) hB).trans h.1, (hb.cell (p := ⟨B, 1, none⟩) hB).trans h.2.1, (hb.frozen (p := ⟨B, 0, none⟩) hB).trans h.2.2.1, (hb.frozen (p := ⟨B, 1, none⟩) hB).trans h.2.2.2⟩
theorem whole_v {B : Nat} {ao : Option Addr} {n c : Nat} {xs : List Nat} {last : Int} (w : World) (h : Lm w B ao n c xs) (hn : n ≤ 10000) (hl0 : -10000 ≤ last) (hl1 : last ≤ 6000) {v : Nat} (hv : lv xs * 10 ^ (last + 10000).toNat = v) :
  Calls Tryz.prog 38 #[.slice ao n c, .int .i64 last] w fun e w' => e = .returned (.agg #[.string (oS v), .int .i64 (oP v)]) ∧ Below w.heap.size w w' := by
 rw [← hv]; exact whole_any B ao n c xs last w h hn hl0 hl1
set_option maxRecDepth 1000000 in
set_option maxHeartbeats 800000 in
theorem exact_up (m e : Nat) (w : World) (hm : m < 18446744073709551616) (he : e ≤ 1200) :
  Calls Tryz.prog 18 #[.int .u64 m, .int .i64 e] w fun x w' => x = .returned (.tuple #[.agg #[.string (oS (exU m e)), .int .i64 (oP (exU m e))], .int .i64 0]) ∧ Below w.heap.size w w' := by
 have HV : Hid (∀ xs ys, lv xs = m → lv ys = lv xs * 2 ^ e → lv ys * 10 ^ ((0 : Int) + 10000).toNat = exU m e) := fun xs ys h1 h2 => by
  unfold exU
  rw [if_pos (by omega), h2, h1, Int.toNat_natCast]
 generalize exU m e = v at *
 generalize hS : oS v = S at *
 generalize hP : oP v = P at *
 have hW : ∀ {B : Nat} {ao : Option Addr} {n c : Nat} {xs : List Nat} (w : World), Lm w B ao n c xs → n ≤ 10000 → lv xs * 10 ^ ((0 : Int) + 10000).toNat = v → Calls Tryz.prog 38 #[.slice ao n c, .int .i64 0] w fun e w' => e = .returned (.agg #[.string S, .int .i64 P]) ∧ Below w.heap.size w w' := fun w h hn hv => by
  have := whole_v w h hn (by omega) (by omega) hv
  rw [hS, hP] at this; exact this
 clear hS hP
 go_enter Tryz.func18, Tryz.ntmps18
 go_wp2_with (first
  | (go_at_call 37; refine (limbsof_any m _ hm).mono ?_; rintro x w2 ⟨⟨ao, n, c, rfl, hn, xs, hL, hv⟩, hb2⟩; have bR := keepb hb2 (B := w.heap.size) (x := .string ⟨#[]⟩) (y := .int .i64 0) (by simp [BoxDe, go_sem]))
  | (go_at_call 39; refine (multiplied_2 _ ao n c e xs _ hL hb2.size (by omega) he).mono ?_; rintro x w3 ⟨⟨ao2, n2, c2, rfl, hn2, ys, hL2, hv2⟩, hb3⟩; have bR2 := keepb2 hb3 (by simp) bR; have HW := HV.out xs ys hv hv2)
  | (go_at_call 38; refine (hW _ hL2 (by omega) HW).mono ?_; rintro x w4 ⟨rfl, hb4⟩; obtain ⟨r0, r1, r2, r3⟩ := keepb hb4 bR2))
 refine bodyPost_ret (by simp [results, Tryz.results18, go_sem, cs_same, r0, r1]; rfl) rfl ?_
 refine ⟨rfl, ?_⟩
 have h0 := bel_call (B := w.heap.size) (w := w) (by go_grown) hb2 (Nat.le_refl _)
 have h1 := h0.trans (hb3.mono (by simp))
 have h2 := bel_call h1 hb4 (Nat.le_refl _)
 iterate 2 (refine Below.setCell ?_ (by dsimp only; omega) _)
 exact h2
set_option maxRecDepth 1000000 in
set_option maxHeartbeats 800000 in
theorem exact_down (m k : Nat) (w : World) (hm : m < 18446744073709551616) (hk0 : 0 < k) (hk : k ≤ 1200) :
  Calls Tryz.prog 18 #[.int .u64 m, .int .i64 (-(k : Int))] w fun x w' => x = .returned (.tuple #[.agg #[.string (oS (exU m (-(k : Int)))), .int .i64 (oP (exU m (-(k : Int))))], .int .i64 0]) ∧ Below w.heap.size w w' := by
 have HV : Hid (∀ xs ys, lv xs = m → lv ys = lv xs * 5 ^ k → lv ys * 10 ^ (-(k : Int) + 10000).toNat = exU m (-(k : Int))) := fun xs ys h1 h2 => by
  unfold exU
  rw [if_neg (by omega), h2, h1, Int.neg_neg, Int.toNat_natCast]
 generalize exU m (-(k : Int)) = v at *
 generalize hS : oS v = S at *
 generalize hP : oP v = P at *
 have hW : ∀ {B : Nat} {ao : Option Addr} {n c : Nat} {xs : List Nat} (w : World), Lm w B ao n c xs → n ≤ 10000 → lv xs * 10 ^ (-(k : Int) + 10000).toNat = v → Calls Tryz.prog 38 #[.slice ao n c, .int .i64 (-(k : Int))] w fun e w' => e = .returned (.agg #[.string S, .int .i64 P]) ∧ Below w.heap.size w w' := fun w h hn hv => by
  have := whole_v w h hn (by omega) (by omega) hv
  rw [hS, hP] at this; exact this
 clear hS hP
 have hkI : ¬ 0 ≤ -(k : Int) := by omega
 have hk1 : 0 < (k : Int) := by omega
 go_enter Tryz.func18, Tryz.ntmps18
 go_wp2_with (first
  | (go_at_call 37; refine (limbsof_any m _ hm).mono ?_; rintro x w2 ⟨⟨ao, n, c, rfl, hn, xs, hL, hv⟩, hb2⟩; have bR := keepb hb2 (B := w.heap.size) (x := .string ⟨#[]⟩) (y := .int .i64 0) (by simp [BoxDe, go_sem]))
  | (go_at_call 39; refine (multiplied_5 _ ao n c k xs _ hL hb2.size (by omega) hk).mono ?_; rintro x w3 ⟨⟨ao2, n2, c2, rfl, hn2, ys, hL2, hv2⟩, hb3⟩; have bR2 := keepb2 hb3 (by simp) bR; have HW := HV.out xs ys hv hv2)
  | (go_at_call 38; refine (hW _ hL2 (by omega) HW).mono ?_; rintro x w4 ⟨rfl, hb4⟩; obtain ⟨r0, r1, r2, r3⟩ := keepb hb4 bR2))
 refine bodyPost_ret (by simp [results, Tryz.results18, go_sem, cs_same, r0, r1]; rfl) rfl ?_
 refine ⟨rfl, ?_⟩
 have h0 := bel_call (B := w.heap.size) (w := w) (by go_grown) hb2 (Nat.le_refl _)
 have h1 := h0.trans (hb3.mono (by simp))
 have h2 := bel_call h1 hb4 (Nat.le_refl _)
 iterate 2 (refine Below.setCell ?_ (by dsimp only; omega) _)
 exact h2
def xE (e : Int) : Int := if e < -1200 ∨ 1200 < e then 1 else 0
def xV (m : Nat) (e : Int) : Nat := if xE e = 0 then exU m e else 0
theorem exact_any (m : Nat) (e : Int) (w : World) (hm : m < 18446744073709551616) :
  Calls Tryz.prog 18 #[.int .u64 m, .int .i64 e] w fun x w' => x = .returned (.tuple #[.agg #[.string (oS (xV m e)), .int .i64 (oP (xV m e))], .int .i64 (xE e)]) ∧ Below w.heap.size w w' := by
 by_cases he : e < -1200 ∨ 1200 < e
 ·have e1 : xE e = 1 := if_pos he
  have e2 : xV m e = 0 := by unfold xV; rw [e1]; rfl
  rw [e1, e2, zero_S, o_zero.2]
  exact exact_no m e w he
 ·have e1 : xE e = 0 := if_neg he
  have e2 : xV m e = exU m e := by unfold xV; rw [if_pos e1]
  rw [e1, e2]
  by_cases h0 : 0 ≤ e
  ·obtain ⟨k, rfl⟩ : ∃ k : Nat, e = (k : Int) := ⟨e.toNat, by omega⟩
   exact exact_up m k w hm (by omega)
  ·obtain ⟨k, rfl⟩ : ∃ k : Nat, e = -(k : Int) := ⟨(-e).toNat, by omega⟩
   exact exact_down m k w hm (by omega) (by omega)
end Go.Proofs.YtiagjheifblkiaaGreatDoor
namespace Go.Proofs.YtiagjheifblkiaaGreatDoor
open Go.RowKit
set_option linter.unusedVariables false
theorem wfu64 (n : Int) (h : (Lit.int .u64 n).wf = true) : 0 ≤ n ∧ n < 18446744073709551616 := by
 have e1 : IntKind.u64.min = 0 := by decide
 have e2 : IntKind.u64.max = 18446744073709551615 := by decide
 simp [Lit.wf] at h
 omega
theorem V_mk {l : List UInt8} {p : Int} {n k : Nat} (h1 : num l = n) (h2 : (p - l.length + 10000).toNat = k) : V l p = n * 10 ^ k := by unfold V; rw [h1, h2]
end Go.Proofs.YtiagjheifblkiaaGreatDoor
