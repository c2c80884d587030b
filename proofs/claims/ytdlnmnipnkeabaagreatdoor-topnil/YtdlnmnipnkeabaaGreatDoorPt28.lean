/- BTopC, BTopD, Lives4, BLaw, FText: these texts in one. -/
import Derived.Test.YtdlnmnipnkeabaaGreatDoorPt27
import Derived.Test.YtdlnmnipnkeabaaGreatDoorPt3
import Derived.Lib.Join
import Derived.Lib.BitFns
namespace Go.Proofs.YtdlnmnipnkeabaaGreatDoor
open Go.RowKit
set_option linter.unusedVariables false
theorem getL (s : ByteArray) (i : Nat) (h : i < s.size) : s.data.toList.getD i 0 = s[i]'h := by
 have hl : i < s.data.toList.length := by rw [list_len]; exact h
 rw [List.getD_eq_getElem?_getD, List.getElem?_eq_getElem hl, Option.getD_some]; rfl
set_option maxRecDepth 1000000 in
set_option maxHeartbeats 800000 in
theorem roundsup_any (s : ByteArray) (n : Nat) (w : World) (hdB : allD s.data.toList = true) (hn : n < s.size) (hs : s.size ≤ 1000000) :
  Calls Tryz.prog 308 #[.string s, .int .i64 n] w fun e w' => e = .returned (.bool (ups s.data.toList n)) ∧ w' = w := by
 obtain ⟨x0, x1⟩ := allD_at s hdB n hn
 have HU : Hid (ups s.data.toList n = if (s[n]'hn).toNat ≠ 53 then decide (53 < (s[n]'hn).toNat) else if n + 1 < s.size then true else decide (0 < n) && decide (dgD (s.data.toList.getD (n - 1) 0) % 2 = 1)) := by
  show _ = _
  have hiff : (s[n]'hn = 53) = ((s[n]'hn).toNat = 53) := propext ⟨fun e => by rw [e]; rfl, fun e => UInt8.toNat_inj.1 (by rw [e]; rfl)⟩
  unfold ups
  rw [getL s n hn, list_len]
  simp only [ne_eq, hiff]
 have hnI : (n : Int) < s.size := by omega
 by_cases h5 : (s[n]'hn).toNat = 53
 ·have h5I : ((s[n]'hn).toNat : Int) = 53 := by omega
  have h5b : (((s[n]'hn).toNat : Int) != 53) = false := by simp [h5]
  by_cases h6 : n + 1 < s.size
  ·have h6I : (n : Int) + 1 < s.size := by omega
   have HF : Hid (ups s.data.toList n = true) := by show _ = _; rw [HU.out, if_neg (by simp [h5]), if_pos h6]
   clear HU
   go_enter Tryz.func308, Tryz.ntmps308
   go_wp2
   go_ret
   rw [HF.out]
   exact ⟨rfl, rfl⟩
  ·have h6I : ¬ (n : Int) + 1 < s.size := by omega
   rcases Nat.eq_zero_or_pos n with h0 | h0
   ·subst h0
    have HF : Hid (ups s.data.toList 0 = false) := by show _ = _; rw [HU.out, if_neg (by simp [h5]), if_neg h6]; rfl
    clear HU
    go_enter Tryz.func308, Tryz.ntmps308
    go_wp2
    go_ret
    rw [HF.out]
    exact ⟨rfl, rfl⟩
   ·obtain ⟨j, rfl⟩ : ∃ j, n = j + 1 := ⟨n - 1, by omega⟩
    have hj : j < s.size := by omega
    obtain ⟨y0, y1⟩ := allD_at s hdB j hj
    have HF : Hid (ups s.data.toList (j + 1) = decide (((s[j]'hj).toNat - 48) % 2 = 1)) := by
     show _ = _
     rw [HU.out, if_neg (by simp [h5]), if_neg h6, Nat.add_sub_cancel, getL s j hj, decide_eq_true (Nat.succ_pos j), Bool.true_and]
     rfl
    clear HU hdB
    have hjI : (j : Int) < s.size := by omega
    obtain ⟨y, hy⟩ : ∃ y, (s[j]'hj).toNat = y := ⟨_, rfl⟩
    rw [hy] at HF y0 y1
    obtain ⟨z, hz⟩ : ∃ z : Nat, (y : Int) - 48 = (z : Int) := ⟨y - 48, by omega⟩
    have hz2 : y - 48 = z := by omega
    rw [hz2] at HF
    clear hz2
    by_cases hp : z % 2 = 1
    ·have hp1 : (z : Int) % 2 = 1 := by omega
     go_enter Tryz.func308, Tryz.ntmps308
     go_wp2
     go_ret
     rw [HF.out]
     refine ⟨?_, rfl⟩
     simp [hp]
    ·have hp1 : (z : Int) % 2 = 0 := by omega
     go_enter Tryz.func308, Tryz.ntmps308
     go_wp2
     go_ret
     rw [HF.out]
     refine ⟨?_, rfl⟩
     simp [hp]
 ·have h5b : (((s[n]'hn).toNat : Int) != 53) = true := by simp; omega
  have HF : Hid (ups s.data.toList n = decide (53 < (s[n]'hn).toNat)) := by show _ = _; rw [HU.out, if_pos h5]
  have h5I : ¬ ((s[n]'hn).toNat : Int) = 53 := by omega
  clear HU hdB
  by_cases h6 : 53 < (s[n]'hn).toNat
  ·have h6I : 53 < ((s[n]'hn).toNat : Int) := by omega
   go_enter Tryz.func308, Tryz.ntmps308
   go_wp2
   go_ret
   rw [HF.out]
   refine ⟨?_, rfl⟩
   simp [h6]
  ·have h6I : ¬ 53 < ((s[n]'hn).toNat : Int) := by omega
   go_enter Tryz.func308, Tryz.ntmps308
   go_wp2
   go_ret
   rw [HF.out]
   refine ⟨?_, rfl⟩
   simp [h6]
theorem one_V (p : Int) (P : Nat) (h : p + 10000 = (P : Int) + 1) : V (⟨#[49]⟩ : ByteArray).data.toList p = 10 ^ P := by
 show num [49] * 10 ^ (p - ((1 : Nat) : Int) + 10000).toNat = 10 ^ P
 rw [show (p - ((1 : Nat) : Int) + 10000).toNat = P by omega, show num [49] = 1 from rfl, Nat.one_mul]
set_option maxRecDepth 1000000 in
set_option maxHeartbeats 800000 in
theorem rounded_any (v : Nat) (n : Int) (w : World) (hl : (oL v).length ≤ 16000) (hp : oP v ≤ 5900) :
  Calls Tryz.prog 298 #[.agg #[.string (oS v), .int .i64 (oP v)], .int .i64 n] w fun e w' => e = .returned (.agg #[.string (oS (rnd v n)), .int .i64 (oP (rnd v n))]) ∧ Below w.heap.size w w' := by
 have hz := oS_size v
 have hlow := o_low v
 by_cases h1 : n < 0
 ·have HR : Hid (rnd v n = 0) := if_pos h1
  generalize oS v = S at *
  generalize oP v = P at *
  go_enter Tryz.func298, Tryz.ntmps298
  go_wp2
  go_returns
  rw [HR.out, zero_S, o_zero.2]
  exact ⟨rfl, by go_grown⟩
 by_cases h2 : ((oL v).length : Int) ≤ n
 ·have HR : Hid (rnd v n = v) := by show _ = _; unfold rnd; rw [if_neg h1, if_pos h2]
  rw [← hz] at h2
  rw [HR.out]
  generalize oS v = S at *
  generalize oP v = P at *
  go_enter Tryz.func298, Tryz.ntmps298
  go_wp2
  go_returns
  exact ⟨rfl, by go_grown⟩
 obtain ⟨k, rfl⟩ : ∃ k : Nat, n = (k : Int) := ⟨n.toNat, by omega⟩
 have hk : k < (oL v).length := by omega
 obtain ⟨Q, hQ⟩ : ∃ Q : Nat, oP v - k + 10000 = (Q : Int) := ⟨(oP v - k + 10000).toNat, by omega⟩
 have hrnd : rnd v k = near v Q := by
  unfold rnd; rw [if_neg h1, if_neg h2, hQ]; rfl
 have hnear := ups_near (o_dec v) k hk Q hQ
 have htk := take_V (o_dec v) k (by omega) Q hQ
 have hTl : ((oS v).extract 0 k).data.toList = (oL v).take k := ext_list (oS v) k
 have hTd : allD ((oS v).extract 0 k).data.toList = true := by
  rw [hTl]; exact allD_of fun x hx => allD_mem (o_dec v).dig (List.mem_of_mem_take hx)
 have hTs : ((oS v).extract 0 k).size = k := ext_size0 (oS v) k (by omega)
 have hU : ∀ w, Calls Tryz.prog 308 #[.string (oS v), .int .i64 k] w fun e w' => e = .returned (.bool (ups (oL v) k)) ∧ w' = w := fun w => roundsup_any (oS v) k w (o_dig v) (by omega) (by omega)
 have hI : ∀ w, Calls Tryz.prog 307 #[.agg #[.string ((oS v).extract 0 k), .int .i64 (oP v)]] w fun e w' => e = .returned (.agg #[.string (oS (v / 10 ^ Q * 10 ^ Q)), .int .i64 (oP (v / 10 ^ Q * 10 ^ Q))]) ∧ Below w.heap.size w w' := fun w => by
  have := inform_any ((oS v).extract 0 k) (oP v) w hTd (by omega) (by omega) (by omega)
  rw [hTl, htk] at this
  exact this
 have hP : PlusC ((oS v).extract 0 k) (oP v) ⟨#[49]⟩ (oP v - k + 1) (oS (v / 10 ^ Q * 10 ^ Q + 10 ^ Q)) (oP (v / 10 ^ Q * 10 ^ Q + 10 ^ Q)) := fun w => by
  have := plus_any ((oS v).extract 0 k) ⟨#[49]⟩ (oP v) (oP v - k + 1) w hTd rfl (by omega) (by decide) (by omega) (by show -10000 ≤ oP v - k + 1 - ((1 : Nat) : Int); omega) (by omega) (by omega)
  rw [hTl, htk, one_V (oP v - k + 1) Q (by omega)] at this
  exact this
 have hkI : ¬ (oS v).size ≤ k := by omega
 have hk0 : k < (oS v).size := by omega
 have hkl : k ≤ 16000 := by omega
 have hp1 : -16000 ≤ oP v := by omega
 have h2' : ¬ ((oS v).size : Int) ≤ (k : Int) := by omega
 rw [hrnd, hnear]
 clear hrnd hnear htk hTl hTd hTs hQ hlow hz h2 h1 hk hl
 cases hu : ups (oL v) k with
 | false =>
   rw [hu] at hU
   clear hu hP
   rw [if_neg (by simp)]
   generalize v / 10 ^ Q * 10 ^ Q = r at *
   generalize hT : (oS v).extract 0 k = T at *
   generalize oS v = S at *
   generalize oP v = P at *
   generalize oS r = S2 at *
   generalize oP r = P2 at *
   go_enter Tryz.func298, Tryz.ntmps298
   go_wp2
   go_region
   go_wp2_with (first | (go_at_call 308; refine (hU _).mono ?_; rintro e w4 ⟨rfl, rfl⟩) | (go_at_call 307; refine (hI _).mono ?_; rintro e w5 ⟨rfl, hb5⟩; obtain ⟨r0, r1, r2, r3⟩ := keepb hb5 (B := w.heap.size + 1) (x := .string ⟨#[]⟩) (y := .int .i64 0) (by simp [BoxDe, go_sem])))
   refine bodyPost_ret (by simp [results, Tryz.results298, go_sem, cs_same, r0, r1]; rfl) rfl ?_
   refine ⟨rfl, ?_⟩
   have h0 := bel_call (B := w.heap.size) (w := w) (by go_grown) hb5 (Nat.le_refl _)
   iterate 2 (refine Below.setCell ?_ (by dsimp only; omega) _)
   exact h0
 | true =>
   rw [hu] at hU
   clear hu hI
   rw [if_pos rfl]
   generalize v / 10 ^ Q * 10 ^ Q + 10 ^ Q = r at *
   generalize hT : (oS v).extract 0 k = T at *
   generalize oS v = S at *
   generalize oP v = P at *
   generalize oS r = S2 at *
   generalize oP r = P2 at *
   go_enter Tryz.func298, Tryz.ntmps298
   go_wp2
   go_region
   go_wp2_with (first | (go_at_call 308; refine (hU _).mono ?_; rintro e w4 ⟨rfl, rfl⟩) | (go_at_call 309; refine (hP _).mono ?_; rintro e w5 ⟨rfl, hb5⟩; obtain ⟨r0, r1, r2, r3⟩ := keepb hb5 (B := w.heap.size + 1) (x := .string ⟨#[]⟩) (y := .int .i64 0) (by simp [BoxDe, go_sem])))
   refine bodyPost_ret (by simp [results, Tryz.results298, go_sem, cs_same, r0, r1]; rfl) rfl ?_
   refine ⟨rfl, ?_⟩
   have h0 := bel_call (B := w.heap.size) (w := w) (by go_grown) hb5 (Nat.le_refl _)
   iterate 2 (refine Below.setCell ?_ (by dsimp only; omega) _)
   exact h0
end Go.Proofs.YtdlnmnipnkeabaaGreatDoor
namespace Go.Proofs.YtdlnmnipnkeabaaGreatDoor
open Go.RowKit
set_option linter.unusedVariables false
def RoundedC (S : ByteArray) (P n : Int) (S2 : ByteArray) (P2 : Int) : Prop := ∀ w, Calls Tryz.prog 298 #[.agg #[.string S, .int .i64 P], .int .i64 n] w fun e w' => e = .returned (.agg #[.string S2, .int .i64 P2]) ∧ Below w.heap.size w w'
set_option maxRecDepth 1000000 in
set_option maxHeartbeats 800000 in
theorem places_err {s S : ByteArray} {p P E : Int} (k : Int) (hN : NormC s p S P E) (hE : ¬ E = 0) (w : World) :
  Calls Tryz.prog 283 #[.agg #[.string s, .int .i64 p], .int .i64 k] w fun e w' => e = .returned (.tuple #[.agg #[.string ⟨#[]⟩, .int .i64 0], .int .i64 E]) ∧ Below w.heap.size w w' := by
 have hEb : (E != 0) = true := by simp [hE]
 go_enter Tryz.func283, Tryz.ntmps283
 go_wp2_with (go_at_call 297; refine (hN _).mono ?_; rintro e w2 ⟨rfl, hb2⟩; obtain ⟨a0, a1, a2, a3⟩ := keepb hb2 (B := w.heap.size) (x := .string s) (y := .int .i64 p) (by simp [BoxDe, go_sem]); obtain ⟨r0, r1, r2, r3⟩ := keepb hb2 (B := w.heap.size + 1) (x := .string ⟨#[]⟩) (y := .int .i64 0) (by simp [BoxDe, go_sem]))
 refine bodyPost_ret (by simp [results, Tryz.results283, go_sem, cs_same, r0, r1]; rfl) rfl ?_
 refine ⟨rfl, ?_⟩
 have h0 := bel_call (B := w.heap.size) (w := w) (by go_grown) hb2 (Nat.le_refl _)
 iterate 4 (refine Below.setCell ?_ (by dsimp only; omega) _)
 exact h0
set_option maxRecDepth 1000000 in
set_option maxHeartbeats 800000 in
theorem places_ok {s S S2 : ByteArray} {p P k c P2 : Int} (hN : NormC s p S P 0) (hc : min (max k (-14000)) 14000 = c) (hR : RoundedC S P (P + c) S2 P2) (hP : P ≤ 100000) (hP0 : -100000 ≤ P) (hc0 : -14000 ≤ c) (hc1 : c ≤ 14000) (w : World) :
  Calls Tryz.prog 283 #[.agg #[.string s, .int .i64 p], .int .i64 k] w fun e w' => e = .returned (.tuple #[.agg #[.string S2, .int .i64 P2], .int .i64 0]) ∧ Below w.heap.size w w' := by
 go_enter Tryz.func283, Tryz.ntmps283
 go_wp2_with (first
  | (go_at_call 297; refine (hN _).mono ?_; rintro e w2 ⟨rfl, hb2⟩; have bA := keepb hb2 (B := w.heap.size) (x := .string s) (y := .int .i64 p) (by simp [BoxDe, go_sem]); have bR := keepb hb2 (B := w.heap.size + 1) (x := .string ⟨#[]⟩) (y := .int .i64 0) (by simp [BoxDe, go_sem]); obtain ⟨a0, a1, a2, a3⟩ := id bA; obtain ⟨y0, y1⟩ := bA.reads)
  | (go_at_call 298; refine (hR _).mono ?_; rintro e w3 ⟨rfl, hb3⟩; obtain ⟨r0, r1, r2, r3⟩ := keepb hb3 (bR.past (C := w.heap.size) (by omega) (.string S) (.int .i64 P))))
 refine bodyPost_ret (by simp [results, Tryz.results283, go_sem, cs_same, r0, r1]; rfl) rfl ?_
 refine ⟨rfl, ?_⟩
 have h0 := bel_call (B := w.heap.size) (w := w) (by go_grown) hb2 (Nat.le_refl _)
 have h1 := (h0.setCell (p := ⟨w.heap.size, 0, none⟩) (Nat.le_refl _) (.string S)).setCell (p := ⟨w.heap.size, 1, none⟩) (Nat.le_refl _) (.int .i64 P)
 have h2 := bel_call h1 hb3 (Nat.le_refl _)
 iterate 2 (refine Below.setCell ?_ (by dsimp only; omega) _)
 exact h2
theorem places_any (s : ByteArray) (p k : Int) (w : World) (hs : s.size ≤ 9223372036854775807) :
  Calls Tryz.prog 283 #[.agg #[.string s, .int .i64 p], .int .i64 k] w fun e w' => e = .returned (.tuple #[.agg #[.string (oS (bV (normE s p) (plc (normV s p) k))), .int .i64 (oP (bV (normE s p) (plc (normV s p) k)))], .int .i64 (normE s p)]) ∧ Below w.heap.size w w' := by
 have hN := normC s p hs
 have nn := nrm_norm s p
 have hlow := nn.low
 have hpt := nn.pt
 have hlen := nn.len
 by_cases hE : normE s p = 0
 ·rw [hE] at hN ⊢
  have e : bV 0 (plc (normV s p) k) = plc (normV s p) k := if_pos rfl
  rw [e]
  exact places_ok hN rfl (fun w => rounded_any (normV s p) _ w (by omega) (by omega)) (by omega) (by omega) (by omega) (by omega) w
 ·have e : bV (normE s p) (plc (normV s p) k) = 0 := if_neg hE
  rw [e, zero_S, o_zero.2]
  exact places_err k hN hE w
set_option maxRecDepth 1000000 in
set_option maxHeartbeats 800000 in
theorem exact_no (m : Nat) (e : Int) (w : World) (he : e < -1200 ∨ 1200 < e) :
  Calls Tryz.prog 299 #[.int .u64 m, .int .i64 e] w fun e w' => e = .returned (.tuple #[.agg #[.string ⟨#[]⟩, .int .i64 0], .int .i64 1]) ∧ Below w.heap.size w w' := by
 rcases he with h | h
 ·go_enter Tryz.func299, Tryz.ntmps299
  go_wp2
  go_returns
  exact ⟨rfl, by go_grown⟩
 ·have h' : ¬ e < -1200 := by omega
  go_enter Tryz.func299, Tryz.ntmps299
  go_wp2
  go_returns
  exact ⟨rfl, by go_grown⟩
theorem keepb2 {W w2 : World} {B0 : Nat} (hb : Below B0 W w2) {B : Nat} {x y : Value} (hB : B < B0) (h : BoxDe W B x y) : BoxDe w2 B x y :=
 ⟨(hb.cell (p := ⟨B, 0, none⟩) hB).trans h.1, (hb.cell (p := ⟨B, 1, none⟩) hB).trans h.2.1, (hb.frozen (p := ⟨B, 0, none⟩) hB).trans h.2.2.1, (hb.frozen (p := ⟨B, 1, none⟩) hB).trans h.2.2.2⟩
theorem whole_v {B : Nat} {ao : Option Addr} {n c : Nat} {xs : List Nat} {last : Int} (w : World) (h : Lm w B ao n c xs) (hn : n ≤ 10000) (hl0 : -10000 ≤ last) (hl1 : last ≤ 6000) {v : Nat} (hv : lv xs * 10 ^ (last + 10000).toNat = v) :
  Calls Tryz.prog 311 #[.slice ao n c, .int .i64 last] w fun e w' => e = .returned (.agg #[.string (oS v), .int .i64 (oP v)]) ∧ Below w.heap.size w w' := by
 rw [← hv]; exact whole_any B ao n c xs last w h hn hl0 hl1
set_option maxRecDepth 1000000 in
set_option maxHeartbeats 800000 in
theorem exact_up (m e : Nat) (w : World) (hm : m < 18446744073709551616) (he : e ≤ 1200) :
  Calls Tryz.prog 299 #[.int .u64 m, .int .i64 e] w fun x w' => x = .returned (.tuple #[.agg #[.string (oS (exU m e)), .int .i64 (oP (exU m e))], .int .i64 0]) ∧ Below w.heap.size w w' := by
 have HV : Hid (∀ xs ys, lv xs = m → lv ys = lv xs * 2 ^ e → lv ys * 10 ^ ((0 : Int) + 10000).toNat = exU m e) := fun xs ys h1 h2 => by
  unfold exU
  rw [if_pos (by omega), h2, h1, Int.toNat_natCast]
 generalize exU m e = v at *
 generalize hS : oS v = S at *
 generalize hP : oP v = P at *
 have hW : ∀ {B : Nat} {ao : Option Addr} {n c : Nat} {xs : List Nat} (w : World), Lm w B ao n c xs → n ≤ 10000 → lv xs * 10 ^ ((0 : Int) + 10000).toNat = v → Calls Tryz.prog 311 #[.slice ao n c, .int .i64 0] w fun e w' => e = .returned (.agg #[.string S, .int .i64 P]) ∧ Below w.heap.size w w' := fun w h hn hv => by
  have := whole_v w h hn (by omega) (by omega) hv
  rw [hS, hP] at this; exact this
 clear hS hP
 go_enter Tryz.func299, Tryz.ntmps299
 go_wp2_with (first
  | (go_at_call 310; refine (limbsof_any m _ hm).mono ?_; rintro x w2 ⟨⟨ao, n, c, rfl, hn, xs, hL, hv⟩, hb2⟩; have bR := keepb hb2 (B := w.heap.size) (x := .string ⟨#[]⟩) (y := .int .i64 0) (by simp [BoxDe, go_sem]))
  | (go_at_call 312; refine (multiplied_2 _ ao n c e xs _ hL hb2.size (by omega) he).mono ?_; rintro x w3 ⟨⟨ao2, n2, c2, rfl, hn2, ys, hL2, hv2⟩, hb3⟩; have bR2 := keepb2 hb3 (by simp) bR; have HW := HV.out xs ys hv hv2)
  | (go_at_call 311; refine (hW _ hL2 (by omega) HW).mono ?_; rintro x w4 ⟨rfl, hb4⟩; obtain ⟨r0, r1, r2, r3⟩ := keepb hb4 bR2))
 refine bodyPost_ret (by simp [results, Tryz.results299, go_sem, cs_same, r0, r1]; rfl) rfl ?_
 refine ⟨rfl, ?_⟩
 have h0 := bel_call (B := w.heap.size) (w := w) (by go_grown) hb2 (Nat.le_refl _)
 have h1 := h0.trans (hb3.mono (by simp))
 have h2 := bel_call h1 hb4 (Nat.le_refl _)
 iterate 2 (refine Below.setCell ?_ (by dsimp only; omega) _)
 exact h2
set_option maxRecDepth 1000000 in
set_option maxHeartbeats 800000 in
theorem exact_down (m k : Nat) (w : World) (hm : m < 18446744073709551616) (hk0 : 0 < k) (hk : k ≤ 1200) :
  Calls Tryz.prog 299 #[.int .u64 m, .int .i64 (-(k : Int))] w fun x w' => x = .returned (.tuple #[.agg #[.string (oS (exU m (-(k : Int)))), .int .i64 (oP (exU m (-(k : Int))))], .int .i64 0]) ∧ Below w.heap.size w w' := by
 have HV : Hid (∀ xs ys, lv xs = m → lv ys = lv xs * 5 ^ k → lv ys * 10 ^ (-(k : Int) + 10000).toNat = exU m (-(k : Int))) := fun xs ys h1 h2 => by
  unfold exU
  rw [if_neg (by omega), h2, h1, Int.neg_neg, Int.toNat_natCast]
 generalize exU m (-(k : Int)) = v at *
 generalize hS : oS v = S at *
 generalize hP : oP v = P at *
 have hW : ∀ {B : Nat} {ao : Option Addr} {n c : Nat} {xs : List Nat} (w : World), Lm w B ao n c xs → n ≤ 10000 → lv xs * 10 ^ (-(k : Int) + 10000).toNat = v → Calls Tryz.prog 311 #[.slice ao n c, .int .i64 (-(k : Int))] w fun e w' => e = .returned (.agg #[.string S, .int .i64 P]) ∧ Below w.heap.size w w' := fun w h hn hv => by
  have := whole_v w h hn (by omega) (by omega) hv
  rw [hS, hP] at this; exact this
 clear hS hP
 have hkI : ¬ 0 ≤ -(k : Int) := by omega
 have hk1 : 0 < (k : Int) := by omega
 go_enter Tryz.func299, Tryz.ntmps299
 go_wp2_with (first
  | (go_at_call 310; refine (limbsof_any m _ hm).mono ?_; rintro x w2 ⟨⟨ao, n, c, rfl, hn, xs, hL, hv⟩, hb2⟩; have bR := keepb hb2 (B := w.heap.size) (x := .string ⟨#[]⟩) (y := .int .i64 0) (by simp [BoxDe, go_sem]))
  | (go_at_call 312; refine (multiplied_5 _ ao n c k xs _ hL hb2.size (by omega) hk).mono ?_; rintro x w3 ⟨⟨ao2, n2, c2, rfl, hn2, ys, hL2, hv2⟩, hb3⟩; have bR2 := keepb2 hb3 (by simp) bR; have HW := HV.out xs ys hv hv2)
  | (go_at_call 311; refine (hW _ hL2 (by omega) HW).mono ?_; rintro x w4 ⟨rfl, hb4⟩; obtain ⟨r0, r1, r2, r3⟩ := keepb hb4 bR2))
 refine bodyPost_ret (by simp [results, Tryz.results299, go_sem, cs_same, r0, r1]; rfl) rfl ?_
 refine ⟨rfl, ?_⟩
 have h0 := bel_call (B := w.heap.size) (w := w) (by go_grown) hb2 (Nat.le_refl _)
 have h1 := h0.trans (hb3.mono (by simp))
 have h2 := bel_call h1 hb4 (Nat.le_refl _)
 iterate 2 (refine Below.setCell ?_ (by dsimp only; omega) _)
 exact h2
def xE (e : Int) : Int := if e < -1200 ∨ 1200 < e then 1 else 0
def xV (m : Nat) (e : Int) : Nat := if xE e = 0 then exU m e else 0
theorem exact_any (m : Nat) (e : Int) (w : World) (hm : m < 18446744073709551616) :
  Calls Tryz.prog 299 #[.int .u64 m, .int .i64 e] w fun x w' => x = .returned (.tuple #[.agg #[.string (oS (xV m e)), .int .i64 (oP (xV m e))], .int .i64 (xE e)]) ∧ Below w.heap.size w w' := by
 by_cases he : e < -1200 ∨ 1200 < e
 ·have e1 : xE e = 1 := if_pos he
  have e2 : xV m e = 0 := by unfold xV; rw [e1]; rfl
  rw [e1, e2, zero_S, o_zero.2]
  exact exact_no m e w he
 ·have e1 : xE e = 0 := if_neg he
  have e2 : xV m e = exU m e := by unfold xV; rw [if_pos e1]
  rw [e1, e2]
  by_cases h0 : 0 ≤ e
  ·obtain ⟨k, rfl⟩ : ∃ k : Nat, e = (k : Int) := ⟨e.toNat, by omega⟩
   exact exact_up m k w hm (by omega)
  ·obtain ⟨k, rfl⟩ : ∃ k : Nat, e = -(k : Int) := ⟨(-e).toNat, by omega⟩
   exact exact_down m k w hm (by omega) (by omega)
end Go.Proofs.YtdlnmnipnkeabaaGreatDoor
namespace Go.Proofs.YtdlnmnipnkeabaaGreatDoor
open Go.RowKit
set_option linter.unusedVariables false
end Go.Proofs.YtdlnmnipnkeabaaGreatDoor
namespace Go.Proofs.YtdlnmnipnkeabaaGreatDoor
open Go.RowKit
set_option linter.unusedVariables false
structure Good (v : Nat) : Prop where
 len : (oL v).length ≤ 2000
 p0 : -5000 ≤ oP v
 p1 : oP v ≤ 5000
theorem Good.normE {v : Nat} (h : Good v) : normE (oS v) (oP v) = 0 := by
 have hl := h.len
 have h0 := h.p0
 have h1 := h.p1
 exact normE_ok (by rw [oS_size]; omega) (o_dig v) (by omega) (by omega)
theorem norm_o {v : Nat} (h : Go.Proofs.YtdlnmnipnkeabaaGreatDoor.normE (oS v) (oP v) = 0) : normV (oS v) (oP v) = v := by rw [normV_ok h]; exact o_val v
theorem Good.normV {v : Nat} (h : Good v) : normV (oS v) (oP v) = v := norm_o h.normE
theorem cnt_le {v u j q : Nat} (h : v = u * 10 ^ j) (hu : u < 10 ^ q) : (oL v).length ≤ q := by
 by_cases hv : v = 0
 ·rw [hv, o_zero.1]; exact Nat.zero_le _
 ·have hdB := o_dec v
  have hl := hdB.ne hv
  have hx := num_last hdB.dig hdB.lst hl
  have e := hdB.val.trans h
  have haj : j ≤ (oP v - (oL v).length + 10000).toNat := by
   rcases Nat.lt_or_ge (oP v - (oL v).length + 10000).toNat j with h1 | h1
   ·exact (pow_split hx h1 e).elim
   ·exact h1
  obtain ⟨c, hc⟩ : ∃ c, (oP v - (oL v).length + 10000).toNat = c + j := ⟨_, (Nat.sub_add_cancel haj).symm⟩
  rw [hc, Nat.pow_add, ← Nat.mul_assoc] at e
  have e2 := Nat.eq_of_mul_eq_mul_right (pow_pos10 j) e
  have hc1 : 1 ≤ 10 ^ c := pow_pos10 c
  have h2 : num (oL v) * 1 ≤ num (oL v) * 10 ^ c := Nat.mul_le_mul_left _ hc1
  obtain ⟨x, t, ht⟩ := List.exists_cons_of_ne_nil hl
  have h3 := num_head (ht ▸ hdB.dig) (ht ▸ hdB.hdB)
  rw [← ht] at h3
  have h4 : 10 ^ t.length < 10 ^ q := by omega
  have := (Nat.pow_lt_pow_iff_right (by decide)).1 h4
  rw [ht, List.length_cons]; omega
theorem mod_quot {v J K : Nat} (hm : v % 10 ^ J = 0) (hv : v < 10 ^ (J + K)) : ∃ u, v = u * 10 ^ J ∧ u < 10 ^ K := by
 refine ⟨v / 10 ^ J, ?_, ?_⟩
 ·have := Nat.div_add_mod v (10 ^ J)
  rw [hm, Nat.add_zero, Nat.mul_comm] at this; exact this.symm
 ·rw [Nat.pow_add, Nat.mul_comm] at hv
  exact Nat.div_lt_of_lt_mul (by rw [Nat.mul_comm]; exact hv)
theorem good_of {v J K : Nat} (hm : v % 10 ^ J = 0) (hv : v < 10 ^ (J + K)) (hJ : 5000 ≤ J) (hK : J + K ≤ 15000) (hK2 : K ≤ 2000) : Good v := by
 obtain ⟨u, h1, h2⟩ := mod_quot hm hv
 have hl := cnt_le h1 h2
 by_cases h0 : v = 0
 ·subst h0
  exact ⟨by rw [o_zero.1]; simp, by rw [o_zero.2]; decide, by rw [o_zero.2]; decide⟩
 ·have hu : 1 ≤ u := by
   rcases Nat.eq_zero_or_pos u with h | h
   ·subst h; rw [Nat.zero_mul] at h1; exact absurd h1 h0
   ·exact h
  have hg := oP_gt (v := v) (q := J) (by rw [h1]; have := Nat.mul_le_mul_right (10 ^ J) hu; omega)
  rcases oP_le hv with h3 | h3
  ·exact ⟨by omega, by omega, by omega⟩
  ·exact absurd h3 h0
theorem big_const : ∃ N M : Nat, N = 1200 ∧ M = 839 ∧ (5 : Nat) ^ N < 10 ^ M ∧ (2 : Nat) ^ N < 10 ^ M := ⟨1200, 839, rfl, rfl, by decide +kernel, by decide +kernel⟩
theorem m_big {m k b N M : Nat} (hm : m < 18446744073709551616) (hb0 : 0 < b) (hk : k ≤ N) (h2 : b ^ N < 10 ^ M) : m * b ^ k < 10 ^ (20 + M) := by
 have h1 : b ^ k ≤ b ^ N := Nat.pow_le_pow_right hb0 hk
 have h4 : (10 : Nat) ^ 20 = 100000000000000000000 := by decide
 rw [Nat.pow_add]
 exact Nat.mul_lt_mul'' (by omega) (by omega)
theorem pow_mod (u j : Nat) : u * 10 ^ j % 10 ^ j = 0 := Nat.mul_mod_left _ _
theorem exU_up (m : Nat) {e : Int} (h : 0 ≤ e) : exU m e = m * 2 ^ e.toNat * 10 ^ ((0 : Int) + 10000).toNat := if_pos h
theorem exU_dn (m : Nat) {e : Int} (h : ¬ 0 ≤ e) : exU m e = m * 5 ^ (-e).toNat * 10 ^ (e + 10000).toNat := if_neg h
theorem exU_split {m : Nat} {e : Int} (hm : m < 18446744073709551616) (h0 : -1200 ≤ e) (h1 : e ≤ 1200) : ∃ J u q, exU m e = u * 10 ^ J ∧ u < 10 ^ q ∧ q ≤ 859 ∧ 8800 ≤ J ∧ J ≤ 10000 := by
 obtain ⟨N, M, hN, hM, h5, h2⟩ := big_const
 by_cases he : 0 ≤ e
 ·rw [exU_up m he]
  exact ⟨((0 : Int) + 10000).toNat, _, 20 + M, rfl, m_big hm (by decide) (by omega) h2, by omega, by omega, by omega⟩
 ·rw [exU_dn m he]
  exact ⟨(e + 10000).toNat, _, 20 + M, rfl, m_big hm (by decide) (by omega) h5, by omega, by omega, by omega⟩
theorem exU_double (m : Nat) (e : Int) (h0 : -1200 ≤ e) (h1 : e ≤ 1199) : exU m (e + 1) = exU m e + exU m e := by
 by_cases he : 0 ≤ e
 ·rw [exU_up m he, exU_up m (show 0 ≤ e + 1 by omega), show (e + 1).toNat = e.toNat + 1 by omega, Nat.pow_succ, ← Nat.mul_assoc]
  generalize (10 : Nat) ^ ((0 : Int) + 10000).toNat = A
  generalize m * 2 ^ e.toNat = B
  rw [Nat.mul_comm B 2, Nat.mul_assoc, Nat.two_mul]
 ·by_cases he1 : e = -1
  ·subst he1
   have e1 : ((-1 : Int) + 1).toNat = 0 := by decide
   have e2 : (-(-1 : Int)).toNat = 1 := by decide
   have e3 : ((0 : Int) + 10000).toNat = ((-1 : Int) + 10000).toNat + 1 := by decide
   rw [exU_up m (show (0 : Int) ≤ -1 + 1 by decide), exU_dn m he, e1, e2, e3, Nat.pow_succ]
   generalize (10 : Nat) ^ ((-1 : Int) + 10000).toNat = A
   rw [Nat.pow_zero, Nat.pow_one, Nat.mul_one, ← Nat.mul_assoc, Nat.mul_assoc m 5 A, Nat.mul_left_comm m 5 A]
   generalize m * A = B
   omega
  ·rw [exU_dn m he, exU_dn m (show ¬ 0 ≤ e + 1 by omega), show (-e).toNat = (-(e + 1)).toNat + 1 by omega, show (e + 1 + 10000).toNat = (e + 10000).toNat + 1 by omega, Nat.pow_succ, Nat.pow_succ]
   generalize (5 : Nat) ^ (-(e + 1)).toNat = C
   generalize (10 : Nat) ^ (e + 10000).toNat = A
   have h3 : m * C * (A * 10) = m * C * A * 10 := by rw [Nat.mul_assoc (m * C) A 10]
   have h4 : m * (C * 5) * A = m * C * A * 5 := by rw [← Nat.mul_assoc m C 5, Nat.mul_assoc (m * C) 5 A, Nat.mul_comm 5 A, ← Nat.mul_assoc]
   rw [h3, h4]
   generalize m * C * A = B
   omega
theorem Cl.next {W : World} {x : Cl W} {w6 : World} (hb : Below x.w.heap.size x.w w6) : ∃ y : Cl W, w6 = y.w :=
 ⟨⟨w6, bel_call x.below hb (Nat.le_refl _)⟩, rfl⟩
theorem oS_fit (v : Nat) (h : Good v) : (oS v).size ≤ 9223372036854775807 := by rw [oS_size]; have := h.len; omega
end Go.Proofs.YtdlnmnipnkeabaaGreatDoor
namespace Go.Proofs.YtdlnmnipnkeabaaGreatDoor
open Go.RowKit
set_option linter.unusedVariables false
set_option linter.unusedSimpArgs false
def lnA (s : ByteArray) (n : Int) : ByteArray := run 48 (n - (s.size : Nat)).toNat ++ s
def lnB (s : ByteArray) (n : Int) : ByteArray := s ++ run 48 (n - (s.size : Nat)).toNat
theorem lnA_size (s : ByteArray) (n : Int) : (lnA s n).size = s.size + (n - (s.size : Nat)).toNat := by unfold lnA; rw [app_size, run_size]; omega
theorem lnB_size (s : ByteArray) (n : Int) : (lnB s n).size = s.size + (n - (s.size : Nat)).toNat := by unfold lnB; rw [app_size, run_size]
def ptd (sh : Bool) (a b : ByteArray) : ByteArray := if b.size = 0 ∧ sh = false then a else (a ++ ⟨#[46]⟩) ++ b
def arA (d : ByteArray) (p : Int) : ByteArray := if p ≤ 0 then ⟨#[48]⟩ else (lnB d p).extract 0 p.toNat
def arB (d : ByteArray) (p : Int) : ByteArray := if p ≤ 0 then lnA d ((d.size : Nat) - p) else (lnB d p).extract p.toNat (lnB d p).size
theorem arA_size (d : ByteArray) (p : Int) (hp : p ≤ 100000) : (arA d p).size ≤ 100000 ∧ 1 ≤ (arA d p).size := by
 have h := lnB_size d p
 unfold arA
 split
 ·exact ⟨by decide, by decide⟩
 ·rw [ByteArray.size_extract]; omega
def plcF (P : Int) : Int := if P < 0 then 6 else P
def fixT (sh : Bool) (P : Int) (v : Nat) : ByteArray := ptd sh (arA (oS (plc v (plcF P))) (oP (plc v (plcF P)))) (lnB (arB (oS (plc v (plcF P))) (oP (plc v (plcF P)))) (plcF P))
def rbU (c : Nat) : Nat := 2 ^ (4 * (13 - c))
def rbW (m c : Nat) : Nat := if m % rbU c > rbU c / 2 ∨ (m % rbU c = rbU c / 2 ∧ m / rbU c % 2 = 1) then m / rbU c + 1 else m / rbU c
def rb (m : Nat) (P : Int) : Nat := if P < 0 ∨ 13 ≤ P then m else rbW m P.toNat * rbU P.toNat
def nmS (m : Nat) : Nat := 53 - Lib.bitLen m
def nmM (m : Nat) (P : Int) : Nat := if m = 0 then 0 else if rb (m * 2 ^ nmS m) P / 2 ^ 52 = 2 then rb (m * 2 ^ nmS m) P / 2 else rb (m * 2 ^ nmS m) P
def hxD (m : Nat) (P : Int) : ByteArray := lnA (digT false 16 (nmM m P)) 14
def fVerb (v : Int) : Bool := decide (v = 101 ∨ v = 69 ∨ v = 102 ∨ v = 70 ∨ v = 103 ∨ v = 71 ∨ v = 118 ∨ v = 98 ∨ v = 120 ∨ v = 88)
def grV (v : Int) : Bool := decide (v = 69 ∨ v = 71 ∨ v = 88)
def sgF (neg p sp : Bool) : ByteArray := if neg = true then ⟨#[45]⟩ else signA p sp
theorem sgF_size (neg p sp : Bool) : (sgF neg p sp).size ≤ 1 := by cases neg <;> cases p <;> cases sp <;> decide
def filT (sign t : ByteArray) (mi z : Bool) (wid : Int) : ByteArray := padS (sign ++ (if z = true ∧ mi = false then lnA t ((wdt wid : Nat) - (sign.size : Nat)) else t)) mi false wid
end Go.Proofs.YtdlnmnipnkeabaaGreatDoor
