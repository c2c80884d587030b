/- The walks of roundsUp, rounded. -/
import Derived.Test.YthbabhbfpcfenabDoorBTopB
namespace Go.Proofs.YthbabhbfpcfenabDoor
open Go.RowKit
set_option linter.unusedVariables false

theorem getL (s : ByteArray) (i : Nat) (h : i < s.size) : s.data.toList.getD i 0 = s[i]'h := by
  have hl : i < s.data.toList.length := by rw [list_len]; exact h
  rw [List.getD_eq_getElem?_getD, List.getElem?_eq_getElem hl, Option.getD_some]; rfl
set_option maxRecDepth 1000000 in
set_option maxHeartbeats 800000 in
theorem roundsup_any (s : ByteArray) (n : Nat) (w : World) (hd : allD s.data.toList = true) (hn : n < s.size) (hs : s.size ≤ 1000000) :
    Calls Tryd.prog 68 #[.string s, .int .i64 n] w fun e w' => e = .returned (.bool (ups s.data.toList n)) ∧ w' = w := by
  obtain ⟨x0, x1⟩ := allD_at s hd n hn
  have HU : Hid (ups s.data.toList n = if (s[n]'hn).toNat ≠ 53 then decide (53 < (s[n]'hn).toNat) else if n + 1 < s.size then true else decide (0 < n) && decide (dg (s.data.toList.getD (n - 1) 0) % 2 = 1)) := by
    show _ = _
    have hiff : (s[n]'hn = 53) = ((s[n]'hn).toNat = 53) := propext ⟨fun e => by rw [e]; rfl, fun e => UInt8.toNat_inj.1 (by rw [e]; rfl)⟩
    unfold ups
    rw [getL s n hn, list_len]
    simp only [ne_eq, hiff]
  have hnI : (n : Int) < s.size := by omega
  by_cases h5 : (s[n]'hn).toNat = 53
  · have h5I : ((s[n]'hn).toNat : Int) = 53 := by omega
    have h5b : (((s[n]'hn).toNat : Int) != 53) = false := by simp [h5]
    by_cases h6 : n + 1 < s.size
    · have h6I : (n : Int) + 1 < s.size := by omega
      have HF : Hid (ups s.data.toList n = true) := by show _ = _; rw [HU.out, if_neg (by simp [h5]), if_pos h6]
      clear HU
      go_enter Tryd.func68, Tryd.ntmps68
      go_wp2
      go_ret
      rw [HF.out]
      exact ⟨rfl, rfl⟩
    · have h6I : ¬ (n : Int) + 1 < s.size := by omega
      rcases Nat.eq_zero_or_pos n with h0 | h0
      · subst h0
        have HF : Hid (ups s.data.toList 0 = false) := by show _ = _; rw [HU.out, if_neg (by simp [h5]), if_neg h6]; rfl
        clear HU
        go_enter Tryd.func68, Tryd.ntmps68
        go_wp2
        go_ret
        rw [HF.out]
        exact ⟨rfl, rfl⟩
      · obtain ⟨j, rfl⟩ : ∃ j, n = j + 1 := ⟨n - 1, by omega⟩
        have hj : j < s.size := by omega
        obtain ⟨y0, y1⟩ := allD_at s hd j hj
        have HF : Hid (ups s.data.toList (j + 1) = decide (((s[j]'hj).toNat - 48) % 2 = 1)) := by
          show _ = _
          rw [HU.out, if_neg (by simp [h5]), if_neg h6, Nat.add_sub_cancel, getL s j hj, decide_eq_true (Nat.succ_pos j), Bool.true_and]
          rfl
        clear HU hd
        have hjI : (j : Int) < s.size := by omega
        obtain ⟨y, hy⟩ : ∃ y, (s[j]'hj).toNat = y := ⟨_, rfl⟩
        rw [hy] at HF y0 y1
        obtain ⟨z, hz⟩ : ∃ z : Nat, (y : Int) - 48 = (z : Int) := ⟨y - 48, by omega⟩
        have hz2 : y - 48 = z := by omega
        rw [hz2] at HF
        clear hz2
        by_cases hp : z % 2 = 1
        · have hp1 : (z : Int) % 2 = 1 := by omega
          go_enter Tryd.func68, Tryd.ntmps68
          go_wp2
          go_ret
          rw [HF.out]
          refine ⟨?_, rfl⟩
          simp [hp]
        · have hp1 : (z : Int) % 2 = 0 := by omega
          go_enter Tryd.func68, Tryd.ntmps68
          go_wp2
          go_ret
          rw [HF.out]
          refine ⟨?_, rfl⟩
          simp [hp]
  · have h5b : (((s[n]'hn).toNat : Int) != 53) = true := by simp; omega
    have HF : Hid (ups s.data.toList n = decide (53 < (s[n]'hn).toNat)) := by show _ = _; rw [HU.out, if_pos h5]
    have h5I : ¬ ((s[n]'hn).toNat : Int) = 53 := by omega
    clear HU hd
    by_cases h6 : 53 < (s[n]'hn).toNat
    · have h6I : 53 < ((s[n]'hn).toNat : Int) := by omega
      go_enter Tryd.func68, Tryd.ntmps68
      go_wp2
      go_ret
      rw [HF.out]
      refine ⟨?_, rfl⟩
      simp [h6]
    · have h6I : ¬ 53 < ((s[n]'hn).toNat : Int) := by omega
      go_enter Tryd.func68, Tryd.ntmps68
      go_wp2
      go_ret
      rw [HF.out]
      refine ⟨?_, rfl⟩
      simp [h6]

/-- One unit of a place. -/
theorem one_V (p : Int) (P : Nat) (h : p + 10000 = (P : Int) + 1) : V (⟨#[49]⟩ : ByteArray).data.toList p = 10 ^ P := by
  show num [49] * 10 ^ (p - ((1 : Nat) : Int) + 10000).toNat = 10 ^ P
  rw [show (p - ((1 : Nat) : Int) + 10000).toNat = P by omega, show num [49] = 1 from rfl, Nat.one_mul]
set_option maxRecDepth 1000000 in
set_option maxHeartbeats 800000 in
theorem rounded_any (v : Nat) (n : Int) (w : World) (hl : (oL v).length ≤ 16000) (hp : oP v ≤ 5900) :
    Calls Tryd.prog 62 #[.agg #[.string (oS v), .int .i64 (oP v)], .int .i64 n] w fun e w' => e = .returned (.agg #[.string (oS (rnd v n)), .int .i64 (oP (rnd v n))]) ∧ Below w.heap.size w w' := by
  have hz := oS_size v
  have hlow := o_low v
  by_cases h1 : n < 0
  · have HR : Hid (rnd v n = 0) := if_pos h1
    generalize oS v = S at *
    generalize oP v = P at *
    go_enter Tryd.func62, Tryd.ntmps62
    go_wp2
    go_returns
    rw [HR.out, zero_S, o_zero.2]
    exact ⟨rfl, by go_grown⟩
  by_cases h2 : ((oL v).length : Int) ≤ n
  · have HR : Hid (rnd v n = v) := by show _ = _; unfold rnd; rw [if_neg h1, if_pos h2]
    rw [← hz] at h2
    rw [HR.out]
    generalize oS v = S at *
    generalize oP v = P at *
    go_enter Tryd.func62, Tryd.ntmps62
    go_wp2
    go_returns
    exact ⟨rfl, by go_grown⟩
  obtain ⟨k, rfl⟩ : ∃ k : Nat, n = (k : Int) := ⟨n.toNat, by omega⟩
  have hk : k < (oL v).length := by omega
  obtain ⟨Q, hQ⟩ : ∃ Q : Nat, oP v - k + 10000 = (Q : Int) := ⟨(oP v - k + 10000).toNat, by omega⟩
  have hrnd : rnd v k = near v Q := by
    unfold rnd; rw [if_neg h1, if_neg h2, hQ]; rfl
  have hnear := ups_near (o_dec v) k hk Q hQ
  have htk := take_V (o_dec v) k (by omega) Q hQ
  have hTl : ((oS v).extract 0 k).data.toList = (oL v).take k := ext_list (oS v) k
  have hTd : allD ((oS v).extract 0 k).data.toList = true := by
    rw [hTl]; exact allD_of fun x hx => allD_mem (o_dec v).dig (List.mem_of_mem_take hx)
  have hTs : ((oS v).extract 0 k).size = k := ext_size0 (oS v) k (by omega)
  have hU : ∀ w, Calls Tryd.prog 68 #[.string (oS v), .int .i64 k] w fun e w' => e = .returned (.bool (ups (oL v) k)) ∧ w' = w := fun w => roundsup_any (oS v) k w (o_dig v) (by omega) (by omega)
  have hI : ∀ w, Calls Tryd.prog 26 #[.agg #[.string ((oS v).extract 0 k), .int .i64 (oP v)]] w fun e w' => e = .returned (.agg #[.string (oS (v / 10 ^ Q * 10 ^ Q)), .int .i64 (oP (v / 10 ^ Q * 10 ^ Q))]) ∧ Below w.heap.size w w' := fun w => by
    have := inform_any ((oS v).extract 0 k) (oP v) w hTd (by omega) (by omega) (by omega)
    rw [hTl, htk] at this
    exact this
  have hP : PlusC ((oS v).extract 0 k) (oP v) ⟨#[49]⟩ (oP v - k + 1) (oS (v / 10 ^ Q * 10 ^ Q + 10 ^ Q)) (oP (v / 10 ^ Q * 10 ^ Q + 10 ^ Q)) := fun w => by
    have := plus_any ((oS v).extract 0 k) ⟨#[49]⟩ (oP v) (oP v - k + 1) w hTd rfl (by omega) (by decide) (by omega) (by show -10000 ≤ oP v - k + 1 - ((1 : Nat) : Int); omega) (by omega) (by omega)
    rw [hTl, htk, one_V (oP v - k + 1) Q (by omega)] at this
    exact this
  have hkI : ¬ (oS v).size ≤ k := by omega
  have hk0 : k < (oS v).size := by omega
  have hkl : k ≤ 16000 := by omega
  have hp1 : -16000 ≤ oP v := by omega
  have h2' : ¬ ((oS v).size : Int) ≤ (k : Int) := by omega
  rw [hrnd, hnear]
  clear hrnd hnear htk hTl hTd hTs hQ hlow hz h2 h1 hk hl
  cases hu : ups (oL v) k with
  | false =>
    rw [hu] at hU
    clear hu hP
    rw [if_neg (by simp)]
    generalize v / 10 ^ Q * 10 ^ Q = r at *
    generalize hT : (oS v).extract 0 k = T at *
    generalize oS v = S at *
    generalize oP v = P at *
    generalize oS r = S2 at *
    generalize oP r = P2 at *
    go_enter Tryd.func62, Tryd.ntmps62
    go_wp2
    go_region
    go_wp2_with (first | (go_at_call 68; refine (hU _).mono ?_; rintro e w4 ⟨rfl, rfl⟩) | (go_at_call 26; refine (hI _).mono ?_; rintro e w5 ⟨rfl, hb5⟩; obtain ⟨r0, r1, r2, r3⟩ := keepb hb5 (B := w.heap.size + 1) (x := .string ⟨#[]⟩) (y := .int .i64 0) (by simp [BoxD, go_sem])))
    refine bodyPost_ret (by simp [results, Tryd.results62, go_sem, cs_same, r0, r1]; rfl) rfl ?_
    refine ⟨rfl, ?_⟩
    have h0 := bel_call (B := w.heap.size) (w := w) (by go_grown) hb5 (Nat.le_refl _)
    iterate 2 (refine Below.setCell ?_ (by dsimp only; omega) _)
    exact h0
  | true =>
    rw [hu] at hU
    clear hu hI
    rw [if_pos rfl]
    generalize v / 10 ^ Q * 10 ^ Q + 10 ^ Q = r at *
    generalize hT : (oS v).extract 0 k = T at *
    generalize oS v = S at *
    generalize oP v = P at *
    generalize oS r = S2 at *
    generalize oP r = P2 at *
    go_enter Tryd.func62, Tryd.ntmps62
    go_wp2
    go_region
    go_wp2_with (first | (go_at_call 68; refine (hU _).mono ?_; rintro e w4 ⟨rfl, rfl⟩) | (go_at_call 63; refine (hP _).mono ?_; rintro e w5 ⟨rfl, hb5⟩; obtain ⟨r0, r1, r2, r3⟩ := keepb hb5 (B := w.heap.size + 1) (x := .string ⟨#[]⟩) (y := .int .i64 0) (by simp [BoxD, go_sem])))
    refine bodyPost_ret (by simp [results, Tryd.results62, go_sem, cs_same, r0, r1]; rfl) rfl ?_
    refine ⟨rfl, ?_⟩
    have h0 := bel_call (B := w.heap.size) (w := w) (by go_grown) hb5 (Nat.le_refl _)
    iterate 2 (refine Below.setCell ?_ (by dsimp only; omega) _)
    exact h0
end Go.Proofs.YthbabhbfpcfenabDoor
