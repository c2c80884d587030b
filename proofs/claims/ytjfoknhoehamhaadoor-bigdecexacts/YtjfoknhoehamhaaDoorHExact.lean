/- The document's Exact. -/
import Derived.Test.YtjfoknhoehamhaaDoorHNum
import Derived.Test.YtjfoknhoehamhaaDoorHIn
import Derived.Test.YtjfoknhoehamhaaDoorBTopD
namespace Go.Proofs.YtjfoknhoehamhaaDoor
open Go.RowKit
set_option linter.unusedVariables false
set_option linter.unusedSimpArgs false

/-- What the last statement makes of a row of digits. -/
theorem hx_last {ds : List Nat} {n v : Nat} {b : Int} (hl : ds.length = n) (hd : ∀ d ∈ ds, d < 10) (hn : n ≤ 5000) (hb0 : 0 ≤ b) (hb : b ≤ 1200) (hv : le ds * 10 ^ (-b + 10000).toNat = v) : HInC ⟨(txt ds).toArray⟩ ((n : Int) - b) (oS v) (oP v) := fun w => by
  obtain ⟨h1, h2⟩ := txt_num ds hd
  have hz := mk_size (txt ds)
  rw [txt_len, hl] at hz
  have := hin_any ⟨(txt ds).toArray⟩ ((n : Int) - b) w h2 (by omega) (by omega) (by omega)
  have e : V (⟨(txt ds).toArray⟩ : ByteArray).data.toList ((n : Int) - b) = v := by
    unfold V
    show num (txt ds) * 10 ^ ((n : Int) - b - (txt ds).length + 10000).toNat = v
    rw [h1, txt_len, hl, show (n : Int) - b - (n : Int) + 10000 = -b + 10000 by omega]; exact hv
  rw [e] at this
  exact this
theorem pow2_step {m i : Nat} {ds es : List Nat} (h : le ds = m * 2 ^ i) (h2 : le es = le ds * 2) : le es = m * 2 ^ (i + 1) := by
  rw [h2, h, Nat.pow_succ, Nat.mul_assoc]
theorem pow5_step {m i : Nat} {ds es : List Nat} (h : le ds = m * 5 ^ i) (h2 : le es = le ds * 5) : le es = m * 5 ^ (i + 1) := by
  rw [h2, h, Nat.pow_succ, Nat.mul_assoc]
set_option maxRecDepth 1000000 in
set_option maxHeartbeats 1600000 in
theorem hexact_up (m K : Nat) (w : World) (hm : m < 18446744073709551616) (hK : K ≤ 1200) :
    Calls Tryd.prog 13 #[.int .u64 m, .int .i64 K] w fun x w' => x = .returned (.tuple #[.agg #[.string (oS (exU m K)), .int .i64 (oP (exU m K))], .int .i64 0]) ∧ Below w.heap.size w w' := by
  have HV : Hid (∀ ds : List Nat, le ds = m * 2 ^ K → le ds * 10 ^ (-(0 : Int) + 10000).toNat = exU m K) := fun ds h => by
    unfold exU
    rw [if_pos (by omega), h, Int.toNat_natCast, Int.neg_zero]
  generalize exU m K = v at *
  go_enter Tryd.func13, Tryd.ntmps13
  go_wp2_with (go_at_call 28; refine (hof_any m _ hm).mono ?_; rintro x w2 ⟨⟨ao, n, c, rfl, hn, ds, hL, hv⟩, hb2⟩; have bR := keepb hb2 (B := w.heap.size) (x := .string ⟨#[]⟩) (y := .int .i64 0) (by simp [BoxD, go_sem]))
  have hbw : Below (w.heap.size + 1) (w.alloc (.cells #[.string ⟨#[]⟩, .int .i64 0] 23)) w2 := by simpa using hb2
  have hb0 : Below w.heap.size w w2 := bel_call ((Below.refl _ _).alloc (Nat.le_refl _) _) hb2 (Nat.le_refl _)
  have hL0 : Nm w2 (w.heap.size + 1) ao n c ds := hL.mono (by simp)
  clear hL hb2 hbw
  go_loopg [6, 8] K (fun g v6 v8 wr => ∃ (i n' c' : Nat) (ao' : Option Addr) (es : List Nat), v6 = .slice ao' n' c' ∧ v8 = .int .i64 (i : Int) ∧ i + g = K ∧ n' ≤ 20 + i ∧ Nm wr (w.heap.size + 1) ao' n' c' es ∧ BoxD wr w.heap.size (.string ⟨#[]⟩) (.int .i64 0) ∧ Below w.heap.size w wr ∧ w.heap.size + 1 ≤ wr.heap.size ∧ Hid (le es = m * 2 ^ i))
  case atStart => exact ⟨0, n, c, ao, ds, rfl, rfl, Nat.zero_add _, by omega, hL0, bR, hb0, World.block_lt_of_cell? w2 _ bR.1, by show _ = _; simp [hv]⟩
  case round =>
    obtain ⟨i, n', c', ao', es, rfl, rfl, hig, hn', hL1, bR1, hbl, hsz, HE⟩ := hrel
    by_cases hi : i < K
    · have hiI : (i : Int) < K := by omega
      have hT := htimes_2 _ ao' n' c' es wr hL1 (by omega)
      go_wp2_with (go_at_call 29; refine hT.mono ?_; rintro x w3 ⟨⟨ao3, n3, c3, rfl, hn3, fs, hL3, hv3⟩, hb3⟩)
      go_roundg (gk - 1)
      case measure => omega
      case rel => exact ⟨i + 1, n3, c3, ao3, fs, rfl, by go_num, by omega, by omega, hL3.mono (by omega), keepb hb3 bR1, bel_call hbl hb3 (Nat.le_refl _), Nat.le_trans hsz hb3.size, pow2_step HE.out hv3⟩
    · have hiI : ¬ (i : Int) < K := by omega
      have HE2 : Hid (le es * 10 ^ (-(0 : Int) + 10000).toNat = v) := HV.out es (by have := HE.out; rw [show i = K by omega] at this; exact this)
      clear HE HV
      have hK0 : ¬ (K : Int) < 0 := by omega
      go_wp2
      go_loopg [6, 7, 9] 0 (fun g v6 v7 v9 wr2 => v6 = .slice ao' n' c' ∧ v7 = .int .i64 0 ∧ v9 = .int .i64 0 ∧ wr2 = wr)
      case atStart => exact ⟨rfl, rfl, rfl, rfl⟩
      case round =>
        obtain ⟨rfl, rfl, rfl, rfl⟩ := hrel
        have hTx := htext_any _ ao' n' c' es _ hL1 (by omega)
        have hIn := hx_last (b := 0) hL1.len hL1.lim (by omega) (by omega) (by omega) HE2.out
        rw [Int.sub_zero] at hIn
        obtain ⟨S, hS⟩ : ∃ S, oS v = S := ⟨_, rfl⟩
        obtain ⟨P, hP⟩ : ∃ P, oP v = P := ⟨_, rfl⟩
        rw [hS, hP] at hIn
        have HS : Hid (oS v = S ∧ oP v = P) := ⟨hS, hP⟩
        clear hS hP HE2
        generalize (⟨(txt es).toArray⟩ : ByteArray) = T at *
        go_wp2_with (first | (go_at_call 30; refine hTx.mono ?_; rintro x w5 ⟨rfl, hb5⟩) | (go_at_call 24; refine (hIn _).mono ?_; rintro x w6 ⟨rfl, hb6⟩; obtain ⟨r0, r1, r2, r3⟩ := keepb hb6 (keepb hb5 bR1)))
        refine bodyPost_ret (by simp [results, Tryd.results13, go_sem, cs_same, r0, r1]; rfl) rfl ?_
        rw [HS.out.1, HS.out.2]
        refine ⟨rfl, ?_⟩
        have h5 := bel_call (bel_call hbl hb5 (Nat.le_refl _)) hb6 (Nat.le_refl _)
        iterate 2 (refine Below.setCell ?_ (by dsimp only; omega) _)
        exact h5
set_option maxRecDepth 1000000 in
set_option maxHeartbeats 1600000 in
theorem hexact_down (m K : Nat) (w : World) (hm : m < 18446744073709551616) (hK0 : 0 < K) (hK : K ≤ 1200) :
    Calls Tryd.prog 13 #[.int .u64 m, .int .i64 (-(K : Int))] w fun x w' => x = .returned (.tuple #[.agg #[.string (oS (exU m (-(K : Int)))), .int .i64 (oP (exU m (-(K : Int))))], .int .i64 0]) ∧ Below w.heap.size w w' := by
  have HV : Hid (∀ ds : List Nat, le ds = m * 5 ^ K → le ds * 10 ^ (-(K : Int) + 10000).toNat = exU m (-(K : Int))) := fun ds h => by
    unfold exU
    rw [if_neg (by omega), h, Int.neg_neg, Int.toNat_natCast]
  generalize exU m (-(K : Int)) = v at *
  have hK1 : 0 < (K : Int) := by omega
  go_enter Tryd.func13, Tryd.ntmps13
  go_wp2_with (go_at_call 28; refine (hof_any m _ hm).mono ?_; rintro x w2 ⟨⟨ao, n, c, rfl, hn, ds, hL, hv⟩, hb2⟩; have bR := keepb hb2 (B := w.heap.size) (x := .string ⟨#[]⟩) (y := .int .i64 0) (by simp [BoxD, go_sem]))
  have hb0 : Below w.heap.size w w2 := bel_call ((Below.refl _ _).alloc (Nat.le_refl _) _) hb2 (Nat.le_refl _)
  have hL0 : Nm w2 (w.heap.size + 1) ao n c ds := hL.mono (by simp)
  clear hL hb2
  go_loopg [6, 8] 0 (fun g v6 v8 wr => v6 = .slice ao n c ∧ v8 = .int .i64 0 ∧ wr = w2)
  case atStart => exact ⟨rfl, rfl, rfl⟩
  case round =>
    obtain ⟨rfl, rfl, rfl⟩ := hrel
    go_wp2
    go_loopg [6, 7, 9] K (fun g v6 v7 v9 wr => ∃ (i n' c' : Nat) (ao' : Option Addr) (es : List Nat), v6 = .slice ao' n' c' ∧ v7 = .int .i64 (i : Int) ∧ v9 = .int .i64 (-(i : Int)) ∧ i + g = K ∧ n' ≤ 20 + i ∧ Nm wr (w.heap.size + 1) ao' n' c' es ∧ BoxD wr w.heap.size (.string ⟨#[]⟩) (.int .i64 0) ∧ Below w.heap.size w wr ∧ w.heap.size + 1 ≤ wr.heap.size ∧ Hid (le es = m * 5 ^ i))
    case atStart => exact ⟨0, n, c, ao, ds, rfl, rfl, rfl, Nat.zero_add _, by omega, hL0, bR, hb0, World.block_lt_of_cell? _ _ bR.1, by show _ = _; simp [hv]⟩
    case round =>
      obtain ⟨i, n', c', ao', es, rfl, rfl, rfl, hig, hn', hL1, bR1, hbl, hsz, HE⟩ := hrel
      by_cases hi : i < K
      · have hiI : -(K : Int) < -(i : Int) := by omega
        have hiJ : (i : Int) < (K : Int) := by omega
        have hT := htimes_5 _ ao' n' c' es _ hL1 (by omega)
        go_wp2_with (go_at_call 29; refine hT.mono ?_; rintro x w3 ⟨⟨ao3, n3, c3, rfl, hn3, fs, hL3, hv3⟩, hb3⟩)
        go_roundg (gk - 1)
        case measure => omega
        case rel => exact ⟨i + 1, n3, c3, ao3, fs, rfl, by go_num, by go_num, by omega, by omega, hL3.mono (by omega), keepb hb3 bR1, bel_call hbl hb3 (Nat.le_refl _), Nat.le_trans hsz hb3.size, pow5_step HE.out hv3⟩
      · have hiI : ¬ -(K : Int) < -(i : Int) := by omega
        have hiJ : (i : Int) = (K : Int) := by omega
        obtain rfl : i = K := by omega
        have HE2 : Hid (le es * 10 ^ (-(i : Int) + 10000).toNat = v) := HV.out es HE.out
        clear HE HV hiJ
        have hTx := htext_any _ ao' n' c' es _ hL1 (by omega)
        have hIn := hx_last (b := (i : Int)) hL1.len hL1.lim (by omega) (by omega) (by omega) HE2.out
        obtain ⟨S, hS⟩ : ∃ S, oS v = S := ⟨_, rfl⟩
        obtain ⟨P, hP⟩ : ∃ P, oP v = P := ⟨_, rfl⟩
        rw [hS, hP] at hIn
        have HS : Hid (oS v = S ∧ oP v = P) := ⟨hS, hP⟩
        clear hS hP HE2
        generalize (⟨(txt es).toArray⟩ : ByteArray) = T at *
        go_wp2_with (first | (go_at_call 30; refine hTx.mono ?_; rintro x w5 ⟨rfl, hb5⟩) | (go_at_call 24; refine (hIn _).mono ?_; rintro x w6 ⟨rfl, hb6⟩; obtain ⟨r0, r1, r2, r3⟩ := keepb hb6 (keepb hb5 bR1)))
        refine bodyPost_ret (by simp [results, Tryd.results13, go_sem, cs_same, r0, r1]; rfl) rfl ?_
        rw [HS.out.1, HS.out.2]
        refine ⟨rfl, ?_⟩
        have h5 := bel_call (bel_call hbl hb5 (Nat.le_refl _)) hb6 (Nat.le_refl _)
        iterate 2 (refine Below.setCell ?_ (by dsimp only; omega) _)
        exact h5
set_option maxRecDepth 1000000 in
set_option maxHeartbeats 800000 in
theorem hexact_no (m : Nat) (e : Int) (w : World) (he : e < -1200 ∨ 1200 < e) :
    Calls Tryd.prog 13 #[.int .u64 m, .int .i64 e] w fun e w' => e = .returned (.tuple #[.agg #[.string ⟨#[]⟩, .int .i64 0], .int .i64 1]) ∧ Below w.heap.size w w' := by
  rcases he with h | h
  · go_enter Tryd.func13, Tryd.ntmps13
    go_wp2
    go_returns
    exact ⟨rfl, by go_grown⟩
  · have h' : ¬ e < -1200 := by omega
    go_enter Tryd.func13, Tryd.ntmps13
    go_wp2
    go_returns
    exact ⟨rfl, by go_grown⟩
theorem hexact_any (m : Nat) (e : Int) (w : World) (hm : m < 18446744073709551616) :
    Calls Tryd.prog 13 #[.int .u64 m, .int .i64 e] w fun x w' => x = .returned (.tuple #[.agg #[.string (oS (xV m e)), .int .i64 (oP (xV m e))], .int .i64 (xE e)]) ∧ Below w.heap.size w w' := by
  by_cases he : e < -1200 ∨ 1200 < e
  · have e1 : xE e = 1 := if_pos he
    have e2 : xV m e = 0 := by unfold xV; rw [e1]; rfl
    rw [e1, e2, zero_S, o_zero.2]
    exact hexact_no m e w he
  · have e1 : xE e = 0 := if_neg he
    have e2 : xV m e = exU m e := by unfold xV; rw [if_pos e1]
    rw [e1, e2]
    by_cases h0 : 0 ≤ e
    · obtain ⟨k, rfl⟩ : ∃ k : Nat, e = (k : Int) := ⟨e.toNat, by omega⟩
      exact hexact_up m k w hm (by omega)
    · obtain ⟨k, rfl⟩ : ∃ k : Nat, e = -(k : Int) := ⟨(-e).toNat, by omega⟩
      exact hexact_down m k w hm (by omega) (by omega)
end Go.Proofs.YtjfoknhoehamhaaDoor
