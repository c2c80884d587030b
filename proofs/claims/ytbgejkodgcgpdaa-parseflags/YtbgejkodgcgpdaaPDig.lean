/- The laws of layer 9: digits of a number. -/
import Derived.Test.YtbgejkodgcgpdaaPEq
import Derived.Test.YtbgejkodgcgpdaaPPureB
namespace Go.Proofs.Ytbgejkodgcgpdaa
open Go.RowKit
set_option linter.unusedVariables false
set_option linter.unusedSimpArgs false

theorem ba_id (S : ByteArray) : ba S.data.toList = S := by unfold ba; simp
theorem ba_size (l : Bs) : (ba l).size = l.length := by rw [← list_len]; simp [ba]
/-- A number's digits ahead of others. -/
def dgtF : Nat → Nat → Bs → Bs
  | 0, _, acc => acc
  | k + 1, n, acc => if n / 10 = 0 then UInt8.ofNat (48 + n % 10) :: acc else dgtF k (n / 10) (UInt8.ofNat (48 + n % 10) :: acc)
def dgt (n : Nat) : Bs := dgtF 20 n []
theorem dg_of (m : Nat) (h : m < 10) : (UInt8.ofNat (48 + m)).toNat = 48 + m := by
  rw [UInt8.toNat_ofNat']
  omega
theorem foldV_add (t : Bs) : ∀ a, t.foldl stepV a = a * 10 ^ t.length + t.foldl stepV 0 := by
  induction t with
  | nil => intro a; simp
  | cons x t ih =>
    intro a
    rw [List.foldl_cons, List.foldl_cons, ih (stepV a x), ih (stepV 0 x), List.length_cons, Nat.pow_succ]
    unfold stepV
    simp only [Nat.mul_zero, Nat.zero_add, Nat.add_mul]
    rw [Nat.mul_comm 10 a, Nat.mul_assoc, Nat.mul_comm (10 ^ t.length) 10]
    omega
theorem val_cons (x : UInt8) (t : Bs) : valD (x :: t) = (x.toNat - 48) * 10 ^ t.length + valD t := by
  unfold valD
  rw [List.foldl_cons, foldV_add t (stepV 0 x)]
  unfold stepV
  simp
theorem dgtF_all : ∀ (k n : Nat) (acc : Bs), (∀ x ∈ acc, dg x.toNat) → ∀ x ∈ dgtF k n acc, dg x.toNat
  | 0, _, _, h => h
  | k + 1, n, acc, h => by
    have h' : ∀ x ∈ UInt8.ofNat (48 + n % 10) :: acc, dg x.toNat := fun x hx => by
      rcases List.mem_cons.1 hx with rfl | hx
      · rw [dg_of _ (by omega)]; exact ⟨by omega, by omega⟩
      · exact h x hx
    unfold dgtF
    split
    · exact h'
    · exact dgtF_all k _ _ h'
theorem dgtF_val : ∀ (k n : Nat) (acc : Bs), n < 10 ^ k → 0 < k → valD (dgtF k n acc) = n * 10 ^ acc.length + valD acc
  | 0, _, _, _, h => by omega
  | k + 1, n, acc, hn, _ => by
    have hv : valD (UInt8.ofNat (48 + n % 10) :: acc) = (n % 10) * 10 ^ acc.length + valD acc := by
      rw [val_cons, dg_of _ (by omega), Nat.add_sub_cancel_left]
    unfold dgtF
    split
    · rename_i h0
      rw [hv, Nat.mod_eq_of_lt (by omega)]
    · rename_i h0
      have hk : 0 < k := by
        rcases Nat.eq_zero_or_pos k with rfl | h
        · simp at hn; omega
        · exact h
      rw [dgtF_val k (n / 10) _ (by rw [Nat.pow_succ] at hn; omega) hk, hv, List.length_cons, Nat.pow_succ]
      have e : n = 10 * (n / 10) + n % 10 := by omega
      have e2 : n * 10 ^ acc.length = n / 10 * (10 ^ acc.length * 10) + n % 10 * 10 ^ acc.length := by
        conv => lhs; rw [e]
        rw [Nat.add_mul, Nat.mul_comm 10 (n / 10), Nat.mul_assoc, Nat.mul_comm 10 (10 ^ acc.length)]
      omega
theorem dgtF_head : ∀ (k n : Nat) (acc : Bs), n < 10 ^ k → 0 < n → ∃ x t, dgtF k n acc = x :: t ∧ 49 ≤ x.toNat ∧ x.toNat ≤ 57
  | 0, n, _, hn, h => by simp at hn; omega
  | k + 1, n, acc, hn, h => by
    unfold dgtF
    split
    · rename_i h0
      exact ⟨_, _, rfl, by rw [dg_of _ (by omega)]; omega, by rw [dg_of _ (by omega)]; omega⟩
    · rename_i h0
      exact dgtF_head k (n / 10) _ (by rw [Nat.pow_succ] at hn; omega) (by omega)
/-- What is wanted of a number's digits. -/
theorem dgt_ok (n : Nat) (h0 : 0 < n) (h : n ≤ 999999999) : (∀ x ∈ dgt n, dg x.toNat) ∧ valD (dgt n) = n ∧ (49 ≤ hd (dgt n) ∧ hd (dgt n) ≤ 57) ∧ (dgt n).length ≤ 9 ∧ dgt n ≠ [] := by
  have hb : n < 10 ^ 20 := Nat.lt_of_le_of_lt h (by decide)
  have hv : valD (dgt n) = n := by
    have := dgtF_val 20 n [] hb (by omega)
    simpa [dgt, valD] using this
  obtain ⟨x, t, e, h1, h2⟩ := dgtF_head 20 n [] hb h0
  have e' : dgt n = x :: t := e
  refine ⟨dgtF_all 20 n [] (fun x hx => by cases hx), hv, by rw [e']; exact ⟨h1, h2⟩, ?_, by rw [e']; simp⟩
  rw [e'] at hv ⊢
  rw [val_cons] at hv
  rw [List.length_cons]
  rcases Nat.lt_or_ge t.length 9 with h9 | h9
  · omega
  · have h10 : 10 ^ 9 ≤ 10 ^ t.length := Nat.pow_le_pow_right (by omega) h9
    have : 1 * 10 ^ t.length ≤ (x.toNat - 48) * 10 ^ t.length := Nat.mul_le_mul_right _ (by omega)
    omega
theorem dgs_app {D r : Bs} (hD : ∀ x ∈ D, dg x.toNat) (hr : ¬ dg (hd r)) : dgs (D ++ r) = D ∧ aft (D ++ r) = r := by
  induction D with
  | nil =>
    obtain ⟨a, b⟩ := dgs_no hr
    exact ⟨a, b⟩
  | cons x t ih =>
    obtain ⟨a, b⟩ := ih (fun y hy => hD y (List.mem_cons_of_mem _ hy))
    obtain ⟨c, d⟩ := dgs_yes (x := x) (t := t ++ r) (hD x (List.mem_cons_self ..))
    exact ⟨by rw [List.cons_append, c, a], by rw [List.cons_append, d, b]⟩
/-- An index in brackets. -/
def ixB (n : Nat) : Bs := 91 :: (dgt n ++ [93])
theorem idx_ixB (n : Nat) (h0 : 0 < n) (h : n ≤ 999999999) (r : Bs) : idx (ixB n ++ r) = (⟨1, n⟩, r) := by
  obtain ⟨h1, h2, h3, h4, h5⟩ := dgt_ok n h0 h
  have e : (ixB n ++ r).tail = dgt n ++ (93 :: r) := by simp [ixB]
  obtain ⟨a, b⟩ := dgs_app (D := dgt n) (r := 93 :: r) h1 (by intro k; have : hd (93 :: r) = 93 := rfl; rw [this] at k; exact absurd k.2 (by omega))
  unfold idx
  rw [if_pos (show hd (ixB n ++ r) = 91 from rfl), e, a, b, if_pos ⟨h5, rfl⟩]
  unfold ixG
  rw [if_pos ⟨h4, by omega⟩, h2]
  rfl
set_option maxRecDepth 1000000 in
set_option maxHeartbeats 4000000 in
theorem digits9_any (N : Nat) (hN : N ≤ 999999999) (w : World) : Calls Try.prog 13 #[.int .i64 (N : Nat)] w fun e w' => e = .returned (.string (ba (dgt N))) ∧ Below w.heap.size w w' := by
  go_enter Try.func13, Try.ntmps13
  go_wp2
  go_loopg [0, 3] 20 (fun g nv sv wr => ∃ (n : Nat) (S : ByteArray), nv = .int .i64 (n : Nat) ∧ sv = .string S ∧ n ≤ 999999999 ∧ Hid (n < 10 ^ g) ∧ 1 ≤ g ∧ g ≤ 20 ∧ S.size + g ≤ 20 ∧ Hid (dgtF g n S.data.toList = dgt N) ∧ Below w.heap.size w wr)
  case atStart => exact ⟨N, ⟨#[]⟩, rfl, rfl, hN, Nat.lt_of_le_of_lt hN (by decide), by omega, Nat.le_refl _, by decide, rfl, Below.refl _ _⟩
  case round =>
    obtain ⟨n, S, rfl, rfl, hn, HLT, hg1, hg20, hSz, HD, hb⟩ := hrel
    obtain ⟨k, rfl⟩ : ∃ k, gk = k + 1 := ⟨gk - 1, by omega⟩
    obtain ⟨d, hd⟩ : ∃ d : Nat, d = n % 10 := ⟨_, rfl⟩
    obtain ⟨q, hq⟩ : ∃ q : Nat, q = n / 10 := ⟨_, rfl⟩
    have hd10 : d ≤ 9 := by omega
    have hqn : q ≤ 999999999 := by omega
    have hm : (n : Int).tmod 10 = (d : Int) := by rw [Int.tmod_eq_emod_of_nonneg (by omega)]; omega
    have hv : (n : Int).tdiv 10 = (q : Int) := by rw [Int.tdiv_eq_ediv_of_nonneg (by omega)]; omega
    have hw8 : IntKind.u8.wrap (48 + (d : Int)) = 48 + (d : Int) := by rw [IntKind.wrap_u8]; omega
    have hc := fun x => conv1 wr x
    have hone : strOfNums [48 + (d : Int)] = ba [UInt8.ofNat (48 + d)] := by
      unfold strOfNums ba
      simp only [List.map_cons, List.map_nil, show (48 + (d : Int)).toNat = 48 + d by omega]
    have hsz1 : ((strOfNums [48 + (d : Int)]).size : Int) ≤ 1 := by rw [hone, ba_size]; simp
    have hsz2 : (S.size : Int) ≤ 20 := by omega
    have HS : Hid ((strOfNums [48 + (d : Int)] ++ S).data.toList = UInt8.ofNat (48 + d) :: S.data.toList ∧ (strOfNums [48 + (d : Int)] ++ S).size = S.size + 1) := by
      rw [hone]
      exact ⟨by rw [app_list]; simp [ba], by rw [app_size, ba_size]; simp; omega⟩
    have hD := HD.out
    unfold dgtF at hD
    rw [← hd, ← hq] at hD
    have hal : Below w.heap.size w (wr.alloc (.cells #[.int .u8 (48 + (d : Int))] 5)) := hb.alloc hb.size _
    by_cases hq0 : q = 0
    · have HF : Hid (ba (dgt N) = strOfNums [48 + (d : Int)] ++ S) := by
        show _ = _
        rw [if_pos hq0] at hD
        rw [← hD, ← HS.out.1]
        exact ba_id _
      have hqI : (q : Int) = 0 := by omega
      have HQ : Hid (n = 10 * q + d) := by show _ = _; omega
      clear hD hone hd hq hq0
      go_wp2
      go_ret
      rw [HF.out]
      exact ⟨rfl, hal⟩
    · have hqI : ¬ (q : Int) = 0 := by omega
      have HL' : Hid (q < 10 ^ k) := by
        have := HLT.out
        rw [Nat.pow_succ] at this
        show q < 10 ^ k
        omega
      have hk1 : 1 ≤ k := by
        rcases Nat.eq_zero_or_pos k with rfl | h
        · have := HL'.out; simp at this; omega
        · exact h
      have HD' : Hid (dgtF k q (UInt8.ofNat (48 + d) :: S.data.toList) = dgt N) := by rw [if_neg hq0] at hD; exact hD
      clear hD hone hd hq hq0
      go_wp2
      go_roundg k
      case measure => omega
      case rel => exact ⟨q, strOfNums [48 + (d : Int)] ++ S, rfl, rfl, hqn, HL', hk1, by omega, by rw [HS.out.2]; omega, by show dgtF k q _ = _; rw [HS.out.1]; exact HD'.out, hal⟩
end Go.Proofs.Ytbgejkodgcgpdaa
