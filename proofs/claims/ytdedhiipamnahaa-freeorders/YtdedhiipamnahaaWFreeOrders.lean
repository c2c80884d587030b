/- The law FreeOrders. -/
import Derived.Test.YtdedhiipamnahaaYSL
namespace Go.Proofs.Ytdedhiipamnahaa
open Go.RowKit Go.Conc
set_option linter.unusedVariables false
set_option linter.unusedSimpArgs false

def txt (l : List ByteArray) : List Value := l.map Value.string
theorem txt_len (l : List ByteArray) : (txt l).length = l.length := by simp [txt]
theorem txt_take {l : List ByteArray} {i : Nat} {x : ByteArray} (h : l[i]? = some x) : txt (l.take i) ++ [Value.string x] = txt (l.take (i + 1)) := by
  rw [List.take_add_one, h]; simp [txt]
theorem txt_drop {l : List ByteArray} {i : Nat} {x : ByteArray} (h : l[i]? = some x) : txt (l.drop i) = Value.string x :: txt (l.drop (i + 1)) := by
  obtain ⟨hi, rfl⟩ := List.getElem?_eq_some_iff.1 h
  rw [List.drop_eq_getElem_cons hi]; rfl

set_option maxRecDepth 1000000 in
set_option maxHeartbeats 2000000 in
theorem freeOrders_walk (w : World) (a : Option Addr) (len cap : Nat) (l0 : List ByteArray) (hl0 : l0.length = len) (hlc : len ≤ cap) (hcm : cap ≤ maxLen) (hS0 : SL w a l0) :
    Calls Try.prog 4 #[.slice a len cap] w fun e w' => e = .returned (.bool true) ∧ Below w.heap.size w w' := by
  have hm : maxLen = 9223372036854775807 := rfl
  have hlI : (len : Int) ≤ 9223372036854775807 := by omega
  have Hl0 : Hid (l0.length = len) := hl0
  have hS1 : SL w a (l0.take 64) := hS0.take 64
  clear hl0
  go_enter Try.func4, Try.ntmps4
  go_upto_if 10 with fail
  go_cut [0] (fun t wx => wx = w ∧ ∃ (n c : Nat) (l : List ByteArray), t = .slice a n c ∧ l.length = n ∧ n ≤ 64 ∧ SL w a l)
  case first =>
    by_cases h64 : len ≤ 64
    · have h64I : (len : Int) ≤ 64 := by omega
      go_wp2
      go_meet
      exact ⟨rfl, _, _, l0, rfl, Hl0.out, h64, hS0⟩
    · have h64I : (64 : Int) < len := by omega
      go_wp2
      go_meet
      exact ⟨rfl, _, _, l0.take 64, rfl, by rw [List.length_take, Hl0.out]; omega, Nat.le_refl _, hS1⟩
  case rest =>
  obtain ⟨rfl, n, c0, l, rfl, hln, hn, hS⟩ := hcut
  have Hln : Hid (l.length = n) := hln
  clear hln hS0 hS1 Hl0
  have hnI : (n : Int) ≤ 64 := by omega
  have h1 := news_any (n : Int) (.func (.func 21) #[] #[]) (.inr ⟨_, _, _, rfl⟩) wc
  have hcap : capN (n : Int) = n := by have := capN_eq (n : Int); omega
  rw [hcap] at h1
  clear hcap
  go_wp2_with fail
  refine h1.mono ?_
  rintro e W1 ⟨B, c, rfl, hB, hc, s1, k1⟩
  have b1 : Below wc.heap.size wc W1 := Ko.below (Below.refl _ _) k1 (by simp) (Nat.le_refl _)
  have hs1 := k1.size
  clear h1
  go_wp2_with fail
  go_loopg [4, 5, 20] n (fun g _ _ iv wr => ∃ i : Nat, iv = .int .i64 (i : Nat) ∧ i + g = n ∧ Sto wr B c n (txt (l.take i)) (.func (.func 21) #[] #[]) 0 ∧ Below wc.heap.size wc wr ∧ wc.heap.size ≤ wr.heap.size)
  case atStart => exact ⟨0, rfl, by omega, s1, b1, hs1⟩
  case round =>
    obtain ⟨i, rfl, hi, s2, b2, hs2⟩ := hrel
    by_cases hlt : i < n
    · have hltI : (i : Int) < n := by omega
      obtain ⟨x, hx⟩ : ∃ x, l[i]? = some x := ⟨_, List.getElem?_eq_getElem (by have := Hln.out; omega)⟩
      have h3 := puts_room s2 x (by rw [txt_len, List.length_take]; omega)
      rw [txt_take hx] at h3
      have hl4 : (txt (l.take (i + 1))).length = i + 1 := by rw [txt_len, List.length_take]; have := Hln.out; omega
      rcases hS with hS | ⟨b, off, rfl, hbk, hcl⟩
      · have := Hln.out; rw [hS] at this; simp at this; omega
      have cx := (b2.cell (p := ⟨b, off + i, none⟩) hbk).trans (hcl i x hx)
      clear hcl
      go_wp2_with fail
      refine h3.mono ?_
      rintro e W3 ⟨rfl, s3, k3⟩
      have b3 : Below wc.heap.size wc W3 := Ko.below b2 k3 (by simp; omega) hs2
      have hs3 := k3.size
      have h4 := lens_any s3
      rw [hl4] at h4
      go_wp2_with fail
      refine h4.mono ?_
      rintro e W4 ⟨rfl, rfl⟩
      go_wp2
      go_roundg (gk - 1)
      case measure => omega
      case rel => exact ⟨i + 1, by go_num, by omega, s3, b3, by omega⟩
    · obtain rfl : i = n := by omega
      have hltI : ¬ (i : Int) < i := by omega
      have e1 : txt (l.take i) = txt (l.drop 0) := by rw [List.take_of_length_le (by rw [Hln.out]; exact Nat.le_refl _), List.drop_zero]
      rw [e1] at s2
      have h3 := puts_full s2 ⟨#[109, 111, 114, 101]⟩ (by rw [txt_len, List.drop_zero, Hln.out]; exact Nat.le_refl _)
      clear e1 s1 b1 hs1
      go_wp2_with fail
      refine h3.mono ?_
      rintro e W3 ⟨rfl, rfl⟩
      clear h3
      go_wp2_with fail
      go_loopg [7, 41] i (fun g _ iv wr => ∃ k : Nat, iv = .int .i64 (k : Nat) ∧ k + g = i ∧ Sto wr B c i (txt (l.drop k)) (.func (.func 21) #[] #[]) 0 ∧ Below wc.heap.size wc wr ∧ wc.heap.size ≤ wr.heap.size)
      case atStart => exact ⟨0, rfl, by omega, s2, b2, hs2⟩
      case round =>
        clear s2 b2 hs2
        obtain ⟨k, rfl, hk, s2, b2, hs2⟩ := hrel
        by_cases hlt2 : k < i
        · have hltI2 : (k : Int) < i := by omega
          obtain ⟨x, hx⟩ : ∃ x, l[k]? = some x := ⟨_, List.getElem?_eq_getElem (by have := Hln.out; omega)⟩
          rw [txt_drop hx] at s2
          have h3 := gets_some x s2
          rcases hS with hS | ⟨b, off, rfl, hbk, hcl⟩
          · have := Hln.out; rw [hS] at this; simp at this; omega
          have cx := (b2.cell (p := ⟨b, off + k, none⟩) hbk).trans (hcl k x hx)
          clear hcl
          go_wp2_with fail
          refine h3.mono ?_
          rintro e W3 ⟨rfl, s3, k3⟩
          have b3 : Below wc.heap.size wc W3 := Ko.below b2 k3 (by simp; omega) hs2
          have hs3 := k3.size
          go_wp2
          go_roundg (gk - 1)
          case measure => omega
          case rel => exact ⟨k + 1, by go_num, by omega, s3, b3, by omega⟩
        · obtain rfl : k = i := by omega
          have hltI2 : ¬ (k : Int) < k := by omega
          have e1 : txt (l.drop k) = [] := by rw [List.drop_of_length_le (by rw [Hln.out]; exact Nat.le_refl _)]; rfl
          rw [e1] at s2
          have h3 := gets_orders1 s2 (by omega) (by omega)
          clear e1
          go_wp2_with fail
          refine h3.mono ?_
          rintro e W4 ⟨rfl, s4, k4⟩
          have b4 : Below wc.heap.size wc W4 := Ko.below b2 k4 (by simp; omega) hs2
          have hs4 := k4.size
          have hL := lens_any s4
          have hM := mades_any s4
          have hlv := lives13_any W4
          have fin : ∀ w9, Below W4.heap.size W4 w9 → Below wc.heap.size wc w9 := fun w9 h9 => b4.trans (h9.mono (by omega))
          go_wp2_with (first
            | (go_at_call 23; refine hL.mono ?_; rintro e w9 ⟨rfl, rfl⟩)
            | (go_at_call 25; refine hM.mono ?_; rintro e w9 ⟨rfl, rfl⟩)
            | (go_at_call 19; refine hlv.mono ?_; rintro e w9 ⟨rfl, hb9⟩))
          go_ret
          exact ⟨rfl, fin _ hb9⟩
end Go.Proofs.Ytdedhiipamnahaa
