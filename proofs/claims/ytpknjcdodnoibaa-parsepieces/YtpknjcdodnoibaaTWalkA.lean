/- The document's parse: digit, is, run, value, index. -/
import Derived.Test.YtpknjcdodnoibaaPLive
import Derived.LoopN
namespace Go.Proofs.Ytpknjcdodnoibaa
open Go.RowKit
set_option linter.unusedVariables false
set_option linter.unusedSimpArgs false

/-- At place i of the text s stands l. -/
structure AtP (s : ByteArray) (i : Nat) (l : Bs) : Prop where
  d : s.data.toList.drop i = l
  e : i + l.length = s.size
theorem AtP.byte {s : ByteArray} {i : Nat} {x : UInt8} {t : Bs} (h : AtP s i (x :: t)) : ∃ hi : i < s.size, s[i]'hi = x := by
  have hi : i < s.size := by have := h.e; simp at this; omega
  refine ⟨hi, ?_⟩
  have h1 : s.data.toList[i]? = some x := by
    have := congrArg List.head? h.d
    rw [List.head?_drop] at this
    simpa using this
  obtain ⟨_, he⟩ := List.getElem?_eq_some_iff.1 h1
  rw [← he, Array.getElem_toList]
  rfl
theorem AtP.step {s : ByteArray} {i : Nat} {x : UInt8} {t : Bs} (h : AtP s i (x :: t)) : AtP s (i + 1) t :=
  ⟨by rw [← List.drop_drop, h.d]; rfl, by have := h.e; simp at this; omega⟩
theorem AtP.suf {s : ByteArray} {i : Nat} {l r : Bs} (h : AtP s i l) (hs : r <:+ l) : AtP s (i + (l.length - r.length)) r := by
  obtain ⟨u, rfl⟩ := hs
  refine ⟨?_, ?_⟩
  · rw [← List.drop_drop, h.d]
    simp
  · have := h.e
    simp at this ⊢
    omega
theorem AtP.tail {s : ByteArray} {i : Nat} {l : Bs} (h : AtP s i l) (hn : l ≠ []) : AtP s (i + 1) l.tail := by
  cases l with
  | nil => exact absurd rfl hn
  | cons x t => exact h.step
theorem AtP.ext {s : ByteArray} {i j : Nat} {l r : Bs} (h : AtP s i l) (k : AtP s j r) (hij : i ≤ j) : (s.extract i j).data.toList = l.take (j - i) := by
  rw [ByteArray.data_extract, Array.toList_extract, List.extract_eq_take_drop, h.d]
set_option maxRecDepth 100000 in
theorem tdigit_any {s : ByteArray} {i : Nat} {l : Bs} (h : AtP s i l) (hs : s.size ≤ 1000000) (w : World) : Calls Try.prog 19 #[.string s, .int .i64 (i : Nat)] w fun e w' => e = .returned (.bool (decide (48 ≤ hd l ∧ hd l ≤ 57))) ∧ w' = w := by
  have hsI : (s.size : Int) ≤ 1000000 := by omega
  have he := h.e
  cases l with
  | nil =>
    have hI : ¬ (i : Int) < s.size := by simp at he; omega
    have e0 : decide (48 ≤ hd [] ∧ hd [] ≤ 57) = false := by decide
    rw [e0]
    go_enter Try.func19, Try.ntmps19
    go_wp2
    go_ret
    exact ⟨rfl, rfl⟩
  | cons x t =>
    obtain ⟨hi, hb⟩ := h.byte
    have hI : (i : Int) < s.size := by omega
    have hx : (s[i]'hi).toNat = x.toNat := by rw [hb]
    have hsz : x.toNat < 256 := x.toNat_lt
    show Calls _ _ _ _ fun e w' => e = .returned (.bool (decide (48 ≤ x.toNat ∧ x.toNat ≤ 57))) ∧ w' = w
    clear he h hb
    generalize x.toNat = k at *
    by_cases h1 : 48 ≤ k
    · have h1I : (48 : Int) ≤ (k : Int) := by omega
      by_cases h2 : k ≤ 57
      · have h2I : (k : Int) ≤ 57 := by omega
        rw [decide_eq_true (show 48 ≤ k ∧ k ≤ 57 from ⟨h1, h2⟩)]
        go_enter Try.func19, Try.ntmps19
        go_wp2
        go_ret
        exact ⟨by simp [h1I, h2I], rfl⟩
      · have h2I : ¬ (k : Int) ≤ 57 := by omega
        rw [decide_eq_false (show ¬ (48 ≤ k ∧ k ≤ 57) from fun hh => h2 hh.2)]
        go_enter Try.func19, Try.ntmps19
        go_wp2
        go_ret
        exact ⟨by simp [h1I, h2I], rfl⟩
    · have h1I : ¬ (48 : Int) ≤ (k : Int) := by omega
      rw [decide_eq_false (show ¬ (48 ≤ k ∧ k ≤ 57) from fun hh => h1 hh.1)]
      go_enter Try.func19, Try.ntmps19
      go_wp2
      go_ret
      exact ⟨by simp [h1I], rfl⟩
set_option maxRecDepth 100000 in
theorem tis_any {s : ByteArray} {i : Nat} {l : Bs} (h : AtP s i l) (hs : s.size ≤ 1000000) (c : Nat) (hc : c < 256) (w : World) : Calls Try.prog 18 #[.string s, .int .i64 (i : Nat), .int .u8 (c : Nat)] w fun e w' => e = .returned (.bool (decide (hd l = c))) ∧ w' = w := by
  have hsI : (s.size : Int) ≤ 1000000 := by omega
  have he := h.e
  cases l with
  | nil =>
    have hI : ¬ (i : Int) < s.size := by simp at he; omega
    rw [decide_eq_false (show ¬ hd [] = c from by simp [hd]; omega)]
    go_enter Try.func18, Try.ntmps18
    go_wp2
    go_ret
    exact ⟨rfl, rfl⟩
  | cons x t =>
    obtain ⟨hi, hb⟩ := h.byte
    have hI : (i : Int) < s.size := by omega
    have hx : (s[i]'hi).toNat = x.toNat := by rw [hb]
    show Calls _ _ _ _ fun e w' => e = .returned (.bool (decide (x.toNat = c))) ∧ w' = w
    clear he h hb
    generalize x.toNat = k at *
    by_cases hk : k = c
    · subst hk
      rw [decide_eq_true rfl]
      go_enter Try.func18, Try.ntmps18
      go_wp2
      go_ret
      exact ⟨by simp, rfl⟩
    · rw [decide_eq_false hk]
      have hkI : ((k : Int) == (c : Int)) = false := by simp; omega
      go_enter Try.func18, Try.ntmps18
      go_wp2
      go_ret
      exact ⟨by simp [hkI], rfl⟩
set_option maxRecDepth 100000 in
set_option maxHeartbeats 1000000 in
theorem trun_any {s : ByteArray} {i : Nat} {l : Bs} (h : AtP s i l) (hs : s.size ≤ 1000000) (w : World) : Calls Try.prog 20 #[.string s, .int .i64 (i : Nat)] w fun e w' => e = .returned (.int .i64 ((i + (dgs l).length : Nat) : Int)) ∧ w' = w := by
  have hsI : (s.size : Int) ≤ 1000000 := by omega
  have hlen : l.length ≤ 1000000 := by have := h.e; omega
  go_enter Try.func20, Try.ntmps20
  go_wp2_with fail
  go_loopg [1] l.length (fun g iv wr => wr = w ∧ ∃ (j : Nat) (r : Bs), iv = .int .i64 (j : Nat) ∧ r.length = g ∧ AtP s j r ∧ Hid (j + (dgs r).length = i + (dgs l).length))
  case atStart => exact ⟨rfl, i, l, rfl, rfl, h, rfl⟩
  case round =>
    obtain ⟨rfl, j, r, rfl, hg, hj, HJ⟩ := hrel
    have hD := tdigit_any hj hs wr
    have hje := hj.e
    by_cases hd1 : 48 ≤ hd r ∧ hd r ≤ 57
    · rw [decide_eq_true hd1] at hD
      cases r with
      | nil => simp [hd] at hd1
      | cons x t =>
        have hJ2 : Hid (j + 1 + (dgs t).length = i + (dgs l).length) := by
          show _ = _
          rw [← HJ.out, (dgs_yes (x := x) (t := t) hd1).1, List.length_cons]
          omega
        have hj1 := hj.step
        have hjb : (j : Int) ≤ 1000000 := by omega
        clear HJ hj hd1 hje
        go_wp2_with (go_at_call 19; refine hD.mono ?_; rintro e w9 ⟨rfl, hw9⟩; subst w9)
        go_roundg (gk - 1)
        case measure => simp at hg; omega
        case rel => exact ⟨rfl, j + 1, t, by go_num, by simp at hg; omega, hj1, hJ2⟩
    · rw [decide_eq_false hd1] at hD
      have HF : Hid (j = i + (dgs l).length) := by
        show _ = _
        rw [← HJ.out, (dgs_no (l := r) hd1).1]
        rfl
      clear HJ hj hd1 hje
      go_wp2_with (go_at_call 19; refine hD.mono ?_; rintro e w9 ⟨rfl, hw9⟩; subst w9)
      go_ret
      rw [← HF.out]
      exact ⟨rfl, rfl⟩
theorem valD_take (ds : Bs) : ∀ n k, (ds.take k).foldl stepV n ≤ ds.foldl stepV n := by
  intro n k
  conv => rhs; rw [← List.take_append_drop k ds, List.foldl_append]
  exact foldV_ge _ _
set_option maxRecDepth 100000 in
set_option maxHeartbeats 1000000 in
theorem tvalue_any (t : ByteArray) (ht : ∀ x ∈ t.data.toList, dg x.toNat) (hs : t.size ≤ 1000000) (lim : Nat) (hlim : lim ≤ 999999999) (w : World) : Calls Try.prog 21 #[.string t, .int .i64 (lim : Nat)] w fun e w' => e = .returned (.int .i64 (if lim < valD t.data.toList then (-1 : Int) else (valD t.data.toList : Int))) ∧ w' = w := by
  have hsI : (t.size : Int) ≤ 1000000 := by omega
  have hlI : (lim : Int) ≤ 999999999 := by omega
  have hall : AtP t 0 t.data.toList := ⟨by simp, by rw [list_len]; omega⟩
  obtain ⟨R, hR⟩ : ∃ R : Int, R = if lim < valD t.data.toList then (-1 : Int) else (valD t.data.toList : Int) := ⟨_, rfl⟩
  rw [← hR]
  have H1 : Hid (lim < valD t.data.toList → R = -1) := fun h => by rw [hR, if_pos h]
  have H2 : Hid (valD t.data.toList ≤ lim → R = valD t.data.toList) := fun h => by rw [hR, if_neg (by omega)]
  clear hR
  go_enter Try.func21, Try.ntmps21
  go_wp2_with fail
  go_loopg [5, 6] t.size (fun g nv iv wr => wr = w ∧ ∃ (n j : Nat) (r : Bs), nv = .int .i64 (n : Nat) ∧ iv = .int .i64 (j : Nat) ∧ r.length = g ∧ AtP t j r ∧ n ≤ lim ∧ Hid (r.foldl stepV n = valD t.data.toList))
  case atStart => exact ⟨rfl, 0, 0, t.data.toList, rfl, rfl, list_len t, hall, Nat.zero_le _, rfl⟩
  case round =>
    obtain ⟨rfl, n, j, r, rfl, rfl, hg, hj, hn, HV⟩ := hrel
    have hje := hj.e
    have hnI : (n : Int) ≤ lim := by omega
    cases r with
    | nil =>
      have hI : ¬ (j : Int) < t.size := by simp at hje; omega
      have HF : Hid (R = n) := by
        have hv : valD t.data.toList = n := HV.out.symm
        have := H2.out (by omega)
        rw [hv] at this
        exact this
      clear H1 H2 HV hj hje
      go_wp2
      go_ret
      rw [HF.out]
      exact ⟨rfl, rfl⟩
    | cons x r =>
      obtain ⟨hi, hb⟩ := hj.byte
      have hI : (j : Int) < t.size := by omega
      have hxd : dg x.toNat := by
        apply ht
        have := hj.d
        have hm : x ∈ t.data.toList.drop j := by rw [this]; simp
        exact List.mem_of_mem_drop hm
      obtain ⟨d, hd⟩ : ∃ d : Nat, x.toNat = 48 + d := ⟨x.toNat - 48, by unfold dg at hxd; omega⟩
      have hd9 : d ≤ 9 := by unfold dg at hxd; omega
      have hbn : (t[j]'hi).toNat = 48 + d := by rw [hb, hd]
      have hsub : IntKind.u8.wrap (48 + (d : Int) - 48) = (d : Int) := by rw [IntKind.wrap_u8]; omega
      have hV2 : r.foldl stepV (10 * n + d) = valD t.data.toList := by
        have := HV.out
        rw [List.foldl_cons] at this
        unfold stepV at this
        rw [hd] at this
        have e : 48 + d - 48 = d := by omega
        rw [e] at this
        exact this
      have hj1 := hj.step
      have hjb : (j : Int) ≤ 1000000 := by omega
      have hdI : (d : Int) ≤ 9 := by omega
      by_cases hbig : lim < 10 * n + d
      · have HF : Hid (R = -1) := by
          refine H1.out ?_
          have := foldV_ge r (10 * n + d)
          omega
        have hbI : (lim : Int) < 10 * (n : Int) + d := by omega
        clear H1 H2 HV hj hje hV2 hb hxd hd
        go_wp2
        go_ret
        rw [HF.out]
        exact ⟨rfl, rfl⟩
      · have hbI : ¬ (lim : Int) < 10 * (n : Int) + d := by omega
        have HV2 : Hid (r.foldl stepV (10 * n + d) = valD t.data.toList) := hV2
        clear HV hj hje hV2 hb hxd hd
        go_wp2
        go_roundg (gk - 1)
        case measure => simp at hg; omega
        case rel => exact ⟨rfl, 10 * n + d, j + 1, r, by go_num, by go_num, by simp at hg; omega, hj1, by omega, HV2⟩
end Go.Proofs.Ytpknjcdodnoibaa
