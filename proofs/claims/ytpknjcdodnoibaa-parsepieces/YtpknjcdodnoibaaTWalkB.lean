/- The document's parse: index. -/
import Derived.Test.YtpknjcdodnoibaaTWalkA
namespace Go.Proofs.Ytpknjcdodnoibaa
open Go.RowKit
set_option linter.unusedVariables false
set_option linter.unusedSimpArgs false

abbrev ixA (x : Ix) : Value := .agg #[.int .i64 (x.k : Nat), .int .i64 (x.n : Nat)]
/-- What index answers. -/
def idxV (l : Bs) (i : Nat) : Value := .tuple #[ixA (idx l).1, .int .i64 ((i + (l.length - (idx l).2.length) : Nat) : Int), .bool (decide (hd l = 91))]
set_option maxRecDepth 100000 in
set_option maxHeartbeats 2000000 in
theorem tindex_any {s : ByteArray} {i : Nat} {l : Bs} (h : AtP s i l) (hs : s.size ≤ 1000000) (w : World) : Calls Try.prog 17 #[.string s, .int .i64 (i : Nat)] w fun e w' => e = .returned (idxV l i) ∧ Below w.heap.size w w' := by
  have hsI : (s.size : Int) ≤ 1000000 := by omega
  have he := h.e
  have hiI : (i : Int) ≤ 1000000 := by omega
  have k91 := fun w => tis_any h hs 91 (by omega) w
  obtain ⟨W1, hW1⟩ : ∃ W1, W1 = w.alloc (.cells #[.int .i64 0, .int .i64 0] 30) := ⟨_, rfl⟩
  have x1 : Bx W1 w.heap.size [.int .i64 0, .int .i64 0] := by rw [hW1]; exact Bx.new _ [_, _] _
  have b1 : Below w.heap.size w W1 := by rw [hW1]; exact (Below.refl _ _).alloc (Nat.le_refl _) _
  have c0 := x1.c 0 _ rfl
  have c1 := x1.c 1 _ rfl
  have z0 := x1.z 0
  have z1 := x1.z 1
  have fin : ∀ a b : Value, Below w.heap.size w ((W1.setCell ⟨w.heap.size, 0, none⟩ a).setCell ⟨w.heap.size, 1, none⟩ b) := fun a b => (b1.setCell (Nat.le_refl _) _).setCell (Nat.le_refl _) _
  have rd : ∀ a b : Value, ((W1.setCell ⟨w.heap.size, 0, none⟩ a).setCell ⟨w.heap.size, 1, none⟩ b).cell? ⟨w.heap.size, 0, none⟩ = some a ∧ ((W1.setCell ⟨w.heap.size, 0, none⟩ a).setCell ⟨w.heap.size, 1, none⟩ b).cell? ⟨w.heap.size, 1, none⟩ = some b := by
    intro a b
    have x2 := (x1.set 0 (by simp) a).set 1 (by simp) b
    exact ⟨x2.c 0 _ rfl, x2.c 1 _ rfl⟩
  by_cases h91 : hd l = 91
  · rw [decide_eq_true h91] at k91
    obtain ⟨x, el, hx⟩ := hd_lt h91 (by omega)
    have hne : l ≠ [] := by rw [el]; simp
    have h1 := h.tail hne
    have hll : l.length = l.tail.length + 1 := by rw [el]; simp
    have hix : idx l = if dgs l.tail ≠ [] ∧ hd (aft l.tail) = 93 then (ixG (dgs l.tail), (aft l.tail).tail) else (ix2, l.tail) := by unfold idx; rw [if_pos h91]
    obtain ⟨t, ht⟩ : ∃ t, t = l.tail := ⟨_, rfl⟩
    rw [← ht] at h1 hll hix
    have kr := fun w => trun_any h1 hs w
    have h2 := h1.suf (suf_aft t)
    have hda := congrArg List.length (dgs_aft t)
    rw [List.length_append] at hda
    rw [show t.length - (aft t).length = (dgs t).length by omega] at h2
    have k93 := fun w => tis_any h2 hs 93 (by omega) w
    have h2e := h2.e
    have hcut : (s.extract (i + 1) (i + 1 + (dgs t).length)).data.toList = dgs t := by
      rw [h1.ext h2 (by omega), show i + 1 + (dgs t).length - (i + 1) = (dgs t).length by omega]
      have h3 := List.take_left (l₁ := dgs t) (l₂ := aft t)
      rw [dgs_aft t] at h3
      exact h3
    have hall := dgs_all t
    have hval := fun w => tvalue_any (s.extract (i + 1) (i + 1 + (dgs t).length)) (by rw [hcut]; exact hall) (by rw [ByteArray.size_extract]; omega) 999999999 (by omega) w
    rw [hcut] at hval
    have h9 : (dgs t).length ≤ 9 → valD (dgs t) ≤ 999999999 := by
      intro h
      have := foldV_lt (dgs t) hall 0 0 (by omega)
      have h10 : 10 ^ (0 + (dgs t).length) ≤ 10 ^ 9 := Nat.pow_le_pow_right (by omega) (by omega)
      unfold valD
      omega
    have hD0 : dgs t ≠ [] ↔ 0 < (dgs t).length := List.length_pos_iff.symm
    obtain ⟨D, hD⟩ : ∃ D : Nat, D = (dgs t).length := ⟨_, rfl⟩
    rw [← hD] at kr h2e hval h9 hD0 h2
    rw [← hD] at hda
    have k93' : ∀ w, Calls Try.prog 18 #[.string s, .int .i64 ((i + 1 + D : Nat) : Int), .int .u8 ((93 : Nat) : Int)] w fun e w' => e = .returned (.bool (decide (hd (aft t) = 93))) ∧ w' = w := fun w => by rw [hD]; exact k93 w
    clear k93
    have hDI : (D : Int) ≤ 1000000 := by omega
    have hbd : (i : Int) + 1 + (D : Int) ≤ s.size := by omega
    obtain ⟨DS, hDS⟩ : ∃ DS, DS = s.extract (i + 1) (i + 1 + D) := ⟨_, rfl⟩
    rw [hD, ← hD] at hDS
    have hDS2 := hDS.symm
    rw [← hD] at hcut
    have hval2 : ∀ w, Calls Try.prog 21 #[.string DS, .int .i64 999999999] w fun e w' => e = .returned (.int .i64 (if 999999999 < valD (dgs t) then (-1 : Int) else (valD (dgs t) : Int))) ∧ w' = w := fun w => by rw [hDS]; exact hval w
    clear hval
    simp only [Int.natCast_add, Int.natCast_one] at kr k93'
    have k91' : ∀ w, Calls Try.prog 18 #[.string s, .int .i64 (i : Nat), .int .u8 91] w fun e w' => e = .returned (.bool true) ∧ w' = w := fun w => k91 w
    have k93 : ∀ w, Calls Try.prog 18 #[.string s, .int .i64 ((i : Int) + 1 + (D : Int)), .int .u8 93] w fun e w' => e = .returned (.bool (decide (hd (aft t) = 93))) ∧ w' = w := fun w => k93' w
    clear k91 k93'
    by_cases hc : dgs t ≠ [] ∧ hd (aft t) = 93
    · rw [if_pos hc] at hix
      rw [decide_eq_true hc.2] at k93
      have hDp : 0 < D := hD0.1 hc.1
      have hat : (aft t).length = (aft t).tail.length + 1 := by
        obtain ⟨y, ey, -⟩ := hd_lt hc.2 (by omega)
        rw [ey]; simp
      obtain ⟨R, hR⟩ : ∃ R : Int, R = if 999999999 < valD (dgs t) then (-1 : Int) else (valD (dgs t) : Int) := ⟨_, rfl⟩
      rw [← hR] at hval2
      have hpos : i + (l.length - (aft t).tail.length) = i + 1 + D + 1 := by omega
      have hDpI : (0 : Int) < D := by omega
      have hneI : ((i : Int) + 1 + (D : Int) == (i : Int) + 1) = false := by simp; omega
      by_cases hok : D ≤ 9 ∧ 0 < valD (dgs t)
      · obtain ⟨N, hN⟩ : ∃ N, N = valD (dgs t) := ⟨_, rfl⟩
        have hRN : R = (N : Int) := by rw [hR, if_neg (by have := h9 hok.1; omega), hN]
        have hV : idxV l i = .tuple #[ixA ⟨1, N⟩, .int .i64 ((i : Int) + 1 + D + 1), .bool true] := by
          unfold idxV
          rw [hix, decide_eq_true h91]
          dsimp only
          rw [hpos]
          unfold ixG
          rw [if_pos ⟨by omega, hok.2⟩, hN]
          rfl
        rw [hV]
        subst hRN
        have hN1 : (1 : Int) ≤ N := by omega
        have h9I : (D : Int) ≤ 9 := by omega
        have hNb : (N : Int) ≤ 999999999 := by have := h9 hok.1; omega
        clear hV hR hix hcut hall hD0 hD h9 hda hc hat hN hok hpos el hll h2 h1 h he ht hDS h2e hne hx h91
        go_enter Try.func17, Try.ntmps17
        go_upto_region 1 with fail
        rw [← hW1]
        clear hW1
        go_wp2_with (first
          | (go_at_call_of 18 (91 : Int); refine (k91' _).mono ?_; rintro e w9 ⟨rfl, hw9⟩; subst w9)
          | (go_at_call 18; refine (k93 _).mono ?_; rintro e w9 ⟨rfl, hw9⟩; subst w9)
          | (go_at_call 20; refine (kr _).mono ?_; rintro e w9 ⟨rfl, hw9⟩; subst w9)
          | (go_at_call 21; refine (hval2 _).mono ?_; rintro e w9 ⟨rfl, hw9⟩; subst w9))
        obtain ⟨r0, r1⟩ := rd (.int .i64 1) (.int .i64 (N : Nat))
        refine bodyPost_ret (by simp [results, Try.results17, go_sem, r0, r1]; rfl) rfl ?_
        exact ⟨rfl, fin _ _⟩
      · have hV : idxV l i = .tuple #[ixA ix2, .int .i64 ((i : Int) + 1 + D + 1), .bool true] := by
          unfold idxV
          rw [hix, decide_eq_true h91]
          dsimp only
          rw [hpos]
          unfold ixG
          rw [if_neg (by rw [← hD]; exact hok)]
          rfl
        rw [hV]
        by_cases hR1 : R < 1
        · clear hV hR hix hcut hall hD0 hD h9 hda hc hat hok hpos el hll h2 h1 h he ht hDS h2e hne hx h91
          go_enter Try.func17, Try.ntmps17
          go_upto_region 1 with fail
          rw [← hW1]
          clear hW1
          go_wp2_with (first
            | (go_at_call_of 18 (91 : Int); refine (k91' _).mono ?_; rintro e w9 ⟨rfl, hw9⟩; subst w9)
            | (go_at_call 18; refine (k93 _).mono ?_; rintro e w9 ⟨rfl, hw9⟩; subst w9)
            | (go_at_call 20; refine (kr _).mono ?_; rintro e w9 ⟨rfl, hw9⟩; subst w9)
            | (go_at_call 21; refine (hval2 _).mono ?_; rintro e w9 ⟨rfl, hw9⟩; subst w9))
          obtain ⟨r0, r1⟩ := rd (.int .i64 2) (.int .i64 0)
          refine bodyPost_ret (by simp [results, Try.results17, go_sem, r0, r1]; rfl) rfl ?_
          exact ⟨rfl, fin _ _⟩
        · have hD9 : (9 : Int) < D := by
            rcases Nat.lt_or_ge 9 D with h' | h'
            · omega
            · exfalso
              have h0 : valD (dgs t) = 0 := by
                rcases Nat.eq_zero_or_pos (valD (dgs t)) with h0 | h0
                · exact h0
                · exact absurd ⟨h', h0⟩ hok
              rw [h0] at hR
              simp at hR
              omega
          clear hV hR hix hcut hall hD0 hD h9 hda hc hat hok hpos el hll h2 h1 h he ht hDS h2e hne hx h91
          go_enter Try.func17, Try.ntmps17
          go_upto_region 1 with fail
          rw [← hW1]
          clear hW1
          go_wp2_with (first
            | (go_at_call_of 18 (91 : Int); refine (k91' _).mono ?_; rintro e w9 ⟨rfl, hw9⟩; subst w9)
            | (go_at_call 18; refine (k93 _).mono ?_; rintro e w9 ⟨rfl, hw9⟩; subst w9)
            | (go_at_call 20; refine (kr _).mono ?_; rintro e w9 ⟨rfl, hw9⟩; subst w9)
            | (go_at_call 21; refine (hval2 _).mono ?_; rintro e w9 ⟨rfl, hw9⟩; subst w9))
          obtain ⟨r0, r1⟩ := rd (.int .i64 2) (.int .i64 0)
          refine bodyPost_ret (by simp [results, Try.results17, go_sem, r0, r1]; rfl) rfl ?_
          exact ⟨rfl, fin _ _⟩
    · rw [if_neg hc] at hix
      have hV : idxV l i = .tuple #[ixA ix2, .int .i64 ((i : Int) + 1), .bool true] := by
        unfold idxV
        rw [hix, decide_eq_true h91]
        dsimp only
        rw [show i + (l.length - t.length) = i + 1 by omega]
        rfl
      rw [hV]
      rcases Nat.eq_zero_or_pos D with hD1 | hD1
      · have hneI : ((i : Int) + 1 + (D : Int) == (i : Int) + 1) = true := by simp; omega
        clear hV hix hcut hall hD0 hD h9 hda hc el hll h2 h1 h he ht hDS h2e hne hx h91
        subst hD1
        simp only [Int.natCast_zero, Int.add_zero] at *
        go_enter Try.func17, Try.ntmps17
        go_upto_region 1 with fail
        rw [← hW1]
        clear hW1
        go_wp2_with (first
          | (go_at_call_of 18 (91 : Int); refine (k91' _).mono ?_; rintro e w9 ⟨rfl, hw9⟩; subst w9)
          | (go_at_call 18; refine (k93 _).mono ?_; rintro e w9 ⟨rfl, hw9⟩; subst w9)
          | (go_at_call 20; refine (kr _).mono ?_; rintro e w9 ⟨rfl, hw9⟩; subst w9)
          | (go_at_call 21; refine (hval2 _).mono ?_; rintro e w9 ⟨rfl, hw9⟩; subst w9))
        obtain ⟨r0, r1⟩ := rd (.int .i64 2) (.int .i64 0)
        refine bodyPost_ret (by simp [results, Try.results17, go_sem, r0, r1]; rfl) rfl ?_
        exact ⟨rfl, fin _ _⟩
      · have hneI : ((i : Int) + 1 + (D : Int) == (i : Int) + 1) = false := by simp; omega
        rw [decide_eq_false (fun hh => hc ⟨hD0.2 hD1, hh⟩)] at k93
        have hDpI : (0 : Int) < D := by omega
        clear hV hix hcut hall hD0 hD h9 hda hc el hll h2 h1 h he ht hDS h2e hne hx h91
        go_enter Try.func17, Try.ntmps17
        go_upto_region 1 with fail
        rw [← hW1]
        clear hW1
        go_wp2_with (first
          | (go_at_call_of 18 (91 : Int); refine (k91' _).mono ?_; rintro e w9 ⟨rfl, hw9⟩; subst w9)
          | (go_at_call 18; refine (k93 _).mono ?_; rintro e w9 ⟨rfl, hw9⟩; subst w9)
          | (go_at_call 20; refine (kr _).mono ?_; rintro e w9 ⟨rfl, hw9⟩; subst w9)
          | (go_at_call 21; refine (hval2 _).mono ?_; rintro e w9 ⟨rfl, hw9⟩; subst w9))
        obtain ⟨r0, r1⟩ := rd (.int .i64 2) (.int .i64 0)
        refine bodyPost_ret (by simp [results, Try.results17, go_sem, r0, r1]; rfl) rfl ?_
        exact ⟨rfl, fin _ _⟩
  · rw [decide_eq_false h91] at k91
    have hV : idxV l i = .tuple #[ixA ix0, .int .i64 (i : Nat), .bool false] := by
      unfold idxV idx
      rw [if_neg h91, decide_eq_false h91]
      simp
    rw [hV]
    clear hV
    go_enter Try.func17, Try.ntmps17
    go_upto_region 1 with fail
    rw [← hW1]
    clear hW1
    go_wp2_with (go_at_call 18; refine (k91 _).mono ?_; rintro e w9 ⟨rfl, hw9⟩; subst w9)
    obtain ⟨r0, r1⟩ := rd (.int .i64 0) (.int .i64 0)
    refine bodyPost_ret (by simp [results, Try.results17, go_sem, r0, r1]; rfl) rfl ?_
    exact ⟨rfl, fin _ _⟩
end Go.Proofs.Ytpknjcdodnoibaa
