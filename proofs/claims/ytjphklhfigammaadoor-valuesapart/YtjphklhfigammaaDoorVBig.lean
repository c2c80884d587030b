/- The laws' Big: how many descriptors are in one, looked at or not. -/
import Derived.Test.YtjphklhfigammaaDoorVCheck
namespace Go.Proofs.YtjphklhfigammaaDoor
open Go.RowKit
set_option linter.unusedVariables false
set_option linter.unusedSimpArgs false

/-- How many descriptors are in one; in a row of them. -/
def nAll : D → Nat
  | ⟨kind, ty, bits, imag, text, names, parts, hook⟩ => 1 + (parts.map fun x => nAll x).sum
def nRow (l : List D) : Nat := (l.map nAll).sum
theorem nAll_eq (d : D) : nAll d = 1 + nRow d.parts := by
  obtain ⟨kind, ty, bits, imag, text, names, parts, hook⟩ := d
  rw [nAll]; rfl
theorem nRow_take (l : List D) (j : Nat) (x : D) (h : l[j]? = some x) : nRow (l.take (j + 1)) = nRow (l.take j) + nAll x := by
  unfold nRow
  rw [List.take_add_one, h]
  simp
theorem nRow_le (l : List D) (j : Nat) : nRow (l.take j) ≤ nRow l := by
  have e : l = l.take j ++ l.drop j := (List.take_append_drop _ _).symm
  conv => rhs; rw [e]
  unfold nRow
  rw [List.map_append, List.sum_append]
  omega
set_option maxRecDepth 1000000 in
set_option maxHeartbeats 4000000 in
theorem left_any : ∀ (n : Nat) (d : D) (nv pv : Value) (b : Int) (w : World), RdC n w nv pv d → 1 ≤ b → b ≤ 400 →
    Calls Tryd.prog 34 #[DV d nv pv, .int .i64 b] w fun e w' => e = .returned (.int .i64 (max 0 (b - nAll d))) ∧ Below w.heap.size w w' := by
  intro n
  induction n with
  | zero => intro d nv pv b w h; exact h.elim
  | succ n ih =>
    intro d nv pv b w hr hb1 hb2
    obtain ⟨na, nc, pa, pc, rfl, rfl⟩ := hr.slices
    obtain ⟨-, -, a, cap, hsl, hl1, hl2, hcell⟩ := hr
    obtain ⟨rfl, -, rfl⟩ := Value.slice.inj hsl
    unfold maxLen at hl2
    have HA : Hid (nAll d = 1 + nRow d.parts) := nAll_eq d
    obtain ⟨W1, hW1⟩ : ∃ W1, W1 = w.alloc (.cells #[.int .i64 d.kind, .string d.ty, .int .u64 d.bits, .int .u64 d.imag, .string d.text, .slice na d.names.length nc, .slice pa d.parts.length pc, .int .i64 d.hook] 26) := ⟨_, rfl⟩
    have hbe1 : Below w.heap.size w W1 := by rw [hW1]; exact (Below.refl _ _).alloc (Nat.le_refl _) _
    go_enter Tryd.func34, Tryd.ntmps34
    go_wp2
    rw [← hW1]
    clear hW1
    go_loopg [1, 6, 12] d.parts.length (fun gg bv z i wr => ∃ (j : Nat) (c : Int), bv = .int .i64 c ∧ i = .int .i64 j ∧ j + gg = d.parts.length ∧ Below w.heap.size w wr ∧ 0 ≤ c ∧ c ≤ 400 ∧ Hid (c = max 0 (b - 1 - nRow (d.parts.take j))))
    case atStart => exact ⟨0, b - 1, rfl, rfl, Nat.zero_add _, hbe1, by omega, by omega, by show _ = _; simp [nRow]; omega⟩
    case round =>
      obtain ⟨j, c, rfl, rfl, hjg, hbl, hc0, hc4, HC⟩ := hrel
      by_cases hlt : j < d.parts.length
      · have hltI : (j : Int) < d.parts.length := by omega
        obtain ⟨x, hx⟩ : ∃ x, d.parts[j]? = some x := ⟨d.parts[j], List.getElem?_eq_getElem hlt⟩
        obtain ⟨bb, off, nv', pv', rfl, h8, hr'⟩ := hcell j x hx
        obtain ⟨na', nc', pa', pc', rfl, rfl⟩ := hr'.slices
        obtain ⟨c0, c1, c2, c3, c4, c5, c6, c7⟩ := h8.up hbl
        have HN : Hid (nRow (d.parts.take (j + 1)) = nRow (d.parts.take j) + nAll x) := nRow_take _ j x hx
        have HL : Hid (nRow (d.parts.take j) ≤ nRow d.parts) := nRow_le _ j
        have hsz := hbl.size
        obtain ⟨Y2, hY2⟩ : ∃ Y2, Y2 = wr.alloc (.cells #[.int .i64 x.kind, .string x.ty, .int .u64 x.bits, .int .u64 x.imag, .string x.text, .slice na' x.names.length nc', .slice pa' x.parts.length pc', .int .i64 x.hook] 26) := ⟨_, rfl⟩
        have hbY : Below w.heap.size w Y2 := by rw [hY2]; exact hbl.alloc hsz _
        by_cases hpos : c ≤ 0
        · have HF : Hid (max 0 (b - nAll d) = 0) := by
            have h1 := HC.out; have h2 := HL.out; have h3 := HA.out
            show _ = _
            omega
          clear hcell h8 hr' ih
          go_wp2
          go_ret
          rw [HF.out, ← hY2]
          exact ⟨rfl, hbY⟩
        · have hrec := ih x _ _ c Y2 (hr'.up hbY) (by omega) hc4
          have HC2 : Hid (max 0 (c - nAll x) = max 0 (b - 1 - nRow (d.parts.take (j + 1)))) := by
            have h1 := HC.out; have h2 := HN.out
            show _ = _
            omega
          obtain ⟨m, hm, hm0, hm4⟩ : ∃ m : Int, max 0 (c - nAll x) = m ∧ 0 ≤ m ∧ m ≤ 400 := ⟨_, rfl, by omega, by omega⟩
          rw [hm] at hrec HC2
          clear hcell h8 hr' ih hm
          go_wp2_with fail
          rw [← hY2]
          refine hrec.mono ?_
          rintro e Z ⟨rfl, hbZ⟩
          have hbw : Below w.heap.size w Z := hbY.trans (hbZ.mono hbY.size)
          clear hrec c0 c1 c2 c3 c4 c5 c6 c7 HC
          go_wp2
          go_roundg (gk - 1)
          case measure => omega
          case rel => exact ⟨j + 1, m, rfl, by go_num, by omega, hbw, hm0, hm4, HC2⟩
      · have hltI : ¬ (j : Int) < d.parts.length := by omega
        have HF : Hid (max 0 (b - nAll d) = c) := by
          have h1 := HC.out; have h3 := HA.out
          rw [List.take_of_length_le (by omega)] at h1
          show _ = _
          omega
        clear hcell ih
        go_wp2
        go_ret
        rw [HF.out]
        exact ⟨rfl, hbl⟩
set_option maxRecDepth 1000000 in
theorem big_any (n : Nat) (d : D) (nv pv : Value) (w : World) (hr : RdC n w nv pv d) :
    Calls Tryd.prog 19 #[DV d nv pv] w fun e w' => e = .returned (.bool (decide (400 ≤ nAll d))) ∧ Below w.heap.size w w' := by
  obtain ⟨na, nc, pa, pc, rfl, rfl⟩ := hr.slices
  obtain ⟨W1, hW1⟩ : ∃ W1, W1 = w.alloc (.cells #[.int .i64 d.kind, .string d.ty, .int .u64 d.bits, .int .u64 d.imag, .string d.text, .slice na d.names.length nc, .slice pa d.parts.length pc, .int .i64 d.hook] 26) := ⟨_, rfl⟩
  have hb1 : Below w.heap.size w W1 := by rw [hW1]; exact (Below.refl _ _).alloc (Nat.le_refl _) _
  have hl := left_any n d _ _ 400 W1 (hr.up hb1) (by omega) (by omega)
  clear hr
  by_cases hn : 400 ≤ nAll d
  · have e : max 0 (400 - (nAll d : Int)) = 0 := by omega
    rw [e] at hl
    go_enter Tryd.func19, Tryd.ntmps19
    go_wp2_with fail
    rw [← hW1]
    refine hl.mono ?_
    rintro e V ⟨rfl, hV⟩
    go_wp2
    go_ret
    exact ⟨by simp [hn], hb1.trans (hV.mono hb1.size)⟩
  · obtain ⟨m, hm, hm0⟩ : ∃ m : Int, max 0 (400 - (nAll d : Int)) = m ∧ 0 < m := ⟨_, rfl, by omega⟩
    rw [hm] at hl
    have HE : Hid (decide (400 ≤ nAll d) = false) := by show _ = _; simp; omega
    clear hm hn
    go_enter Tryd.func19, Tryd.ntmps19
    go_wp2_with fail
    rw [← hW1]
    refine hl.mono ?_
    rintro e V ⟨rfl, hV⟩
    go_wp2
    go_ret
    rw [HE.out]
    refine ⟨?_, hb1.trans (hV.mono hb1.size)⟩
    first | rfl | simp <;> omega
end Go.Proofs.YtjphklhfigammaaDoor
