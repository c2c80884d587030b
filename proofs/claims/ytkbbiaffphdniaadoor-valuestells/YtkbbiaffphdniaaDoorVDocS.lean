/- The document's Size and Deep. -/
import Derived.Test.YtkbbiaffphdniaaDoorVBig
namespace Go.Proofs.YtkbbiaffphdniaaDoor
open Go.RowKit
set_option linter.unusedVariables false
set_option linter.unusedSimpArgs false

theorem nAll_pos (d : D) : 1 ≤ nAll d := by rw [nAll_eq]; omega
theorem nAll_part {d x : D} {j : Nat} (h : d.parts[j]? = some x) : nRow (d.parts.take j) + nAll x + 1 ≤ nAll d := by
  have h1 := nRow_take _ j x h
  have h2 := nRow_le d.parts (j + 1)
  have h3 := nAll_eq d
  omega
set_option maxRecDepth 1000000 in
set_option maxHeartbeats 4000000 in
theorem osize_any : ∀ (n : Nat) (d : D) (nv pv : Value) (w : World), RdC n w nv pv d → nAll d ≤ 1000000 →
    Calls Tryd.prog 20 #[DV d nv pv] w fun e w' => e = .returned (.int .i64 (nAll d)) ∧ Below w.heap.size w w' := by
  intro n
  induction n with
  | zero => intro d nv pv w h; exact h.elim
  | succ n ih =>
    intro d nv pv w hr hb
    obtain ⟨na, nc, pa, pc, rfl, rfl⟩ := hr.slices
    obtain ⟨-, -, a, cap, hsl, hl1, hl2, hcell⟩ := hr
    obtain ⟨rfl, -, rfl⟩ := Value.slice.inj hsl
    unfold maxLen at hl2
    have HA : Hid (nAll d = 1 + nRow d.parts) := nAll_eq d
    have HB : Hid (nAll d ≤ 1000000) := hb
    clear hb
    obtain ⟨W1, hW1⟩ : ∃ W1, W1 = w.alloc (.cells #[.int .i64 d.kind, .string d.ty, .int .u64 d.bits, .int .u64 d.imag, .string d.text, .slice na d.names.length nc, .slice pa d.parts.length pc, .int .i64 d.hook] 26) := ⟨_, rfl⟩
    have hbe1 : Below w.heap.size w W1 := by rw [hW1]; exact (Below.refl _ _).alloc (Nat.le_refl _) _
    go_enter Tryd.func20, Tryd.ntmps20
    go_wp2
    rw [← hW1]
    clear hW1
    go_loopg [3, 5, 9] d.parts.length (fun gg cv z i wr => ∃ (j : Nat) (c : Int), cv = .int .i64 c ∧ i = .int .i64 j ∧ j + gg = d.parts.length ∧ Below w.heap.size w wr ∧ 0 ≤ c ∧ c ≤ 1000000 ∧ Hid (c = 1 + nRow (d.parts.take j)))
    case atStart => exact ⟨0, 1, rfl, rfl, Nat.zero_add _, hbe1, by omega, by omega, by show _ = _; simp [nRow]⟩
    case round =>
      obtain ⟨j, c, rfl, rfl, hjg, hbl, hc0, hc4, HC⟩ := hrel
      by_cases hlt : j < d.parts.length
      · have hltI : (j : Int) < d.parts.length := by omega
        obtain ⟨x, hx⟩ : ∃ x, d.parts[j]? = some x := ⟨d.parts[j], List.getElem?_eq_getElem hlt⟩
        obtain ⟨bb, off, nv', pv', rfl, h8, hr'⟩ := hcell j x hx
        obtain ⟨na', nc', pa', pc', rfl, rfl⟩ := hr'.slices
        obtain ⟨c0, c1, c2, c3, c4, c5, c6, c7⟩ := h8.up hbl
        have HN : Hid (nRow (d.parts.take (j + 1)) = nRow (d.parts.take j) + nAll x) := nRow_take _ j x hx
        have HP := nAll_part hx
        have hsz := hbl.size
        obtain ⟨Y2, hY2⟩ : ∃ Y2, Y2 = wr.alloc (.cells #[.int .i64 x.kind, .string x.ty, .int .u64 x.bits, .int .u64 x.imag, .string x.text, .slice na' x.names.length nc', .slice pa' x.parts.length pc', .int .i64 x.hook] 26) := ⟨_, rfl⟩
        have hbY : Below w.heap.size w Y2 := by rw [hY2]; exact hbl.alloc hsz _
        have hrec := ih x _ _ Y2 (hr'.up hbY) (by have := HB.out; omega)
        obtain ⟨m, hm, hm0, hm4, hm5⟩ : ∃ m : Int, (nAll x : Int) = m ∧ 0 ≤ m ∧ m ≤ 1000000 ∧ c + m ≤ 1000000 := ⟨_, rfl, by omega, by have := HB.out; omega, by have h1 := HB.out; have h2 := HC.out; omega⟩
        have HC2 : Hid (c + m = 1 + nRow (d.parts.take (j + 1))) := by
          have h1 := HC.out; have h2 := HN.out
          show _ = _
          omega
        rw [hm] at hrec
        clear hcell h8 hr' ih hm HP
        go_wp2_with fail
        rw [← hY2]
        refine hrec.mono ?_
        rintro e Z ⟨rfl, hbZ⟩
        have hbw : Below w.heap.size w Z := hbY.trans (hbZ.mono hbY.size)
        clear hrec c0 c1 c2 c3 c4 c5 c6 c7 HC
        go_wp2
        go_roundg (gk - 1)
        case measure => omega
        case rel => exact ⟨j + 1, c + m, by go_num, by go_num, by omega, hbw, by omega, hm5, HC2⟩
      · have hltI : ¬ (j : Int) < d.parts.length := by omega
        have HF : Hid ((nAll d : Int) = c) := by
          have h1 := HC.out; have h3 := HA.out
          rw [List.take_of_length_le (by omega)] at h1
          show _ = _
          omega
        clear hcell ih
        go_wp2
        go_ret
        rw [HF.out]
        exact ⟨rfl, hbl⟩

/-- How deep one is: 1 where it has no parts. -/
def dpF : D → Nat
  | ⟨kind, ty, bits, imag, text, names, parts, hook⟩ => 1 + (parts.map fun x => dpF x).foldl max 0
def dpR (l : List D) : Nat := (l.map dpF).foldl max 0
theorem dpF_eq (d : D) : dpF d = 1 + dpR d.parts := by
  obtain ⟨kind, ty, bits, imag, text, names, parts, hook⟩ := d
  rw [dpF]; rfl
theorem dpR_take (l : List D) (j : Nat) (x : D) (h : l[j]? = some x) : dpR (l.take (j + 1)) = max (dpR (l.take j)) (dpF x) := by
  unfold dpR
  rw [List.take_add_one, h]
  simp [List.foldl_append]
theorem dp_le {W : World} : ∀ (n : Nat) (nv pv : Value) (d : D), RdC n W nv pv d → dpF d ≤ n
  | 0, _, _, _, h => h.elim
  | n + 1, nv, pv, d, h => by
    obtain ⟨-, -, a, cap, -, -, -, h6⟩ := h
    rw [dpF_eq]
    have : ∀ j, j ≤ d.parts.length → dpR (d.parts.take j) ≤ n := by
      intro j
      induction j with
      | zero => intro _; simp [dpR]
      | succ j ih =>
        intro hj
        obtain ⟨x, hx⟩ : ∃ x, d.parts[j]? = some x := ⟨d.parts[j], List.getElem?_eq_getElem (by omega)⟩
        obtain ⟨b, off, nv', pv', -, -, hr⟩ := h6 j x hx
        have h1 := dp_le n nv' pv' x hr
        have h2 := ih (by omega)
        rw [dpR_take _ j x hx]
        omega
    have h9 := this d.parts.length (Nat.le_refl _)
    rw [List.take_length] at h9
    omega
set_option maxRecDepth 1000000 in
set_option maxHeartbeats 4000000 in
theorem odeep_any : ∀ (n : Nat) (d : D) (nv pv : Value) (w : World), RdC n w nv pv d → n ≤ 1000000 →
    Calls Tryd.prog 22 #[DV d nv pv] w fun e w' => e = .returned (.int .i64 (dpF d)) ∧ Below w.heap.size w w' := by
  intro n
  induction n with
  | zero => intro d nv pv w h; exact h.elim
  | succ n ih =>
    intro d nv pv w hr hb
    have HB : Hid (dpF d ≤ 1000000) := Nat.le_trans (dp_le _ _ _ _ hr) hb
    obtain ⟨na, nc, pa, pc, rfl, rfl⟩ := hr.slices
    obtain ⟨-, -, a, cap, hsl, hl1, hl2, hcell⟩ := hr
    obtain ⟨rfl, -, rfl⟩ := Value.slice.inj hsl
    unfold maxLen at hl2
    have HA : Hid (dpF d = 1 + dpR d.parts) := dpF_eq d
    obtain ⟨W1, hW1⟩ : ∃ W1, W1 = w.alloc (.cells #[.int .i64 d.kind, .string d.ty, .int .u64 d.bits, .int .u64 d.imag, .string d.text, .slice na d.names.length nc, .slice pa d.parts.length pc, .int .i64 d.hook] 26) := ⟨_, rfl⟩
    have hbe1 : Below w.heap.size w W1 := by rw [hW1]; exact (Below.refl _ _).alloc (Nat.le_refl _) _
    have hn : n ≤ 1000000 := by omega
    clear hb
    go_enter Tryd.func22, Tryd.ntmps22
    go_wp2
    rw [← hW1]
    clear hW1
    go_loopg [3, 5, 6, 10] d.parts.length (fun gg cv z y i wr => ∃ (j : Nat) (c : Int), cv = .int .i64 c ∧ i = .int .i64 j ∧ j + gg = d.parts.length ∧ Below w.heap.size w wr ∧ 0 ≤ c ∧ c ≤ 1000000 ∧ Hid (c = dpR (d.parts.take j)))
    case atStart => exact ⟨0, 0, rfl, rfl, Nat.zero_add _, hbe1, by omega, by omega, by show _ = _; simp [dpR]⟩
    case round =>
      obtain ⟨j, c, rfl, rfl, hjg, hbl, hc0, hc4, HC⟩ := hrel
      by_cases hlt : j < d.parts.length
      · have hltI : (j : Int) < d.parts.length := by omega
        obtain ⟨x, hx⟩ : ∃ x, d.parts[j]? = some x := ⟨d.parts[j], List.getElem?_eq_getElem hlt⟩
        obtain ⟨bb, off, nv', pv', rfl, h8, hr'⟩ := hcell j x hx
        have HD := dp_le _ _ _ _ hr'
        obtain ⟨na', nc', pa', pc', rfl, rfl⟩ := hr'.slices
        obtain ⟨c0, c1, c2, c3, c4, c5, c6, c7⟩ := h8.up hbl
        have HN : Hid (dpR (d.parts.take (j + 1)) = max (dpR (d.parts.take j)) (dpF x)) := dpR_take _ j x hx
        have hsz := hbl.size
        obtain ⟨Y2, hY2⟩ : ∃ Y2, Y2 = wr.alloc (.cells #[.int .i64 x.kind, .string x.ty, .int .u64 x.bits, .int .u64 x.imag, .string x.text, .slice na' x.names.length nc', .slice pa' x.parts.length pc', .int .i64 x.hook] 26) := ⟨_, rfl⟩
        have hbY : Below w.heap.size w Y2 := by rw [hY2]; exact hbl.alloc hsz _
        have hrec := ih x _ _ Y2 (hr'.up hbY) hn
        obtain ⟨m, hm, hm0, hm4⟩ : ∃ m : Int, (dpF x : Int) = m ∧ 0 ≤ m ∧ m ≤ 1000000 := ⟨_, rfl, by omega, by omega⟩
        by_cases hcm : c < m
        · have HC2 : Hid (m = dpR (d.parts.take (j + 1))) := by
            have h1 := HC.out; have h2 := HN.out
            show _ = _
            omega
          rw [hm] at hrec
          clear hcell h8 hr' ih hm HD
          go_wp2_with fail
          rw [← hY2]
          refine hrec.mono ?_
          rintro e Z ⟨rfl, hbZ⟩
          have hbw : Below w.heap.size w Z := hbY.trans (hbZ.mono hbY.size)
          clear hrec c0 c1 c2 c3 c4 c5 c6 c7 HC
          go_wp2
          go_roundg (gk - 1)
          case measure => omega
          case rel => exact ⟨j + 1, m, by go_num, by go_num, by omega, hbw, by omega, hm4, HC2⟩
        · have HC2 : Hid (c = dpR (d.parts.take (j + 1))) := by
            have h1 := HC.out; have h2 := HN.out
            show _ = _
            omega
          rw [hm] at hrec
          clear hcell h8 hr' ih hm HD
          go_wp2_with fail
          rw [← hY2]
          refine hrec.mono ?_
          rintro e Z ⟨rfl, hbZ⟩
          have hbw : Below w.heap.size w Z := hbY.trans (hbZ.mono hbY.size)
          clear hrec c0 c1 c2 c3 c4 c5 c6 c7 HC
          go_wp2
          go_roundg (gk - 1)
          case measure => omega
          case rel => exact ⟨j + 1, c, by go_num, by go_num, by omega, hbw, by omega, hc4, HC2⟩
      · have hltI : ¬ (j : Int) < d.parts.length := by omega
        have HF : Hid ((dpF d : Int) = c + 1) := by
          have h1 := HC.out; have h3 := HA.out
          rw [List.take_of_length_le (by omega)] at h1
          show _ = _
          omega
        clear hcell ih
        go_wp2
        go_ret
        rw [HF.out]
        exact ⟨rfl, hbl⟩
end Go.Proofs.YtkbbiaffphdniaaDoor
