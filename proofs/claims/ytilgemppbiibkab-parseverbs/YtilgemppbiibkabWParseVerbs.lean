/- The walk of the law ParseVerbs. -/
import Derived.Test.YtilgemppbiibkabPEq
import Derived.Test.YtilgemppbiibkabPPureB
import Derived.Lib.SlBytesConst
namespace Go.Proofs.Ytilgemppbiibkab
open Go.RowKit
set_option linter.unusedVariables false
set_option linter.unusedSimpArgs false

def sayB : List Nat := [43, 45, 35, 32, 48, 49, 50, 51, 52, 53, 54, 55, 56, 57, 46, 42, 91]
theorem vb_of {s : ByteArray} (h0 : 0 < s.size) (h : ∀ (j c : Nat), sayB[j]? = some c → (s[0]'h0).toNat ≠ c) : vb s.data.toList ∧ s.data.toList ≠ [] := by
  have hl : 0 < s.data.toList.length := by rw [list_len]; exact h0
  obtain ⟨x, t, e⟩ : ∃ x t, s.data.toList = x :: t := by
    cases hs : s.data.toList with
    | nil => rw [hs] at hl; simp at hl
    | cons x t => exact ⟨x, t, rfl⟩
  have hx : (s[0]'h0) = x := by
    have : s.data.toList[0]'hl = x := by simp [e]
    rw [← this]; rfl
  rw [hx] at h
  have q := fun j c hj => h j c hj
  rw [e]
  refine ⟨⟨q 0 43 rfl, q 1 45 rfl, q 2 35 rfl, q 3 32 rfl, q 15 42 rfl, q 14 46 rfl, q 16 91 rfl, ?_⟩, by simp⟩
  rintro ⟨k1, k2⟩
  have k1' : 48 ≤ x.toNat := k1
  have k2' : x.toNat ≤ 57 := k2
  have a0 := q 4 48 rfl
  have a1 := q 5 49 rfl
  have a2 := q 6 50 rfl
  have a3 := q 7 51 rfl
  have a4 := q 8 52 rfl
  have a5 := q 9 53 rfl
  have a6 := q 10 54 rfl
  have a7 := q 11 55 rfl
  have a8 := q 12 56 rfl
  have a9 := q 13 57 rfl
  omega
/-- What Parse answers where its first piece is told. -/
theorem parse_first {t : ByteArray} {p : Pc} {r : List Pc} (ht : t.size ≤ 1000000) (h : prs t.data.toList = p :: r) (w : World) :
    Calls Try.prog 10 #[.string t] w fun e w' => ∃ g c, e = .returned (.slice (some ⟨g, 0, none⟩) (r.length + 1) c) ∧ g < w'.heap.size ∧ (∀ i v, (pcV p (ba p.text))[i]? = some v → w'.cell? ⟨g, i, none⟩ = some v) ∧ r.length + 1 ≤ c ∧ Below w.heap.size w w' := by
  refine (parse_any t ht w).mono ?_
  rintro e w' ⟨v, rfl, o, b⟩
  rw [h] at o
  obtain ⟨a, c, rfl, h1, -⟩ := own_slice9 o
  obtain ⟨g, rfl, -, h3, h4⟩ := own_cell9 o (by simp)
  refine ⟨g, c, rfl, h3, fun i v hv => h4 i v ?_, h1, b⟩
  have hi : i < (pcV p (ba p.text)).length := (List.getElem?_eq_some_iff.1 hv).1
  rw [rowP, List.getElem?_append_left hi]; exact hv
set_option maxRecDepth 1000000 in
set_option maxHeartbeats 4000000 in
theorem verbs_short {s r : ByteArray} (h : s.size = 0 ∨ 100 < s.size ∨ 1000 < r.size) (w : World) :
    Calls Try.prog 3 #[.string s, .string r] w fun e w' => e = .returned (.bool true) ∧ Below w.heap.size w w' := by
  have hL := lives9_any
  by_cases h0 : s.size = 0
  · have hem := empty_yes s h0
    clear h h0
    go_enter Try.func3, Try.ntmps3
    go_wp2_with (go_at_call 9; refine (hL _).mono ?_; rintro e w3 ⟨rfl, b3⟩)
    go_ret
    exact ⟨rfl, b3⟩
  · have hem := empty_no s (by omega)
    by_cases h1 : 100 < s.size
    · have h1I : 100 < (s.size : Int) := by omega
      clear h h0 h1
      go_enter Try.func3, Try.ntmps3
      go_wp2_with (go_at_call 9; refine (hL _).mono ?_; rintro e w3 ⟨rfl, b3⟩)
      go_ret
      exact ⟨rfl, b3⟩
    · have h1I : ¬ 100 < (s.size : Int) := by omega
      have h2I : 1000 < (r.size : Int) := by omega
      clear h h0 h1
      go_enter Try.func3, Try.ntmps3
      go_wp2_with (go_at_call 9; refine (hL _).mono ?_; rintro e w3 ⟨rfl, b3⟩)
      go_ret
      exact ⟨rfl, b3⟩
theorem pre_app {a b : Bs} (s : ByteArray) (ha : s.data.toList = b) : ((⟨a.toArray⟩ : ByteArray) ++ s).data.toList = a ++ b := by rw [app_list, ha]
set_option maxRecDepth 1000000 in
set_option maxHeartbeats 4000000 in
theorem verbs_long {s r : ByteArray} (h0 : 0 < s.size) (h1 : s.size ≤ 100) (h2 : r.size ≤ 1000) (w : World) :
    Calls Try.prog 3 #[.string s, .string r] w fun e w' => e = .returned (.bool true) ∧ Below w.heap.size w w' := by
  have hL := lives9_any
  have hem := empty_no s h0
  have h1I : ¬ 100 < (s.size : Int) := by omega
  have h2I : ¬ 1000 < (r.size : Int) := by omega
  have h0I : 0 < (s.size : Int) := by omega
  obtain ⟨W1, hW1⟩ : ∃ W1, W1 = w.alloc (.cells #[.int .u8 43, .int .u8 45, .int .u8 35, .int .u8 32, .int .u8 48, .int .u8 49, .int .u8 50, .int .u8 51, .int .u8 52, .int .u8 53, .int .u8 54, .int .u8 55, .int .u8 56, .int .u8 57, .int .u8 46, .int .u8 42, .int .u8 91] 5 (17, 18)) := ⟨_, rfl⟩
  have hb1 : Below w.heap.size w W1 := by rw [hW1]; exact (Below.refl _ _).alloc (Nat.le_refl _) _
  have hblk : W1.heap[w.heap.size]? = some (.cells #[.int .u8 43, .int .u8 45, .int .u8 35, .int .u8 32, .int .u8 48, .int .u8 49, .int .u8 50, .int .u8 51, .int .u8 52, .int .u8 53, .int .u8 54, .int .u8 55, .int .u8 56, .int .u8 57, .int .u8 46, .int .u8 42, .int .u8 91] 5 (17, 18)) := by rw [hW1]; exact heap_alloc_new w _
  have hcell : ∀ (j c : Nat), sayB[j]? = some c → W1.cell? ⟨w.heap.size, j, none⟩ = some (.int .u8 (c : Nat)) := by
    intro j c hj
    rw [cell_of_row W1 w.heap.size j _ _ (17, 18) hblk]
    show ((sayB.map fun c => Value.int .u8 ((c : Nat) : Int)).toArray)[j]? = _
    rw [List.getElem?_toArray, List.getElem?_map, hj]
    rfl
  have hc0 : (s[0]'h0).toNat < 256 := UInt8.toNat_lt _
  have hcv : (convert 23 23 (.slice (some ⟨w.heap.size, 0, none⟩) 17 17)).run Try.prog (w.alloc (.cells #[.int .u8 43, .int .u8 45, .int .u8 35, .int .u8 32, .int .u8 48, .int .u8 49, .int .u8 50, .int .u8 51, .int .u8 52, .int .u8 53, .int .u8 54, .int .u8 55, .int .u8 56, .int .u8 57, .int .u8 46, .int .u8 42, .int .u8 91] 5)) = .ok (.slice (some ⟨w.heap.size, 0, none⟩) 17 17) (w.alloc (.cells #[.int .u8 43, .int .u8 45, .int .u8 35, .int .u8 32, .int .u8 48, .int .u8 49, .int .u8 50, .int .u8 51, .int .u8 52, .int .u8 53, .int .u8 54, .int .u8 55, .int .u8 56, .int .u8 57, .int .u8 46, .int .u8 42, .int .u8 91] 5 (17, 18))) := Lib.run_convert_bytes_const w 23 5 _ 17 17 Try.underlying23 Try.underlying5
  clear hblk
  go_enter Try.func3, Try.ntmps3
  go_wp2_with fail
  rw [← hW1]
  clear hW1 hcv
  go_loopg [6, 25] 17 (fun g xv iv wr => wr = W1 ∧ ∃ i : Nat, iv = .int .i64 (i : Nat) ∧ i + g = 17 ∧ Hid (∀ (j c : Nat), j < i → sayB[j]? = some c → (s[0]'h0).toNat ≠ c))
  case atStart => exact ⟨rfl, 0, rfl, rfl, fun j c h => by omega⟩
  case round =>
    obtain ⟨rfl, i, rfl, hi, HI⟩ := hrel
    by_cases hlt : i < 17
    · obtain ⟨c, hc, hc2⟩ : ∃ c, sayB[i]? = some c ∧ c < 256 := by
        have hl : i < sayB.length := hlt
        refine ⟨sayB[i], List.getElem?_eq_getElem hl, ?_⟩
        have : ∀ x ∈ sayB, x < 256 := by decide
        exact this _ (List.getElem_mem hl)
      have f0 := hcell i c hc
      have hltI : (i : Int) < 17 := by omega
      by_cases he : (s[0]'h0).toNat = c
      · have heI : ((s[0]'h0).toNat : Int) = c := by omega
        clear he hc hcell HI
        go_wp2_with (go_at_call 9; refine (hL _).mono ?_; rintro e w3 ⟨rfl, b3⟩)
        go_ret
        exact ⟨rfl, hb1.trans (b3.mono hb1.size)⟩
      · have heI : ¬ ((s[0]'h0).toNat : Int) = c := by omega
        have HI' : Hid (∀ (j c : Nat), j < i + 1 → sayB[j]? = some c → (s[0]'h0).toNat ≠ c) := by
          intro j c' hj hjc
          by_cases hji : j = i
          · subst hji
            rw [hc] at hjc
            obtain rfl := Option.some.inj hjc
            exact he
          · exact HI.out j c' (by omega) hjc
        clear he hc hcell
        go_wp2
        go_roundg (gk - 1)
        case measure => omega
        case rel => exact ⟨rfl, i + 1, by go_num, by omega, HI'⟩
    · obtain rfl : i = 17 := by omega
      have hv := vb_of h0 (fun j c hj => HI.out j c (by
        have : j < sayB.length := (List.getElem?_eq_some_iff.1 hj).1
        simpa [sayB] using this) hj)
      obtain ⟨hvb, hne⟩ := hv
      have hn1 := nxt_pos hne
      have hn4 := nxt_le4 s.data.toList
      have hnl := nxt_le s.data.toList
      have e1 := prs_vb hvb hne
      have e7 := prs_vb7 hvb hne
      have l1 : (s.data.toList.take (nxt s.data.toList).2).length = (nxt s.data.toList).2 := by rw [List.length_take]; omega
      have A := fun w => parse_first (t := ⟨#[37]⟩ ++ s) (by rw [app_size]; show 1 + s.size ≤ _; omega) ((congrArg prs (pre_app (a := [37]) s rfl)).trans e1) w
      have B := fun w => parse_first (t := ⟨#[37, 55]⟩ ++ s) (by rw [app_size]; show 2 + s.size ≤ _; omega) ((congrArg prs (pre_app (a := [37, 55]) s rfl)).trans e7) w
      obtain ⟨q, n, hx⟩ : ∃ q n, nxt s.data.toList = (q, n) := ⟨_, _, rfl⟩
      rw [hx] at A B hn1 hn4 l1
      dsimp only at A B hn1 hn4 l1
      generalize hR : (prs (s.data.toList.drop n)).length = m at *
      have hmb : m ≤ 100 := by
        rw [← hR]
        have a := prs_len (s.data.toList.drop n)
        rw [List.length_drop, list_len] at a
        omega
      have t1 : (ba (37 :: s.data.toList.take n)).size = n + 1 := by rw [← list_len]; simp only [ba, List.length_cons]; rw [l1]
      have t7 : (ba (37 :: 55 :: s.data.toList.take n)).size = n + 2 := by rw [← list_len]; simp only [ba, List.length_cons]; rw [l1]
      generalize ba (37 :: s.data.toList.take n) = T1 at *
      generalize ba (37 :: 55 :: s.data.toList.take n) = T7 at *
      have u1 : Hid (T1.size = n + 1 ∧ T7.size = n + 2) := ⟨t1, t7⟩
      have u2 : 2 ≤ (T1.size : Int) := by omega
      have u3 : (T1.size : Int) ≤ 5 := by omega
      have u4 : (T7.size : Int) = (T1.size : Int) + 1 := by omega
      have u5 : ¬ (T1.size : Int) < 2 := by omega
      have u6 : ¬ 5 < (T1.size : Int) := by omega
      have hmI : ¬ ((m : Int) + 1 < 1) := by omega
      clear t1 t7 l1 hnl e1 e7 hx hvb hne HI hn1 hn4 hR hi hcell
      go_upto_region 13 with (first
        | (go_at_call_of 10 (55 : UInt8); refine (B _).mono ?_; rintro e w5 ⟨g5, c5, rfl, y1, yc, y2, b5⟩; have y9 := yc 9 _ rfl; have y11 := yc 11 _ rfl; have y01 := yc 1 _ rfl; clear yc)
        | (go_at_call 10; refine (A _).mono ?_; rintro e w4 ⟨g4, c4, rfl, x1, xc, x2, b4⟩; have x9 := xc 9 _ rfl; have x0 := xc 0 _ rfl; have x01 := xc 1 _ rfl; clear xc))
      clear A B
      have v1 : ∀ x : Cl w5, x.w.cell? ⟨g4, 9, none⟩ = some (.int .i32 (q : Nat)) := fun x => x.cell ((b5.cell (p := ⟨g4, 9, none⟩) x1).trans x9)
      have v2 : ∀ x : Cl w5, x.w.cell? ⟨g4, 1, none⟩ = some (.string T1) := fun x => x.cell ((b5.cell (p := ⟨g4, 1, none⟩) x1).trans x01)
      have v3 : ∀ x : Cl w5, x.w.cell? ⟨g5, 9, none⟩ = some (.int .i32 (q : Nat)) := fun x => x.cell y9
      have v4 : ∀ x : Cl w5, x.w.cell? ⟨g5, 11, none⟩ = some (.int .i64 7) := fun x => x.cell y11
      have v5 : ∀ x : Cl w5, x.w.cell? ⟨g5, 1, none⟩ = some (.string T7) := fun x => x.cell y01
      have hbw : Below w.heap.size w w5 := (hb1.trans (b4.mono hb1.size)).trans (b5.mono (Nat.le_trans hb1.size b4.size))
      clear x9 x0 x01 y9 y11 y01
      refine wp_region_above w5 (Below.refl _ _) (by kernel_rfl) (by kernel_rfl) ?_
      intro hCl
      repeat (go_big_quiet_step ((go_at_call 9; exact Cl.call (hL _))))
      refine wpQuiet_nil ?_
      intro _ hw'
      obtain ⟨yy, hy⟩ := hw'
      subst hy
      go_wp2
      go_ret
      exact ⟨rfl, hbw.trans (yy.below.mono hbw.size)⟩
theorem parseVerbs_walk (s : ByteArray) (hs : s.size ≤ 9223372036854775807) (r : ByteArray) (hr : r.size ≤ 9223372036854775807) (w : World) :
    Calls Try.prog 3 #[.string s, .string r] w fun e w' => e = .returned (.bool true) ∧ Below w.heap.size w w' := by
  by_cases h : s.size = 0 ∨ 100 < s.size ∨ 1000 < r.size
  · exact verbs_short h w
  · exact verbs_long (by omega) (by omega) (by omega) w
end Go.Proofs.Ytilgemppbiibkab
