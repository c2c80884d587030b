/- The law's examples: lives. -/
import Derived.Test.YtjphklhfigammaaDoorVRaw
import Derived.Test.YtjphklhfigammaaDoorVBuild
import Derived.Test.YtjphklhfigammaaDoorVMade
namespace Go.Proofs.YtjphklhfigammaaDoor
open Go.RowKit
set_option linter.unusedVariables false
set_option linter.unusedSimpArgs false

/-- The names of the kinds, as the package's table has them. -/
def kindN : List ByteArray := [⟨#[60, 110, 105, 108, 62]⟩, ⟨#[98, 111, 111, 108]⟩, ⟨#[105, 110, 116, 56]⟩, ⟨#[105, 110, 116, 49, 54]⟩, ⟨#[105, 110, 116, 51, 50]⟩, ⟨#[105, 110, 116, 54, 52]⟩, ⟨#[105, 110, 116]⟩, ⟨#[117, 105, 110, 116, 56]⟩, ⟨#[117, 105, 110, 116, 49, 54]⟩, ⟨#[117, 105, 110, 116, 51, 50]⟩, ⟨#[117, 105, 110, 116, 54, 52]⟩, ⟨#[117, 105, 110, 116]⟩, ⟨#[102, 108, 111, 97, 116, 51, 50]⟩, ⟨#[102, 108, 111, 97, 116, 54, 52]⟩, ⟨#[99, 111, 109, 112, 108, 101, 120, 54, 52]⟩, ⟨#[99, 111, 109, 112, 108, 101, 120, 49, 50, 56]⟩, ⟨#[115, 116, 114, 105, 110, 103]⟩, ⟨#[91, 93, 117, 105, 110, 116, 56]⟩, ⟨#[115, 116, 114, 117, 99, 116]⟩, ⟨#[97, 114, 114, 97, 121]⟩, ⟨#[115, 108, 105, 99, 101]⟩, ⟨#[109, 97, 112]⟩, ⟨#[112, 116, 114]⟩]
/-- The table lies where the program's text lays it. -/
def KN (W : World) : Prop := ∀ (i : Nat) (s : ByteArray), kindN[i]? = some s → W.cell? ⟨0, i, none⟩ = some (.string s)
theorem KN.up {W W' : World} (h : KN W) (hb : Below W.heap.size W W') : KN W' := fun i s hs => up_cell hb (h i s hs)

set_option maxRecDepth 1000000 in
set_option maxHeartbeats 1000000 in
/-- Type where the type's name is the kind's own. -/
theorem type_own (v : Value) (k : Nat) (h : Int) (w : World) (s : ByteArray) (hs : kindN[k]? = some s) (hk : KN w) (hm : ∀ W, Calls Tryd.prog 27 #[v] W fun e w' => e = .returned (.agg #[.int .i64 k, .string ⟨#[]⟩, .int .i64 h]) ∧ Below W.heap.size W w') :
    Calls Tryd.prog 12 #[v] w fun e w' => e = .returned (.string s) ∧ Below w.heap.size w w' := by
  have hlt : k < 23 := by
    have := (List.getElem?_eq_some_iff.1 hs).1
    simpa [kindN] using this
  go_enter Tryd.func12, Tryd.ntmps12
  go_wp2_with fail
  refine (hm _).mono ?_
  rintro e V ⟨rfl, hV⟩
  have hc := (hk.up hV) k s hs
  have h0 : 0 < V.heap.size := lt_of_cell hc
  clear hs hk hm
  go_wp2
  go_ret
  exact ⟨rfl, hV.alloc hV.size _⟩
set_option maxRecDepth 1000000 in
set_option maxHeartbeats 1000000 in
/-- Type where it has one of its own. -/
theorem type_given (v : Value) (k : Int) (h : Int) (w : World) (s : ByteArray) (hs : 0 < s.size) (hm : ∀ W, Calls Tryd.prog 27 #[v] W fun e w' => e = .returned (.agg #[.int .i64 k, .string s, .int .i64 h]) ∧ Below W.heap.size W w') :
    Calls Tryd.prog 12 #[v] w fun e w' => e = .returned (.string s) ∧ Below w.heap.size w w' := by
  have hne : ¬ s.toList = [] := by
    rw [Lib.toList_data]
    intro e
    have := congrArg List.length e
    rw [len_sz, List.length_nil] at this
    omega
  have hie : s.toList.isEmpty = false := by simpa using hne
  go_enter Tryd.func12, Tryd.ntmps12
  go_wp2_with fail
  refine (hm _).mono ?_
  rintro e V ⟨rfl, hV⟩
  go_wp2
  go_ret
  exact ⟨rfl, hV.alloc hV.size _⟩
set_option maxRecDepth 1000000 in
set_option maxHeartbeats 1000000 in
/-- Raw round rawOf, where its answer has no slices. -/
theorem raw_flat (v : Value) (k h b i : Int) (ty s : ByteArray) (w : World) (hm : ∀ W, Calls Tryd.prog 22 #[v] W fun e w' => e = .returned (.agg #[.int .i64 k, .string ty, .int .u64 b, .int .u64 i, .string s, .slice none 0 0, .slice none 0 0, .int .i64 h]) ∧ Below W.heap.size W w') :
    Calls Tryd.prog 9 #[v] w fun e w' => e = .returned (.agg #[.int .i64 k, .string ty, .int .u64 b, .int .u64 i, .string s, .slice none 0 0, .slice none 0 0, .int .i64 h]) ∧ Below w.heap.size w w' := by
  obtain ⟨W1, hW1⟩ : ∃ W1, W1 = w.alloc (.cells #[.int .i64 0, .string ⟨#[]⟩, .int .u64 0, .int .u64 0, .string ⟨#[]⟩, .slice none 0 0, .slice none 0 0, .int .i64 0] 26) := ⟨_, rfl⟩
  have hb1 : Below w.heap.size w W1 := by rw [hW1]; exact (Below.refl _ _).alloc (Nat.le_refl _) _
  have z1 : Zero8 W1 w.heap.size := by
    rw [hW1]
    refine ⟨by simp, fun i => ?_⟩
    rw [frozen?_alloc_cells]; exact frozen_none _ _ (Nat.le_refl _)
  go_enter Tryd.func9, Tryd.ntmps9
  go_wp2_with fail
  rw [← hW1]
  refine (hm _).mono ?_
  rintro e V ⟨rfl, hV⟩
  obtain ⟨⟨z0, z1, z2, z3, z4, z5, z6, z7⟩, zf⟩ := z1.up hV
  have y0 := zf 0
  have y1 := zf 1
  have y2 := zf 2
  have y3 := zf 3
  have y4 := zf 4
  have y5 := zf 5
  have y6 := zf 6
  have y7 := zf 7
  clear hm hW1
  go_wp2
  obtain ⟨r0, r1, r2, r3, r4, r5, r6, r7⟩ := set8 z0 z1 z2 z3 z4 z5 z6 z7 (.int .i64 k) (.string ty) (.int .u64 b) (.int .u64 i) (.string s) (.slice none 0 0) (.slice none 0 0) (.int .i64 h)
  refine bodyPost_ret (v := .agg #[.int .i64 k, .string ty, .int .u64 b, .int .u64 i, .string s, .slice none 0 0, .slice none 0 0, .int .i64 h]) (by simp [results, Tryd.results9, go_sem, r0, r1, r2, r3, r4, r5, r6, r7]) rfl ?_
  exact ⟨rfl, set8_below (hb1.trans (hV.mono hb1.size)) (Nat.le_refl _)⟩

theorem field_0 (v0 v1 v2 v3 v4 v5 v6 v7 : Value) (w : World) : (Instr.field 26 (.agg #[v0, v1, v2, v3, v4, v5, v6, v7]) 0).run Tryd.prog w = .ok v0 w := by kernel_rfl
theorem field_1 (v0 v1 v2 v3 v4 v5 v6 v7 : Value) (w : World) : (Instr.field 26 (.agg #[v0, v1, v2, v3, v4, v5, v6, v7]) 1).run Tryd.prog w = .ok v1 w := by kernel_rfl
theorem field_2 (v0 v1 v2 v3 v4 v5 v6 v7 : Value) (w : World) : (Instr.field 26 (.agg #[v0, v1, v2, v3, v4, v5, v6, v7]) 2).run Tryd.prog w = .ok v2 w := by kernel_rfl
theorem field_3 (v0 v1 v2 v3 v4 v5 v6 v7 : Value) (w : World) : (Instr.field 26 (.agg #[v0, v1, v2, v3, v4, v5, v6, v7]) 3).run Tryd.prog w = .ok v3 w := by kernel_rfl
theorem field_4 (v0 v1 v2 v3 v4 v5 v6 v7 : Value) (w : World) : (Instr.field 26 (.agg #[v0, v1, v2, v3, v4, v5, v6, v7]) 4).run Tryd.prog w = .ok v4 w := by kernel_rfl
theorem field_5 (v0 v1 v2 v3 v4 v5 v6 v7 : Value) (w : World) : (Instr.field 26 (.agg #[v0, v1, v2, v3, v4, v5, v6, v7]) 5).run Tryd.prog w = .ok v5 w := by kernel_rfl
theorem field_6 (v0 v1 v2 v3 v4 v5 v6 v7 : Value) (w : World) : (Instr.field 26 (.agg #[v0, v1, v2, v3, v4, v5, v6, v7]) 6).run Tryd.prog w = .ok v6 w := by kernel_rfl
theorem field_7 (v0 v1 v2 v3 v4 v5 v6 v7 : Value) (w : World) : (Instr.field 26 (.agg #[v0, v1, v2, v3, v4, v5, v6, v7]) 7).run Tryd.prog w = .ok v7 w := by kernel_rfl
/-- A descriptor without names and parts. -/
abbrev D0 (k b i h : Int) (ty s : ByteArray) : D := ⟨k, ty, b, i, s, [], [], h⟩
theorem rd0 (k b i h : Int) (ty s : ByteArray) (W : World) (hf : Fit (D0 k b i h ty s)) : RdC 1 W (.slice none 0 0) (.slice none 0 0) (D0 k b i h ty s) :=
  ⟨hf, ⟨none, 0, rfl, Nat.le_refl _, Nat.zero_le _, fun i s h => by simp at h⟩, none, 0, rfl, Nat.le_refl _, Nat.zero_le _, fun i x h => by simp at h⟩
theorem pre0 (k b i h : Int) (ty s : ByteArray) (n : Int) : pre (D0 k b i h ty s) n = [(D0 k b i h ty s, n)] := by
  rw [pre_eq]
  split
  · rfl
  · rfl
/-- Build of one that has no names and no parts and a kind without parts. -/
theorem build0 (k b i h : Int) (ty s : ByteArray) (w : World) (hf : Fit (D0 k b i h ty s)) (h0 : 0 ≤ k) (h1 : k ≤ 17) (hc : chk0 (D0 k b i h ty s) = 0) :
    Calls Tryd.prog 10 #[.agg #[.int .i64 k, .string ty, .int .u64 b, .int .u64 i, .string s, .slice none 0 0, .slice none 0 0, .int .i64 h]] w fun e w' => e = .returned (.tuple #[mdV (D0 k b i h ty s), .int .i64 0]) ∧ Below w.heap.size w w' := by
  refine (build_any 1 (D0 k b i h ty s) _ _ w (rd0 k b i h ty s w hf) (by omega) False (fun _ v => v = mdV (D0 k b i h ty s)) ?_).mono ?_
  · intro _ W hW _
    refine (made_flat (D0 k b i h ty s) none none 0 0 W h0 h1 hf.2.1.1 hf.2.1.2 hf.2.2.1.1 hf.2.2.1.2).mono ?_
    rintro e W' ⟨rfl, hb⟩
    obtain ⟨t, x, hx⟩ : ∃ t x, mdV (D0 k b i h ty s) = .iface t x := by
      unfold mdV
      repeat' split
      all_goals exact ⟨_, _, rfl⟩
    exact ⟨hb, .inl ⟨id, t, x, by rw [hx], fun _ _ => hx.symm⟩⟩
  · rintro e w' ⟨hb, (⟨-, -, v, rfl, -, rfl⟩ | ⟨-, hF, -⟩ | ⟨hne, -⟩)⟩
    · exact ⟨rfl, hb⟩
    · exact hF.elim
    · exact absurd hc hne
theorem build0_err (k b i h : Int) (ty s : ByteArray) (w : World) (hf : Fit (D0 k b i h ty s)) (hc : chk0 (D0 k b i h ty s) ≠ 0) :
    Calls Tryd.prog 10 #[.agg #[.int .i64 k, .string ty, .int .u64 b, .int .u64 i, .string s, .slice none 0 0, .slice none 0 0, .int .i64 h]] w fun e w' => e = .returned (.tuple #[.nilIface, .int .i64 (chk0 (D0 k b i h ty s))]) ∧ Below w.heap.size w w' := by
  refine (build_any 1 (D0 k b i h ty s) _ _ w (rd0 k b i h ty s w hf) (by omega) False (fun _ v => False) (fun h => absurd h hc)).mono ?_
  rintro e w' ⟨hb, (⟨h, -⟩ | ⟨h, -⟩ | ⟨hne, rfl⟩)⟩
  · exact absurd h hc
  · exact absurd h hc
  · exact ⟨rfl, hb⟩
theorem sz_nil : (⟨#[]⟩ : ByteArray).size = 0 := rfl
theorem chk_8 : chk0 (D0 2 255 0 0 ⟨#[]⟩ ⟨#[]⟩) = 0 := by
  unfold chk0
  rw [pre0]
  simp [runV, ok1, ok2, ok3, ok4, fitsB, frmB, typedB, allB, sz_nil]
theorem chk_23 : chk0 (D0 23 0 0 0 ⟨#[]⟩ ⟨#[]⟩) = 3 := by
  unfold chk0
  rw [pre0]
  simp [runV, ok1, ok2, ok3, ok4, fitsB, frmB, typedB, allB]
theorem fit_0 (k b : Int) (h : -9223372036854775808 ≤ k ∧ k ≤ 9223372036854775807) (hb : 0 ≤ b ∧ b ≤ 18446744073709551615) : Fit (D0 k b 0 0 ⟨#[]⟩ ⟨#[]⟩) :=
  ⟨h, hb, by simp, by simp, Nat.zero_le _, Nat.zero_le _⟩
theorem md_8 : mdV (D0 2 255 0 0 ⟨#[]⟩ ⟨#[]⟩) = .iface 72 (.agg #[.int .i64 2, .string ⟨#[]⟩, .int .i64 0, .int .i64 (-1)]) := by
  unfold mdV
  simp [sgN, swr]
theorem named_a1 : namedB ⟨#[97, 95, 49]⟩ = true := by decide +kernel
set_option maxRecDepth 1000000 in
set_option maxHeartbeats 4000000 in
theorem lives8_any (w : World) (hk : KN w) : Calls Tryd.prog 8 #[] w fun e w' => e = .returned (.bool true) ∧ Below w.heap.size w w' := by
  have b1 := build0 2 255 0 0 ⟨#[]⟩ ⟨#[]⟩ w (fit_0 2 255 (by omega) (by omega)) (by omega) (by omega) chk_8
  rw [md_8] at b1
  have b2 := fun W => build0_err 23 0 0 0 ⟨#[]⟩ ⟨#[]⟩ W (fit_0 23 0 (by omega) (by omega)) (by rw [chk_23]; decide)
  rw [chk_23] at b2
  have r1 := fun W => raw_flat _ 2 0 (-1 % 18446744073709551616) 0 ⟨#[]⟩ ⟨#[]⟩ W (fun W => rawof_signed 2 0 ⟨#[]⟩ (-1) W)
  have t1 := fun W hW => type_own _ 2 0 W ⟨#[105, 110, 116, 56]⟩ rfl hW (fun W => markof_signed 2 0 ⟨#[]⟩ (-1) W)
  have n1 := fun W => named_any ⟨#[97, 95, 49]⟩ W (by decide)
  rw [named_a1] at n1
  have fb := field_2
  go_enter Tryd.func8, Tryd.ntmps8
  go_wp2_with fail
  refine b1.mono ?_
  rintro e V1 ⟨rfl, hV1⟩
  go_wp2_with fail
  refine (b2 _).mono ?_
  rintro e V2 ⟨rfl, hV2⟩
  have hb2 : Below w.heap.size w V2 := hV1.trans (hV2.mono hV1.size)
  go_wp2_with fail
  refine (r1 _).mono ?_
  rintro e V3 ⟨rfl, hV3⟩
  have hb3 : Below w.heap.size w V3 := hb2.trans (hV3.mono hb2.size)
  go_wp2_with fail
  refine (t1 _ (hk.up hb3)).mono ?_
  rintro e V4 ⟨rfl, hV4⟩
  have hb4 : Below w.heap.size w V4 := hb3.trans (hV4.mono hb3.size)
  go_wp2_with fail
  refine (n1 _).mono ?_
  rintro e V5 ⟨rfl, rfl⟩
  go_wp2
  go_ret
  exact ⟨rfl, hb4⟩
end Go.Proofs.YtjphklhfigammaaDoor
