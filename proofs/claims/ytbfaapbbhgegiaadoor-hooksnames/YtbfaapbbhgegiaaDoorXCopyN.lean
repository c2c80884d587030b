/- Package hooks: a descriptor without names and parts is copied; the law's bare. -/
import Derived.Test.YtbfaapbbhgegiaaDoorXSay
import Derived.Test.YtbfaapbbhgegiaaDoorShelf
namespace Go.Proofs.YtbfaapbbhgegiaaDoor
open Go.RowKit
set_option linter.unusedVariables false
set_option linter.unusedSimpArgs false

set_option maxRecDepth 1000000 in
theorem cloneD_nil (w : World) : Calls Tryd.prog 84 #[.slice none 0 0] w fun e w' => e = .returned (.slice none 0 0) ∧ w' = w := by
  have he : ∀ w, (binOp BinOp.eql 22 (.slice none 0 0) (.slice none 0 0)).run Tryd.prog w = .ok (.bool true) w := fun w => by kernel_rfl
  go_enter Tryd.func84, Tryd.ntmps84
  go_wp2
  go_ret
  exact ⟨rfl, rfl⟩
theorem clone_nil (w : World) : Calls Tryd.prog 66 #[.slice none 0 0] w fun e w' => e = .returned (.slice none 0 0) ∧ w' = w := Tryd.slices_Clone_string_nil 0 0 w
set_option maxRecDepth 1000000 in
theorem copies_nil (w : World) : Calls Tryd.prog 64 #[.slice none 0 0] w fun e w' => e = .returned (.slice none 0 0) ∧ w' = w := by
  go_enter Tryd.func64, Tryd.ntmps64
  go_wp2_with (go_at_call 84; refine (cloneD_nil _).mono ?_; rintro e w2 ⟨rfl, q2⟩; subst q2)
  refine wp_loop_rounds 1 ?_
  rw [rounds_succ]
  go_wp2
  go_ret
  exact ⟨rfl, rfl⟩
theorem xcs_same (W : World) (a : Addr) (v : Value) (h : (W.cell? a).isSome = true) : (W.setCell a v).cell? a = some v := by
  obtain ⟨u, hu⟩ := Option.isSome_iff_exists.1 h
  exact World.cell?_setCell_same _ _ _ hu
set_option maxRecDepth 1000000 in
set_option maxHeartbeats 4000000 in
theorem copied_nil (d : Ds) (hn : d.ns = .no) (hp : d.ps = .no) (w : World) : Calls Tryd.prog 50 #[.agg d.v.toArray] w fun e w' => e = .returned (.agg d.v.toArray) ∧ Below w.heap.size w w' := by
  obtain ⟨W1, hW1⟩ : ∃ W1, W1 = (w.alloc (.cells d.v.toArray 26)).alloc (.cells #[.int .i64 0, .string ⟨#[]⟩, .int .u64 0, .int .u64 0, .string ⟨#[]⟩, .slice none 0 0, .slice none 0 0, .int .i64 0] 26) := ⟨_, rfl⟩
  have bd : Blk W1 w.heap.size d.v := by rw [hW1]; exact (Blk.new _ _ _).alloc _
  have br : Blk W1 (w.heap.size + 1) Ds.no.v := by
    rw [hW1]
    have := Blk.new (w.alloc (.cells d.v.toArray 26)) Ds.no.v 26
    rwa [show (w.alloc (.cells d.v.toArray 26)).heap.size = w.heap.size + 1 by simp] at this
  have w1 : Below w.heap.size w W1 := by rw [hW1]; exact ((Below.refl _ _).alloc (Nat.le_refl _) _).alloc (by simp) _
  have c5 : W1.cell? ⟨w.heap.size, 5, none⟩ = some (.slice none 0 0) := by
    have := bd.c 5 _ rfl
    rw [hn] at this
    exact this
  have z5 := bd.z 5
  obtain ⟨W2, hW2⟩ : ∃ W2, W2 = W1.setCell ⟨w.heap.size, 5, none⟩ (.slice none 0 0) := ⟨_, rfl⟩
  have b2 : Blk W2 w.heap.size d.v := by
    rw [hW2]
    have := bd.set 5 (by rw [d.len]; omega) (.slice none 0 0)
    rwa [show d.v.set 5 (.slice none 0 0) = d.v by unfold Ds.v; rw [hn]; rfl] at this
  have r2 : Blk W2 (w.heap.size + 1) Ds.no.v := by rw [hW2]; exact br.other (by omega) _
  have w2 : Below w.heap.size w W2 := by rw [hW2]; exact w1.setCell (Nat.le_refl _) _
  have c6 : W2.cell? ⟨w.heap.size, 6, none⟩ = some (.slice none 0 0) := by
    have := b2.c 6 _ rfl
    rw [hp] at this
    exact this
  have z6 := b2.z 6
  obtain ⟨W3, hW3⟩ : ∃ W3, W3 = W2.setCell ⟨w.heap.size, 6, none⟩ (.slice none 0 0) := ⟨_, rfl⟩
  have b3 : Blk W3 w.heap.size d.v := by
    rw [hW3]
    have := b2.set 6 (by rw [d.len]; omega) (.slice none 0 0)
    rwa [show d.v.set 6 (.slice none 0 0) = d.v by unfold Ds.v; rw [hp]; rfl] at this
  have r3 : Blk W3 (w.heap.size + 1) Ds.no.v := by rw [hW3]; exact r2.other (by omega) _
  have w3 : Below w.heap.size w W3 := by rw [hW3]; exact w2.setCell (Nat.le_refl _) _
  have fin : Blk (W3.setCells (w.heap.size + 1) 0 d.v) (w.heap.size + 1) d.v ∧ Below w.heap.size w (W3.setCells (w.heap.size + 1) 0 d.v) := ⟨r3.all _ rfl, xbelow_sc w3 (by omega) _ _⟩
  have hl := d.len
  have h1 := d.one
  have hz : Ds.no.v.length = 8 := rfl
  generalize Ds.no.v = Z at *
  generalize d.v = D at *
  obtain ⟨f1, f2⟩ := fin
  go_enter Tryd.func50, Tryd.ntmps50
  go_upto_region 1 with fail
  rw [← hW1]
  clear hW1
  go_upto_region 2 with (go_at_call 66; refine (clone_nil _).mono ?_; rintro e w9 ⟨rfl, q9⟩; subst q9)
  rw [← hW2]
  clear hW2
  go_upto_region 3 with (go_at_call 64; refine (copies_nil _).mono ?_; rintro e w9 ⟨rfl, q9⟩; subst q9)
  rw [← hW3]
  clear hW3
  go_wp2_with (first
    | (refine wpl_ld row_Desc rfl (.tmp 1) rfl (vs := D) rfl b3.range hl ?_)
    | (refine wpl_st row_Desc rfl (.tmp 2) (.tmp 11) rfl (us := D) rfl rfl r3 hz hl h1 ?_; generalize W3.setCells (w.heap.size + 1) 0 D = Wf at *))
  exact bodyPost_ret (res_row row_Desc Tryd.results50 rfl f1 hl) rfl ⟨rfl, f2⟩
def bareS (v : Int) : Sp := ⟨false, false, false, false, false, -1, -1, v⟩
set_option maxRecDepth 1000000 in
theorem bare_any (v : Int) (w : World) : Calls Tryd.prog 31 #[.int .i32 v] w fun e w' => e = .returned (.agg (bareS v).v.toArray) ∧ Below w.heap.size w w' := by
  go_enter Tryd.func31, Tryd.ntmps31
  go_wp2
  go_returns
  exact ⟨rfl, (Below.refl _ _).alloc (Nat.le_refl _) _⟩
end Go.Proofs.YtbfaapbbhgegiaaDoor
