/- The walk of HooksFirst. -/
import Derived.Test.YtbfaapbbhgegiaaDoorXLiveB
import Derived.Test.YtbfaapbbhgegiaaDoorXMid
namespace Go.Proofs.YtbfaapbbhgegiaaDoor
open Go.RowKit
set_option linter.unusedVariables false
set_option linter.unusedSimpArgs false

def fiA (t : ByteArray) : Ac := ⟨1, t, ⟨#[]⟩, .no, .no⟩
theorem bld_fiA (t : ByteArray) (w : World) : (Instr.build 28 #[(0, .int .i64 1), (1, .string t)]).run Tryd.prog w = .ok (.agg (fiA t).v.toArray) w := by kernel_rfl
theorem bld_asked (w : World) : (Instr.build 42 #[]).run Tryd.prog w = .ok (.agg #[.int .i64 0, .int .i64 0]) w := by kernel_rfl
theorem eq_asked (w : World) : (binOp BinOp.eql 42 (.agg #[.int .i64 0, .int .i64 0]) (.agg #[.int .i64 0, .int .i64 0])).run Tryd.prog w = .ok (.bool true) w := by kernel_rfl
theorem row_Asked : Row 42 2 := ⟨⟨_, Tryd.underlying42, rfl⟩, by kernel_rfl⟩
set_option maxRecDepth 1000000 in
set_option maxHeartbeats 20000000 in
theorem hooksFirst_walk (h0 : Hk) (f : Sp) (hw5 : (Lit.int .i64 f.wid).wf = true) (hw6 : (Lit.int .i64 f.prec).wf = true) (t : ByteArray) (ht : t.size ≤ maxLen) (w : World) (hE : Esc w) : Calls Tryd.prog 7 #[.agg h0.v.toArray, .agg f.v.toArray, .string t] w fun e w' => e = .returned (.bool true) ∧ Below w.heap.size w w' := by
  have hmf : ∀ (fn : Fn) (first cap : Array Value) (w : World), (Instr.makeFunc fn first cap).run Tryd.prog w = .ok (.func fn first cap) w := fun _ _ _ _ => rfl
  obtain ⟨W1, hW1⟩ : ∃ W1, W1 = (w.alloc (.cells h0.v.toArray 30)).alloc (.cells f.v.toArray 52) := ⟨_, rfl⟩
  have b1 : Blk W1 w.heap.size h0.v := by rw [hW1]; exact (Blk.new _ _ _).alloc _
  have f1 : Blk W1 (w.heap.size + 1) f.v := by
    rw [hW1]
    have := Blk.new (w.alloc (.cells h0.v.toArray 30)) f.v 52
    rwa [show (w.alloc (.cells h0.v.toArray 30)).heap.size = w.heap.size + 1 by simp] at this
  have w1 : Below w.heap.size w W1 := by rw [hW1]; exact ((Below.refl _ _).alloc (Nat.le_refl _) _).alloc (by simp) _
  have s1 : W1.heap.size = w.heap.size + 2 := by rw [hW1]; simp
  have hE1 : ∀ V, Below w.heap.size w V → Esc V := fun V hV => hE.below hV
  have hS := small_any h0 W1
  have hL := fun (V : World) (hV : Below w.heap.size w V) => lives11_any V (hE1 V hV)
  obtain ⟨h, hh⟩ : ∃ h : Hk, h = ⟨fiA t, h0.b, h0.c, h0.d⟩ := ⟨_, rfl⟩
  have hwh : whN h f.verb f.sh = 1 := by rw [hh]; rfl
  have hWh := fun w => which_any h f.verb f.sh w
  rw [hwh] at hWh
  have hSay : ∀ (V : World) (X : Nat), Aq V X 0 0 → Calls Tryd.prog 24 (sArgs h f true X) V fun e w' => e = .returned (.tuple #[.string t, .bool true]) ∧ Aq w' X 0 0 ∧ V.grownBy w' (some X) := fun V X hq => by
    refine say_1 (w0 := V) (T := t) (p' := 0) (s' := 0) hwh ?_ V (World.grownBy.refl _ _) hq
    intro W gW qW
    have := do_tells (np := true) (v := f.verb) (m := mT 1) (fiA t) rfl W qW
    rw [show hat h 1 = fiA t by rw [hh]; rfl]
    exact this
  unfold sArgs at hSay
  have put : ∀ V, Blk V w.heap.size h0.v → V.there w.heap.size 0 12 ∧ Blk (V.setCells w.heap.size 0 (fiA t).v) w.heap.size h.v := fun V bV => ⟨Blk.thereMid (p := []) (cs := h0.a.v) (q := h0.b.v ++ (h0.c.v ++ h0.d.v)) bV, by rw [hh]; exact Blk.put (p := []) (cs := h0.a.v) (q := h0.b.v ++ (h0.c.v ++ h0.d.v)) bV (fiA t).v rfl⟩
  have hfi := fun w => bld_fiA t w
  have hlf : (fiA t).v.length = 12 := rfl
  have hof := (fiA t).one
  have hl0 := h0.len
  have hl := h.len
  have hlg := f.len
  have hfv : ∀ {V : World}, Blk V (w.heap.size + 1) f.v → V.cell? ⟨w.heap.size + 1, 7, none⟩ = some (.int .i32 f.verb) ∧ V.cell? ⟨w.heap.size + 1, 2, none⟩ = some (.bool f.sh) := fun b => ⟨b.c 7 _ rfl, b.c 2 _ rfl⟩
  have hbA := fun w => bld_asked w
  have hqA := fun w => eq_asked w
  clear hh hwh hE hE1 hw5 hw6
  generalize h.v = H at *
  generalize h0.v = H0 at *
  generalize f.v = G at *
  generalize (fiA t).v = FA at *
  generalize f.verb = vb at *
  generalize f.sh = sh at *
  go_enter Tryd.func7, Tryd.ntmps7
  go_upto_region 1 with fail
  rw [← hW1]
  clear hW1
  go_wp2_with (refine wpl_ld row_Hook rfl (.tmp 3) rfl (vs := H0) rfl b1.range hl0 ?_)
  refine hS.mono ?_
  rintro e W2 ⟨v, rfl, q2, hv⟩
  have w2 : Below w.heap.size w W2 := w1.trans (q2.mono w1.size)
  have b2 := b1.up q2
  have f2 := f1.up q2
  have z2 : w.heap.size + 2 ≤ W2.heap.size := by have := q2.size; omega
  have hL2 := hL W2 w2
  clear b1 f1 hS s1 q2
  rcases hv with rfl | ⟨rfl, -⟩
  · go_wp2_with (go_at_call 13; refine hL2.mono ?_; rintro e W3 ⟨rfl, q3⟩)
    go_ret
    exact ⟨rfl, w2.trans (q3.mono w2.size)⟩
  · by_cases ht2 : (1000 : Int) < t.size
    · go_wp2_with (go_at_call 13; refine hL2.mono ?_; rintro e W3 ⟨rfl, q3⟩)
      go_ret
      exact ⟨rfl, w2.trans (q3.mono w2.size)⟩
    · clear hL2
      obtain ⟨th, b3⟩ := put W2 b2
      clear put b2
      obtain ⟨W3, hW3⟩ : ∃ W3, W3 = W2.setCells w.heap.size 0 FA := ⟨_, rfl⟩
      rw [← hW3] at b3
      have f3 : Blk W3 (w.heap.size + 1) G := by rw [hW3]; exact f2.oth (by omega) _ _
      have w3 : Below w.heap.size w W3 := by rw [hW3]; exact xbelow_sc w2 (Nat.le_refl _) _ _
      have z3 : w.heap.size + 2 ≤ W3.heap.size := by rw [hW3, xsc_size]; exact z2
      go_upto_region 4 with (first
        | (refine wpl_bld rfl _ _ rfl [(0, .int .i64 1), (1, .string t)] rfl (hfi _) ?_)
        | (refine wpl_stm row_Act rfl (.tmp 21) (.tmp 20) rfl (us := FA) rfl rfl th hlf hof ?_; rw [← hW3]; clear hW3))
      obtain ⟨W4, hW4⟩ : ∃ W4, W4 = W3.alloc (.cells #[.int .i64 0, .int .i64 0] 42) := ⟨_, rfl⟩
      have x4 : Aq W4 W3.heap.size 0 0 := by rw [hW4]; exact Blk.new _ _ _
      have b4 : Blk W4 w.heap.size H := by rw [hW4]; exact b3.alloc _
      have f4 : Blk W4 (w.heap.size + 1) G := by rw [hW4]; exact f3.alloc _
      have w4 : Below w.heap.size w W4 := by rw [hW4]; exact w3.alloc w3.size _
      have hS4 := hSay W4 W3.heap.size x4
      generalize hX : W3.heap.size = X at *
      go_upto_region 5 with fail
      rw [← hW4]
      clear hW4
      try rw [hX]
      clear hX
      clear w3 f3 b3 f2 w2 z2
      go_upto_region 6 with (first
        | (refine wpl_ld row_Hook rfl (.tmp 3) rfl (vs := H) rfl b4.range hl ?_)
        | (refine wpl_ld row_Spec rfl (.tmp 4) rfl (vs := G) rfl f4.range hlg ?_)
        | (go_at_call 24; refine hS4.mono ?_; rintro e W5 ⟨rfl, x5, g5⟩))
      have b5 := b4.grown g5 (by omega)
      have f5 := f4.grown g5 (by omega)
      have w5 : Below w.heap.size w W5 := w4.grown g5 w4.size (fun k hk => by cases hk; omega)
      obtain ⟨cv, cs⟩ := hfv f5
      have hL5 := fun V (q : Below W5.heap.size W5 V) => hL V (w5.trans (q.mono w5.size))
      go_wp2_with (first
        | (refine wpl_ldg row_Asked rfl (.tmp 7) rfl (vs := [.int .i64 0, .int .i64 0]) rfl x5.range rfl ?_)
        | (refine wpl_ldg row_Hook rfl (.tmp 3) rfl (vs := H) rfl b5.range hl ?_)
        | (go_at_call 9; refine (hWh _).mono ?_; rintro e W6 ⟨rfl, q6⟩)
        | (go_at_call 13; refine (hL5 _ q6).mono ?_; rintro e W7 ⟨rfl, q7⟩))
      go_ret
      exact ⟨rfl, w5.trans ((q6.trans (q7.mono q6.size)).mono w5.size)⟩
end Go.Proofs.YtbfaapbbhgegiaaDoor
