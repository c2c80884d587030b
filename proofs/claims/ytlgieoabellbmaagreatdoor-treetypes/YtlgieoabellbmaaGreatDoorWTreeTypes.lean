/- tree: the law TreeTypes' walk. -/
import Derived.Test.YtlgieoabellbmaaGreatDoorGtH
namespace Go.Proofs.YtlgieoabellbmaaGreatDoor
open Go.RowKit
set_option linter.unusedVariables false
set_option linter.unusedSimpArgs false
set_option maxRecDepth 1000000 in
set_option maxHeartbeats 4000000 in
theorem treeTypes_walk (d : D) (n : Nat) (nv pv : Value) (w : World) (hK : KN w) (hE : Esc w) (hr : RdC n w nv pv d) :
  Calls Tryz.prog 3 #[DV d nv pv] w fun e w' => e = .returned (.bool true) ∧ Below w.heap.size w w' := by
 obtain ⟨na, nc, pa, pc, rfl, rfl⟩ := hr.slices
 obtain ⟨W1, hW1⟩ : ∃ W1, W1 = w.alloc (.cells #[.int .i64 d.kind, .string d.ty, .int .u64 d.bits, .int .u64 d.imag, .string d.text, .slice na d.names.length nc, .slice pa d.parts.length pc, .int .i64 d.hook] 26) := ⟨_, rfl⟩
 have b1 : Below w.heap.size w W1 := by rw [hW1]; exact (Below.refl _ _).alloc (Nat.le_refl _) _
 have a1 : At8 W1 w.heap.size 0 d (.slice na d.names.length nc) (.slice pa d.parts.length pc) := by
  rw [hW1]
  refine ⟨?_, ?_, ?_, ?_, ?_, ?_, ?_, ?_⟩
  all_goals simp [go_sem]
 have hA := built12_mark d n _ _ W1 (hr.up b1)
 obtain ⟨c0, c1, c2, c3, c4, c5, c6, c7⟩ := a1
 simp only [Nat.zero_add] at c0 c1 c2 c3 c4 c5 c6 c7
 go_enter Tryz.func3, Tryz.ntmps3
 go_upto_region 1 with fail
 rw [← hW1]
 clear hW1
 go_upto_region 2 with (go_at_call 9; refine hA.mono ?_; rintro e W2 ⟨b2, v, dd, na2, pa2, nl2, nc2, pl2, pc2, rfl, hm, h0, h22, hsz⟩; obtain ⟨W3, hW3⟩ : ∃ W3, W3 = W2.alloc (.cells #[.int .i64 dd.kind, .string dd.ty, .int .u64 dd.bits, .int .u64 dd.imag, .string dd.text, .slice na2 nl2 nc2, .slice pa2 pl2 pc2, .int .i64 dd.hook] 26) := ⟨_, rfl⟩)
 rw [← hW3]
 have b3 : Below W2.heap.size W2 W3 := by rw [hW3]; exact (Below.refl _ _).alloc (Nat.le_refl _) _
 have a3 : At8 W3 W2.heap.size 0 dd (.slice na2 nl2 nc2) (.slice pa2 pl2 pc2) := by
  rw [hW3]
  refine ⟨?_, ?_, ?_, ?_, ?_, ?_, ?_, ?_⟩
  all_goals simp [go_sem]
 have bW3 : Below w.heap.size w W3 := b1.trans ((b2.trans (b3.mono b2.size)).mono b1.size)
 obtain ⟨s, hs⟩ := type_there dd.kind dd.ty h0 h22
 have hsl : s.size ≤ 9000 := by
  by_cases hz : dd.ty.size = 0
  ·rw [if_pos hz] at hs; have := kindN_sz hs.2; omega
  ·rw [if_neg hz] at hs; rw [hs]; omega
 have hTy : ∀ W, Below w.heap.size w W → Calls Tryz.prog 13 #[v] W fun e W' => e = .returned (.string s) ∧ Below W.heap.size W W' := fun W hW => vtype_any v _ _ _ hm W (hK.up hW) s hs
 have hOt : ∀ W, Calls Tryz.prog 14 #[.agg #[.int .i64 dd.kind, .string dd.ty, .int .u64 dd.bits, .int .u64 dd.imag, .string dd.text, .slice na2 nl2 nc2, .slice pa2 pl2 pc2, .int .i64 dd.hook]] W fun e W' => e = .returned (.string s) ∧ Below W.heap.size W W' := fun W => otype_any dd na2 pa2 nl2 nc2 pl2 pc2 W s hs
 have hL := fun (W : World) (hW : Below w.heap.size w W) => lives12_any W (hE.below hW) (hK.up hW)
 obtain ⟨X1, hX1⟩ : ∃ X1, W2.heap.size = X1 := ⟨_, rfl⟩
 rw [hX1] at a3
 try simp only [hX1]
 have hsw : w.heap.size ≤ W3.heap.size := bW3.size
 clear hW3 hA hX1 hr c0 c1 c2 c3 c4 c5 c6 c7 b2 b3 hm h0 h22 hsz hs
 obtain ⟨W4, hW4⟩ : ∃ W4, W4 = W3.alloc (.cells #[.int .i64 0] 3) := ⟨_, rfl⟩
 have b4 : Below W3.heap.size W3 W4 := by rw [hW4]; exact (Below.refl _ _).alloc (Nat.le_refl _) _
 have c4 : W4.cell? ⟨W3.heap.size, 0, none⟩ = some (.int .i64 0) := by rw [hW4]; simp [go_sem]
 have bW4 : Below w.heap.size w W4 := bW3.trans (b4.mono bW3.size)
 have a4 := a3.up b4
 have hmf : ∀ (fn : Fn) (first cap : Array Value) (w : World), (Instr.makeFunc fn first cap).run Tryz.prog w = .ok (.func fn first cap) w := fun _ _ _ _ => rfl
 have hSh : ∀ (ask : Value) (W : World), Below w.heap.size w W → Calls Tryz.prog 10 #[v, SV (bareQ 84), ask] W fun e w' => e = .returned (.string s) ∧ Below W.heap.size W w' := fun ask W hW => show_T v ask s W (hE.below hW) hsl fun V hV => hTy V (hW.trans (hV.mono hW.size))
 go_upto_region 3 with fail
 rw [← hW4]
 clear hW4 a3
 obtain ⟨X2, hX2⟩ : ∃ X2, W3.heap.size = X2 := ⟨_, rfl⟩
 rw [hX2] at c4
 try simp only [hX2]
 clear hX2
 go_upto_region 4 with (first | (go_at_call 11; refine (bare_any 84 _).mono ?_; rintro e W5 ⟨rfl, b5⟩; have bW5 := bW4.trans (b5.mono bW4.size); unfold bareQ at hSh; unfold bareQ) | (go_at_call 10; refine (hSh _ _ bW5).mono ?_; rintro e W6 ⟨rfl, b6⟩))
 have b46 : Below W4.heap.size W4 W6 := b5.trans (b6.mono b5.size)
 have c6 := up_cell b46 c4
 have bW6 : Below w.heap.size w W6 := bW4.trans (b46.mono bW4.size)
 have a6 := a4.up b46
 clear hSh c4 a4
 go_wp2_with (first | (go_at_call 13; refine (hTy _ bW6).mono ?_; rintro e W7 ⟨rfl, b7⟩; have bW7 := bW6.trans (b7.mono bW6.size); obtain ⟨k0, k1, k2, k3, k4, k5, k6, k7⟩ := a6.up b7; simp only [Nat.zero_add] at k0 k1 k2 k3 k4 k5 k6 k7) | (go_at_call 14; refine (hOt _).mono ?_; rintro e W8 ⟨rfl, b8⟩; have bW8 := bW7.trans (b8.mono bW7.size)) | (go_at_call 15; refine (hL _ bW8).mono ?_; rintro e W9 ⟨rfl, b9⟩))
 go_ret
 exact ⟨rfl, bW8.trans (b9.mono bW8.size)⟩
end Go.Proofs.YtlgieoabellbmaaGreatDoor
