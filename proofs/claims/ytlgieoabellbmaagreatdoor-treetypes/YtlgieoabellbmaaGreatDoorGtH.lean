/- tree: Show by T; what is told of what Built hands. -/
import Derived.Test.YtlgieoabellbmaaGreatDoorGtX
import Derived.Test.YtlgieoabellbmaaGreatDoorVDocT
namespace Go.Proofs.YtlgieoabellbmaaGreatDoor
open Go.RowKit
set_option linter.unusedVariables false
set_option linter.unusedSimpArgs false
theorem text_off (s : ByteArray) : padS (cutS s (min (-1) 1000)) false false (-1) = s := by
 have ec : cutS s (min (-1) 1000) = s := by unfold cutS; rw [if_pos (by decide)]
 rw [ec]
 have ew : wdt (((wdt (-1) : Nat) : Int) - (cntR s : Nat)) = 0 := by
  have : wdt (-1) = 0 := rfl
  rw [this]; unfold wdt; omega
 unfold padS
 rw [ew, run_zero]
 show (⟨#[]⟩ : ByteArray) ++ s = s
 apply ByteArray.ext; apply Array.ext'
 rw [app_list]; rfl
set_option maxRecDepth 1000000 in
set_option maxHeartbeats 2000000 in
theorem show_T (v ask : Value) (s : ByteArray) (w : World) (hE : Esc w) (hs : s.size ≤ 9000)
  (hT : ∀ W, Below w.heap.size w W → Calls Tryz.prog 13 #[v] W fun e W' => e = .returned (.string s) ∧ Below W.heap.size W W') :
  Calls Tryz.prog 10 #[v, SV (bareQ 84), ask] w fun e w' => e = .returned (.string s) ∧ Below w.heap.size w w' := by
 obtain ⟨W1, hW1⟩ : ∃ W1, W1 = (w.alloc (.cells #[.bool false, .bool false, .bool false, .bool false, .bool false, .int .i64 (-1), .int .i64 (-1), .int .i32 115] 33)) := ⟨_, rfl⟩
 have b1 : Below w.heap.size w W1 := by rw [hW1]; exact (Below.refl _ _).alloc (Nat.le_refl _) _
 have f0 : ∀ x : Cl W1, x.w.cell? ⟨w.heap.size, 0, none⟩ = some (.bool false) := fun x => x.cell (by rw [hW1]; simp [go_sem])
 have f1 : ∀ x : Cl W1, x.w.cell? ⟨w.heap.size, 1, none⟩ = some (.bool false) := fun x => x.cell (by rw [hW1]; simp [go_sem])
 have f2 : ∀ x : Cl W1, x.w.cell? ⟨w.heap.size, 2, none⟩ = some (.bool false) := fun x => x.cell (by rw [hW1]; simp [go_sem])
 have f3 : ∀ x : Cl W1, x.w.cell? ⟨w.heap.size, 3, none⟩ = some (.bool false) := fun x => x.cell (by rw [hW1]; simp [go_sem])
 have f4 : ∀ x : Cl W1, x.w.cell? ⟨w.heap.size, 4, none⟩ = some (.bool false) := fun x => x.cell (by rw [hW1]; simp [go_sem])
 have f5 : ∀ x : Cl W1, x.w.cell? ⟨w.heap.size, 5, none⟩ = some (.int .i64 (-1)) := fun x => x.cell (by rw [hW1]; simp [go_sem])
 have f6 : ∀ x : Cl W1, x.w.cell? ⟨w.heap.size, 6, none⟩ = some (.int .i64 (-1)) := fun x => x.cell (by rw [hW1]; simp [go_sem])
 have f7 : ∀ x : Cl W1, x.w.cell? ⟨w.heap.size, 7, none⟩ = some (.int .i32 115) := fun x => x.cell (by rw [hW1]; simp [go_sem])
 have hT1 : ∀ x : Cl W1, Calls Tryz.prog 13 #[v] x.w fun e W' => e = .returned (.string s) ∧ Below x.w.heap.size x.w W' := fun x => hT x.w (b1.trans (x.below.mono b1.size))
 have hX : ∀ x : Cl W1, Calls Tryz.prog 24 #[.string s, .agg #[.bool false, .bool false, .bool false, .bool false, .bool false, .int .i64 (-1), .int .i64 (-1), .int .i32 115]] x.w fun e W' => e = .returned (.tuple #[.string s, .bool true]) ∧ Below x.w.heap.size x.w W' := fun x => by
  have h := text_s0 s false false false false (-1) (-1) x.w ((hE.below b1).below x.below) hs (by decide)
  rw [text_off] at h
  exact h
 unfold bareQ
 go_enter Tryz.func10, Tryz.ntmps10
 go_upto_region 3 with fail
 try rw [← hW1]
 clear hW1 hT
 refine wp_region_above W1 (Below.refl _ _) (by kernel_rfl) (by kernel_rfl) ?_
 intro hCl
 repeat (go_big_quiet_step ((first | (go_at_call 13; exact Cl.call (hT1 _)) | (go_at_call 24; exact Cl.call (hX _)))))
 refine wpQuiet_nil ?_
 intro _ hw'
 obtain ⟨x, hx⟩ := hw'
 subst hx
 go_wp2
 go_ret
 exact ⟨rfl, b1.trans (x.below.mono b1.size)⟩
theorem built12_mark (d : D) (n : Nat) (nv pv : Value) (w : World) (hr : RdC n w nv pv d) :
  Calls Tryz.prog 9 #[DV d nv pv] w fun e w' => Below w.heap.size w w' ∧ ∃ (v : Value) (dd : D) (na pa : Option Addr) (nl nc pl pc : Nat), e = .returned (.tuple #[v, DV dd (.slice na nl nc) (.slice pa pl pc)]) ∧ MkC v dd.kind dd.ty dd.hook ∧ 0 ≤ dd.kind ∧ dd.kind ≤ 22 ∧ dd.ty.size ≤ 32 := by
 refine (built12_any d n nv pv w hr).mono ?_
 rintro e w' ⟨b, ⟨ho, t, x, nv', pv', rfl, hv, hd⟩ | ⟨hn, rfl⟩⟩
 ·obtain ⟨na, nc, pa, pc, rfl, rfl⟩ := hd.slices
  have hg := (good_of (rd_nAll n hr) ho.2).1.self
  refine ⟨b, _, inF d, na, pa, _, nc, _, pc, rfl, mark_any (nAll d) _ w' _ d hg.lo hv, by rw [inF_kind]; exact hg.lo, by rw [inF_kind]; exact hg.hi, ?_⟩
  by_cases k0 : d.kind = 0
  ·rw [inF_eq, if_pos k0]; decide
  ·rw [(inF_mark d k0).1]
   have hf := hg.form
   unfold frmB at hf
   rw [if_neg k0] at hf
   have ht := (Bool.and_eq_true _ _ ▸ hf).1
   unfold typedB at ht
   simp at ht
   exact ht.1
 ·exact ⟨b, _, ⟨0, ⟨#[]⟩, 0, 0, ⟨#[]⟩, [], [], 0⟩, none, none, 0, 0, 0, 0, rfl, mark_nil, by decide, by decide, by decide⟩
theorem kindN_sz {k : Nat} {s : ByteArray} (h : kindN[k]? = some s) : s.size ≤ 32 := by
 have hm := List.mem_of_getElem? h
 have ha : (kindN.all fun s => decide (s.size ≤ 32)) = true := by decide +kernel
 exact of_decide_eq_true (List.all_eq_true.1 ha s hm)
end Go.Proofs.YtlgieoabellbmaaGreatDoor
