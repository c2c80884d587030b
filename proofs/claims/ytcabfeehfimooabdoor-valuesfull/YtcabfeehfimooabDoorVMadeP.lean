/- made, at arrays, slices and pointers. -/
import Derived.Test.YtcabfeehfimooabDoorVMadeAll
import Derived.Deep.RegionWith
import Derived.Deep.DeepCutAuto
import Derived.Deep.CutBlock
namespace Go.Proofs.YtcabfeehfimooabDoor
open Go.RowKit
set_option linter.unusedVariables false

/-- What madeAll does with the parts of a descriptor, in whatever world. -/
def AllC (sr : List D → List (D × D)) (tw : D → Bool) (n : Nat) (w : World) (pa : Option Addr) (pc : Nat) (l : List D) : Prop :=
  ∀ V, Below w.heap.size w V → Calls Tryd.prog 42 #[.slice pa l.length pc] V fun e W' => Below V.heap.size V W' ∧
      ((l.any tw = false ∧ ∃ fa fc, e = .returned (.slice fa l.length fc) ∧ l.length ≤ fc ∧ fc ≤ maxLen ∧ Vals (VlC sr n (fun b => V.heap.size ≤ b) W') (fun b => V.heap.size ≤ b) W' fa l) ∨ (l.any tw = true ∧ e = .panicked (PE 5)))
theorem all_of {sr : List D → List (D × D)} {tw : D → Bool} {n : Nat} {w : World} {d : D} {na pa : Option Addr} {nc pc : Nat} (hr : RdC (n + 1) w (.slice na d.names.length nc) (.slice pa d.parts.length pc) d) (h64 : d.parts.length ≤ 1000) (ih : ∀ x ∈ d.parts, ∀ V, MadeC sr tw n V x) : AllC sr tw n w pa pc d.parts := by
  intro V hV
  obtain ⟨-, -, a, cap, he, h1, h2, hcell⟩ := hr
  obtain ⟨rfl, -, rfl⟩ := Value.slice.inj he
  refine madeall_any sr tw n d.parts pa pc V h1 h2 h64 (fun i x hx => ?_) fun x hx => ih x hx V
  obtain ⟨b, off, nv', pv', e1, e2, e3⟩ := hcell i x hx
  exact ⟨b, off, nv', pv', e1, e2.up hV, e3.up hV⟩

set_option maxRecDepth 1000000 in
set_option maxHeartbeats 4000000 in
theorem made_19 (sr : List D → List (D × D)) (tw : D → Bool) (n : Nat) (d : D) (na pa : Option Addr) (nc pc : Nat) (w : World) (hk : d.kind = 19) (hall : AllC sr tw n w pa pc d.parts) (hB : d.parts.any tw = false) :
    Calls Tryd.prog 18 #[DV d (.slice na d.names.length nc) (.slice pa d.parts.length pc)] w fun e W' => Below w.heap.size w W' ∧ ∃ t y, e = .returned (.iface t y) ∧ VlC sr (n + 1) (fun b => w.heap.size ≤ b) W' (.iface t y) d := by
  have hvl : ∀ (V W' : World) (fa : Option Addr) (fc : Nat), w.heap.size ≤ V.heap.size → d.parts.length ≤ fc → fc ≤ maxLen → Vals (VlC sr n (fun b => V.heap.size ≤ b) W') (fun b => V.heap.size ≤ b) W' fa d.parts → VlC sr (n + 1) (fun b => w.heap.size ≤ b) W' (.iface 90 (.agg #[.int .i64 d.kind, .string d.ty, .int .i64 d.hook, .slice fa d.parts.length fc])) d := by
    intro V W' fa fc hV h1 h2 h3
    have hkp : Kept (fun b => V.heap.size ≤ b) (fun b => w.heap.size ≤ b) W' W' := fun b hb _ => ⟨Nat.le_trans hV hb, fun _ => rfl⟩
    unfold VlC
    rw [if_neg (by omega), if_neg (by omega), if_neg (by omega), if_neg (by omega)]
    exact ⟨fa, fc, rfl, h1, h2, h3.turn hkp fun v y h => h.turn hkp⟩
  obtain ⟨kind, ty, bits, imag, text, names, parts, hook⟩ := d
  simp only at hk hall hvl hB ⊢
  subst hk
  obtain ⟨W2, hW2⟩ : ∃ W2, W2 = (w.alloc (.cells #[.int .i64 19, .string ty, .int .u64 bits, .int .u64 imag, .string text, .slice na names.length nc, .slice pa parts.length pc, .int .i64 hook] 26)).alloc (.cells #[.int .i64 19, .string ty, .int .i64 hook] 67) := ⟨_, rfl⟩
  have hbW : Below w.heap.size w W2 := by rw [hW2]; exact ((Below.refl _ _).alloc (Nat.le_refl _) _).alloc (by simp) _
  have f0 : ∀ V, Below W2.heap.size W2 V → V.cell? ⟨w.heap.size, 6, none⟩ = some (.slice pa parts.length pc) ∧ V.cell? ⟨w.heap.size + 1, 0, none⟩ = some (.int .i64 19) ∧ V.cell? ⟨w.heap.size + 1, 1, none⟩ = some (.string ty) ∧ V.cell? ⟨w.heap.size + 1, 2, none⟩ = some (.int .i64 hook) ∧ V.cell? ⟨w.heap.size, 2, none⟩ = some (.int .u64 bits) := by
    intro V hV
    refine ⟨?_, ?_, ?_, ?_, ?_⟩
    all_goals exact up_cell hV (by rw [hW2]; simp [go_sem])
  obtain ⟨g6, g0, g1, g2, g3⟩ := f0 W2 (Below.refl _ _)
  have hall' : ∀ V, Below w.heap.size w V → Calls Tryd.prog 42 #[.slice pa parts.length pc] V fun e W' => Below V.heap.size V W' ∧ ∃ fa fc, e = .returned (.slice fa parts.length fc) ∧ parts.length ≤ fc ∧ fc ≤ maxLen ∧ Vals (VlC sr n (fun b => V.heap.size ≤ b) W') (fun b => V.heap.size ≤ b) W' fa parts := by
    intro V hV
    refine (hall V hV).mono ?_
    rintro e Z ⟨hbZ, (⟨-, h⟩ | ⟨h, -⟩)⟩
    · exact ⟨hbZ, h⟩
    · rw [hB] at h; cases h
  clear hall hB
  go_enter Tryd.func18, Tryd.ntmps18
  go_wp2
  rw [← hW2]
  clear hW2
  go_region_with ((go_at_call 42; refine (hall' _ (hbW.trans (Below.drew (Below.refl _ _)))).mono ?_; rintro e Z ⟨hbZ, fa, fc, rfl, k1, k2, hv⟩; have hbZ2 : Below W2.heap.size W2 Z := (Below.refl W2.heap.size W2).drew.trans hbZ; obtain ⟨-, m0, m1, m2, m3⟩ := f0 Z hbZ2))
  all_goals
    clear hall'
    go_wp2
    go_ret
    exact ⟨hbW.trans (hbZ2.mono hbW.size), _, _, rfl, hvl W2 _ _ _ hbW.size k1 k2 hv⟩
set_option maxRecDepth 1000000 in
set_option maxHeartbeats 4000000 in
theorem made_20 (sr : List D → List (D × D)) (tw : D → Bool) (n : Nat) (d : D) (na pa : Option Addr) (nc pc : Nat) (w : World) (hk : d.kind = 20) (hall : AllC sr tw n w pa pc d.parts) (hB : d.parts.any tw = false) :
    Calls Tryd.prog 18 #[DV d (.slice na d.names.length nc) (.slice pa d.parts.length pc)] w fun e W' => Below w.heap.size w W' ∧ ∃ t y, e = .returned (.iface t y) ∧ VlC sr (n + 1) (fun b => w.heap.size ≤ b) W' (.iface t y) d := by
  have hvl : ∀ (V W' : World) (fa : Option Addr) (fc : Nat), w.heap.size ≤ V.heap.size → d.parts.length ≤ fc → fc ≤ maxLen → Vals (VlC sr n (fun b => V.heap.size ≤ b) W') (fun b => V.heap.size ≤ b) W' fa d.parts → VlC sr (n + 1) (fun b => w.heap.size ≤ b) W' (.iface 90 (.agg #[.int .i64 d.kind, .string d.ty, .int .i64 d.hook, .slice fa d.parts.length fc])) d := by
    intro V W' fa fc hV h1 h2 h3
    have hkp : Kept (fun b => V.heap.size ≤ b) (fun b => w.heap.size ≤ b) W' W' := fun b hb _ => ⟨Nat.le_trans hV hb, fun _ => rfl⟩
    unfold VlC
    rw [if_neg (by omega), if_neg (by omega), if_neg (by omega), if_neg (by omega)]
    exact ⟨fa, fc, rfl, h1, h2, h3.turn hkp fun v y h => h.turn hkp⟩
  obtain ⟨kind, ty, bits, imag, text, names, parts, hook⟩ := d
  simp only at hk hall hvl hB ⊢
  subst hk
  obtain ⟨W2, hW2⟩ : ∃ W2, W2 = (w.alloc (.cells #[.int .i64 20, .string ty, .int .u64 bits, .int .u64 imag, .string text, .slice na names.length nc, .slice pa parts.length pc, .int .i64 hook] 26)).alloc (.cells #[.int .i64 20, .string ty, .int .i64 hook] 67) := ⟨_, rfl⟩
  have hbW : Below w.heap.size w W2 := by rw [hW2]; exact ((Below.refl _ _).alloc (Nat.le_refl _) _).alloc (by simp) _
  have f0 : ∀ V, Below W2.heap.size W2 V → V.cell? ⟨w.heap.size, 6, none⟩ = some (.slice pa parts.length pc) ∧ V.cell? ⟨w.heap.size + 1, 0, none⟩ = some (.int .i64 20) ∧ V.cell? ⟨w.heap.size + 1, 1, none⟩ = some (.string ty) ∧ V.cell? ⟨w.heap.size + 1, 2, none⟩ = some (.int .i64 hook) ∧ V.cell? ⟨w.heap.size, 2, none⟩ = some (.int .u64 bits) := by
    intro V hV
    refine ⟨?_, ?_, ?_, ?_, ?_⟩
    all_goals exact up_cell hV (by rw [hW2]; simp [go_sem])
  obtain ⟨g6, g0, g1, g2, g3⟩ := f0 W2 (Below.refl _ _)
  have hall' : ∀ V, Below w.heap.size w V → Calls Tryd.prog 42 #[.slice pa parts.length pc] V fun e W' => Below V.heap.size V W' ∧ ∃ fa fc, e = .returned (.slice fa parts.length fc) ∧ parts.length ≤ fc ∧ fc ≤ maxLen ∧ Vals (VlC sr n (fun b => V.heap.size ≤ b) W') (fun b => V.heap.size ≤ b) W' fa parts := by
    intro V hV
    refine (hall V hV).mono ?_
    rintro e Z ⟨hbZ, (⟨-, h⟩ | ⟨h, -⟩)⟩
    · exact ⟨hbZ, h⟩
    · rw [hB] at h; cases h
  clear hall hB
  go_enter Tryd.func18, Tryd.ntmps18
  go_wp2
  rw [← hW2]
  clear hW2
  go_region_with ((go_at_call 42; refine (hall' _ (hbW.trans (Below.drew (Below.refl _ _)))).mono ?_; rintro e Z ⟨hbZ, fa, fc, rfl, k1, k2, hv⟩; have hbZ2 : Below W2.heap.size W2 Z := (Below.refl W2.heap.size W2).drew.trans hbZ; obtain ⟨-, m0, m1, m2, m3⟩ := f0 Z hbZ2))
  all_goals
    clear hall'
    go_wp2
    go_ret
    exact ⟨hbW.trans (hbZ2.mono hbW.size), _, _, rfl, hvl W2 _ _ _ hbW.size k1 k2 hv⟩
set_option maxRecDepth 1000000 in
set_option maxHeartbeats 4000000 in
theorem made_22 (sr : List D → List (D × D)) (tw : D → Bool) (n : Nat) (d : D) (na pa : Option Addr) (nc pc : Nat) (w : World) (hk : d.kind = 22) (hall : AllC sr tw n w pa pc d.parts) (hB : d.parts.any tw = false) :
    Calls Tryd.prog 18 #[DV d (.slice na d.names.length nc) (.slice pa d.parts.length pc)] w fun e W' => Below w.heap.size w W' ∧ ∃ t y, e = .returned (.iface t y) ∧ VlC sr (n + 1) (fun b => w.heap.size ≤ b) W' (.iface t y) d := by
  have hvl : ∀ (V W' : World) (fa : Option Addr) (fc : Nat), w.heap.size ≤ V.heap.size → d.parts.length ≤ fc → fc ≤ maxLen → Vals (VlC sr n (fun b => V.heap.size ≤ b) W') (fun b => V.heap.size ≤ b) W' fa d.parts → VlC sr (n + 1) (fun b => w.heap.size ≤ b) W' (.iface 96 (.agg #[.int .i64 d.kind, .string d.ty, .int .i64 d.hook, .int .u64 d.bits, .slice fa d.parts.length fc])) d := by
    intro V W' fa fc hV h1 h2 h3
    have hkp : Kept (fun b => V.heap.size ≤ b) (fun b => w.heap.size ≤ b) W' W' := fun b hb _ => ⟨Nat.le_trans hV hb, fun _ => rfl⟩
    unfold VlC
    rw [if_neg (by omega), if_neg (by omega), if_neg (by omega), if_pos (by omega)]
    exact ⟨fa, fc, rfl, h1, h2, h3.turn hkp fun v y h => h.turn hkp⟩
  obtain ⟨kind, ty, bits, imag, text, names, parts, hook⟩ := d
  simp only at hk hall hvl hB ⊢
  subst hk
  obtain ⟨W2, hW2⟩ : ∃ W2, W2 = (w.alloc (.cells #[.int .i64 22, .string ty, .int .u64 bits, .int .u64 imag, .string text, .slice na names.length nc, .slice pa parts.length pc, .int .i64 hook] 26)).alloc (.cells #[.int .i64 22, .string ty, .int .i64 hook] 67) := ⟨_, rfl⟩
  have hbW : Below w.heap.size w W2 := by rw [hW2]; exact ((Below.refl _ _).alloc (Nat.le_refl _) _).alloc (by simp) _
  have f0 : ∀ V, Below W2.heap.size W2 V → V.cell? ⟨w.heap.size, 6, none⟩ = some (.slice pa parts.length pc) ∧ V.cell? ⟨w.heap.size + 1, 0, none⟩ = some (.int .i64 22) ∧ V.cell? ⟨w.heap.size + 1, 1, none⟩ = some (.string ty) ∧ V.cell? ⟨w.heap.size + 1, 2, none⟩ = some (.int .i64 hook) ∧ V.cell? ⟨w.heap.size, 2, none⟩ = some (.int .u64 bits) := by
    intro V hV
    refine ⟨?_, ?_, ?_, ?_, ?_⟩
    all_goals exact up_cell hV (by rw [hW2]; simp [go_sem])
  obtain ⟨g6, g0, g1, g2, g3⟩ := f0 W2 (Below.refl _ _)
  have hall' : ∀ V, Below w.heap.size w V → Calls Tryd.prog 42 #[.slice pa parts.length pc] V fun e W' => Below V.heap.size V W' ∧ ∃ fa fc, e = .returned (.slice fa parts.length fc) ∧ parts.length ≤ fc ∧ fc ≤ maxLen ∧ Vals (VlC sr n (fun b => V.heap.size ≤ b) W') (fun b => V.heap.size ≤ b) W' fa parts := by
    intro V hV
    refine (hall V hV).mono ?_
    rintro e Z ⟨hbZ, (⟨-, h⟩ | ⟨h, -⟩)⟩
    · exact ⟨hbZ, h⟩
    · rw [hB] at h; cases h
  clear hall hB
  go_enter Tryd.func18, Tryd.ntmps18
  go_wp2
  rw [← hW2]
  clear hW2
  go_region_with ((go_at_call 42; refine (hall' _ (hbW.trans (Below.drew (Below.refl _ _)))).mono ?_; rintro e Z ⟨hbZ, fa, fc, rfl, k1, k2, hv⟩; have hbZ2 : Below W2.heap.size W2 Z := (Below.refl W2.heap.size W2).drew.trans hbZ; obtain ⟨-, m0, m1, m2, m3⟩ := f0 Z hbZ2))
  all_goals
    clear hall'
    go_wp2
    go_ret
    exact ⟨hbW.trans (hbZ2.mono hbW.size), _, _, rfl, hvl W2 _ _ _ hbW.size k1 k2 hv⟩
end Go.Proofs.YtcabfeehfimooabDoor
