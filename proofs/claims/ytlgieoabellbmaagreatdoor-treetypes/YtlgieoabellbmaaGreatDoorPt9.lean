/- VMadeQ, VPure, VStruct, VMapP: these texts in one. -/
import Derived.Test.YtlgieoabellbmaaGreatDoorPt8
import Derived.Deep.RegionHeld
import Derived.Test.YtlgieoabellbmaaGreatDoorShelf
namespace Go.Proofs.YtlgieoabellbmaaGreatDoor
open Go.RowKit
set_option linter.unusedVariables false
set_option linter.unusedSimpArgs false
def AllC (sr : List D → List (D × D)) (tw : D → Bool) (n : Nat) (w : World) (pa : Option Addr) (pc : Nat) (l : List D) : Prop :=
 ∀ V, Below w.heap.size w V → Calls Tryz.prog 61 #[.slice pa l.length pc] V fun e W' => Below V.heap.size V W' ∧
   ((l.any tw = false ∧ ∃ fa fc, e = .returned (.slice fa l.length fc) ∧ l.length ≤ fc ∧ fc ≤ maxLen ∧ Vals (VlC sr n (fun b => V.heap.size ≤ b) W') (fun b => V.heap.size ≤ b) W' fa l) ∨ (l.any tw = true ∧ e = .panicked (PE 5)))
theorem all_of {sr : List D → List (D × D)} {tw : D → Bool} {n : Nat} {w : World} {d : D} {na pa : Option Addr} {nc pc : Nat} (hr : RdC (n + 1) w (.slice na d.names.length nc) (.slice pa d.parts.length pc) d) (h64 : d.parts.length ≤ 1000) (ih : ∀ x ∈ d.parts, ∀ V, MadeC sr tw n V x) : AllC sr tw n w pa pc d.parts := by
 intro V hV
 obtain ⟨-, -, a, cap, he, h1, h2, hcell⟩ := hr
 obtain ⟨rfl, -, rfl⟩ := Value.slice.inj he
 refine madeall_any sr tw n d.parts pa pc V h1 h2 h64 (fun i x hx => ?_) fun x hx => ih x hx V
 obtain ⟨b, off, nv', pv', e1, e2, e3⟩ := hcell i x hx
 exact ⟨b, off, nv', pv', e1, e2.up hV, e3.up hV⟩
set_option maxRecDepth 1000000 in
set_option maxHeartbeats 4000000 in
theorem madeq_19 (sr : List D → List (D × D)) (tw : D → Bool) (n : Nat) (d : D) (na pa : Option Addr) (nc pc : Nat) (w : World) (hk : d.kind = 19) (hall : AllC sr tw n w pa pc d.parts) :
  Calls Tryz.prog 32 #[DV d (.slice na d.names.length nc) (.slice pa d.parts.length pc)] w fun e W' => Below w.heap.size w W' ∧
   ((d.parts.any tw = false ∧ ∃ t y, e = .returned (.iface t y) ∧ VlC sr (n + 1) (fun b => w.heap.size ≤ b) W' (.iface t y) d) ∨ (d.parts.any tw = true ∧ e = .panicked (PE 5))) := by
 have hvl : ∀ (V W' : World) (fa : Option Addr) (fc : Nat), w.heap.size ≤ V.heap.size → d.parts.length ≤ fc → fc ≤ maxLen → Vals (VlC sr n (fun b => V.heap.size ≤ b) W') (fun b => V.heap.size ≤ b) W' fa d.parts → VlC sr (n + 1) (fun b => w.heap.size ≤ b) W' (.iface 88 (.agg #[.int .i64 d.kind, .string d.ty, .int .i64 d.hook, .slice fa d.parts.length fc])) d := by
  intro V W' fa fc hV h1 h2 h3
  have hkp : Kept (fun b => V.heap.size ≤ b) (fun b => w.heap.size ≤ b) W' W' := fun b hb _ => ⟨Nat.le_trans hV hb, fun _ => rfl⟩
  unfold VlC
  rw [if_neg (by omega), if_neg (by omega), if_neg (by omega), if_neg (by omega)]
  exact ⟨fa, fc, rfl, h1, h2, h3.turn hkp fun v y h => h.turn hkp⟩
 obtain ⟨kind, ty, bits, imag, text, names, parts, hook⟩ := d
 simp only at hk hall hvl ⊢
 subst hk
 obtain ⟨W2, hW2⟩ : ∃ W2, W2 = (w.alloc (.cells #[.int .i64 19, .string ty, .int .u64 bits, .int .u64 imag, .string text, .slice na names.length nc, .slice pa parts.length pc, .int .i64 hook] 26)).alloc (.cells #[.int .i64 19, .string ty, .int .i64 hook] 60) := ⟨_, rfl⟩
 have hbW : Below w.heap.size w W2 := by rw [hW2]; exact ((Below.refl _ _).alloc (Nat.le_refl _) _).alloc (by simp) _
 have f0 : ∀ V, Below W2.heap.size W2 V → (fun w' => w'.cell? ⟨w.heap.size, 6, none⟩ = some (.slice pa parts.length pc) ∧ w'.cell? ⟨w.heap.size + 1, 0, none⟩ = some (.int .i64 19) ∧ w'.cell? ⟨w.heap.size + 1, 1, none⟩ = some (.string ty) ∧ w'.cell? ⟨w.heap.size + 1, 2, none⟩ = some (.int .i64 hook) ∧ w'.cell? ⟨w.heap.size, 2, none⟩ = some (.int .u64 bits)) V := by
  intro V hV
  refine ⟨?_, ?_, ?_, ?_, ?_⟩
  all_goals exact up_cell hV (by rw [hW2]; simp [go_sem])
 have hdr := hall W2.drew (hbW.trans (Below.drew (Below.refl _ _)))
 clear hall
 go_enter Tryz.func32, Tryz.ntmps32
 go_wp2
 rw [← hW2]
 clear hW2
 refine wp_region_held_drew (S := fun w' => w'.cell? ⟨w.heap.size, 6, none⟩ = some (.slice pa parts.length pc) ∧ w'.cell? ⟨w.heap.size + 1, 0, none⟩ = some (.int .i64 19) ∧ w'.cell? ⟨w.heap.size + 1, 1, none⟩ = some (.string ty) ∧ w'.cell? ⟨w.heap.size + 1, 2, none⟩ = some (.int .i64 hook) ∧ w'.cell? ⟨w.heap.size, 2, none⟩ = some (.int .u64 bits)) (by kernel_rfl) (f0 _ (Below.refl W2.heap.size W2).drew) ?_
 intro hS
 refine tk 0 (.agg #[.int .i64 19, .string ty, .int .i64 hook]) rfl (by kernel_rfl) (fun _ _ _ h => h) (by rfl) (by assumption) ?_ ?_
 ·intro w5 hSw
  obtain ⟨s6, s0, s1, s2, s3⟩ := hSw
  go_simp
 simp only [Act.put, List.setIfInBounds_toArray, List.set_cons_zero, List.set_cons_succ]
 refine tk 1 (.pointer (some ⟨w.heap.size, 6, none⟩)) rfl (by kernel_rfl) (fun _ _ _ h => h) (by rfl) (by assumption) ?_ ?_
 ·intro w5 hSw
  obtain ⟨s6, s0, s1, s2, s3⟩ := hSw
  go_simp
 simp only [Act.put, List.setIfInBounds_toArray, List.set_cons_zero, List.set_cons_succ]
 refine tk 2 (.slice pa parts.length pc) rfl (by kernel_rfl) (fun _ _ _ h => h) (by rfl) (by assumption) ?_ ?_
 ·intro w5 hSw
  obtain ⟨s6, s0, s1, s2, s3⟩ := hSw
  go_simp
 simp only [Act.put, List.setIfInBounds_toArray, List.set_cons_zero, List.set_cons_succ]
 refine rd1 3 (by kernel_rfl) rfl fun K hK => ?_
 go_simp
 refine hdr.mono ?_
 rintro e Z ⟨hbZ, (⟨htw, fa, fc, rfl, k1, k2, hv⟩ | ⟨htw, rfl⟩)⟩
 ·have hbZ2 : Below W2.heap.size W2 Z := (Below.refl W2.heap.size W2).drew.trans hbZ
  have HT : Hid (parts.any tw = false) := htw
  clear htw
  refine hK.out _ _ (f0 Z hbZ2) (fun hHeld => ?_)
  try simp only [Act.put, List.setIfInBounds_toArray, List.set_cons_zero, List.set_cons_succ]
  refine rd1 4 (by kernel_rfl) rfl fun K1 hK1 => ?_
  go_simp
  refine hK1.out _ _ (f0 Z hbZ2) (fun _ => ?_)
  refine rd1 5 (by kernel_rfl) rfl fun K2 hK2 => ?_
  go_simp
  refine hK2.out _ _ (f0 Z hbZ2) (fun _ => ?_)
  refine rd1 6 (by kernel_rfl) rfl fun K3 hK3 => ?_
  go_simp
  refine hK3.out _ _ (f0 Z hbZ2) (fun _ => ?_)
  refine wpAnyH_done (by kernel_rfl) ?_ _
  clear hK hK1 hK2 hK3
  go_wp2
  go_ret
  exact ⟨hbW.trans (hbZ2.mono hbW.size), .inl ⟨by first | exact HT.out | simpa using HT.out, 88, .agg #[.int .i64 19, .string ty, .int .i64 hook, .slice fa parts.length fc], rfl, hvl W2 _ _ _ hbW.size k1 k2 hv⟩⟩
 ·exact ⟨rfl, hbW.trans (((Below.refl W2.heap.size W2).drew.trans hbZ).mono hbW.size), .inr ⟨by first | exact htw | simpa using htw, rfl⟩⟩
set_option maxRecDepth 1000000 in
set_option maxHeartbeats 4000000 in
theorem madeq_20 (sr : List D → List (D × D)) (tw : D → Bool) (n : Nat) (d : D) (na pa : Option Addr) (nc pc : Nat) (w : World) (hk : d.kind = 20) (hall : AllC sr tw n w pa pc d.parts) :
  Calls Tryz.prog 32 #[DV d (.slice na d.names.length nc) (.slice pa d.parts.length pc)] w fun e W' => Below w.heap.size w W' ∧
   ((d.parts.any tw = false ∧ ∃ t y, e = .returned (.iface t y) ∧ VlC sr (n + 1) (fun b => w.heap.size ≤ b) W' (.iface t y) d) ∨ (d.parts.any tw = true ∧ e = .panicked (PE 5))) := by
 have hvl : ∀ (V W' : World) (fa : Option Addr) (fc : Nat), w.heap.size ≤ V.heap.size → d.parts.length ≤ fc → fc ≤ maxLen → Vals (VlC sr n (fun b => V.heap.size ≤ b) W') (fun b => V.heap.size ≤ b) W' fa d.parts → VlC sr (n + 1) (fun b => w.heap.size ≤ b) W' (.iface 88 (.agg #[.int .i64 d.kind, .string d.ty, .int .i64 d.hook, .slice fa d.parts.length fc])) d := by
  intro V W' fa fc hV h1 h2 h3
  have hkp : Kept (fun b => V.heap.size ≤ b) (fun b => w.heap.size ≤ b) W' W' := fun b hb _ => ⟨Nat.le_trans hV hb, fun _ => rfl⟩
  unfold VlC
  rw [if_neg (by omega), if_neg (by omega), if_neg (by omega), if_neg (by omega)]
  exact ⟨fa, fc, rfl, h1, h2, h3.turn hkp fun v y h => h.turn hkp⟩
 obtain ⟨kind, ty, bits, imag, text, names, parts, hook⟩ := d
 simp only at hk hall hvl ⊢
 subst hk
 obtain ⟨W2, hW2⟩ : ∃ W2, W2 = (w.alloc (.cells #[.int .i64 20, .string ty, .int .u64 bits, .int .u64 imag, .string text, .slice na names.length nc, .slice pa parts.length pc, .int .i64 hook] 26)).alloc (.cells #[.int .i64 20, .string ty, .int .i64 hook] 60) := ⟨_, rfl⟩
 have hbW : Below w.heap.size w W2 := by rw [hW2]; exact ((Below.refl _ _).alloc (Nat.le_refl _) _).alloc (by simp) _
 have f0 : ∀ V, Below W2.heap.size W2 V → (fun w' => w'.cell? ⟨w.heap.size, 6, none⟩ = some (.slice pa parts.length pc) ∧ w'.cell? ⟨w.heap.size + 1, 0, none⟩ = some (.int .i64 20) ∧ w'.cell? ⟨w.heap.size + 1, 1, none⟩ = some (.string ty) ∧ w'.cell? ⟨w.heap.size + 1, 2, none⟩ = some (.int .i64 hook) ∧ w'.cell? ⟨w.heap.size, 2, none⟩ = some (.int .u64 bits)) V := by
  intro V hV
  refine ⟨?_, ?_, ?_, ?_, ?_⟩
  all_goals exact up_cell hV (by rw [hW2]; simp [go_sem])
 have hdr := hall W2.drew (hbW.trans (Below.drew (Below.refl _ _)))
 clear hall
 go_enter Tryz.func32, Tryz.ntmps32
 go_wp2
 rw [← hW2]
 clear hW2
 refine wp_region_held_drew (S := fun w' => w'.cell? ⟨w.heap.size, 6, none⟩ = some (.slice pa parts.length pc) ∧ w'.cell? ⟨w.heap.size + 1, 0, none⟩ = some (.int .i64 20) ∧ w'.cell? ⟨w.heap.size + 1, 1, none⟩ = some (.string ty) ∧ w'.cell? ⟨w.heap.size + 1, 2, none⟩ = some (.int .i64 hook) ∧ w'.cell? ⟨w.heap.size, 2, none⟩ = some (.int .u64 bits)) (by kernel_rfl) (f0 _ (Below.refl W2.heap.size W2).drew) ?_
 intro hS
 refine tk 0 (.agg #[.int .i64 20, .string ty, .int .i64 hook]) rfl (by kernel_rfl) (fun _ _ _ h => h) (by rfl) (by assumption) ?_ ?_
 ·intro w5 hSw
  obtain ⟨s6, s0, s1, s2, s3⟩ := hSw
  go_simp
 simp only [Act.put, List.setIfInBounds_toArray, List.set_cons_zero, List.set_cons_succ]
 refine tk 1 (.pointer (some ⟨w.heap.size, 6, none⟩)) rfl (by kernel_rfl) (fun _ _ _ h => h) (by rfl) (by assumption) ?_ ?_
 ·intro w5 hSw
  obtain ⟨s6, s0, s1, s2, s3⟩ := hSw
  go_simp
 simp only [Act.put, List.setIfInBounds_toArray, List.set_cons_zero, List.set_cons_succ]
 refine tk 2 (.slice pa parts.length pc) rfl (by kernel_rfl) (fun _ _ _ h => h) (by rfl) (by assumption) ?_ ?_
 ·intro w5 hSw
  obtain ⟨s6, s0, s1, s2, s3⟩ := hSw
  go_simp
 simp only [Act.put, List.setIfInBounds_toArray, List.set_cons_zero, List.set_cons_succ]
 refine rd1 3 (by kernel_rfl) rfl fun K hK => ?_
 go_simp
 refine hdr.mono ?_
 rintro e Z ⟨hbZ, (⟨htw, fa, fc, rfl, k1, k2, hv⟩ | ⟨htw, rfl⟩)⟩
 ·have hbZ2 : Below W2.heap.size W2 Z := (Below.refl W2.heap.size W2).drew.trans hbZ
  have HT : Hid (parts.any tw = false) := htw
  clear htw
  refine hK.out _ _ (f0 Z hbZ2) (fun hHeld => ?_)
  try simp only [Act.put, List.setIfInBounds_toArray, List.set_cons_zero, List.set_cons_succ]
  refine rd1 4 (by kernel_rfl) rfl fun K1 hK1 => ?_
  go_simp
  refine hK1.out _ _ (f0 Z hbZ2) (fun _ => ?_)
  refine rd1 5 (by kernel_rfl) rfl fun K2 hK2 => ?_
  go_simp
  refine hK2.out _ _ (f0 Z hbZ2) (fun _ => ?_)
  refine rd1 6 (by kernel_rfl) rfl fun K3 hK3 => ?_
  go_simp
  refine hK3.out _ _ (f0 Z hbZ2) (fun _ => ?_)
  refine wpAnyH_done (by kernel_rfl) ?_ _
  clear hK hK1 hK2 hK3
  go_wp2
  go_ret
  exact ⟨hbW.trans (hbZ2.mono hbW.size), .inl ⟨by first | exact HT.out | simpa using HT.out, 88, .agg #[.int .i64 20, .string ty, .int .i64 hook, .slice fa parts.length fc], rfl, hvl W2 _ _ _ hbW.size k1 k2 hv⟩⟩
 ·exact ⟨rfl, hbW.trans (((Below.refl W2.heap.size W2).drew.trans hbZ).mono hbW.size), .inr ⟨by first | exact htw | simpa using htw, rfl⟩⟩
set_option maxRecDepth 1000000 in
set_option maxHeartbeats 4000000 in
theorem madeq_22 (sr : List D → List (D × D)) (tw : D → Bool) (n : Nat) (d : D) (na pa : Option Addr) (nc pc : Nat) (w : World) (hk : d.kind = 22) (hall : AllC sr tw n w pa pc d.parts) :
  Calls Tryz.prog 32 #[DV d (.slice na d.names.length nc) (.slice pa d.parts.length pc)] w fun e W' => Below w.heap.size w W' ∧
   ((d.parts.any tw = false ∧ ∃ t y, e = .returned (.iface t y) ∧ VlC sr (n + 1) (fun b => w.heap.size ≤ b) W' (.iface t y) d) ∨ (d.parts.any tw = true ∧ e = .panicked (PE 5))) := by
 have hvl : ∀ (V W' : World) (fa : Option Addr) (fc : Nat), w.heap.size ≤ V.heap.size → d.parts.length ≤ fc → fc ≤ maxLen → Vals (VlC sr n (fun b => V.heap.size ≤ b) W') (fun b => V.heap.size ≤ b) W' fa d.parts → VlC sr (n + 1) (fun b => w.heap.size ≤ b) W' (.iface 95 (.agg #[.int .i64 d.kind, .string d.ty, .int .i64 d.hook, .int .u64 d.bits, .slice fa d.parts.length fc])) d := by
  intro V W' fa fc hV h1 h2 h3
  have hkp : Kept (fun b => V.heap.size ≤ b) (fun b => w.heap.size ≤ b) W' W' := fun b hb _ => ⟨Nat.le_trans hV hb, fun _ => rfl⟩
  unfold VlC
  rw [if_neg (by omega), if_neg (by omega), if_neg (by omega), if_pos (by omega)]
  exact ⟨fa, fc, rfl, h1, h2, h3.turn hkp fun v y h => h.turn hkp⟩
 obtain ⟨kind, ty, bits, imag, text, names, parts, hook⟩ := d
 simp only at hk hall hvl ⊢
 subst hk
 obtain ⟨W2, hW2⟩ : ∃ W2, W2 = (w.alloc (.cells #[.int .i64 22, .string ty, .int .u64 bits, .int .u64 imag, .string text, .slice na names.length nc, .slice pa parts.length pc, .int .i64 hook] 26)).alloc (.cells #[.int .i64 22, .string ty, .int .i64 hook] 60) := ⟨_, rfl⟩
 have hbW : Below w.heap.size w W2 := by rw [hW2]; exact ((Below.refl _ _).alloc (Nat.le_refl _) _).alloc (by simp) _
 have f0 : ∀ V, Below W2.heap.size W2 V → (fun w' => w'.cell? ⟨w.heap.size, 6, none⟩ = some (.slice pa parts.length pc) ∧ w'.cell? ⟨w.heap.size + 1, 0, none⟩ = some (.int .i64 22) ∧ w'.cell? ⟨w.heap.size + 1, 1, none⟩ = some (.string ty) ∧ w'.cell? ⟨w.heap.size + 1, 2, none⟩ = some (.int .i64 hook) ∧ w'.cell? ⟨w.heap.size, 2, none⟩ = some (.int .u64 bits)) V := by
  intro V hV
  refine ⟨?_, ?_, ?_, ?_, ?_⟩
  all_goals exact up_cell hV (by rw [hW2]; simp [go_sem])
 have hdr := hall W2.drew (hbW.trans (Below.drew (Below.refl _ _)))
 clear hall
 go_enter Tryz.func32, Tryz.ntmps32
 go_wp2
 rw [← hW2]
 clear hW2
 refine wp_region_held_drew (S := fun w' => w'.cell? ⟨w.heap.size, 6, none⟩ = some (.slice pa parts.length pc) ∧ w'.cell? ⟨w.heap.size + 1, 0, none⟩ = some (.int .i64 22) ∧ w'.cell? ⟨w.heap.size + 1, 1, none⟩ = some (.string ty) ∧ w'.cell? ⟨w.heap.size + 1, 2, none⟩ = some (.int .i64 hook) ∧ w'.cell? ⟨w.heap.size, 2, none⟩ = some (.int .u64 bits)) (by kernel_rfl) (f0 _ (Below.refl W2.heap.size W2).drew) ?_
 intro hS
 refine tk 0 (.agg #[.int .i64 22, .string ty, .int .i64 hook]) rfl (by kernel_rfl) (fun _ _ _ h => h) (by rfl) (by assumption) ?_ ?_
 ·intro w5 hSw
  obtain ⟨s6, s0, s1, s2, s3⟩ := hSw
  go_simp
 simp only [Act.put, List.setIfInBounds_toArray, List.set_cons_zero, List.set_cons_succ]
 refine tk 1 (.pointer (some ⟨w.heap.size, 2, none⟩)) rfl (by kernel_rfl) (fun _ _ _ h => h) (by rfl) (by assumption) ?_ ?_
 ·intro w5 hSw
  obtain ⟨s6, s0, s1, s2, s3⟩ := hSw
  go_simp
 simp only [Act.put, List.setIfInBounds_toArray, List.set_cons_zero, List.set_cons_succ]
 refine tk 2 (.int .u64 bits) rfl (by kernel_rfl) (fun _ _ _ h => h) (by rfl) (by assumption) ?_ ?_
 ·intro w5 hSw
  obtain ⟨s6, s0, s1, s2, s3⟩ := hSw
  go_simp
 simp only [Act.put, List.setIfInBounds_toArray, List.set_cons_zero, List.set_cons_succ]
 refine tk 3 (.pointer (some ⟨w.heap.size, 6, none⟩)) rfl (by kernel_rfl) (fun _ _ _ h => h) (by rfl) (by assumption) ?_ ?_
 ·intro w5 hSw
  obtain ⟨s6, s0, s1, s2, s3⟩ := hSw
  go_simp
 simp only [Act.put, List.setIfInBounds_toArray, List.set_cons_zero, List.set_cons_succ]
 refine tk 4 (.slice pa parts.length pc) rfl (by kernel_rfl) (fun _ _ _ h => h) (by rfl) (by assumption) ?_ ?_
 ·intro w5 hSw
  obtain ⟨s6, s0, s1, s2, s3⟩ := hSw
  go_simp
 simp only [Act.put, List.setIfInBounds_toArray, List.set_cons_zero, List.set_cons_succ]
 refine rd1 5 (by kernel_rfl) rfl fun K hK => ?_
 go_simp
 refine hdr.mono ?_
 rintro e Z ⟨hbZ, (⟨htw, fa, fc, rfl, k1, k2, hv⟩ | ⟨htw, rfl⟩)⟩
 ·have hbZ2 : Below W2.heap.size W2 Z := (Below.refl W2.heap.size W2).drew.trans hbZ
  have HT : Hid (parts.any tw = false) := htw
  clear htw
  refine hK.out _ _ (f0 Z hbZ2) (fun hHeld => ?_)
  try simp only [Act.put, List.setIfInBounds_toArray, List.set_cons_zero, List.set_cons_succ]
  refine rd1 6 (by kernel_rfl) rfl fun K1 hK1 => ?_
  go_simp
  refine hK1.out _ _ (f0 Z hbZ2) (fun _ => ?_)
  refine rd1 7 (by kernel_rfl) rfl fun K2 hK2 => ?_
  go_simp
  refine hK2.out _ _ (f0 Z hbZ2) (fun _ => ?_)
  refine rd1 8 (by kernel_rfl) rfl fun K3 hK3 => ?_
  go_simp
  refine hK3.out _ _ (f0 Z hbZ2) (fun _ => ?_)
  refine wpAnyH_done (by kernel_rfl) ?_ _
  clear hK hK1 hK2 hK3
  go_wp2
  go_ret
  exact ⟨hbW.trans (hbZ2.mono hbW.size), .inl ⟨by first | exact HT.out | simpa using HT.out, 95, .agg #[.int .i64 22, .string ty, .int .i64 hook, .int .u64 bits, .slice fa parts.length fc], rfl, hvl W2 _ _ _ hbW.size k1 k2 hv⟩⟩
 ·exact ⟨rfl, hbW.trans (((Below.refl W2.heap.size W2).drew.trans hbZ).mono hbW.size), .inr ⟨by first | exact htw | simpa using htw, rfl⟩⟩
end Go.Proofs.YtlgieoabellbmaaGreatDoor
namespace Go.Proofs.YtlgieoabellbmaaGreatDoor
open Go.RowKit
set_option linter.unusedVariables false
set_option linter.unusedSimpArgs false
theorem runV_free {ok : Int → D → Int → Bool} (h : ∀ s s' d k, ok s d k = ok s' d k) : ∀ (l : List (D × Int)) (s : Int), runV ok 0 s l = none ↔ ∃ p ∈ l, ok 0 p.1 p.2 = false
 | [], s => by simp [runV]
 | (d, k) :: l, s => by
   have hs := h s 0 d k
   rcases Bool.eq_false_or_eq_true (ok 0 d k) with h0 | h0
   ·rw [h0] at hs
    have e : runV ok 0 s ((d, k) :: l) = runV ok 0 (s + 0) l := by simp [runV, hs]
    rw [e, runV_free h l (s + 0)]
    constructor
    ·rintro ⟨p, hp, h1⟩; exact ⟨p, List.mem_cons_of_mem _ hp, h1⟩
    ·rintro ⟨p, hp, h1⟩
     rcases List.mem_cons.1 hp with rfl | hp
     ·rw [h0] at h1; cases h1
     ·exact ⟨p, hp, h1⟩
   ·rw [h0] at hs
    have e : runV ok 0 s ((d, k) :: l) = none := by simp [runV, hs]
    rw [e]
    exact ⟨fun _ => ⟨_, List.mem_cons_self .., h0⟩, fun _ => rfl⟩
theorem runV_one : ∀ (l : List (D × Int)) (s : Int), s ≤ 64 → (runV ok1 1 s l = none ↔ (64 < s + l.length ∨ ∃ p ∈ l, fitsB p.1 = false))
 | [], s, hs => by simp [runV]; omega
 | (d, k) :: l, s, hs => by
   by_cases h1 : s + 1 ≤ 64
   ·rcases Bool.eq_false_or_eq_true (fitsB d) with h2 | h2
    ·have e : runV ok1 1 s ((d, k) :: l) = runV ok1 1 (s + 1) l := by simp [runV, ok1, h1, h2]
     rw [e, runV_one l (s + 1) h1, List.length_cons]
     constructor
     ·rintro (h | ⟨p, hp, h⟩)
      ·left; push_cast; omega
      ·right; exact ⟨p, List.mem_cons_of_mem _ hp, h⟩
     ·rintro (h | ⟨p, hp, h⟩)
      ·left; push_cast at h; omega
      ·rcases List.mem_cons.1 hp with rfl | hp
       ·rw [h2] at h; cases h
       ·exact .inr ⟨p, hp, h⟩
    ·have e : runV ok1 1 s ((d, k) :: l) = none := by simp [runV, ok1, h2]
     rw [e]
     exact ⟨fun _ => .inr ⟨_, List.mem_cons_self .., h2⟩, fun _ => rfl⟩
   ·have e : runV ok1 1 s ((d, k) :: l) = none := by simp [runV, ok1, h1]
    rw [e, List.length_cons]
    exact ⟨fun _ => .inl (by push_cast; omega), fun _ => rfl⟩
theorem chk0_eq (d : D) : chk0 d = if 64 < (pre d 0).length ∨ (∃ p ∈ pre d 0, fitsB p.1 = false) then 2 else if ∃ p ∈ pre d 0, 8 ≤ p.2 then 6 else if ∃ p ∈ pre d 0, ¬ (0 ≤ p.1.kind ∧ p.1.kind ≤ 22) then 3 else if ∃ p ∈ pre d 0, frmB p.1 = false then 4 else 0 := by
 have e1 : (runV ok1 1 0 (pre d 0) = none) = (64 < (pre d 0).length ∨ ∃ p ∈ pre d 0, fitsB p.1 = false) := by
  rw [runV_one _ 0 (by omega)]
  apply propext
  constructor
  ·rintro (h | h)
   ·left; omega
   ·exact .inr h
  ·rintro (h | h)
   ·left; omega
   ·exact .inr h
 have e2 : (runV ok2 0 0 (pre d 0) = none) = ∃ p ∈ pre d 0, 8 ≤ p.2 := by
  rw [runV_free (fun _ _ _ _ => rfl)]
  simp [ok2]
 have e3 : (runV ok3 0 0 (pre d 0) = none) = ∃ p ∈ pre d 0, ¬ (0 ≤ p.1.kind ∧ p.1.kind ≤ 22) := by
  rw [runV_free (fun _ _ _ _ => rfl)]
  apply propext
  constructor
  ·rintro ⟨p, hp, h⟩
   exact ⟨p, hp, by simp [ok3] at h; omega⟩
  ·rintro ⟨p, hp, h⟩
   exact ⟨p, hp, by simp [ok3]; omega⟩
 have e4 : (runV ok4 0 0 (pre d 0) = none) = ∃ p ∈ pre d 0, frmB p.1 = false := by
  rw [runV_free (fun _ _ _ _ => rfl)]
  simp [ok4]
 unfold chk0
 simp only [e1, e2, e3, e4]
def RdS : Nat → (Nat → Prop) → World → Value → Value → D → Prop
 | 0, _, _, _, _, _ => False
 | n + 1, S, W, nv, pv, d => Fit d ∧ (∃ a cap, nv = .slice a d.names.length cap ∧ d.names.length ≤ cap ∧ cap ≤ maxLen ∧ ∀ (i : Nat) (s : ByteArray), d.names[i]? = some s → s.size ≤ maxLen ∧ ∃ b off, a = some ⟨b, off, none⟩ ∧ S b ∧ W.cell? ⟨b, off + i, none⟩ = some (.string s)) ∧
     ∃ a cap, pv = .slice a d.parts.length cap ∧ d.parts.length ≤ cap ∧ cap ≤ maxLen ∧
     ∀ (i : Nat) (x : D), d.parts[i]? = some x → ∃ b off nv' pv', a = some ⟨b, off, none⟩ ∧ S b ∧ At8 W b (off + i * 8) x nv' pv' ∧ RdS n S W nv' pv' x
theorem At8.turn {S S' : Nat → Prop} {W W' : World} (hk : Kept S S' W W') {b o : Nat} {d : D} {nv pv : Value} (hs : S b) (h : At8 W b o d nv pv) : At8 W' b o d nv pv :=
 ⟨(hk.at hs h.1).2, (hk.at hs h.2.1).2, (hk.at hs h.2.2.1).2, (hk.at hs h.2.2.2.1).2, (hk.at hs h.2.2.2.2.1).2, (hk.at hs h.2.2.2.2.2.1).2, (hk.at hs h.2.2.2.2.2.2.1).2, (hk.at hs h.2.2.2.2.2.2.2).2⟩
theorem RdS.turn {S S' : Nat → Prop} {W W' : World} (hk : Kept S S' W W') : ∀ {n : Nat} {nv pv : Value} {d : D}, RdS n S W nv pv d → RdS n S' W' nv pv d
 | 0, _, _, _, h => h
 | n + 1, nv, pv, d, h => by
   obtain ⟨h1, ⟨na, nc, n1, n2, n3, n4⟩, a, cap, h3, h4, h5, h6⟩ := h
   refine ⟨h1, ⟨na, nc, n1, n2, n3, fun i s hs => ?_⟩, a, cap, h3, h4, h5, fun i x hx => ?_⟩
   ·obtain ⟨k1, b, off, k2, k3, k4⟩ := n4 i s hs
    obtain ⟨k5, k6⟩ := hk.at k3 k4
    exact ⟨k1, b, off, k2, k5, k6⟩
   ·obtain ⟨b, off, nv', pv', e1, e2, e3, e4⟩ := h6 i x hx
    exact ⟨b, off, nv', pv', e1, (hk.at e2 e3.1).1, e3.turn hk e2, RdS.turn hk e4⟩
theorem RdS.plain {S : Nat → Prop} {W : World} : ∀ {n : Nat} {nv pv : Value} {d : D}, RdS n S W nv pv d → RdC n W nv pv d
 | 0, _, _, _, h => h
 | n + 1, nv, pv, d, h => by
   obtain ⟨h1, ⟨na, nc, n1, n2, n3, n4⟩, a, cap, h3, h4, h5, h6⟩ := h
   refine ⟨h1, ⟨na, nc, n1, n2, n3, fun i s hs => ?_⟩, a, cap, h3, h4, h5, fun i x hx => ?_⟩
   ·obtain ⟨k1, b, off, k2, k3, k4⟩ := n4 i s hs
    exact ⟨k1, b, off, k2, k4⟩
   ·obtain ⟨b, off, nv', pv', e1, e2, e3, e4⟩ := h6 i x hx
    exact ⟨b, off, nv', pv', e1, e3, RdS.plain e4⟩
theorem flat_fit {n : Nat} {W : World} {nv pv : Value} {d : D} (h : RdC (n + 1) W nv pv d) : Fit d := h.1
theorem made_plain (sr : List D → List (D × D)) : ∀ (n : Nat) (d : D), (∀ y ∈ nodes d, 0 ≤ y.kind ∧ y.kind ≤ 22 ∧ y.kind ≠ 18 ∧ y.kind ≠ 21 ∧ y.parts.length ≤ 1000) → ∀ W0, MadeC sr (fun _ => false) n W0 d := by
 intro n
 induction n with
 | zero => intro d _ W0 nv pv W hr; exact hr.elim
 | succ n ih =>
   intro d hg W0 nv pv W hr
   have hr2 := hr.up W.below
   obtain ⟨na, nc, pa, pc, rfl, rfl⟩ := hr.slices
   obtain ⟨k0, k1, k2, k3, k4⟩ := hg d (nodes_self d)
   by_cases h17 : d.kind ≤ 17
   ·have hf := hr.1
    refine (made_flat d na pa nc pc W.w k0 h17 hf.2.1.1 hf.2.1.2 hf.2.2.1.1 hf.2.2.1.2).mono ?_
    rintro e W' ⟨rfl, hb⟩
    obtain ⟨t, x, hx⟩ : ∃ t x, mdV d = .iface t x := by
     unfold mdV
     repeat' split
     all_goals exact ⟨_, _, rfl⟩
    exact ⟨hb, .inl ⟨rfl, t, x, by rw [hx], by unfold VlC; rw [if_pos h17, hx]⟩⟩
   ·have hgr : great d.kind = true := by simp [great]; omega
    have hall := all_of (sr := sr) (tw := fun _ => false) hr2 k4 fun x hx V => ih x (fun y hy => hg y (nodes_part hgr hx hy)) V
    have hB : d.parts.any (fun _ => false) = false := by simp
    have h3 : d.kind = 19 ∨ d.kind = 20 ∨ d.kind = 22 := by omega
    rcases h3 with h3 | h3 | h3
    ·refine (madeq_19 sr _ n d na pa nc pc W.w h3 hall).mono ?_
     rintro e W' ⟨hb, (⟨-, t, y, rfl, hv⟩ | ⟨h, -⟩)⟩
     ·exact ⟨hb, .inl ⟨rfl, t, y, rfl, hv⟩⟩
     ·rw [hB] at h; cases h
    ·refine (madeq_20 sr _ n d na pa nc pc W.w h3 hall).mono ?_
     rintro e W' ⟨hb, (⟨-, t, y, rfl, hv⟩ | ⟨h, -⟩)⟩
     ·exact ⟨hb, .inl ⟨rfl, t, y, rfl, hv⟩⟩
     ·rw [hB] at h; cases h
    ·refine (madeq_22 sr _ n d na pa nc pc W.w h3 hall).mono ?_
     rintro e W' ⟨hb, (⟨-, t, y, rfl, hv⟩ | ⟨h, -⟩)⟩
     ·exact ⟨hb, .inl ⟨rfl, t, y, rfl, hv⟩⟩
     ·rw [hB] at h; cases h
end Go.Proofs.YtlgieoabellbmaaGreatDoor
namespace Go.Proofs.YtlgieoabellbmaaGreatDoor
open Go.RowKit Go.Lib
set_option linter.unusedVariables false
set_option linter.unusedSimpArgs false
def dupAt (l : List ByteArray) (i : Nat) : Bool := match l[i]? with | some x => (l.take i).any (fun y => x.toList == y.toList) | none => false
def dupTo (l : List ByteArray) (k : Nat) : Bool := (List.range k).any (dupAt l)
def dupN (l : List ByteArray) : Bool := dupTo l l.length
theorem dupTo_succ (l : List ByteArray) (k : Nat) : dupTo l (k + 1) = (dupTo l k || dupAt l k) := by
 unfold dupTo; rw [List.range_succ]; simp
theorem dupTo_bad (l : List ByteArray) (k n : Nat) (hk : k < n) (h : dupAt l k = true) : dupTo l n = true :=
 List.any_eq_true.2 ⟨k, List.mem_range.2 hk, h⟩
theorem getBang (l : List ByteArray) (i : Nat) (x : ByteArray) (h : l[i]? = some x) : l[i]! = x := by
 rw [List.getElem!_eq_getElem?_getD, h]; rfl
set_option maxRecDepth 1000000 in
set_option maxHeartbeats 4000000 in
theorem anytwice_any (names : List ByteArray) (nv : Value) (w : World) (hs : Strs w nv names) :
  Calls Tryz.prog 59 #[nv] w fun e w' => e = .returned (.bool (dupN names)) ∧ w' = w := by
 obtain ⟨a, cap, rfl, hl1, hl2, hcell⟩ := hs
 unfold maxLen at hl2
 go_enter Tryz.func59, Tryz.ntmps59
 go_wp2
 go_loopg [3, 4, 7] names.length (fun g z0 z1 i wr => wr = w ∧ ∃ k : Nat, i = .int .i64 k ∧ k + g = names.length ∧ Hid (dupTo names k = false))
 case atStart => exact ⟨rfl, 0, rfl, Nat.zero_add _, rfl⟩
 case round =>
  obtain ⟨rfl, k, rfl, hkg, HA⟩ := hrel
  by_cases hlt : k < names.length
  ·have hltI : (k : Int) < names.length := by omega
   obtain ⟨s, hs⟩ : ∃ s, names[k]? = some s := ⟨names[k], List.getElem?_eq_getElem hlt⟩
   obtain ⟨-, b, off, rfl, hc⟩ := hcell k s hs
   have hall : ∀ j, j < names.length → wr.cell? ⟨b, off + j, none⟩ = some (.string names[j]!) := by
    intro j hj
    obtain ⟨-, b', off', he, hc'⟩ := hcell j names[j] (List.getElem?_eq_getElem hj)
    have he := Option.some.inj he
    cases he
    rw [getBang names j names[j] (List.getElem?_eq_getElem hj)]
    exact hc'
   have hcon := Tryz.slices_Contains (α := ByteArray) Value.string _ (EqlAt.string _ _) b off k cap names s wr (by omega) (by omega) hall
   have HD : Hid (dupAt names k = (names.take k).any (fun y => s.toList == y.toList)) := by show dupAt names k = _; unfold dupAt; rw [hs]
   have HN : Hid (dupTo names (k + 1) = (dupTo names k || dupAt names k)) := dupTo_succ names k
   have HB : Hid (dupAt names k = true → dupN names = true) := dupTo_bad names k _ hlt
   have hkc : k ≤ cap := by omega
   clear hcell hs hall
   generalize (names.take k).any (fun y => s.toList == y.toList) = q at hcon HD
   cases q with
   | true =>
     go_wp2_with (go_at_call 101; refine hcon.mono ?_; rintro e w1 ⟨rfl, hw⟩; subst hw)
     go_ret
     rw [HB.out HD.out]
     exact ⟨rfl, rfl⟩
   | false =>
     go_wp2_with (go_at_call 101; refine hcon.mono ?_; rintro e w1 ⟨rfl, hw⟩; subst hw)
     go_roundg (gk - 1)
     case measure => omega
     case rel => exact ⟨rfl, k + 1, by go_num, by omega, by show _ = _; rw [HN.out, HA.out, HD.out]; rfl⟩
  ·have hltI : ¬ (k : Int) < names.length := by omega
   have HF : Hid (dupN names = false) := by
    have := HA.out
    rw [show k = names.length by omega] at this
    exact this
   go_wp2
   go_ret
   rw [HF.out]
   exact ⟨rfl, rfl⟩
end Go.Proofs.YtlgieoabellbmaaGreatDoor
namespace Go.Proofs.YtlgieoabellbmaaGreatDoor
open Go.RowKit
set_option linter.unusedVariables false
set_option linter.unusedSimpArgs false
def prs2 : List D → List (D × D)
 | a :: b :: t => (a, b) :: prs2 t
 | _ => []
theorem prs2_len : ∀ l : List D, (prs2 l).length = l.length / 2
 | [] => rfl
 | [_] => by simp [prs2]
 | a :: b :: t => by
   rw [prs2, List.length_cons, prs2_len t, List.length_cons, List.length_cons]
   omega
theorem prs2_get : ∀ (l : List D) (i : Nat) (p : D × D), (prs2 l)[i]? = some p → l[2 * i]? = some p.1 ∧ l[2 * i + 1]? = some p.2
 | [], i, p, h => by simp [prs2] at h
 | [_], i, p, h => by simp [prs2] at h
 | a :: b :: t, 0, p, h => by
   simp [prs2] at h
   subst h
   exact ⟨rfl, rfl⟩
 | a :: b :: t, i + 1, p, h => by
   simp only [prs2, List.getElem?_cons_succ] at h
   have := prs2_get t i p h
   rw [show 2 * (i + 1) = 2 * i + 1 + 1 by omega]
   simpa using this
theorem prs2_of (l : List D) (i : Nat) (a b : D) (ha : l[2 * i]? = some a) (hb : l[2 * i + 1]? = some b) : (prs2 l)[i]? = some (a, b) := by
 have hl : i < (prs2 l).length := by
  have := (List.getElem?_eq_some_iff.1 hb).1
  rw [prs2_len]
  omega
 obtain ⟨p, hp⟩ : ∃ p, (prs2 l)[i]? = some p := ⟨_, List.getElem?_eq_getElem hl⟩
 obtain ⟨h1, h2⟩ := prs2_get l i p hp
 rw [hp]
 rw [ha] at h1
 rw [hb] at h2
 cases p
 simp at h1 h2
 rw [h1, h2]
theorem prs2_mem {l : List D} {p : D × D} (h : p ∈ prs2 l) : p.1 ∈ l ∧ p.2 ∈ l := by
 obtain ⟨i, hi⟩ := List.mem_iff_getElem?.1 h
 obtain ⟨h1, h2⟩ := prs2_get l i p hi
 exact ⟨List.mem_of_getElem? h1, List.mem_of_getElem? h2⟩
def cmpP (p q : D × D) : Int := cmpR (rkF p.1) (rkF q.1)
theorem cmpP_anti (p q : D × D) : cmpP q p = - cmpP p q := TO.rk.anti _ _
theorem cmpP_trans (p q r : D × D) (h1 : cmpP p q ≤ 0) (h2 : cmpP q r ≤ 0) : cmpP p r ≤ 0 := by
 unfold cmpP at *
 by_cases e1 : cmpR (rkF p.1) (rkF q.1) = 0
 ·rw [(TO.rk.zero _ _).1 e1]; exact h2
 by_cases e2 : cmpR (rkF q.1) (rkF r.1) = 0
 ·rw [← (TO.rk.zero _ _).1 e2]; exact h1
 have := TO.rk.trans _ _ _ (show cmpR (rkF p.1) (rkF q.1) < 0 by omega) (show cmpR (rkF q.1) (rkF r.1) < 0 by omega)
 omega
theorem cmpP_ltr (p q r : D × D) (h1 : cmpP p q < 0) (h2 : cmpP q r ≤ 0) : cmpP p r < 0 := by
 by_cases e2 : cmpP q r = 0
 ·unfold cmpP at *
  rw [← (TO.rk.zero _ _).1 e2]; exact h1
 ·exact TO.rk.trans _ _ _ h1 (show cmpP q r < 0 by omega)
def leP (p q : D × D) : Bool := decide (cmpP p q ≤ 0)
def srt (l : List D) : List (D × D) := (prs2 l).mergeSort leP
def dupL : List (D × D) → Bool
 | [] => false
 | p :: t => t.any (fun q => decide (cmpP p q = 0)) || dupL t
def dupM (l : List D) : Bool := dupL (prs2 l)
theorem dupL_pw : ∀ l : List (D × D), dupL l = false ↔ l.Pairwise (fun p q => cmpP p q ≠ 0)
 | [] => by simp [dupL]
 | p :: t => by
   rw [dupL, List.pairwise_cons, Bool.or_eq_false_iff, dupL_pw t]
   simp [List.any_eq_false]
theorem dupL_perm {l m : List (D × D)} (h : l.Perm m) : dupL l = dupL m := by
 have key : dupL l = false ↔ dupL m = false := by
  rw [dupL_pw, dupL_pw]
  exact h.pairwise_iff fun {p q} hne hq => hne (by have := cmpP_anti p q; omega)
 cases h1 : dupL l <;> cases h2 : dupL m <;> simp_all
theorem srt_perm (l : List D) : (srt l).Perm (prs2 l) := List.mergeSort_perm _ _
theorem srt_len (l : List D) : (srt l).length = l.length / 2 := by rw [(srt_perm l).length_eq, prs2_len]
theorem leP_total (p q : D × D) : (leP p q || leP q p) = true := by
 have := cmpP_anti p q
 unfold leP
 by_cases h : cmpP p q ≤ 0
 ·simp [h]
 ·simp [show cmpP q p ≤ 0 by omega]
theorem srt_sorted (l : List D) : (srt l).Pairwise (fun p q => cmpP p q ≤ 0) := by
 have := List.pairwise_mergeSort (le := leP) (fun a b c h1 h2 => by
  unfold leP at *
  exact decide_eq_true (cmpP_trans a b c (of_decide_eq_true h1) (of_decide_eq_true h2))) leP_total (prs2 l)
 exact this.imp fun h => of_decide_eq_true h
theorem sorted_one : ∀ {l m : List (D × D)}, l.Perm m → l.Pairwise (fun p q => cmpP p q < 0) → m.Pairwise (fun p q => cmpP p q < 0) → l = m
 | [], m, h, _, _ => (List.Perm.nil_eq h)
 | p :: l, [], h, _, _ => by have := h.length_eq; simp at this
 | p :: l, q :: m, h, hl, hm => by
   have hp : p = q := by
    have h1 : p ∈ q :: m := h.subset (List.mem_cons_self ..)
    have h2 : q ∈ p :: l := h.symm.subset (List.mem_cons_self ..)
    rcases List.mem_cons.1 h1 with e | h1
    ·exact e
    rcases List.mem_cons.1 h2 with e | h2
    ·exact e.symm
    have a := (List.pairwise_cons.1 hm).1 p h1
    have b := (List.pairwise_cons.1 hl).1 q h2
    have := cmpP_anti p q
    omega
   subst hp
   rw [sorted_one (List.Perm.cons_inv h) (List.pairwise_cons.1 hl).2 (List.pairwise_cons.1 hm).2]
theorem strict_of {l : List (D × D)} (h : l.Pairwise (fun p q => cmpP p q ≤ 0)) (hd : dupL l = false) : l.Pairwise (fun p q => cmpP p q < 0) := by
 have := (dupL_pw l).1 hd
 exact (List.pairwise_and_iff.2 ⟨h, this⟩).imp fun ⟨a, b⟩ => by omega
theorem srt_one {l : List D} {m : List (D × D)} (h : m.Perm (prs2 l)) (hs : m.Pairwise (fun p q => cmpP p q ≤ 0)) (hd : dupM l = false) : m = srt l := by
 have hdm : dupL m = false := by rw [dupL_perm h]; exact hd
 exact sorted_one (h.trans (srt_perm l).symm) (strict_of hs hdm) (strict_of (srt_sorted l) (by rw [dupL_perm (srt_perm l)]; exact hd))
theorem dup_next {l : List (D × D)} {i : Nat} {p q : D × D} (hp : l[i]? = some p) (hq : l[i + 1]? = some q) (h0 : cmpP p q = 0) : dupL l = true := by
 cases h : dupL l with
 | true => rfl
 | false =>
   have hw := (dupL_pw l).1 h
   have hi := (List.getElem?_eq_some_iff.1 hq)
   have hj := (List.getElem?_eq_some_iff.1 hp)
   have := List.pairwise_iff_getElem.1 hw i (i + 1) hj.1 hi.1 (by omega)
   rw [hj.2, hi.2] at this
   exact absurd h0 this
theorem dup_none {l : List (D × D)} (hs : l.Pairwise (fun p q => cmpP p q ≤ 0)) (hn : ∀ (i : Nat) (p q : D × D), l[i]? = some p → l[i + 1]? = some q → cmpP p q ≠ 0) : dupL l = false := by
 rw [dupL_pw, List.pairwise_iff_getElem]
 intro i j hi hj hij
 have h1 : cmpP l[i] (l[i + 1]'(by omega)) < 0 := by
  have a := List.pairwise_iff_getElem.1 hs i (i + 1) hi (by omega) (by omega)
  have b := hn i _ _ (List.getElem?_eq_getElem hi) (List.getElem?_eq_getElem (show i + 1 < l.length by omega))
  omega
 by_cases he : j = i + 1
 ·subst he; omega
 ·have h2 := List.pairwise_iff_getElem.1 hs (i + 1) j (by omega) hj (by omega)
  have := cmpP_ltr _ _ _ h1 h2
  omega
def dup1 (d : D) : Bool := (decide (d.kind = 18) && dupN d.names) || (decide (d.kind = 21) && dupM d.parts)
def dupA (d : D) : Bool := (nodes d).any dup1
theorem dupA_eq (d : D) : dupA d = (dup1 d || (great d.kind && d.parts.any dupA)) := by
 unfold dupA
 rw [nodes_eq, List.any_cons]
 congr 1
 by_cases h : great d.kind = true
 ·rw [if_pos h, h, Bool.true_and]
  induction d.parts with
  | nil => rfl
  | cons x t ih => rw [List.flatMap_cons, List.any_append, ih, List.any_cons]
 ·rw [if_neg h]
  simp [h]
end Go.Proofs.YtlgieoabellbmaaGreatDoor
