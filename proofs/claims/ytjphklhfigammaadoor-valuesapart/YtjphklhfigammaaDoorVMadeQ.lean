/- made, at arrays, slices and pointers, whatever comes of it. -/
import Derived.Test.YtjphklhfigammaaDoorVMadeAll
import Derived.Deep.RegionHeld
namespace Go.Proofs.YtjphklhfigammaaDoor
open Go.RowKit
set_option linter.unusedVariables false
set_option linter.unusedSimpArgs false

/-- What madeAll does with the parts of a descriptor, in whatever world. -/
def AllC (sr : List D → List (D × D)) (tw : D → Bool) (n : Nat) (w : World) (pa : Option Addr) (pc : Nat) (l : List D) : Prop :=
  ∀ V, Below w.heap.size w V → Calls Tryd.prog 53 #[.slice pa l.length pc] V fun e W' => Below V.heap.size V W' ∧
      ((l.any tw = false ∧ ∃ fa fc, e = .returned (.slice fa l.length fc) ∧ l.length ≤ fc ∧ fc ≤ maxLen ∧ Vals (VlC sr n (fun b => V.heap.size ≤ b) W') (fun b => V.heap.size ≤ b) W' fa l) ∨ (l.any tw = true ∧ e = .panicked (PE 5)))
theorem all_of {sr : List D → List (D × D)} {tw : D → Bool} {n : Nat} {w : World} {d : D} {na pa : Option Addr} {nc pc : Nat} (hr : RdC (n + 1) w (.slice na d.names.length nc) (.slice pa d.parts.length pc) d) (h64 : d.parts.length ≤ 1000) (ih : ∀ x ∈ d.parts, ∀ V, MadeC sr tw n V x) : AllC sr tw n w pa pc d.parts := by
  intro V hV
  obtain ⟨-, -, a, cap, he, h1, h2, hcell⟩ := hr
  obtain ⟨rfl, -, rfl⟩ := Value.slice.inj he
  refine madeall_any sr tw n d.parts pa pc V h1 h2 h64 (fun i x hx => ?_) fun x hx => ih x hx V
  obtain ⟨b, off, nv', pv', e1, e2, e3⟩ := hcell i x hx
  exact ⟨b, off, nv', pv', e1, e2.up hV, e3.up hV⟩

set_option maxRecDepth 1000000 in
set_option maxHeartbeats 4000000 in
theorem madeq_19 (sr : List D → List (D × D)) (tw : D → Bool) (n : Nat) (d : D) (na pa : Option Addr) (nc pc : Nat) (w : World) (hk : d.kind = 19) (hall : AllC sr tw n w pa pc d.parts) :
    Calls Tryd.prog 26 #[DV d (.slice na d.names.length nc) (.slice pa d.parts.length pc)] w fun e W' => Below w.heap.size w W' ∧
      ((d.parts.any tw = false ∧ ∃ t y, e = .returned (.iface t y) ∧ VlC sr (n + 1) (fun b => w.heap.size ≤ b) W' (.iface t y) d) ∨ (d.parts.any tw = true ∧ e = .panicked (PE 5))) := by
  have hvl : ∀ (V W' : World) (fa : Option Addr) (fc : Nat), w.heap.size ≤ V.heap.size → d.parts.length ≤ fc → fc ≤ maxLen → Vals (VlC sr n (fun b => V.heap.size ≤ b) W') (fun b => V.heap.size ≤ b) W' fa d.parts → VlC sr (n + 1) (fun b => w.heap.size ≤ b) W' (.iface 96 (.agg #[.int .i64 d.kind, .string d.ty, .int .i64 d.hook, .slice fa d.parts.length fc])) d := by
    intro V W' fa fc hV h1 h2 h3
    have hkp : Kept (fun b => V.heap.size ≤ b) (fun b => w.heap.size ≤ b) W' W' := fun b hb _ => ⟨Nat.le_trans hV hb, fun _ => rfl⟩
    unfold VlC
    rw [if_neg (by omega), if_neg (by omega), if_neg (by omega), if_neg (by omega)]
    exact ⟨fa, fc, rfl, h1, h2, h3.turn hkp fun v y h => h.turn hkp⟩
  obtain ⟨kind, ty, bits, imag, text, names, parts, hook⟩ := d
  simp only at hk hall hvl ⊢
  subst hk
  obtain ⟨W2, hW2⟩ : ∃ W2, W2 = (w.alloc (.cells #[.int .i64 19, .string ty, .int .u64 bits, .int .u64 imag, .string text, .slice na names.length nc, .slice pa parts.length pc, .int .i64 hook] 26)).alloc (.cells #[.int .i64 19, .string ty, .int .i64 hook] 53) := ⟨_, rfl⟩
  have hbW : Below w.heap.size w W2 := by rw [hW2]; exact ((Below.refl _ _).alloc (Nat.le_refl _) _).alloc (by simp) _
  have f0 : ∀ V, Below W2.heap.size W2 V → (fun w' => w'.cell? ⟨w.heap.size, 6, none⟩ = some (.slice pa parts.length pc) ∧ w'.cell? ⟨w.heap.size + 1, 0, none⟩ = some (.int .i64 19) ∧ w'.cell? ⟨w.heap.size + 1, 1, none⟩ = some (.string ty) ∧ w'.cell? ⟨w.heap.size + 1, 2, none⟩ = some (.int .i64 hook) ∧ w'.cell? ⟨w.heap.size, 2, none⟩ = some (.int .u64 bits)) V := by
    intro V hV
    refine ⟨?_, ?_, ?_, ?_, ?_⟩
    all_goals exact up_cell hV (by rw [hW2]; simp [go_sem])
  have hdr := hall W2.drew (hbW.trans (Below.drew (Below.refl _ _)))
  clear hall
  go_enter Tryd.func26, Tryd.ntmps26
  go_wp2
  rw [← hW2]
  clear hW2
  refine wp_region_held_drew (S := fun w' => w'.cell? ⟨w.heap.size, 6, none⟩ = some (.slice pa parts.length pc) ∧ w'.cell? ⟨w.heap.size + 1, 0, none⟩ = some (.int .i64 19) ∧ w'.cell? ⟨w.heap.size + 1, 1, none⟩ = some (.string ty) ∧ w'.cell? ⟨w.heap.size + 1, 2, none⟩ = some (.int .i64 hook) ∧ w'.cell? ⟨w.heap.size, 2, none⟩ = some (.int .u64 bits)) (by kernel_rfl) (f0 _ (Below.refl W2.heap.size W2).drew) ?_
  intro hS
  refine wpAnyH_take (i := 0) (v := .agg #[.int .i64 19, .string ty, .int .i64 hook]) rfl (by kernel_rfl) (by kernel_rfl) (by kernel_rfl) (fun _ _ _ h => h) (Or.inl ⟨by rfl, ?_⟩) (by assumption) ?_
  · intro w5 hSw
    obtain ⟨s6, s0, s1, s2, s3⟩ := hSw
    go_simp
  simp only [Act.put, List.setIfInBounds_toArray, List.set_cons_zero, List.set_cons_succ]
  refine wpAnyH_take (i := 1) (v := .pointer (some ⟨w.heap.size, 6, none⟩)) rfl (by kernel_rfl) (by kernel_rfl) (by kernel_rfl) (fun _ _ _ h => h) (Or.inl ⟨by rfl, ?_⟩) (by assumption) ?_
  · intro w5 hSw
    obtain ⟨s6, s0, s1, s2, s3⟩ := hSw
    go_simp
  simp only [Act.put, List.setIfInBounds_toArray, List.set_cons_zero, List.set_cons_succ]
  refine wpAnyH_take (i := 2) (v := .slice pa parts.length pc) rfl (by kernel_rfl) (by kernel_rfl) (by kernel_rfl) (fun _ _ _ h => h) (Or.inl ⟨by rfl, ?_⟩) (by assumption) ?_
  · intro w5 hSw
    obtain ⟨s6, s0, s1, s2, s3⟩ := hSw
    go_simp
  simp only [Act.put, List.setIfInBounds_toArray, List.set_cons_zero, List.set_cons_succ]
  refine wpAnyH_ready (rs := [3]) (by kernel_rfl) (by simp) ?_
  refine AllReadyH.cons rfl (fun K hK => ?_) AllReadyH.nil
  go_simp
  refine hdr.mono ?_
  rintro e Z ⟨hbZ, (⟨htw, fa, fc, rfl, k1, k2, hv⟩ | ⟨htw, rfl⟩)⟩
  · have hbZ2 : Below W2.heap.size W2 Z := (Below.refl W2.heap.size W2).drew.trans hbZ
    have HT : Hid (parts.any tw = false) := htw
    clear htw
    refine hK.out _ _ (f0 Z hbZ2) (fun hHeld => ?_)
    try simp only [Act.put, List.setIfInBounds_toArray, List.set_cons_zero, List.set_cons_succ]
    refine wpAnyH_ready (rs := [4]) (by kernel_rfl) (by simp) ?_
    refine AllReadyH.cons rfl (fun K1 hK1 => ?_) AllReadyH.nil
    go_simp
    refine hK1.out _ _ (f0 Z hbZ2) (fun _ => ?_)
    refine wpAnyH_ready (rs := [5]) (by kernel_rfl) (by simp) ?_
    refine AllReadyH.cons rfl (fun K2 hK2 => ?_) AllReadyH.nil
    go_simp
    refine hK2.out _ _ (f0 Z hbZ2) (fun _ => ?_)
    refine wpAnyH_ready (rs := [6]) (by kernel_rfl) (by simp) ?_
    refine AllReadyH.cons rfl (fun K3 hK3 => ?_) AllReadyH.nil
    go_simp
    refine hK3.out _ _ (f0 Z hbZ2) (fun _ => ?_)
    refine wpAnyH_done (by kernel_rfl) ?_ _
    clear hK hK1 hK2 hK3
    go_wp2
    go_ret
    exact ⟨hbW.trans (hbZ2.mono hbW.size), .inl ⟨by first | exact HT.out | simpa using HT.out, 96, .agg #[.int .i64 19, .string ty, .int .i64 hook, .slice fa parts.length fc], rfl, hvl W2 _ _ _ hbW.size k1 k2 hv⟩⟩
  · exact ⟨rfl, hbW.trans (((Below.refl W2.heap.size W2).drew.trans hbZ).mono hbW.size), .inr ⟨by first | exact htw | simpa using htw, rfl⟩⟩

set_option maxRecDepth 1000000 in
set_option maxHeartbeats 4000000 in
theorem madeq_20 (sr : List D → List (D × D)) (tw : D → Bool) (n : Nat) (d : D) (na pa : Option Addr) (nc pc : Nat) (w : World) (hk : d.kind = 20) (hall : AllC sr tw n w pa pc d.parts) :
    Calls Tryd.prog 26 #[DV d (.slice na d.names.length nc) (.slice pa d.parts.length pc)] w fun e W' => Below w.heap.size w W' ∧
      ((d.parts.any tw = false ∧ ∃ t y, e = .returned (.iface t y) ∧ VlC sr (n + 1) (fun b => w.heap.size ≤ b) W' (.iface t y) d) ∨ (d.parts.any tw = true ∧ e = .panicked (PE 5))) := by
  have hvl : ∀ (V W' : World) (fa : Option Addr) (fc : Nat), w.heap.size ≤ V.heap.size → d.parts.length ≤ fc → fc ≤ maxLen → Vals (VlC sr n (fun b => V.heap.size ≤ b) W') (fun b => V.heap.size ≤ b) W' fa d.parts → VlC sr (n + 1) (fun b => w.heap.size ≤ b) W' (.iface 96 (.agg #[.int .i64 d.kind, .string d.ty, .int .i64 d.hook, .slice fa d.parts.length fc])) d := by
    intro V W' fa fc hV h1 h2 h3
    have hkp : Kept (fun b => V.heap.size ≤ b) (fun b => w.heap.size ≤ b) W' W' := fun b hb _ => ⟨Nat.le_trans hV hb, fun _ => rfl⟩
    unfold VlC
    rw [if_neg (by omega), if_neg (by omega), if_neg (by omega), if_neg (by omega)]
    exact ⟨fa, fc, rfl, h1, h2, h3.turn hkp fun v y h => h.turn hkp⟩
  obtain ⟨kind, ty, bits, imag, text, names, parts, hook⟩ := d
  simp only at hk hall hvl ⊢
  subst hk
  obtain ⟨W2, hW2⟩ : ∃ W2, W2 = (w.alloc (.cells #[.int .i64 20, .string ty, .int .u64 bits, .int .u64 imag, .string text, .slice na names.length nc, .slice pa parts.length pc, .int .i64 hook] 26)).alloc (.cells #[.int .i64 20, .string ty, .int .i64 hook] 53) := ⟨_, rfl⟩
  have hbW : Below w.heap.size w W2 := by rw [hW2]; exact ((Below.refl _ _).alloc (Nat.le_refl _) _).alloc (by simp) _
  have f0 : ∀ V, Below W2.heap.size W2 V → (fun w' => w'.cell? ⟨w.heap.size, 6, none⟩ = some (.slice pa parts.length pc) ∧ w'.cell? ⟨w.heap.size + 1, 0, none⟩ = some (.int .i64 20) ∧ w'.cell? ⟨w.heap.size + 1, 1, none⟩ = some (.string ty) ∧ w'.cell? ⟨w.heap.size + 1, 2, none⟩ = some (.int .i64 hook) ∧ w'.cell? ⟨w.heap.size, 2, none⟩ = some (.int .u64 bits)) V := by
    intro V hV
    refine ⟨?_, ?_, ?_, ?_, ?_⟩
    all_goals exact up_cell hV (by rw [hW2]; simp [go_sem])
  have hdr := hall W2.drew (hbW.trans (Below.drew (Below.refl _ _)))
  clear hall
  go_enter Tryd.func26, Tryd.ntmps26
  go_wp2
  rw [← hW2]
  clear hW2
  refine wp_region_held_drew (S := fun w' => w'.cell? ⟨w.heap.size, 6, none⟩ = some (.slice pa parts.length pc) ∧ w'.cell? ⟨w.heap.size + 1, 0, none⟩ = some (.int .i64 20) ∧ w'.cell? ⟨w.heap.size + 1, 1, none⟩ = some (.string ty) ∧ w'.cell? ⟨w.heap.size + 1, 2, none⟩ = some (.int .i64 hook) ∧ w'.cell? ⟨w.heap.size, 2, none⟩ = some (.int .u64 bits)) (by kernel_rfl) (f0 _ (Below.refl W2.heap.size W2).drew) ?_
  intro hS
  refine wpAnyH_take (i := 0) (v := .agg #[.int .i64 20, .string ty, .int .i64 hook]) rfl (by kernel_rfl) (by kernel_rfl) (by kernel_rfl) (fun _ _ _ h => h) (Or.inl ⟨by rfl, ?_⟩) (by assumption) ?_
  · intro w5 hSw
    obtain ⟨s6, s0, s1, s2, s3⟩ := hSw
    go_simp
  simp only [Act.put, List.setIfInBounds_toArray, List.set_cons_zero, List.set_cons_succ]
  refine wpAnyH_take (i := 1) (v := .pointer (some ⟨w.heap.size, 6, none⟩)) rfl (by kernel_rfl) (by kernel_rfl) (by kernel_rfl) (fun _ _ _ h => h) (Or.inl ⟨by rfl, ?_⟩) (by assumption) ?_
  · intro w5 hSw
    obtain ⟨s6, s0, s1, s2, s3⟩ := hSw
    go_simp
  simp only [Act.put, List.setIfInBounds_toArray, List.set_cons_zero, List.set_cons_succ]
  refine wpAnyH_take (i := 2) (v := .slice pa parts.length pc) rfl (by kernel_rfl) (by kernel_rfl) (by kernel_rfl) (fun _ _ _ h => h) (Or.inl ⟨by rfl, ?_⟩) (by assumption) ?_
  · intro w5 hSw
    obtain ⟨s6, s0, s1, s2, s3⟩ := hSw
    go_simp
  simp only [Act.put, List.setIfInBounds_toArray, List.set_cons_zero, List.set_cons_succ]
  refine wpAnyH_ready (rs := [3]) (by kernel_rfl) (by simp) ?_
  refine AllReadyH.cons rfl (fun K hK => ?_) AllReadyH.nil
  go_simp
  refine hdr.mono ?_
  rintro e Z ⟨hbZ, (⟨htw, fa, fc, rfl, k1, k2, hv⟩ | ⟨htw, rfl⟩)⟩
  · have hbZ2 : Below W2.heap.size W2 Z := (Below.refl W2.heap.size W2).drew.trans hbZ
    have HT : Hid (parts.any tw = false) := htw
    clear htw
    refine hK.out _ _ (f0 Z hbZ2) (fun hHeld => ?_)
    try simp only [Act.put, List.setIfInBounds_toArray, List.set_cons_zero, List.set_cons_succ]
    refine wpAnyH_ready (rs := [4]) (by kernel_rfl) (by simp) ?_
    refine AllReadyH.cons rfl (fun K1 hK1 => ?_) AllReadyH.nil
    go_simp
    refine hK1.out _ _ (f0 Z hbZ2) (fun _ => ?_)
    refine wpAnyH_ready (rs := [5]) (by kernel_rfl) (by simp) ?_
    refine AllReadyH.cons rfl (fun K2 hK2 => ?_) AllReadyH.nil
    go_simp
    refine hK2.out _ _ (f0 Z hbZ2) (fun _ => ?_)
    refine wpAnyH_ready (rs := [6]) (by kernel_rfl) (by simp) ?_
    refine AllReadyH.cons rfl (fun K3 hK3 => ?_) AllReadyH.nil
    go_simp
    refine hK3.out _ _ (f0 Z hbZ2) (fun _ => ?_)
    refine wpAnyH_done (by kernel_rfl) ?_ _
    clear hK hK1 hK2 hK3
    go_wp2
    go_ret
    exact ⟨hbW.trans (hbZ2.mono hbW.size), .inl ⟨by first | exact HT.out | simpa using HT.out, 96, .agg #[.int .i64 20, .string ty, .int .i64 hook, .slice fa parts.length fc], rfl, hvl W2 _ _ _ hbW.size k1 k2 hv⟩⟩
  · exact ⟨rfl, hbW.trans (((Below.refl W2.heap.size W2).drew.trans hbZ).mono hbW.size), .inr ⟨by first | exact htw | simpa using htw, rfl⟩⟩

set_option maxRecDepth 1000000 in
set_option maxHeartbeats 4000000 in
theorem madeq_22 (sr : List D → List (D × D)) (tw : D → Bool) (n : Nat) (d : D) (na pa : Option Addr) (nc pc : Nat) (w : World) (hk : d.kind = 22) (hall : AllC sr tw n w pa pc d.parts) :
    Calls Tryd.prog 26 #[DV d (.slice na d.names.length nc) (.slice pa d.parts.length pc)] w fun e W' => Below w.heap.size w W' ∧
      ((d.parts.any tw = false ∧ ∃ t y, e = .returned (.iface t y) ∧ VlC sr (n + 1) (fun b => w.heap.size ≤ b) W' (.iface t y) d) ∨ (d.parts.any tw = true ∧ e = .panicked (PE 5))) := by
  have hvl : ∀ (V W' : World) (fa : Option Addr) (fc : Nat), w.heap.size ≤ V.heap.size → d.parts.length ≤ fc → fc ≤ maxLen → Vals (VlC sr n (fun b => V.heap.size ≤ b) W') (fun b => V.heap.size ≤ b) W' fa d.parts → VlC sr (n + 1) (fun b => w.heap.size ≤ b) W' (.iface 85 (.agg #[.int .i64 d.kind, .string d.ty, .int .i64 d.hook, .int .u64 d.bits, .slice fa d.parts.length fc])) d := by
    intro V W' fa fc hV h1 h2 h3
    have hkp : Kept (fun b => V.heap.size ≤ b) (fun b => w.heap.size ≤ b) W' W' := fun b hb _ => ⟨Nat.le_trans hV hb, fun _ => rfl⟩
    unfold VlC
    rw [if_neg (by omega), if_neg (by omega), if_neg (by omega), if_pos (by omega)]
    exact ⟨fa, fc, rfl, h1, h2, h3.turn hkp fun v y h => h.turn hkp⟩
  obtain ⟨kind, ty, bits, imag, text, names, parts, hook⟩ := d
  simp only at hk hall hvl ⊢
  subst hk
  obtain ⟨W2, hW2⟩ : ∃ W2, W2 = (w.alloc (.cells #[.int .i64 22, .string ty, .int .u64 bits, .int .u64 imag, .string text, .slice na names.length nc, .slice pa parts.length pc, .int .i64 hook] 26)).alloc (.cells #[.int .i64 22, .string ty, .int .i64 hook] 53) := ⟨_, rfl⟩
  have hbW : Below w.heap.size w W2 := by rw [hW2]; exact ((Below.refl _ _).alloc (Nat.le_refl _) _).alloc (by simp) _
  have f0 : ∀ V, Below W2.heap.size W2 V → (fun w' => w'.cell? ⟨w.heap.size, 6, none⟩ = some (.slice pa parts.length pc) ∧ w'.cell? ⟨w.heap.size + 1, 0, none⟩ = some (.int .i64 22) ∧ w'.cell? ⟨w.heap.size + 1, 1, none⟩ = some (.string ty) ∧ w'.cell? ⟨w.heap.size + 1, 2, none⟩ = some (.int .i64 hook) ∧ w'.cell? ⟨w.heap.size, 2, none⟩ = some (.int .u64 bits)) V := by
    intro V hV
    refine ⟨?_, ?_, ?_, ?_, ?_⟩
    all_goals exact up_cell hV (by rw [hW2]; simp [go_sem])
  have hdr := hall W2.drew (hbW.trans (Below.drew (Below.refl _ _)))
  clear hall
  go_enter Tryd.func26, Tryd.ntmps26
  go_wp2
  rw [← hW2]
  clear hW2
  refine wp_region_held_drew (S := fun w' => w'.cell? ⟨w.heap.size, 6, none⟩ = some (.slice pa parts.length pc) ∧ w'.cell? ⟨w.heap.size + 1, 0, none⟩ = some (.int .i64 22) ∧ w'.cell? ⟨w.heap.size + 1, 1, none⟩ = some (.string ty) ∧ w'.cell? ⟨w.heap.size + 1, 2, none⟩ = some (.int .i64 hook) ∧ w'.cell? ⟨w.heap.size, 2, none⟩ = some (.int .u64 bits)) (by kernel_rfl) (f0 _ (Below.refl W2.heap.size W2).drew) ?_
  intro hS
  refine wpAnyH_take (i := 0) (v := .agg #[.int .i64 22, .string ty, .int .i64 hook]) rfl (by kernel_rfl) (by kernel_rfl) (by kernel_rfl) (fun _ _ _ h => h) (Or.inl ⟨by rfl, ?_⟩) (by assumption) ?_
  · intro w5 hSw
    obtain ⟨s6, s0, s1, s2, s3⟩ := hSw
    go_simp
  simp only [Act.put, List.setIfInBounds_toArray, List.set_cons_zero, List.set_cons_succ]
  refine wpAnyH_take (i := 1) (v := .pointer (some ⟨w.heap.size, 2, none⟩)) rfl (by kernel_rfl) (by kernel_rfl) (by kernel_rfl) (fun _ _ _ h => h) (Or.inl ⟨by rfl, ?_⟩) (by assumption) ?_
  · intro w5 hSw
    obtain ⟨s6, s0, s1, s2, s3⟩ := hSw
    go_simp
  simp only [Act.put, List.setIfInBounds_toArray, List.set_cons_zero, List.set_cons_succ]
  refine wpAnyH_take (i := 2) (v := .int .u64 bits) rfl (by kernel_rfl) (by kernel_rfl) (by kernel_rfl) (fun _ _ _ h => h) (Or.inl ⟨by rfl, ?_⟩) (by assumption) ?_
  · intro w5 hSw
    obtain ⟨s6, s0, s1, s2, s3⟩ := hSw
    go_simp
  simp only [Act.put, List.setIfInBounds_toArray, List.set_cons_zero, List.set_cons_succ]
  refine wpAnyH_take (i := 3) (v := .pointer (some ⟨w.heap.size, 6, none⟩)) rfl (by kernel_rfl) (by kernel_rfl) (by kernel_rfl) (fun _ _ _ h => h) (Or.inl ⟨by rfl, ?_⟩) (by assumption) ?_
  · intro w5 hSw
    obtain ⟨s6, s0, s1, s2, s3⟩ := hSw
    go_simp
  simp only [Act.put, List.setIfInBounds_toArray, List.set_cons_zero, List.set_cons_succ]
  refine wpAnyH_take (i := 4) (v := .slice pa parts.length pc) rfl (by kernel_rfl) (by kernel_rfl) (by kernel_rfl) (fun _ _ _ h => h) (Or.inl ⟨by rfl, ?_⟩) (by assumption) ?_
  · intro w5 hSw
    obtain ⟨s6, s0, s1, s2, s3⟩ := hSw
    go_simp
  simp only [Act.put, List.setIfInBounds_toArray, List.set_cons_zero, List.set_cons_succ]
  refine wpAnyH_ready (rs := [5]) (by kernel_rfl) (by simp) ?_
  refine AllReadyH.cons rfl (fun K hK => ?_) AllReadyH.nil
  go_simp
  refine hdr.mono ?_
  rintro e Z ⟨hbZ, (⟨htw, fa, fc, rfl, k1, k2, hv⟩ | ⟨htw, rfl⟩)⟩
  · have hbZ2 : Below W2.heap.size W2 Z := (Below.refl W2.heap.size W2).drew.trans hbZ
    have HT : Hid (parts.any tw = false) := htw
    clear htw
    refine hK.out _ _ (f0 Z hbZ2) (fun hHeld => ?_)
    try simp only [Act.put, List.setIfInBounds_toArray, List.set_cons_zero, List.set_cons_succ]
    refine wpAnyH_ready (rs := [6]) (by kernel_rfl) (by simp) ?_
    refine AllReadyH.cons rfl (fun K1 hK1 => ?_) AllReadyH.nil
    go_simp
    refine hK1.out _ _ (f0 Z hbZ2) (fun _ => ?_)
    refine wpAnyH_ready (rs := [7]) (by kernel_rfl) (by simp) ?_
    refine AllReadyH.cons rfl (fun K2 hK2 => ?_) AllReadyH.nil
    go_simp
    refine hK2.out _ _ (f0 Z hbZ2) (fun _ => ?_)
    refine wpAnyH_ready (rs := [8]) (by kernel_rfl) (by simp) ?_
    refine AllReadyH.cons rfl (fun K3 hK3 => ?_) AllReadyH.nil
    go_simp
    refine hK3.out _ _ (f0 Z hbZ2) (fun _ => ?_)
    refine wpAnyH_done (by kernel_rfl) ?_ _
    clear hK hK1 hK2 hK3
    go_wp2
    go_ret
    exact ⟨hbW.trans (hbZ2.mono hbW.size), .inl ⟨by first | exact HT.out | simpa using HT.out, 85, .agg #[.int .i64 22, .string ty, .int .i64 hook, .int .u64 bits, .slice fa parts.length fc], rfl, hvl W2 _ _ _ hbW.size k1 k2 hv⟩⟩
  · exact ⟨rfl, hbW.trans (((Below.refl W2.heap.size W2).drew.trans hbZ).mono hbW.size), .inr ⟨by first | exact htw | simpa using htw, rfl⟩⟩

end Go.Proofs.YtjphklhfigammaaDoor
