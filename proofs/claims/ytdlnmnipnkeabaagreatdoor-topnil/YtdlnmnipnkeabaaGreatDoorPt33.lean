/- VMadeQ, NPtr: these texts in one. -/
import Derived.Test.YtdlnmnipnkeabaaGreatDoorPt32
import Derived.Deep.RegionHeld
import Derived.Test.YtdlnmnipnkeabaaGreatDoorPt19
namespace Go.Proofs.YtdlnmnipnkeabaaGreatDoor
open Go.RowKit
set_option linter.unusedVariables false
set_option linter.unusedSimpArgs false
def AllC (sr : List D → List (D × D)) (tw : D → Bool) (n : Nat) (w : World) (pa : Option Addr) (pc : Nat) (l : List D) : Prop :=
 ∀ V, Below w.heap.size w V → Calls Tryz.prog 99 #[.slice pa l.length pc] V fun e W' => Below V.heap.size V W' ∧
   ((l.any tw = false ∧ ∃ fa fc, e = .returned (.slice fa l.length fc) ∧ l.length ≤ fc ∧ fc ≤ maxLen ∧ Vals (VlC sr n (fun b => V.heap.size ≤ b) W') (fun b => V.heap.size ≤ b) W' fa l) ∨ (l.any tw = true ∧ e = .panicked (PE 5)))
theorem all_of {sr : List D → List (D × D)} {tw : D → Bool} {n : Nat} {w : World} {d : D} {na pa : Option Addr} {nc pc : Nat} (hr : RdC (n + 1) w (.slice na d.names.length nc) (.slice pa d.parts.length pc) d) (h64 : d.parts.length ≤ 1000) (ih : ∀ x ∈ d.parts, ∀ V, MadeC sr tw n V x) : AllC sr tw n w pa pc d.parts := by
 intro V hV
 obtain ⟨-, -, a, cap, he, h1, h2, hcell⟩ := hr
 obtain ⟨rfl, -, rfl⟩ := Value.slice.inj he
 refine madeall_any sr tw n d.parts pa pc V h1 h2 h64 (fun i x hx => ?_) fun x hx => ih x hx V
 obtain ⟨b, off, nv', pv', e1, e2, e3⟩ := hcell i x hx
 exact ⟨b, off, nv', pv', e1, e2.up hV, e3.up hV⟩
set_option maxRecDepth 1000000 in
set_option maxHeartbeats 4000000 in
theorem madeq_22 (sr : List D → List (D × D)) (tw : D → Bool) (n : Nat) (d : D) (na pa : Option Addr) (nc pc : Nat) (w : World) (hk : d.kind = 22) (hall : AllC sr tw n w pa pc d.parts) :
  Calls Tryz.prog 75 #[DV d (.slice na d.names.length nc) (.slice pa d.parts.length pc)] w fun e W' => Below w.heap.size w W' ∧
   ((d.parts.any tw = false ∧ ∃ t y, e = .returned (.iface t y) ∧ VlC sr (n + 1) (fun b => w.heap.size ≤ b) W' (.iface t y) d) ∨ (d.parts.any tw = true ∧ e = .panicked (PE 5))) := by
 have hvl : ∀ (V W' : World) (fa : Option Addr) (fc : Nat), w.heap.size ≤ V.heap.size → d.parts.length ≤ fc → fc ≤ maxLen → Vals (VlC sr n (fun b => V.heap.size ≤ b) W') (fun b => V.heap.size ≤ b) W' fa d.parts → VlC sr (n + 1) (fun b => w.heap.size ≤ b) W' (.iface 183 (.agg #[.int .i64 d.kind, .string d.ty, .int .i64 d.hook, .int .u64 d.bits, .slice fa d.parts.length fc])) d := by
  intro V W' fa fc hV h1 h2 h3
  have hkp : Kept (fun b => V.heap.size ≤ b) (fun b => w.heap.size ≤ b) W' W' := fun b hb _ => ⟨Nat.le_trans hV hb, fun _ => rfl⟩
  unfold VlC
  rw [if_neg (by omega), if_neg (by omega), if_neg (by omega), if_pos (by omega)]
  exact ⟨fa, fc, rfl, h1, h2, h3.turn hkp fun v y h => h.turn hkp⟩
 obtain ⟨kind, ty, bits, imag, text, names, parts, hook⟩ := d
 simp only at hk hall hvl ⊢
 subst hk
 obtain ⟨W2, hW2⟩ : ∃ W2, W2 = (w.alloc (.cells #[.int .i64 22, .string ty, .int .u64 bits, .int .u64 imag, .string text, .slice na names.length nc, .slice pa parts.length pc, .int .i64 hook] 29)).alloc (.cells #[.int .i64 22, .string ty, .int .i64 hook] 147) := ⟨_, rfl⟩
 have hbW : Below w.heap.size w W2 := by rw [hW2]; exact ((Below.refl _ _).alloc (Nat.le_refl _) _).alloc (by simp) _
 have f0 : ∀ V, Below W2.heap.size W2 V → (fun w' => w'.cell? ⟨w.heap.size, 6, none⟩ = some (.slice pa parts.length pc) ∧ w'.cell? ⟨w.heap.size + 1, 0, none⟩ = some (.int .i64 22) ∧ w'.cell? ⟨w.heap.size + 1, 1, none⟩ = some (.string ty) ∧ w'.cell? ⟨w.heap.size + 1, 2, none⟩ = some (.int .i64 hook) ∧ w'.cell? ⟨w.heap.size, 2, none⟩ = some (.int .u64 bits)) V := by
  intro V hV
  refine ⟨?_, ?_, ?_, ?_, ?_⟩
  all_goals exact up_cell hV (by rw [hW2]; simp [go_sem])
 have hdr := hall W2.drew (hbW.trans (Below.drew (Below.refl _ _)))
 clear hall
 go_enter Tryz.func75, Tryz.ntmps75
 go_wp2
 rw [← hW2]
 clear hW2
 refine wp_region_held_drew (S := fun w' => w'.cell? ⟨w.heap.size, 6, none⟩ = some (.slice pa parts.length pc) ∧ w'.cell? ⟨w.heap.size + 1, 0, none⟩ = some (.int .i64 22) ∧ w'.cell? ⟨w.heap.size + 1, 1, none⟩ = some (.string ty) ∧ w'.cell? ⟨w.heap.size + 1, 2, none⟩ = some (.int .i64 hook) ∧ w'.cell? ⟨w.heap.size, 2, none⟩ = some (.int .u64 bits)) (by kernel_rfl) (f0 _ (Below.refl W2.heap.size W2).drew) ?_
 intro hS
 refine tk 0 (.agg #[.int .i64 22, .string ty, .int .i64 hook]) rfl (by kernel_rfl) (fun _ _ _ h => h) (by rfl) (by assumption) ?_ ?_
 ·intro w5 hSw
  obtain ⟨s6, s0, s1, s2, s3⟩ := hSw
  go_simp
 simp only [Act.put, List.setIfInBounds_toArray, List.set_cons_zero, List.set_cons_succ]
 refine tk 1 (.pointer (some ⟨w.heap.size, 2, none⟩)) rfl (by kernel_rfl) (fun _ _ _ h => h) (by rfl) (by assumption) ?_ ?_
 ·intro w5 hSw
  obtain ⟨s6, s0, s1, s2, s3⟩ := hSw
  go_simp
 simp only [Act.put, List.setIfInBounds_toArray, List.set_cons_zero, List.set_cons_succ]
 refine tk 2 (.int .u64 bits) rfl (by kernel_rfl) (fun _ _ _ h => h) (by rfl) (by assumption) ?_ ?_
 ·intro w5 hSw
  obtain ⟨s6, s0, s1, s2, s3⟩ := hSw
  go_simp
 simp only [Act.put, List.setIfInBounds_toArray, List.set_cons_zero, List.set_cons_succ]
 refine tk 3 (.pointer (some ⟨w.heap.size, 6, none⟩)) rfl (by kernel_rfl) (fun _ _ _ h => h) (by rfl) (by assumption) ?_ ?_
 ·intro w5 hSw
  obtain ⟨s6, s0, s1, s2, s3⟩ := hSw
  go_simp
 simp only [Act.put, List.setIfInBounds_toArray, List.set_cons_zero, List.set_cons_succ]
 refine tk 4 (.slice pa parts.length pc) rfl (by kernel_rfl) (fun _ _ _ h => h) (by rfl) (by assumption) ?_ ?_
 ·intro w5 hSw
  obtain ⟨s6, s0, s1, s2, s3⟩ := hSw
  go_simp
 simp only [Act.put, List.setIfInBounds_toArray, List.set_cons_zero, List.set_cons_succ]
 refine rd1 5 (by kernel_rfl) rfl fun K hK => ?_
 go_simp
 refine hdr.mono ?_
 rintro e Z ⟨hbZ, (⟨htw, fa, fc, rfl, k1, k2, hv⟩ | ⟨htw, rfl⟩)⟩
 ·have hbZ2 : Below W2.heap.size W2 Z := (Below.refl W2.heap.size W2).drew.trans hbZ
  have HT : Hid (parts.any tw = false) := htw
  clear htw
  refine hK.out _ _ (f0 Z hbZ2) (fun hHeld => ?_)
  try simp only [Act.put, List.setIfInBounds_toArray, List.set_cons_zero, List.set_cons_succ]
  refine rd1 6 (by kernel_rfl) rfl fun K1 hK1 => ?_
  go_simp
  refine hK1.out _ _ (f0 Z hbZ2) (fun _ => ?_)
  refine rd1 7 (by kernel_rfl) rfl fun K2 hK2 => ?_
  go_simp
  refine hK2.out _ _ (f0 Z hbZ2) (fun _ => ?_)
  refine rd1 8 (by kernel_rfl) rfl fun K3 hK3 => ?_
  go_simp
  refine hK3.out _ _ (f0 Z hbZ2) (fun _ => ?_)
  refine wpAnyH_done (by kernel_rfl) ?_ _
  clear hK hK1 hK2 hK3
  go_wp2
  go_ret
  exact ⟨hbW.trans (hbZ2.mono hbW.size), .inl ⟨by first | exact HT.out | simpa using HT.out, 183, .agg #[.int .i64 22, .string ty, .int .i64 hook, .int .u64 bits, .slice fa parts.length fc], rfl, hvl W2 _ _ _ hbW.size k1 k2 hv⟩⟩
 ·exact ⟨rfl, hbW.trans (((Below.refl W2.heap.size W2).drew.trans hbZ).mono hbW.size), .inr ⟨by first | exact htw | simpa using htw, rfl⟩⟩
end Go.Proofs.YtdlnmnipnkeabaaGreatDoor
namespace Go.Proofs.YtdlnmnipnkeabaaGreatDoor
open Go.RowKit
set_option linter.unusedVariables false
set_option linter.unusedSimpArgs false
abbrev VP (a : Int) (fa : Option Addr) (one : Bool) (fc : Nat) : Value := .iface 183 (.agg #[.int .i64 22, .string ⟨#[]⟩, .int .i64 1, .int .u64 a, .slice fa (if one then 1 else 0) fc])
def PtQ (one : Bool) (a : Int) (lo : Nat) (W : World) (v : Value) : Prop := ∃ fa fc, v = VP a fa one fc ∧ (one = true → ∃ B off, fa = some ⟨B, off, none⟩ ∧ lo ≤ B ∧ W.cell? ⟨B, off, none⟩ = some (VS 6 1))
theorem PtQ.kx {one : Bool} {a : Int} {lo : Nat} {W W' : World} {v : Value} (h : PtQ one a lo W v) (k : Kx (fun k => k < lo) W W') : PtQ one a lo W' v := by
 obtain ⟨fa, fc, rfl, h⟩ := h
 refine ⟨fa, fc, rfl, fun e => ?_⟩
 obtain ⟨B, off, h1, h2, h3⟩ := h e
 exact ⟨B, off, h1, h2, k.cell h3 (by dsimp only; omega)⟩
theorem PtQ.up {one : Bool} {a : Int} {lo : Nat} {W W' : World} {v : Value} (h : PtQ one a lo W v) (k : Below W.heap.size W W') : PtQ one a lo W' v := h.kx (.of_below k)
theorem PtQ.mk {one : Bool} {a : Int} {lo : Nat} {W : World} {v : Value} (h : PtQ one a lo W v) : MkC v 22 ⟨#[]⟩ 1 := fun V => by
 obtain ⟨fa, fc, rfl, -⟩ := h
 exact markof_ptr 22 1 ⟨#[]⟩ a fa _ fc V
theorem rawof_pt {one : Bool} {a : Int} {lo : Nat} {W : World} {v : Value} (h : PtQ one a lo W v) : Calls Tryz.prog 187 #[v] W fun e w' => (∃ ao c, e = .returned (.agg #[.int .i64 22, .string ⟨#[]⟩, .int .u64 a, .int .u64 0, .string ⟨#[]⟩, .slice none 0 0, .slice ao (if one then 1 else 0) c, .int .i64 1])) ∧ Below W.heap.size W w' := by
 obtain ⟨fa, fc, rfl, h⟩ := h
 cases one with
 | false =>
   refine (rawof_ptr0 22 1 ⟨#[]⟩ a fa fc W).mono ?_
   rintro e w' ⟨h1, h2⟩
   exact ⟨⟨none, 0, h1⟩, h2⟩
 | true =>
   obtain ⟨B, off, rfl, -, hc⟩ := h rfl
   exact rawof_ptr1 22 1 ⟨#[]⟩ a B off fc W hc
set_option maxRecDepth 1000000 in
set_option maxHeartbeats 4000000 in
theorem raw_pt {one : Bool} {a : Int} {lo : Nat} {w : World} {v : Value} (h : PtQ one a lo w v) : Calls Tryz.prog 145 #[v] w fun e w' => (∃ ao c, e = .returned (.agg #[.int .i64 22, .string ⟨#[]⟩, .int .u64 a, .int .u64 0, .string ⟨#[]⟩, .slice none 0 0, .slice ao (if one then 1 else 0) c, .int .i64 1])) ∧ Below w.heap.size w w' := by
 obtain ⟨W1, hW1⟩ : ∃ W1, W1 = w.alloc (.cells #[.int .i64 0, .string ⟨#[]⟩, .int .u64 0, .int .u64 0, .string ⟨#[]⟩, .slice none 0 0, .slice none 0 0, .int .i64 0] 29) := ⟨_, rfl⟩
 have hb1 : Below w.heap.size w W1 := by rw [hW1]; exact (Below.refl _ _).alloc (Nat.le_refl _) _
 have z1 : Zero8 W1 w.heap.size := by
  rw [hW1]
  refine ⟨by simp, fun i => ?_⟩
  rw [frozen?_alloc_cells]; exact frozen_none _ _ (Nat.le_refl _)
 have hm := rawof_pt (h.up hb1)
 generalize (if one then 1 else 0 : Nat) = n at *
 go_enter Tryz.func145, Tryz.ntmps145
 go_wp2_with fail
 rw [← hW1]
 refine hm.mono ?_
 rintro e V ⟨⟨ao, c, rfl⟩, hV⟩
 obtain ⟨⟨z0, z1, z2, z3, z4, z5, z6, z7⟩, zf⟩ := z1.up hV
 have y0 := zf 0
 have y1 := zf 1
 have y2 := zf 2
 have y3 := zf 3
 have y4 := zf 4
 have y5 := zf 5
 have y6 := zf 6
 have y7 := zf 7
 clear hm hW1
 go_wp2
 obtain ⟨r0, r1, r2, r3, r4, r5, r6, r7⟩ := set8 z0 z1 z2 z3 z4 z5 z6 z7 (.int .i64 22) (.string ⟨#[]⟩) (.int .u64 a) (.int .u64 0) (.string ⟨#[]⟩) (.slice none 0 0) (.slice ao n c) (.int .i64 1)
 refine bodyPost_ret (v := .agg #[.int .i64 22, .string ⟨#[]⟩, .int .u64 a, .int .u64 0, .string ⟨#[]⟩, .slice none 0 0, .slice ao n c, .int .i64 1]) (by simp [results, Tryz.results145, go_sem, r0, r1, r2, r3, r4, r5, r6, r7]) rfl ?_
 exact ⟨⟨_, _, rfl⟩, set8_below (hb1.trans (hV.mono hb1.size)) (Nat.le_refl _)⟩
set_option maxRecDepth 1000000 in
set_option maxHeartbeats 4000000 in
theorem pointerOf_any (a : Int) (n c : Nat) (hn : n ≤ 1) (ao : Option Addr) (w : World) : Calls Tryz.prog 164 #[.agg #[.int .i64 22, .string ⟨#[]⟩, .int .u64 a, .int .u64 0, .string ⟨#[]⟩, .slice none 0 0, .slice ao n c, .int .i64 1]] w fun e w' => (∃ x, e = .returned x) ∧ Below w.heap.size w w' := by
 have h2 : n = 0 ∨ n = 1 := by omega
 rcases h2 with rfl | rfl
 ·go_enter Tryz.func164, Tryz.ntmps164
  go_wp2
  refine bodyPost_ret (v := .agg #[.int .u64 0, .slice none 0 0]) (by simp [results, Tryz.results164, go_sem]) rfl ?_
  exact ⟨⟨_, rfl⟩, by go_grown⟩
 ·go_enter Tryz.func164, Tryz.ntmps164
  go_wp2
  refine bodyPost_ret (v := .agg #[.int .u64 a, .slice ao 1 c]) (by simp [results, Tryz.results164, go_sem]) rfl ?_
  exact ⟨⟨_, rfl⟩, by go_grown⟩
set_option maxRecDepth 1000000 in
set_option maxHeartbeats 4000000 in
theorem shape_pt {one : Bool} {a : Int} {lo : Nat} {w : World} {v : Value} (h : PtQ one a lo w v) : Calls Tryz.prog 135 #[v] w fun e w' => (∃ t x, e = .returned (.iface t x)) ∧ Below w.heap.size w w' := by
 have hR := raw_pt h
 have hn : (if one then 1 else 0 : Nat) ≤ 1 := by split <;> omega
 generalize (if one then 1 else 0 : Nat) = n at *
 have hP := fun c ao W => pointerOf_any a n c hn ao W
 clear hn
 go_enter Tryz.func135, Tryz.ntmps135
 go_wp2_with (first
  | (go_at_call 145; refine hR.mono ?_; rintro e W2 ⟨⟨ao, c, rfl⟩, b2⟩)
  | (go_at_call 164; refine (hP _ _ _).mono ?_; rintro e W3 ⟨⟨x, rfl⟩, b3⟩))
 go_ret
 exact ⟨⟨_, _, rfl⟩, (b2.alloc b2.size _).trans (b3.mono (by have := b2.size; simp; omega))⟩
theorem kq_P (fa : Option Addr) (one : Bool) (fc : Nat) (a : Int) : KdQ 183 (.agg #[.int .i64 22, .string ⟨#[]⟩, .int .i64 1, .int .u64 a, .slice fa (if one then 1 else 0) fc]) 22 := ⟨⟨#[]⟩, 1, fun Z => by kernel_rfl⟩
set_option maxRecDepth 1000000 in
set_option maxHeartbeats 4000000 in
theorem nilp_pt {one : Bool} {a : Int} {lo : Nat} {w : World} {v : Value} (h : PtQ one a lo w v) : Calls Tryz.prog 115 #[v] w fun e w' => e = .returned (.bool (!one)) ∧ Below w.heap.size w w' := by
 obtain ⟨fa, fc, rfl, hc⟩ := id h
 obtain ⟨y1, h1, hk1⟩ := kq_P fa one fc a
 have hR := fun W (hW : Below w.heap.size w W) => raw_pt (h.up hW)
 have hkd := fun W => kind_any 22 h1 y1 W
 have hf := fun (ao : Option Addr) (n c : Nat) => field_6 (.int .i64 22) (.string ⟨#[]⟩) (.int .u64 a) (.int .u64 0) (.string ⟨#[]⟩) (.slice none 0 0) (.slice ao n c) (.int .i64 1)
 clear h hc
 unfold VP at *
 cases one
 ·simp only [Bool.false_eq_true, if_false] at *
  go_enter Tryz.func115, Tryz.ntmps115
  go_wp2_with (first
   | (go_at_call 376; refine (hkd _).mono ?_; rintro e V2 ⟨rfl, k2⟩)
   | (go_at_call 145; refine (hR _ k2).mono ?_; rintro e W2 ⟨⟨ao, c, rfl⟩, b2⟩))
  go_ret
  exact ⟨rfl, k2.trans (b2.mono k2.size)⟩
 ·simp only [if_true] at *
  go_enter Tryz.func115, Tryz.ntmps115
  go_wp2_with (first
   | (go_at_call 376; refine (hkd _).mono ?_; rintro e V2 ⟨rfl, k2⟩)
   | (go_at_call 145; refine (hR _ k2).mono ?_; rintro e W2 ⟨⟨ao, c, rfl⟩, b2⟩))
  go_ret
  exact ⟨rfl, k2.trans (b2.mono k2.size)⟩
abbrev dPt (a : Int) (one : Bool) : D := ⟨22, ⟨#[]⟩, a, 0, ⟨#[]⟩, [], if one then [D0 6 1 0 0 ⟨#[]⟩ ⟨#[]⟩] else [], 1⟩
theorem chk_pt (a : Int) (one : Bool) : chk0 (dPt a one) = 0 := by
 cases one
 ·unfold chk0
  rw [pre_eq]
  simp [great, preAll, runV, ok1, ok2, ok3, ok4, fitsB, frmB, typedB, allB, sz_nil]
 ·unfold chk0
  rw [pre_eq]
  simp [great, preAll, pre0, runV, ok1, ok2, ok3, ok4, fitsB, frmB, typedB, allB, sz_nil]
theorem made_num (sr : List D → List (D × D)) (V : World) : MadeC sr (fun _ => false) 1 V (D0 6 1 0 0 ⟨#[]⟩ ⟨#[]⟩) := fun nv pv W hr => by
 obtain ⟨na, nc, pa, pc, rfl, rfl⟩ := hr.slices
 refine (made_flat (D0 6 1 0 0 ⟨#[]⟩ ⟨#[]⟩) na pa nc pc W.w (by decide) (by decide) (by decide) (by decide) (by decide) (by decide)).mono ?_
 rintro e W' ⟨rfl, hb⟩
 refine ⟨hb, .inl ⟨rfl, _, _, rfl, ?_⟩⟩
 unfold VlC
 rw [if_pos (by decide)]
 rfl
set_option maxRecDepth 1000000 in
theorem build_pt (a : Int) (ha : 0 ≤ a ∧ a ≤ 18446744073709551615) (one : Bool) (pa : Option Addr) (pc : Nat) (w : World) (hr : RdC 2 w (.slice none 0 0) (.slice pa (dPt a one).parts.length pc) (dPt a one)) :
  Calls Tryz.prog 60 #[DV (dPt a one) (.slice none 0 0) (.slice pa (dPt a one).parts.length pc)] w fun e w' => (∃ t x, e = .returned (.tuple #[.iface t x, .int .i64 0]) ∧ PtQ one a w.heap.size w' (.iface t x)) ∧ Below w.heap.size w w' := by
 refine (build_any 2 (dPt a one) _ _ w hr (by decide) False (fun W v => (∃ t x, v = .iface t x) ∧ PtQ one a w.heap.size W v) ?_).mono ?_
 ·intro _ W hW hW3
  refine (madeq_22 (fun _ => []) (fun _ => false) 1 (dPt a one) none pa 0 pc W rfl (all_of (hr.up hW) (by cases one <;> simp) (fun x hx V => ?_))).mono ?_
  ·cases one
   ·simp at hx
   ·simp at hx
    subst hx
    exact made_num _ V
  ·rintro e W' ⟨hb, (⟨-, t, y, rfl, hv⟩ | ⟨h, -⟩)⟩
   ·refine ⟨hb, .inl ⟨id, t, y, rfl, fun W2 hK => ⟨⟨t, y, rfl⟩, ?_⟩⟩⟩
    unfold VlC at hv
    rw [if_neg (by show ¬ (22 : Int) ≤ 17; decide), if_neg (by show ¬ (22 : Int) = 18; decide), if_neg (by show ¬ (22 : Int) = 21; decide), if_pos (by show (22 : Int) = 22; rfl)] at hv
    obtain ⟨fa, fc, h1, -, -, h2⟩ := hv
    refine ⟨fa, fc, ?_, fun ho => ?_⟩
    ·rw [h1]
     cases one <;> rfl
    ·subst ho
     obtain ⟨b, off, t', u', h3, h4, h5, h6⟩ := h2 0 (D0 6 1 0 0 ⟨#[]⟩ ⟨#[]⟩) rfl
     unfold VlC at h6
     rw [if_pos (by show (6 : Int) ≤ 17; decide)] at h6
     rw [h6, Nat.add_zero] at h5
     have h7 : b ≠ w.heap.size + 1 ∧ b ≠ w.heap.size + 2 := by omega
     refine ⟨b, off, h3, by omega, ?_⟩
     rw [hK ⟨b, off, none⟩ h7.1 h7.2, h5]
     rfl
   ·exfalso
    cases one <;> simp at h
 ·rintro e w' ⟨hb, (⟨-, -, v, rfl, -, ⟨t, x, rfl⟩, hq⟩ | ⟨-, hF, -⟩ | ⟨hne, -⟩)⟩
  ·exact ⟨⟨t, x, rfl, hq⟩, hb⟩
  ·exact hF.elim
  ·exact absurd (chk_pt a one) hne
set_option maxRecDepth 1000000 in
theorem valueOf_pt (a : Int) (ha : 0 ≤ a ∧ a ≤ 18446744073709551615) (one : Bool) (pa : Option Addr) (pc : Nat) (w : World) (hr : RdC 2 w (.slice none 0 0) (.slice pa (dPt a one).parts.length pc) (dPt a one)) :
  Calls Tryz.prog 53 #[DV (dPt a one) (.slice none 0 0) (.slice pa (dPt a one).parts.length pc)] w fun e w' => (∃ t x, e = .returned (.iface t x) ∧ PtQ one a w.heap.size w' (.iface t x)) ∧ Below w.heap.size w w' := by
 have hB := fun W hW => build_pt a ha one pa pc W (hr.up hW)
 generalize hn : (dPt a one).parts.length = n at *
 change ∀ W, Below w.heap.size w W → Calls Tryz.prog 60 #[.agg #[.int .i64 22, .string ⟨#[]⟩, .int .u64 a, .int .u64 0, .string ⟨#[]⟩, .slice none 0 0, .slice pa n pc, .int .i64 1]] W _ at hB
 change Calls Tryz.prog 53 #[.agg #[.int .i64 22, .string ⟨#[]⟩, .int .u64 a, .int .u64 0, .string ⟨#[]⟩, .slice none 0 0, .slice pa n pc, .int .i64 1]] w _
 obtain ⟨W1, hW1⟩ : ∃ W1, W1 = w.alloc (.cells #[.int .i64 22, .string ⟨#[]⟩, .int .u64 a, .int .u64 0, .string ⟨#[]⟩, .slice none 0 0, .slice pa n pc, .int .i64 1] 29) := ⟨_, rfl⟩
 have b1 : Below w.heap.size w W1 := by rw [hW1]; exact (Below.refl _ _).alloc (Nat.le_refl _) _
 have c0 : W1.cell? ⟨w.heap.size, 0, none⟩ = some (.int .i64 22) ∧ W1.cell? ⟨w.heap.size, 1, none⟩ = some (.string ⟨#[]⟩) ∧ W1.cell? ⟨w.heap.size, 2, none⟩ = some (.int .u64 a) ∧ W1.cell? ⟨w.heap.size, 3, none⟩ = some (.int .u64 0) ∧ W1.cell? ⟨w.heap.size, 4, none⟩ = some (.string ⟨#[]⟩) ∧ W1.cell? ⟨w.heap.size, 5, none⟩ = some (.slice none 0 0) ∧ W1.cell? ⟨w.heap.size, 6, none⟩ = some (.slice pa n pc) ∧ W1.cell? ⟨w.heap.size, 7, none⟩ = some (.int .i64 1) := by
  rw [hW1]
  refine ⟨?_, ?_, ?_, ?_, ?_, ?_, ?_, ?_⟩
  all_goals simp [go_sem]
 obtain ⟨c0, c1, c2, c3, c4, c5, c6, c7⟩ := c0
 have hB1 := hB W1 b1
 have hs1 := b1.size
 clear hB hr hn
 go_enter Tryz.func53, Tryz.ntmps53
 go_upto_region 1 with fail
 rw [← hW1]
 clear hW1
 go_wp2_with (go_at_call 60; refine hB1.mono ?_; rintro e W2 ⟨⟨t, x, rfl, hq⟩, b2⟩)
 go_ret
 obtain ⟨fa, fc, h1, h2⟩ := hq
 refine ⟨⟨_, _, rfl, fa, fc, h1, fun ho => ?_⟩, b1.trans (b2.mono b1.size)⟩
 obtain ⟨B, off, h3, h4, h5⟩ := h2 ho
 exact ⟨B, off, h3, by omega, h5⟩
end Go.Proofs.YtdlnmnipnkeabaaGreatDoor
