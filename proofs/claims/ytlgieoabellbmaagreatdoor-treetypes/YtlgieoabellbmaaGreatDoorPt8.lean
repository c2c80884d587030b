/- VDocK, VBuild, VVal, VMadeAll: these texts in one. -/
import Derived.Test.YtlgieoabellbmaaGreatDoorVKey
import Derived.Test.YtlgieoabellbmaaGreatDoorPt7
import Derived.Test.YtlgieoabellbmaaGreatDoorVDocI
import Derived.Test.YtlgieoabellbmaaGreatDoorVCheck
import Derived.Defers
import Derived.Recover
import Derived.Test.YtlgieoabellbmaaGreatDoorVMade
import Derived.OwnWalk
import Derived.WalkSmall
import Derived.Maps.AppendAt
import Derived.Deep.LoopGhost
namespace Go.Proofs.YtlgieoabellbmaaGreatDoor
open Go.RowKit
set_option linter.unusedVariables false
set_option linter.unusedSimpArgs false
theorem cmpI_same (x : Int) : cmpI x x = 0 := by simp [cmpI]
theorem cmpI_add (x y c : Int) : cmpI (x + c) (y + c) = cmpI x y := by
 unfold cmpI
 (repeat' split) <;> omega
theorem cmpS_same (a : ByteArray) : cmpS a a = 0 := by
 have h : ∀ l : List UInt8, Op.bytesLess l l = false := by
  intro l
  rw [bytesLess_eq]
  simp [List.lt_irrefl]
 simp [cmpS, h]
def rkF (d : D) : Rk := if d.kind = 1 then ⟨d.kind, d.bits % 2, ⟨#[]⟩, d.ty⟩ else if 2 ≤ d.kind ∧ d.kind ≤ 6 then ⟨d.kind, sgN d.kind d.bits + 9223372036854775808, ⟨#[]⟩, d.ty⟩ else if 7 ≤ d.kind ∧ d.kind ≤ 11 then ⟨d.kind, unN d.kind d.bits, ⟨#[]⟩, d.ty⟩ else ⟨d.kind, 0, d.text, d.ty⟩
theorem rkF_k (d : D) : (rkF d).k = d.kind := by
 unfold rkF
 (repeat' split) <;> rfl
theorem sgN_fits (k b : Int) : -9223372036854775808 ≤ sgN k b ∧ sgN k b ≤ 9223372036854775807 := by
 unfold sgN swr
 (repeat' split) <;> omega
theorem rkF_ok (d : D) (hk : keyB d.kind = true) : RkD (mdV d) (rkF d) := by
 have h : d.kind = 1 ∨ (2 ≤ d.kind ∧ d.kind ≤ 6) ∨ (7 ≤ d.kind ∧ d.kind ≤ 11) ∨ d.kind = 16 := by simp [keyB] at hk; omega
 unfold mdV rkF
 rcases h with h | h | h | h
 ·rw [if_pos h, if_pos h]
  have := rankofD_truth d.kind d.hook d.ty (decide (d.bits % 2 = 1))
  have e : (if decide (d.bits % 2 = 1) = true then (1 : Int) else 0) = d.bits % 2 := by
   by_cases hb : d.bits % 2 = 1 <;> simp [hb] <;> omega
  rw [e] at this
  exact this
 ·rw [if_neg (by omega), if_pos h, if_neg (by omega), if_pos h]
  exact rankofD_signed d.kind d.hook d.ty _ (sgN_fits _ _)
 ·rw [if_neg (by omega), if_neg (by omega), if_pos h, if_neg (by omega), if_neg (by omega), if_pos h]
  exact rankofD_unsigned d.kind d.hook d.ty _
 ·rw [if_neg (by omega), if_neg (by omega), if_neg (by omega), if_neg (by omega), if_neg (by omega), if_neg (by omega), if_neg (by omega), if_pos h, if_neg (by omega), if_neg (by omega), if_neg (by omega)]
  exact rankofD_text d.kind d.hook d.ty _
theorem inFlat_kind (d : D) : (inFlat d).kind = d.kind := by
 unfold inFlat
 split
 ·rename_i h; exact h.symm
 ·rfl
theorem rkF_cmp (a b : D) (ha : keyB a.kind = true) (hb : keyB b.kind = true) : dcmp (inFlat a) (inFlat b) = cmpR (rkF a) (rkF b) := by
 unfold dcmp cmpR or4
 rw [inFlat_kind, inFlat_kind, rkF_k, rkF_k]
 by_cases hk : a.kind = b.kind
 ·rw [if_neg (by simpa using hk), if_pos ha, hk, cmpI_same]
  have h : b.kind = 1 ∨ (2 ≤ b.kind ∧ b.kind ≤ 6) ∨ (7 ≤ b.kind ∧ b.kind ≤ 11) ∨ b.kind = 16 := by simp [keyB] at hb; omega
  have za : a.kind ≠ 0 := by omega
  have zb : b.kind ≠ 0 := by omega
  simp only [ownC, inFlat, if_neg za, if_neg zb, rkF, hk]
  rcases h with h | h | h | h
  ·simp [h, inBits, cmpS_same]
  ·have n1 : ¬ b.kind = 1 := by omega
   have n2 : ¬ (7 ≤ b.kind ∧ b.kind ≤ 11) := by omega
   have q : ∀ x, wrap64 (inBits b.kind x) = sgN b.kind x := by
    intro x
    have h1 := sgN_fits b.kind x
    have h2 : sgnB b.kind = true := by simp [sgnB]; omega
    unfold inBits numF
    rw [if_neg n1, if_pos (by omega), if_pos h2]
    unfold wrap64
    omega
   simp only [n1, n2, h, q, if_true, if_false, or_self, and_self, cmpI_add, cmpS_same]
   by_cases hz : cmpI (sgN b.kind a.bits) (sgN b.kind b.bits) = 0 <;> simp [hz]
  ·have n1 : ¬ b.kind = 1 := by omega
   have n2 : ¬ (2 ≤ b.kind ∧ b.kind ≤ 6) := by omega
   have q : ∀ x, inBits b.kind x = unN b.kind x := by
    intro x
    have h2 : sgnB b.kind = false := by simp [sgnB]; omega
    unfold inBits numF
    rw [if_neg n1, if_pos (by omega), h2]
    simp
   simp only [n1, n2, h, q, if_true, if_false, or_true, and_self, cmpS_same]
   by_cases hz : cmpI (unN b.kind a.bits) (unN b.kind b.bits) = 0 <;> simp [hz]
  ·simp [h, inText, cmpI_same]
 ·rw [if_pos hk]
  have h1 : cmpI a.kind b.kind ≠ 0 := by unfold cmpI; (repeat' split) <;> omega
  rw [if_pos h1]
  unfold cmpI
  (repeat' split) <;> omega
end Go.Proofs.YtlgieoabellbmaaGreatDoor
namespace Go.Proofs.YtlgieoabellbmaaGreatDoor
open Go.RowKit
set_option linter.unusedVariables false
set_option maxRecDepth 1000000 in
theorem reason_any (n : Int) (w : World) : Calls Tryz.prog 30 #[.iface 44 (.int .i64 n)] w fun e w' => e = .returned (.int .i64 n) ∧ w' = w := by
 have ht : ∀ w, (Instr.typeAssert (.iface 44 (.int .i64 n)) 20 44 false).run Tryz.prog w = .ok (.int .i64 n) w := fun w => by kernel_rfl
 go_enter Tryz.func30, Tryz.ntmps30
 go_wp2
 go_ret
 exact ⟨rfl, rfl⟩
theorem catch_idle (p q : Addr) (w : World) :
  CallsD Tryz.prog 29 #[.pointer (some p), .pointer (some q)] .returning w fun e u' w' => e = .returned (.tuple #[]) ∧ u' = .returning ∧ w' = w := by
 refine callsD_of_wpS Tryz.func29 rfl fun c₀ cs hu => ?_
 apply wpS_seq
 apply wpS_region
 simp [wpOpsS, go_sem, recoverD, hu, Tryz.ntmps29, Exit.thenS]
 refine wpS_of_wp ?_
 go_wp2
 exact ⟨rfl, .returning, by rw [← hu], _, results_none rfl _ _ _, rfl, rfl, rfl⟩
set_option maxRecDepth 1000000 in
theorem catch_err (n : Int) (P Q : Nat) (w : World) (vp vq : Value) (hp : w.frozen? ⟨P, 0, none⟩ = false) (hq : w.frozen? ⟨Q, 0, none⟩ = false) (cp : w.cell? ⟨P, 0, none⟩ = some vp) (cq : w.cell? ⟨Q, 0, none⟩ = some vq) (hpq : P < Q) :
  CallsD Tryz.prog 29 #[.pointer (some ⟨P, 0, none⟩), .pointer (some ⟨Q, 0, none⟩)] (.panicking (PE n)) w fun e u' w' => e = .returned (.tuple #[]) ∧ u' = .panicking [{ v := .iface 44 (.int .i64 n), recovered := true }] ∧ w' = (w.setCell ⟨P, 0, none⟩ .nilIface).setCell ⟨Q, 0, none⟩ (.int .i64 n) := by
 have cq2 : ∀ v, (w.setCell ⟨P, 0, none⟩ v).cell? ⟨Q, 0, none⟩ = some vq := fun v => (World.cell?_of_block (w := w) (Below.heap_setCell _ _ _ _ (by show Q ≠ P; omega))).trans cq
 have hq2 : ∀ v, (w.setCell ⟨P, 0, none⟩ v).frozen? ⟨Q, 0, none⟩ = false := fun v => (World.frozen?_setCell _ _ _ _).trans hq
 refine callsD_of_wpS Tryz.func29 rfl fun c₀ cs hu => ?_
 apply wpS_seq
 apply wpS_region
 simp [wpOpsS, go_sem, recoverD, hu, Tryz.ntmps29, Exit.thenS]
 refine wpS_of_wp ?_
 go_wp2_with (go_at_call 30; refine (reason_any _ _).mono ?_; rintro e w1 ⟨rfl, hw1⟩; subst hw1)
 exact ⟨rfl, _, rfl, _, results_none rfl _ _ _, rfl, rfl, rfl⟩
def Keep2 (c c' : Nat) (W W' : World) : Prop := ∀ p : Addr, p.block ≠ c → p.block ≠ c' → W'.cell? p = W.cell? p
set_option maxRecDepth 1000000 in
set_option maxHeartbeats 4000000 in
theorem build_any (n : Nat) (d : D) (nv pv : Value) (w : World) (hr : RdC n w nv pv d) (hn : n ≤ 1000) (T : Prop) (P : World → Value → Prop)
  (hm : chk0 d = 0 → ∀ W, Below w.heap.size w W → w.heap.size + 3 ≤ W.heap.size → Calls Tryz.prog 32 #[DV d nv pv] W fun e W' => Below W.heap.size W W' ∧ ((¬ T ∧ ∃ t x, e = .returned (.iface t x) ∧ ∀ W'', Keep2 (w.heap.size + 1) (w.heap.size + 2) W' W'' → P W'' (.iface t x)) ∨ (T ∧ e = .panicked (PE 5)))) :
  Calls Tryz.prog 20 #[DV d nv pv] w fun e w' => Below w.heap.size w w' ∧
   ((chk0 d = 0 ∧ ¬ T ∧ ∃ v, e = .returned (.tuple #[v, .int .i64 0]) ∧ v ≠ .nilIface ∧ P w' v) ∨ (chk0 d = 0 ∧ T ∧ e = .returned (.tuple #[.nilIface, .int .i64 5])) ∨ (chk0 d ≠ 0 ∧ e = .returned (.tuple #[.nilIface, .int .i64 (chk0 d)]))) := by
 obtain ⟨na, nc, pa, pc, rfl, rfl⟩ := hr.slices
 have hmf : ∀ (fn : Fn) (first cap : Array Value) (w : World), (Instr.makeFunc fn first cap).run Tryz.prog w = .ok (.func fn first cap) w := fun _ _ _ _ => rfl
 obtain ⟨W1, hW1⟩ : ∃ W1, W1 = ((w.alloc (.cells #[.int .i64 d.kind, .string d.ty, .int .u64 d.bits, .int .u64 d.imag, .string d.text, .slice na d.names.length nc, .slice pa d.parts.length pc, .int .i64 d.hook] 26)).alloc (.cells #[.nilIface] 28)).alloc (.cells #[.int .i64 0] 44) := ⟨_, rfl⟩
 have hb1 : Below w.heap.size w W1 := by rw [hW1]; exact (((Below.refl _ _).alloc (Nat.le_refl _) _).alloc (by simp) _).alloc (by simp; omega) _
 have hsz : W1.heap.size = w.heap.size + 3 := by rw [hW1]; simp
 have hck := check_any n d _ _ W1 (hr.up hb1) hn
 have box : ∀ V, Below W1.heap.size W1 V → At8 V w.heap.size 0 d (.slice na d.names.length nc) (.slice pa d.parts.length pc) ∧ (V.cell? ⟨w.heap.size + 1, 0, none⟩ = some .nilIface ∧ V.frozen? ⟨w.heap.size + 1, 0, none⟩ = false) ∧ (V.cell? ⟨w.heap.size + 1 + 1, 0, none⟩ = some (.int .i64 0) ∧ V.frozen? ⟨w.heap.size + 1 + 1, 0, none⟩ = false) := by
  intro V hV
  refine ⟨⟨?_, ?_, ?_, ?_, ?_, ?_, ?_, ?_⟩, ⟨?_, ?_⟩, ?_, ?_⟩
  ·exact up_cell hV (by rw [hW1]; simp [go_sem])
  ·exact up_cell hV (by rw [hW1]; simp [go_sem])
  ·exact up_cell hV (by rw [hW1]; simp [go_sem])
  ·exact up_cell hV (by rw [hW1]; simp [go_sem])
  ·exact up_cell hV (by rw [hW1]; simp [go_sem])
  ·exact up_cell hV (by rw [hW1]; simp [go_sem])
  ·exact up_cell hV (by rw [hW1]; simp [go_sem])
  ·exact up_cell hV (by rw [hW1]; simp [go_sem])
  ·exact up_cell hV (by rw [hW1]; simp [go_sem])
  ·rw [hV.frozen (p := ⟨w.heap.size + 1, 0, none⟩) (by show w.heap.size + 1 < _; omega), hW1, frozen?_alloc_cells, frozen?_alloc_cells, frozen?_alloc_cells]
   exact frozen_none _ _ (by show w.heap.size ≤ w.heap.size + 1; omega)
  ·exact up_cell hV (by rw [hW1]; simp [go_sem])
  ·rw [hV.frozen (p := ⟨w.heap.size + 1 + 1, 0, none⟩) (by show w.heap.size + 1 + 1 < _; omega), hW1, frozen?_alloc_cells, frozen?_alloc_cells, frozen?_alloc_cells]
   exact frozen_none _ _ (by show w.heap.size ≤ w.heap.size + 1 + 1; omega)
 have fin : ∀ {V : World} {u x : Value}, Below W1.heap.size W1 V → Below w.heap.size w ((V.setCell ⟨w.heap.size + 1, 0, none⟩ u).setCell ⟨w.heap.size + 1 + 1, 0, none⟩ x) := fun hV =>
  ((hb1.trans (hV.mono hb1.size)).setCell (by show w.heap.size ≤ w.heap.size + 1; omega) _).setCell (by show w.heap.size ≤ w.heap.size + 1 + 1; omega) _
 have kp : ∀ (V : World) (u x : Value), Keep2 (w.heap.size + 1) (w.heap.size + 2) V ((V.setCell ⟨w.heap.size + 1, 0, none⟩ u).setCell ⟨w.heap.size + 1 + 1, 0, none⟩ x) := by
  intro V u x p h1 h2
  rw [World.cell?_of_block (w := V.setCell ⟨w.heap.size + 1, 0, none⟩ u) (Below.heap_setCell _ _ _ _ h2)]
  exact World.cell?_of_block (w := V) (Below.heap_setCell _ _ _ _ h1)
 have two : ∀ {V : World}, (V.cell? ⟨w.heap.size + 1, 0, none⟩).isSome = true → (V.cell? ⟨w.heap.size + 1 + 1, 0, none⟩).isSome = true → ∀ (u x : Value),
   ((V.setCell ⟨w.heap.size + 1, 0, none⟩ u).setCell ⟨w.heap.size + 1 + 1, 0, none⟩ x).cell? ⟨w.heap.size + 1, 0, none⟩ = some u ∧ ((V.setCell ⟨w.heap.size + 1, 0, none⟩ u).setCell ⟨w.heap.size + 1 + 1, 0, none⟩ x).cell? ⟨w.heap.size + 1 + 1, 0, none⟩ = some x := by
  intro V c1 c2 u x
  refine ⟨?_, cs_same8 _ _ _ ?_⟩
  ·rw [World.cell?_of_block (w := V.setCell ⟨w.heap.size + 1, 0, none⟩ u) (Below.heap_setCell _ _ _ _ (by show w.heap.size + 1 ≠ w.heap.size + 1 + 1; omega))]
   exact cs_same8 _ _ _ c1
  ·rw [World.cell?_of_block (w := V) (Below.heap_setCell _ _ _ _ (by show w.heap.size + 1 + 1 ≠ w.heap.size + 1; omega))]
   exact c2
 go_enter_defers Tryz.func20, Tryz.ntmps20
 go_wp2_with fail
 rw [← hW1]
 refine hck.mono ?_
 rintro e V ⟨hV, (⟨hc0, rfl⟩ | ⟨hc0, rfl⟩)⟩
 ·obtain ⟨⟨a0, a1, a2, a3, a4, a5, a6, a7⟩, -, -⟩ := box V hV
  go_wp2_with fail
  refine (hm hc0 V (hb1.trans (hV.mono hb1.size)) (by have := hV.size; omega)).mono ?_
  rintro e V2 ⟨hV2, (⟨hT, t, x, rfl, hP⟩ | ⟨hT, rfl⟩)⟩
  ·have hV3 : Below W1.heap.size W1 V2 := hV.trans (hV2.mono hV.size)
   obtain ⟨-, ⟨b0, b1⟩, b2, b3⟩ := box V2 hV3
   have b4 : ∀ u, (V2.setCell ⟨w.heap.size + 1, 0, none⟩ u).cell? ⟨w.heap.size + 1 + 1, 0, none⟩ = some (.int .i64 0) := fun u => (World.cell?_of_block (w := V2) (Below.heap_setCell _ _ _ _ (by show w.heap.size + 1 + 1 ≠ w.heap.size + 1; omega))).trans b2
   have b5 : ∀ u, (V2.setCell ⟨w.heap.size + 1, 0, none⟩ u).frozen? ⟨w.heap.size + 1 + 1, 0, none⟩ = false := fun u => (World.frozen?_setCell _ _ _ _).trans b3
   go_wp2
   refine leaves_cons (f := 29) (args := #[.pointer (some ⟨w.heap.size + 1, 0, none⟩), .pointer (some ⟨w.heap.size + 1 + 1, 0, none⟩)]) (by simp) (by simp [go_sem]) ?_
   refine (catch_idle _ _ _).mono ?_
   rintro e u' w'' ⟨rfl, rfl, rfl⟩
   obtain ⟨r0, r1⟩ := two (by rw [b0]; rfl) (by rw [b2]; rfl) (.iface t x) (.int .i64 0)
   refine ⟨.tuple #[.iface t x, .int .i64 0], ?_, ?_⟩
   ·simp [results, Tryz.results20, go_sem, r0, r1]
   ·exact ⟨fin hV3, .inl ⟨hc0, hT, _, rfl, (by simp), hP _ (kp _ _ _)⟩⟩
  ·have hV3 : Below W1.heap.size W1 V2 := hV.trans (hV2.mono hV.size)
   obtain ⟨-, ⟨b0, b1⟩, b2, b3⟩ := box V2 hV3
   refine leaves_cons (f := 29) (args := #[.pointer (some ⟨w.heap.size + 1, 0, none⟩), .pointer (some ⟨w.heap.size + 1 + 1, 0, none⟩)]) (by simp) (by simp [go_sem]) ?_
   refine (catch_err 5 _ _ _ _ _ b1 b3 b0 b2 (by omega)).mono ?_
   rintro e u' w'' ⟨rfl, rfl, rfl⟩
   obtain ⟨r0, r1⟩ := two (by rw [b0]; rfl) (by rw [b2]; rfl) .nilIface (.int .i64 5)
   refine ⟨.tuple #[.nilIface, .int .i64 5], ?_, ?_⟩
   ·simp [results, Tryz.results20, go_sem, r0, r1]
   ·exact ⟨fin hV3, .inr (.inl ⟨hc0, hT, rfl⟩)⟩
 ·obtain ⟨-, ⟨b0, b1⟩, b2, b3⟩ := box V hV
  refine leaves_cons (f := 29) (args := #[.pointer (some ⟨w.heap.size + 1, 0, none⟩), .pointer (some ⟨w.heap.size + 1 + 1, 0, none⟩)]) (by simp) (by simp [go_sem]) ?_
  refine (catch_err (chk0 d) _ _ _ _ _ b1 b3 b0 b2 (by omega)).mono ?_
  rintro e u' w'' ⟨rfl, rfl, rfl⟩
  obtain ⟨r0, r1⟩ := two (by rw [b0]; rfl) (by rw [b2]; rfl) .nilIface (.int .i64 (chk0 d))
  refine ⟨.tuple #[.nilIface, .int .i64 (chk0 d)], ?_, ?_⟩
  ·simp [results, Tryz.results20, go_sem, r0, r1]
  ·exact ⟨fin hV, .inr (.inr ⟨hc0, rfl⟩)⟩
end Go.Proofs.YtlgieoabellbmaaGreatDoor
namespace Go.Proofs.YtlgieoabellbmaaGreatDoor
open Go.RowKit
set_option linter.unusedVariables false
def nodes : D → List D
 | ⟨kind, ty, bits, imag, text, names, parts, hook⟩ => ⟨kind, ty, bits, imag, text, names, parts, hook⟩ :: (if great kind then parts.flatMap fun x => nodes x else [])
theorem nodes_eq (d : D) : nodes d = d :: (if great d.kind then d.parts.flatMap nodes else []) := by
 obtain ⟨kind, ty, bits, imag, text, names, parts, hook⟩ := d
 rw [nodes]
theorem pre_fst : ∀ (m : Nat) (d : D) (k : Int), SizeOf.sizeOf d ≤ m → (pre d k).map (·.1) = nodes d
 | 0, d, k, h => by cases d; simp at h
 | m + 1, d, k, h => by
   rw [pre_eq, nodes_eq, List.map_cons]
   congr 1
   split
   ·unfold preAll
    rw [List.map_flatMap]
    have : ∀ l : List D, (∀ x ∈ l, SizeOf.sizeOf x < SizeOf.sizeOf d) → (l.flatMap fun x => (pre x (k + 1)).map (·.1)) = l.flatMap nodes := by
     intro l
     induction l with
     | nil => intro _; rfl
     | cons x l ih =>
       intro hl
       rw [List.flatMap_cons, List.flatMap_cons, ih fun y hy => hl y (List.mem_cons_of_mem _ hy), pre_fst m x (k + 1) (by have := hl x (List.mem_cons_self ..); omega)]
    exact this d.parts fun x hx => parts_lt hx
   ·rfl
theorem pre_nodes (d : D) (k : Int) : (pre d k).map (·.1) = nodes d := pre_fst _ d k (Nat.le_refl _)
theorem nodes_part {d x y : D} (hg : great d.kind = true) (hx : x ∈ d.parts) (hy : y ∈ nodes x) : y ∈ nodes d := by
 rw [nodes_eq, if_pos hg]
 exact List.mem_cons_of_mem _ (List.mem_flatMap.2 ⟨x, hx, hy⟩)
theorem nodes_self (d : D) : d ∈ nodes d := by rw [nodes_eq]; exact List.mem_cons_self ..
def Vals (R : Value → D → Prop) (S : Nat → Prop) (W : World) (a : Option Addr) (l : List D) : Prop :=
 ∀ (i : Nat) (y : D), l[i]? = some y → ∃ b off t u, a = some ⟨b, off, none⟩ ∧ S b ∧ W.cell? ⟨b, off + i, none⟩ = some (.iface t u) ∧ R (.iface t u) y
def StrsS (S : Nat → Prop) (W : World) (a : Option Addr) (l : List ByteArray) : Prop :=
 ∀ (i : Nat) (s : ByteArray), l[i]? = some s → ∃ b off, a = some ⟨b, off, none⟩ ∧ S b ∧ W.cell? ⟨b, off + i, none⟩ = some (.string s)
def Ents (R : Value → D → Prop) (S : Nat → Prop) (W : World) (a : Option Addr) (l : List (D × D)) : Prop :=
 ∀ (i : Nat) (p : D × D), l[i]? = some p → ∃ b off t u t' u', a = some ⟨b, off, none⟩ ∧ S b ∧ W.cell? ⟨b, off + i * 2, none⟩ = some (.iface t u) ∧ W.cell? ⟨b, off + i * 2 + 1, none⟩ = some (.iface t' u') ∧ R (.iface t u) p.1 ∧ R (.iface t' u') p.2
def VlC (sr : List D → List (D × D)) : Nat → (Nat → Prop) → World → Value → D → Prop
 | 0, _, _, _, _ => False
 | n + 1, S, W, v, d =>
   if d.kind ≤ 17 then v = mdV d
   else if d.kind = 18 then ∃ na nc fa fc, v = .iface 86 (.agg #[.int .i64 d.kind, .string d.ty, .int .i64 d.hook, .slice na d.names.length nc, .slice fa d.parts.length fc]) ∧ d.names.length ≤ nc ∧ nc ≤ maxLen ∧ d.parts.length ≤ fc ∧ fc ≤ maxLen ∧ StrsS S W na d.names ∧ Vals (VlC sr n S W) S W fa d.parts
   else if d.kind = 21 then ∃ fa fc, v = .iface 91 (.agg #[.int .i64 d.kind, .string d.ty, .int .i64 d.hook, .slice fa (sr d.parts).length fc]) ∧ (sr d.parts).length ≤ fc ∧ fc ≤ maxLen ∧ Ents (VlC sr n S W) S W fa (sr d.parts)
   else if d.kind = 22 then ∃ fa fc, v = .iface 95 (.agg #[.int .i64 d.kind, .string d.ty, .int .i64 d.hook, .int .u64 d.bits, .slice fa d.parts.length fc]) ∧ d.parts.length ≤ fc ∧ fc ≤ maxLen ∧ Vals (VlC sr n S W) S W fa d.parts
   else ∃ fa fc, v = .iface 88 (.agg #[.int .i64 d.kind, .string d.ty, .int .i64 d.hook, .slice fa d.parts.length fc]) ∧ d.parts.length ≤ fc ∧ fc ≤ maxLen ∧ Vals (VlC sr n S W) S W fa d.parts
def Kept (S S' : Nat → Prop) (W W' : World) : Prop := ∀ b, S b → b < W.heap.size → S' b ∧ ∀ o, W'.cell? ⟨b, o, none⟩ = W.cell? ⟨b, o, none⟩
theorem Kept.at {S S' : Nat → Prop} {W W' : World} (h : Kept S S' W W') {b o : Nat} {v : Value} (hs : S b) (hc : W.cell? ⟨b, o, none⟩ = some v) : S' b ∧ W'.cell? ⟨b, o, none⟩ = some v :=
 let ⟨h1, h2⟩ := h b hs (lt_of_cell hc); ⟨h1, (h2 o).trans hc⟩
theorem Vals.turn {R R' : Value → D → Prop} {S S' : Nat → Prop} {W W' : World} {a : Option Addr} {l : List D} (h : Vals R S W a l) (hk : Kept S S' W W') (hR : ∀ v y, R v y → R' v y) : Vals R' S' W' a l := by
 intro i y hy
 obtain ⟨b, off, t, u, h1, h2, h3, h4⟩ := h i y hy
 obtain ⟨k1, k2⟩ := hk.at h2 h3
 exact ⟨b, off, t, u, h1, k1, k2, hR _ _ h4⟩
theorem Ents.turn {R R' : Value → D → Prop} {S S' : Nat → Prop} {W W' : World} {a : Option Addr} {l : List (D × D)} (h : Ents R S W a l) (hk : Kept S S' W W') (hR : ∀ v y, R v y → R' v y) : Ents R' S' W' a l := by
 intro i y hy
 obtain ⟨b, off, t, u, t', u', h1, h2, h3, h4, h5, h6⟩ := h i y hy
 obtain ⟨k1, k2⟩ := hk.at h2 h3
 exact ⟨b, off, t, u, t', u', h1, k1, k2, (hk.at h2 h4).2, hR _ _ h5, hR _ _ h6⟩
theorem StrsS.turn {S S' : Nat → Prop} {W W' : World} {a : Option Addr} {l : List ByteArray} (h : StrsS S W a l) (hk : Kept S S' W W') : StrsS S' W' a l := by
 intro i y hy
 obtain ⟨b, off, h1, h2, h3⟩ := h i y hy
 obtain ⟨k1, k2⟩ := hk.at h2 h3
 exact ⟨b, off, h1, k1, k2⟩
theorem VlC.turn {sr : List D → List (D × D)} {S S' : Nat → Prop} {W W' : World} (hk : Kept S S' W W') : ∀ {n : Nat} {v : Value} {d : D}, VlC sr n S W v d → VlC sr n S' W' v d
 | 0, _, _, h => h
 | n + 1, v, d, h => by
   unfold VlC at h ⊢
   split at h
   ·rw [if_pos (by assumption)]; exact h
   rw [if_neg (by assumption)]
   split at h
   ·rw [if_pos (by assumption)]
    obtain ⟨na, nc, fa, fc, h1, h2, h3, h4, h5, h6, h7⟩ := h
    exact ⟨na, nc, fa, fc, h1, h2, h3, h4, h5, h6.turn hk, h7.turn hk fun v y => VlC.turn hk⟩
   rw [if_neg (by assumption)]
   split at h
   ·rw [if_pos (by assumption)]
    obtain ⟨fa, fc, h1, h4, h5, h7⟩ := h
    exact ⟨fa, fc, h1, h4, h5, h7.turn hk fun v y => VlC.turn hk⟩
   rw [if_neg (by assumption)]
   split at h
   ·rw [if_pos (by assumption)]
    obtain ⟨fa, fc, h1, h4, h5, h7⟩ := h
    exact ⟨fa, fc, h1, h4, h5, h7.turn hk fun v y => VlC.turn hk⟩
   rw [if_neg (by assumption)]
   obtain ⟨fa, fc, h1, h4, h5, h7⟩ := h
   exact ⟨fa, fc, h1, h4, h5, h7.turn hk fun v y => VlC.turn hk⟩
theorem Kept.below {S S' : Nat → Prop} {W W' : World} (h : Below W.heap.size W W') (hS : ∀ b, S b → b < W.heap.size → S' b) : Kept S S' W W' := fun b hb hl => ⟨hS b hb hl, fun o => h.cell hl⟩
def MadeC (sr : List D → List (D × D)) (tw : D → Bool) (n : Nat) (W0 : World) (x : D) : Prop :=
 ∀ (nv pv : Value) (W : Cl W0), RdC n W0 nv pv x → Calls Tryz.prog 32 #[DV x nv pv] W.w fun e W' => Below W.w.heap.size W.w W' ∧
   ((tw x = false ∧ ∃ t y, e = .returned (.iface t y) ∧ VlC sr n (fun b => W.w.heap.size ≤ b) W' (.iface t y) x) ∨ (tw x = true ∧ e = .panicked (PE 5)))
theorem own_ge8 {w : World} {B : Nat} {e : TypeId} {ao : Option Addr} {n c : Nat} {us : List Value} (h : w.ownsRow B e 1 (.slice ao n c) n us) : ∀ k, Value.ownBlock (.slice ao n c) = some k → B ≤ k := by
 intro k hk
 rcases h.2 with ⟨h1, -⟩ | ⟨g, cap, cur, h1, hB, -⟩
 ·cases h1; cases hk
 ·cases h1
  have : g = k := Option.some.inj hk
  omega
theorem own_lt8 {w : World} {B : Nat} {e : TypeId} {ao : Option Addr} {n c : Nat} {us : List Value} (h : w.ownsRow B e 1 (.slice ao n c) n us) : ∀ k, Value.ownBlock (.slice ao n c) = some k → k < w.heap.size := by
 intro k hk
 rcases h.2 with ⟨h1, -⟩ | ⟨g, cap, cur, h1, hB, hg, -⟩
 ·cases h1; cases hk
 ·cases h1
  have : g = k := Option.some.inj hk
  have := (Array.getElem?_eq_some_iff.1 hg).1
  omega
theorem own_up8 {w w' : World} {B : Nat} {e : TypeId} {v : Value} {n : Nat} {us : List Value} (h : w.ownsRow B e 1 v n us) (b : Below w.heap.size w w') : w'.ownsRow B e 1 v n us := by
 refine ⟨h.1, ?_⟩
 rcases h.2 with h1 | ⟨g, cap, cur, h1, hB, hg, k⟩
 ·exact .inl h1
 ·exact .inr ⟨g, cap, cur, h1, hB, (b.block g (Array.getElem?_eq_some_iff.1 hg).1).trans hg, k⟩
theorem own_slice8 {w : World} {B : Nat} {e : TypeId} {v : Value} {n : Nat} {us : List Value} (h : w.ownsRow B e 1 v n us) : ∃ ao c, v = .slice ao n c ∧ n ≤ c ∧ c ≤ maxLen := by
 rcases h.2 with ⟨h1, rfl⟩ | ⟨g, cap, cur, h1, hB, hg, k1, k2, -⟩
 ·exact ⟨none, 0, h1, Nat.le_refl _, Nat.zero_le _⟩
 ·exact ⟨_, cap, h1, k1, k2⟩
end Go.Proofs.YtlgieoabellbmaaGreatDoor
namespace Go.Proofs.YtlgieoabellbmaaGreatDoor
open Go.RowKit
set_option linter.unusedVariables false
set_option maxRecDepth 1000000 in
set_option maxHeartbeats 4000000 in
theorem madeall_any (sr : List D → List (D × D)) (tw : D → Bool) (n : Nat) (l : List D) (a : Option Addr) (cap : Nat) (w : World) (h1 : l.length ≤ cap) (h2 : cap ≤ maxLen) (h64 : l.length ≤ 1000)
  (hcell : ∀ (i : Nat) (x : D), l[i]? = some x → ∃ b off nv' pv', a = some ⟨b, off, none⟩ ∧ At8 w b (off + i * 8) x nv' pv' ∧ RdC n w nv' pv' x) (hm : ∀ x ∈ l, MadeC sr tw n w x) :
  Calls Tryz.prog 61 #[.slice a l.length cap] w fun e W' => Below w.heap.size w W' ∧
   ((l.any tw = false ∧ ∃ fa fc, e = .returned (.slice fa l.length fc) ∧ l.length ≤ fc ∧ fc ≤ maxLen ∧ Vals (VlC sr n (fun b => w.heap.size ≤ b) W') (fun b => w.heap.size ≤ b) W' fa l) ∨ (l.any tw = true ∧ e = .panicked (PE 5))) := by
 obtain ⟨i0, hi⟩ : ∃ i0, Tryz.prog.info? 28 = some i0 := ⟨_, rfl⟩
 have hz0 : i0.zero = some .nilIface := by
  have : (Tryz.prog.info? 28).map (·.zero) = some (some .nilIface) := by kernel_rfl
  rw [hi] at this; exact Option.some.inj this
 have hz1 : i0.size = 1 := by
  have : (Tryz.prog.info? 28).map (·.size) = some 1 := by kernel_rfl
  rw [hi] at this; exact Option.some.inj this
 have hz2 : i0.bytes = 16 := by
  have : (Tryz.prog.info? 28).map (·.bytes) = some 16 := by kernel_rfl
  rw [hi] at this; exact Option.some.inj this
 go_enter Tryz.func61, Tryz.ntmps61
 go_wp2
 go_loopg [3, 5, 8] l.length (fun gg sv z i wr => ∃ (j c : Nat) (ao : Option Addr) (us : List Value), sv = .slice ao j c ∧ i = .int .i64 j ∧ j + gg = l.length ∧ wr.ownsRow w.heap.size 28 1 (.slice ao j c) j us ∧ Below w.heap.size w wr ∧ Hid ((l.take j).any tw = false) ∧ Hid (∀ (q : Nat) (u : Value) (y : D), us[q]? = some u → l[q]? = some y → (∃ t x, u = .iface t x) ∧ VlC sr n (fun b => w.heap.size ≤ b ∧ Value.ownBlock (.slice ao j c) ≠ some b) wr u y))
 case atStart => exact ⟨0, 0, none, [], rfl, rfl, Nat.zero_add _, World.ownsRow_nil _ _ _ _, Below.refl _ _, rfl, fun q u y h => by simp at h⟩
 case round =>
  obtain ⟨j, c, ao, us, rfl, rfl, hjg, hown, hbl, HT, HV⟩ := hrel
  by_cases hlt : j < l.length
  ·have hltI : (j : Int) < l.length := by omega
   obtain ⟨x, hx⟩ : ∃ x, l[j]? = some x := ⟨l[j], List.getElem?_eq_getElem hlt⟩
   obtain ⟨b, off, nv', pv', rfl, h8, hr'⟩ := hcell j x hx
   obtain ⟨na', nc', pa', pc', rfl, rfl⟩ := hr'.slices
   obtain ⟨c0, c1, c2, c3, c4, c5, c6, c7⟩ := h8.up hbl
   obtain ⟨Y2, hY2⟩ : ∃ Y2, Y2 = wr.alloc (.cells #[.int .i64 x.kind, .string x.ty, .int .u64 x.bits, .int .u64 x.imag, .string x.text, .slice na' x.names.length nc', .slice pa' x.parts.length pc', .int .i64 x.hook] 26) := ⟨_, rfl⟩
   have hbY : Below wr.heap.size wr Y2 := by rw [hY2]; exact (Below.refl _ _).alloc (Nat.le_refl _) _
   obtain ⟨C2, hC2⟩ : ∃ C2 : Cl w, C2.w = Y2 := ⟨⟨Y2, hbl.trans (hbY.mono hbl.size)⟩, rfl⟩
   have hrec := hm x (List.mem_of_getElem? hx) _ _ C2 hr'
   rw [hC2] at hrec
   have HN : Hid ((l.take (j + 1)).any tw = ((l.take j).any tw || tw x)) := by
    show _ = _
    rw [List.take_add_one, hx]; simp
   have HX : Hid (tw x = true → l.any tw = true) := fun h => List.any_eq_true.2 ⟨x, List.mem_of_getElem? hx, h⟩
   have hsz := hbl.size
   have hszY := hbY.size
   have Hx : Hid (l[j]? = some x) := hx
   clear hx h8 hr' hcell hm
   go_wp2_with fail
   rw [← hY2]
   refine hrec.mono ?_
   rintro e Z ⟨hbZ, (⟨htw, t, y, rfl, hvl⟩ | ⟨htw, rfl⟩)⟩
   ·have hwZ : Below wr.heap.size wr Z := hbY.trans (hbZ.mono hszY)
    have hownZ := own_up8 hown hwZ
    have hzZ := hwZ.size
    have hoz := own_lt8 hown
    clear hbZ hrec c0 c1 c2 c3 c4 c5 c6 c7
    go_wp2_with (at_builtin; refine wpList_append_own_at _ rfl _ _ 64 rfl w.heap.size 28 i0 .nilIface 1 16 Tryz.underlying64 hi hz0 hz1 hz2 rfl (by decide) _ _ _ rfl (hownZ.alloc _) ⟨Z.heap.size, 0, none⟩ 1 1 [.iface t y] rfl rfl ?c1 ?c2 ?c3 ?c4 ?c5 ?_)
    case c1 =>
     intro j u hj
     match j, hj with
     | 0, hj => simp at hj; subst hj; simp [Addr.add]
    case c2 => intro u hu; simp at hu; subst hu; rfl
    case c3 => unfold maxLen; omega
    case c4 => omega
    case c5 => simp; omega
    intro v' w1 hown' hgrow _ hat
    obtain ⟨ao', c', rfl, -, -⟩ := own_slice8 hown'
    have hge := own_ge8 hown
    have hb1 : Below w.heap.size w w1 := ((hbl.trans (hwZ.mono hsz)).alloc (by omega) _).grown hgrow (by simp; omega) hge
    have hkept : ∀ S : Nat → Prop, (∀ b, S b → w.heap.size ≤ b ∧ Value.ownBlock (.slice ao j c) ≠ some b) → Kept S (fun b => w.heap.size ≤ b ∧ Value.ownBlock (.slice ao' (j + 1) c') ≠ some b) Z w1 := by
     intro S hS b hb hlZ
     obtain ⟨s1, s2⟩ := hS b hb
     refine ⟨⟨s1, ?_⟩, fun o => ?_⟩
     ·rcases hat with hat | hat
      ·rw [hat]; exact s2
      ·rw [hat]
       intro h
       have h3 := Option.some.inj h
       omega
     ·exact (World.cell?_of_block (w := Z.alloc (.cells #[.iface t y] 28)) (a := ⟨b, o, none⟩) (hgrow.block b (by simp; omega) (Ne.symm s2))).trans (World.cell?_of_block (w := Z) (a := ⟨b, o, none⟩) (Below.heap_alloc _ _ _ hlZ))
    have HV2 : Hid (∀ (q : Nat) (u : Value) (z : D), (us ++ [.iface t y])[q]? = some u → l[q]? = some z → (∃ t x, u = .iface t x) ∧ VlC sr n (fun b => w.heap.size ≤ b ∧ Value.ownBlock (.slice ao' (j + 1) c') ≠ some b) w1 u z) := by
     intro q u z hq hz
     have hul : us.length = j := by have := hown.1; omega
     by_cases hqj : q < j
     ·rw [List.getElem?_append_left (by omega)] at hq
      obtain ⟨e1, e2⟩ := HV.out q u z hq hz
      refine ⟨e1, (e2.turn (Kept.below hwZ fun b hb _ => hb)).turn (hkept _ fun b hb => hb)⟩
     ·have hqe : q = j := by
       have := (List.getElem?_eq_some_iff.1 hq).1
       simp at this; omega
      subst hqe
      rw [List.getElem?_append_right (by omega), hul] at hq
      simp at hq
      subst hq
      rw [Hx.out] at hz
      obtain rfl := Option.some.inj hz
      refine ⟨⟨_, _, rfl⟩, hvl.turn (hkept _ fun b hb => ⟨by omega, fun h => ?_⟩)⟩
      have := hoz b h
      omega
    have HT2 : Hid ((l.take (j + 1)).any tw = false) := by show _ = _; rw [HN.out, HT.out, htw]; rfl
    have hown2 := hown'
    clear hown' hgrow hat hkept HV HT HN HX hvl hownZ hown hoz hge Hx
    go_wp2
    go_roundg (gk - 1)
    case measure => omega
    case rel => exact ⟨j + 1, c', ao', us ++ [.iface t y], rfl, by go_num, by omega, hown2, hb1, HT2, HV2⟩
   ·exact ⟨rfl, hbl.trans ((hbY.trans (hbZ.mono hszY)).mono hsz), .inr ⟨HX.out htw, rfl⟩⟩
  ·have hltI : ¬ (j : Int) < l.length := by omega
   have hj : j = l.length := by omega
   subst hj
   obtain ⟨ao', c', he, k1, k2⟩ := own_slice8 hown
   obtain ⟨rfl, -, rfl⟩ := Value.slice.inj he
   have HF : Hid (l.any tw = false) := by
    have := HT.out
    rw [List.take_length] at this
    exact this
   have HR : Hid (Vals (VlC sr n (fun b => w.heap.size ≤ b) wr) (fun b => w.heap.size ≤ b) wr ao l) := by
    intro i y hy
    have hil : i < l.length := (List.getElem?_eq_some_iff.1 hy).1
    have hul : us.length = l.length := by have := hown.1; omega
    obtain ⟨u, hu⟩ : ∃ u, us[i]? = some u := ⟨us[i], List.getElem?_eq_getElem (by omega)⟩
    obtain ⟨⟨t, x, rfl⟩, e2⟩ := HV.out i u y hu hy
    rcases hown.2 with ⟨-, h0⟩ | ⟨g, cap', cur, hg1, hB, hg, -⟩
    ·omega
    ·obtain ⟨rfl, -, -⟩ := Value.slice.inj hg1
     refine ⟨g, 0, t, x, rfl, hB, ?_, e2.turn fun b hb _ => ⟨hb.1, fun _ => rfl⟩⟩
     rw [Nat.zero_add, hown.cellAt i (by omega), hu]
   clear he HV HT hown hm hcell
   go_wp2
   go_ret
   exact ⟨hbl, .inl ⟨by simpa using HF.out, ao, c, rfl, k1, k2, HR.out⟩⟩
end Go.Proofs.YtlgieoabellbmaaGreatDoor
