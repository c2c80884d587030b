/- The walk of HooksLacks. -/
import Derived.Test.YtbfaapbbhgegiabDoorXLiveB
import Derived.Test.YtbfaapbbhgegiabDoorXPut
namespace Go.Proofs.YtbfaapbbhgegiabDoor
open Go.RowKit
set_option linter.unusedVariables false
set_option linter.unusedSimpArgs false

theorem put_a {h : Hk} {w : World} {B : Nat} (hb : Blk w B h.v) (x : Ac) : w.there B 0 12 ∧ Blk (w.setCells B 0 x.v) B (Hk.v ⟨x, h.b, h.c, h.d⟩) :=
  ⟨Blk.thereMid (p := []) (cs := h.a.v) (q := h.b.v ++ (h.c.v ++ h.d.v)) hb, Blk.put (p := []) (cs := h.a.v) (q := h.b.v ++ (h.c.v ++ h.d.v)) hb x.v rfl⟩
theorem put_b {h : Hk} {w : World} {B : Nat} (hb : Blk w B h.v) (x : Ac) : w.there B 12 12 ∧ Blk (w.setCells B 12 x.v) B (Hk.v ⟨h.a, x, h.c, h.d⟩) :=
  ⟨Blk.thereMid (p := h.a.v) (cs := h.b.v) (q := h.c.v ++ h.d.v) hb, Blk.put (p := h.a.v) (cs := h.b.v) (q := h.c.v ++ h.d.v) hb x.v rfl⟩
theorem put_c {h : Hk} {w : World} {B : Nat} (hb : Blk w B h.v) (x : Ac) : w.there B 24 12 ∧ Blk (w.setCells B 24 x.v) B (Hk.v ⟨h.a, h.b, x, h.d⟩) := by
  have h1 : Blk w B ((h.a.v ++ h.b.v) ++ (h.c.v ++ h.d.v)) := by rw [List.append_assoc]; exact hb
  have h2 := Blk.put (p := h.a.v ++ h.b.v) (cs := h.c.v) (q := h.d.v) h1 x.v rfl
  rw [List.append_assoc] at h2
  exact ⟨Blk.thereMid (p := h.a.v ++ h.b.v) (cs := h.c.v) (q := h.d.v) h1, h2⟩
theorem put_d {h : Hk} {w : World} {B : Nat} (hb : Blk w B h.v) (x : Ac) : w.there B 36 12 ∧ Blk (w.setCells B 36 x.v) B (Hk.v ⟨h.a, h.b, h.c, x⟩) := by
  have h1 : Blk w B ((h.a.v ++ (h.b.v ++ h.c.v)) ++ (h.d.v ++ [])) := by
    rw [List.append_nil, List.append_assoc, List.append_assoc]
    exact hb
  have h2 := Blk.put (p := h.a.v ++ (h.b.v ++ h.c.v)) (cs := h.d.v) (q := []) h1 x.v rfl
  rw [List.append_nil, List.append_assoc, List.append_assoc] at h2
  exact ⟨Blk.thereMid (p := h.a.v ++ (h.b.v ++ h.c.v)) (cs := h.d.v) (q := []) h1, h2⟩
/-- A method of a kind that there is not. -/
def lkX (k : Int) : Ac := ⟨k, ⟨#[120]⟩, ⟨#[121]⟩, .no, .no⟩
def lkA (k : Int) : Ac := if k < 1 ∨ 3 < k then lkX k else .no
theorem lkA_th (k : Int) : thB (lkA k) = false := by
  unfold lkA
  split
  · rename_i h
    rw [thB_dec]
    refine decide_eq_false ?_
    show ¬ (k = 1 ∨ k = 2 ∨ k = 3)
    omega
  · rfl
def stL (k0 k1 k2 k3 : Int) : Nat → Hk
  | 0 => ⟨.no, .no, .no, .no⟩
  | 1 => ⟨lkA k0, .no, .no, .no⟩
  | 2 => ⟨lkA k0, lkA k1, .no, .no⟩
  | 3 => ⟨lkA k0, lkA k1, lkA k2, .no⟩
  | _ => ⟨lkA k0, lkA k1, lkA k2, lkA k3⟩
theorem bld_lkX (k : Int) (w : World) : (Instr.build 33 #[(0, .int .i64 k), (1, .string ⟨#[120]⟩), (2, .string ⟨#[121]⟩)]).run Tryd.prog w = .ok (.agg (lkX k).v.toArray) w := by kernel_rfl
theorem bld_hk4 (h : Hk) (w : World) : (Instr.build 43 #[(0, .agg h.a.v.toArray), (1, .agg h.b.v.toArray), (2, .agg h.c.v.toArray), (3, .agg h.d.v.toArray)]).run Tryd.prog w = .ok (.agg h.v.toArray) w := by
  obtain ⟨⟨k, t, f, ⟨la, ln, lc⟩, ⟨a0, a1, a2, a3, a4, ⟨na, nn, nc⟩, ⟨pa, pn, pc⟩, a7⟩⟩, ⟨k', t', f', ⟨la', ln', lc'⟩, ⟨a0', a1', a2', a3', a4', ⟨na', nn', nc'⟩, ⟨pa', pn', pc'⟩, a7'⟩⟩, ⟨k2, t2, f2, ⟨la2, ln2, lc2⟩, ⟨a02, a12, a22, a32, a42, ⟨na2, nn2, nc2⟩, ⟨pa2, pn2, pc2⟩, a72⟩⟩, ⟨k3, t3, f3, ⟨la3, ln3, lc3⟩, ⟨a03, a13, a23, a33, a43, ⟨na3, nn3, nc3⟩, ⟨pa3, pn3, pc3⟩, a73⟩⟩⟩ := h
  kernel_rfl
theorem idx4_0 (k0 k1 k2 k3 : Int) (w : World) : (Instr.index 39 (.agg #[.int .i64 k0, .int .i64 k1, .int .i64 k2, .int .i64 k3]) (.int .i64 0)).run Tryd.prog w = .ok (.int .i64 k0) w := by kernel_rfl
theorem idx4_1 (k0 k1 k2 k3 : Int) (w : World) : (Instr.index 39 (.agg #[.int .i64 k0, .int .i64 k1, .int .i64 k2, .int .i64 k3]) (.int .i64 1)).run Tryd.prog w = .ok (.int .i64 k1) w := by kernel_rfl
theorem idx4_2 (k0 k1 k2 k3 : Int) (w : World) : (Instr.index 39 (.agg #[.int .i64 k0, .int .i64 k1, .int .i64 k2, .int .i64 k3]) (.int .i64 2)).run Tryd.prog w = .ok (.int .i64 k2) w := by kernel_rfl
theorem idx4_3 (k0 k1 k2 k3 : Int) (w : World) : (Instr.index 39 (.agg #[.int .i64 k0, .int .i64 k1, .int .i64 k2, .int .i64 k3]) (.int .i64 3)).run Tryd.prog w = .ok (.int .i64 k3) w := by kernel_rfl
theorem lbld_asked (w : World) : (Instr.build 24 #[]).run Tryd.prog w = .ok (.agg #[.int .i64 0, .int .i64 0]) w := by kernel_rfl
theorem leq_asked (w : World) : (binOp BinOp.eql 24 (.agg #[.int .i64 0, .int .i64 0]) (.agg #[.int .i64 0, .int .i64 0])).run Tryd.prog w = .ok (.bool true) w := by kernel_rfl
theorem lrow_Asked : Row 24 2 := ⟨⟨_, Tryd.underlying24, rfl⟩, by kernel_rfl⟩
theorem lrow_int4 : Row 39 4 := ⟨⟨_, Tryd.underlying39, rfl⟩, by kernel_rfl⟩
/-- The law's memory in its loop. -/
structure LkW (w : World) (G H : List Value) (wr : World) : Prop where
  h : Blk wr (w.heap.size + 2) H
  g : Blk wr w.heap.size G
  b : Below w.heap.size w wr
  s : wr.heap.size = w.heap.size + 3
theorem LkW.put {w wr : World} {G H H' us : List Value} (k : LkW w G H wr) (o : Nat) (hb : Blk (wr.setCells (w.heap.size + 2) o us) (w.heap.size + 2) H') : LkW w G H' (wr.setCells (w.heap.size + 2) o us) :=
  ⟨hb, k.g.oth (by omega) _ _, xbelow_sc k.b (by omega) _ _, by rw [xsc_size]; exact k.s⟩
set_option maxRecDepth 1000000 in
set_option maxHeartbeats 20000000 in
theorem hooksLacks_walk (f : Sp) (hw5 : (Lit.int .i64 f.wid).wf = true) (hw6 : (Lit.int .i64 f.prec).wf = true) (k0 k1 k2 k3 : Int) (np : Bool) (w : World) (hE : Esc w) : Calls Tryd.prog 4 #[.agg f.v.toArray, .agg #[.int .i64 k0, .int .i64 k1, .int .i64 k2, .int .i64 k3], .bool np] w fun e w' => e = .returned (.bool true) ∧ Below w.heap.size w w' := by
  have hmf : ∀ (fn : Fn) (first cap : Array Value) (w : World), (Instr.makeFunc fn first cap).run Tryd.prog w = .ok (.func fn first cap) w := fun _ _ _ _ => rfl
  have hL := fun (V : World) (hV : Below w.heap.size w V) => lives11_any V (hE.below hV)
  obtain ⟨W1, hW1⟩ : ∃ W1, W1 = ((w.alloc (.cells f.v.toArray 38)).alloc (.cells #[.int .i64 k0, .int .i64 k1, .int .i64 k2, .int .i64 k3] 39)).alloc (.cells #[.int .i64 0, .string ⟨#[]⟩, .string ⟨#[]⟩, .slice none 0 0, .int .i64 0, .string ⟨#[]⟩, .int .u64 0, .int .u64 0, .string ⟨#[]⟩, .slice none 0 0, .slice none 0 0, .int .i64 0, .int .i64 0, .string ⟨#[]⟩, .string ⟨#[]⟩, .slice none 0 0, .int .i64 0, .string ⟨#[]⟩, .int .u64 0, .int .u64 0, .string ⟨#[]⟩, .slice none 0 0, .slice none 0 0, .int .i64 0, .int .i64 0, .string ⟨#[]⟩, .string ⟨#[]⟩, .slice none 0 0, .int .i64 0, .string ⟨#[]⟩, .int .u64 0, .int .u64 0, .string ⟨#[]⟩, .slice none 0 0, .slice none 0 0, .int .i64 0, .int .i64 0, .string ⟨#[]⟩, .string ⟨#[]⟩, .slice none 0 0, .int .i64 0, .string ⟨#[]⟩, .int .u64 0, .int .u64 0, .string ⟨#[]⟩, .slice none 0 0, .slice none 0 0, .int .i64 0] 40) := ⟨_, rfl⟩
  have y1 : LkW w f.v (stL k0 k1 k2 k3 0).v W1 ∧ W1.rangeAt (w.heap.size + 1) 0 [.int .i64 k0, .int .i64 k1, .int .i64 k2, .int .i64 k3] := by
    rw [hW1]
    have hg := (((Blk.new w f.v 38).alloc (.cells #[.int .i64 k0, .int .i64 k1, .int .i64 k2, .int .i64 k3] 39)).alloc (.cells #[.int .i64 0, .string ⟨#[]⟩, .string ⟨#[]⟩, .slice none 0 0, .int .i64 0, .string ⟨#[]⟩, .int .u64 0, .int .u64 0, .string ⟨#[]⟩, .slice none 0 0, .slice none 0 0, .int .i64 0, .int .i64 0, .string ⟨#[]⟩, .string ⟨#[]⟩, .slice none 0 0, .int .i64 0, .string ⟨#[]⟩, .int .u64 0, .int .u64 0, .string ⟨#[]⟩, .slice none 0 0, .slice none 0 0, .int .i64 0, .int .i64 0, .string ⟨#[]⟩, .string ⟨#[]⟩, .slice none 0 0, .int .i64 0, .string ⟨#[]⟩, .int .u64 0, .int .u64 0, .string ⟨#[]⟩, .slice none 0 0, .slice none 0 0, .int .i64 0, .int .i64 0, .string ⟨#[]⟩, .string ⟨#[]⟩, .slice none 0 0, .int .i64 0, .string ⟨#[]⟩, .int .u64 0, .int .u64 0, .string ⟨#[]⟩, .slice none 0 0, .slice none 0 0, .int .i64 0] 40))
    have hk := ((Blk.new (w.alloc (.cells f.v.toArray 38)) [.int .i64 k0, .int .i64 k1, .int .i64 k2, .int .i64 k3] 39).alloc (.cells #[.int .i64 0, .string ⟨#[]⟩, .string ⟨#[]⟩, .slice none 0 0, .int .i64 0, .string ⟨#[]⟩, .int .u64 0, .int .u64 0, .string ⟨#[]⟩, .slice none 0 0, .slice none 0 0, .int .i64 0, .int .i64 0, .string ⟨#[]⟩, .string ⟨#[]⟩, .slice none 0 0, .int .i64 0, .string ⟨#[]⟩, .int .u64 0, .int .u64 0, .string ⟨#[]⟩, .slice none 0 0, .slice none 0 0, .int .i64 0, .int .i64 0, .string ⟨#[]⟩, .string ⟨#[]⟩, .slice none 0 0, .int .i64 0, .string ⟨#[]⟩, .int .u64 0, .int .u64 0, .string ⟨#[]⟩, .slice none 0 0, .slice none 0 0, .int .i64 0, .int .i64 0, .string ⟨#[]⟩, .string ⟨#[]⟩, .slice none 0 0, .int .i64 0, .string ⟨#[]⟩, .int .u64 0, .int .u64 0, .string ⟨#[]⟩, .slice none 0 0, .slice none 0 0, .int .i64 0] 40))
    have hh := Blk.new ((w.alloc (.cells f.v.toArray 38)).alloc (.cells #[.int .i64 k0, .int .i64 k1, .int .i64 k2, .int .i64 k3] 39)) (stL k0 k1 k2 k3 0).v 40
    rw [show (w.alloc (.cells f.v.toArray 38)).heap.size = w.heap.size + 1 by simp] at hk
    rw [show ((w.alloc (.cells f.v.toArray 38)).alloc (.cells #[.int .i64 k0, .int .i64 k1, .int .i64 k2, .int .i64 k3] 39)).heap.size = w.heap.size + 2 by simp] at hh
    exact ⟨⟨hh, hg, (((Below.refl _ _).alloc (Nat.le_refl _) _).alloc (by simp) _).alloc (by simp; omega) _, by simp⟩, hk.range⟩
  obtain ⟨l1, r1⟩ := y1
  have i0 := fun w => idx4_0 k0 k1 k2 k3 w
  have i1 := fun w => idx4_1 k0 k1 k2 k3 w
  have i2 := fun w => idx4_2 k0 k1 k2 k3 w
  have i3 := fun w => idx4_3 k0 k1 k2 k3 w
  have hlg := f.len
  have hcv : ∀ {V : World}, Blk V w.heap.size f.v → V.cell? ⟨w.heap.size, 7, none⟩ = some (.int .i32 f.verb) := fun b => b.c 7 _ rfl
  have hbx := fun k w => bld_lkX k w
  have hlx : ∀ k, (lkX k).v.length = 12 := fun k => rfl
  have hox := fun k => (lkX k).one
  have hz0 := fun w => lbld_asked w
  have he0 := fun w => leq_asked w
  obtain ⟨h, hh⟩ : ∃ h : Hk, h = stL k0 k1 k2 k3 4 := ⟨_, rfl⟩
  have hwh : whN h f.verb f.sh = 0 := by
    rw [hh]
    unfold whN fst2 fst34
    show (if thB (lkA k0) = true then (1 : Int) else if f.verb = 118 ∧ f.sh = true then (if thB (lkA k1) = true then 2 else 0) else if nmB f.verb = true then (if thB (lkA k2) = true then 3 else if thB (lkA k3) = true then 4 else 0) else 0) = 0
    rw [lkA_th, lkA_th, lkA_th, lkA_th]
    simp
  have hSay := fun (V : World) (X : Nat) (hq : Aq V X 0 0) => say_none h f np hwh V hq
  have hDo := fun (V : World) (X : Nat) (hq : Aq V X 0 0) => do_lacks (np := np) (v := f.verb) (m := ⟨#[70, 111, 114, 109, 97, 116]⟩) h.a (by rw [hh]; exact lkA_th k0) V hq
  unfold sArgs at hSay
  unfold dArgs at hDo
  have hb4 := fun w => bld_hk4 h w
  have step : ∀ (i : Nat) (wr : World), i < 4 → LkW w f.v (stL k0 k1 k2 k3 i).v wr → ∀ k, k = (match i with | 0 => k0 | 1 => k1 | 2 => k2 | _ => k3) →
      ((k < 1 ∨ 3 < k) → wr.there (w.heap.size + 2) (12 * i) 12 ∧ LkW w f.v (stL k0 k1 k2 k3 (i + 1)).v (wr.setCells (w.heap.size + 2) (12 * i) (lkX k).v)) ∧ (¬ (k < 1 ∨ 3 < k) → LkW w f.v (stL k0 k1 k2 k3 (i + 1)).v wr) := by
    intro i wr hi hl k hk
    match i, hi with
    | 0, _ =>
      obtain rfl : k0 = k := hk.symm
      constructor
      · intro hb
        have := put_a hl.h (lkX k0)
        refine ⟨this.1, hl.put _ ?_⟩
        have e : lkX k0 = lkA k0 := (if_pos hb).symm
        rw [e] at this
        rw [e]; exact this.2
      · intro hb
        have e : lkA k0 = .no := if_neg hb
        show LkW w f.v (Hk.v ⟨lkA k0, .no, .no, .no⟩) wr
        rw [e]; exact hl
    | 1, _ =>
      obtain rfl : k1 = k := hk.symm
      constructor
      · intro hb
        have := put_b hl.h (lkX k1)
        refine ⟨this.1, hl.put _ ?_⟩
        have e : lkX k1 = lkA k1 := (if_pos hb).symm
        rw [e] at this
        rw [e]; exact this.2
      · intro hb
        have e : lkA k1 = .no := if_neg hb
        show LkW w f.v (Hk.v ⟨lkA k0, lkA k1, .no, .no⟩) wr
        rw [e]; exact hl
    | 2, _ =>
      obtain rfl : k2 = k := hk.symm
      constructor
      · intro hb
        have := put_c hl.h (lkX k2)
        refine ⟨this.1, hl.put _ ?_⟩
        have e : lkX k2 = lkA k2 := (if_pos hb).symm
        rw [e] at this
        rw [e]; exact this.2
      · intro hb
        have e : lkA k2 = .no := if_neg hb
        show LkW w f.v (Hk.v ⟨lkA k0, lkA k1, lkA k2, .no⟩) wr
        rw [e]; exact hl
    | 3, _ =>
      obtain rfl : k3 = k := hk.symm
      constructor
      · intro hb
        have := put_d hl.h (lkX k3)
        refine ⟨this.1, hl.put _ ?_⟩
        have e : lkX k3 = lkA k3 := (if_pos hb).symm
        rw [e] at this
        rw [e]; exact this.2
      · intro hb
        have e : lkA k3 = .no := if_neg hb
        show LkW w f.v (Hk.v ⟨lkA k0, lkA k1, lkA k2, lkA k3⟩) wr
        rw [e]; exact hl
  have last : ∀ wr, LkW w f.v (stL k0 k1 k2 k3 4).v wr → wr.rangeAt (w.heap.size + 2) 0 h.a.v ∧ wr.rangeAt (w.heap.size + 2) 12 h.b.v ∧ wr.rangeAt (w.heap.size + 2) 24 h.c.v ∧ wr.rangeAt (w.heap.size + 2) 36 h.d.v := fun wr hl => by
    rw [hh]
    exact ⟨hk_a hl.h, hk_b hl.h, hk_c hl.h, hk_d hl.h⟩
  have hla := h.a.len
  have hlb := h.b.len
  have hlc := h.c.len
  have hld := h.d.len
  clear hh hwh hE hw5 hw6
  obtain ⟨st, hst⟩ : ∃ st : Nat → List Value, st = fun i => (stL k0 k1 k2 k3 i).v := ⟨_, rfl⟩
  have l1' : LkW w f.v (st 0) W1 := by rw [hst]; exact l1
  have step' : ∀ (i : Nat) (wr : World), i < 4 → LkW w f.v (st i) wr → ∀ k, k = (match i with | 0 => k0 | 1 => k1 | 2 => k2 | _ => k3) →
      ((k < 1 ∨ 3 < k) → wr.there (w.heap.size + 2) (12 * i) 12 ∧ LkW w f.v (st (i + 1)) (wr.setCells (w.heap.size + 2) (12 * i) (lkX k).v)) ∧ (¬ (k < 1 ∨ 3 < k) → LkW w f.v (st (i + 1)) wr) := by rw [hst]; exact step
  have last' : ∀ wr, LkW w f.v (st 4) wr → wr.rangeAt (w.heap.size + 2) 0 h.a.v ∧ wr.rangeAt (w.heap.size + 2) 12 h.b.v ∧ wr.rangeAt (w.heap.size + 2) 24 h.c.v ∧ wr.rangeAt (w.heap.size + 2) 36 h.d.v := by rw [hst]; exact last
  clear hst l1 step last
  generalize h.v = H at *
  generalize h.a.v = La at *
  generalize h.b.v = Lb at *
  generalize h.c.v = Lc at *
  generalize h.d.v = Ld at *
  generalize f.v = G at *
  generalize f.verb = vb at *
  go_enter Tryd.func4, Tryd.ntmps4
  go_upto_region 2 with fail
  rw [← hW1]
  clear hW1
  go_wp2_with (refine wpl_ld lrow_int4 rfl (.tmp 4) rfl (vs := [.int .i64 k0, .int .i64 k1, .int .i64 k2, .int .i64 k3]) rfl r1 rfl ?_)
  clear r1
  go_loopg [8, 9, 16] 4 (fun g x y z wr => ∃ (i : Nat) (V : World), V = wr ∧ i ≤ 4 ∧ 4 ≤ i + g ∧ z = .int .i64 (i : Nat) ∧ LkW w G (st i) V)
  case atStart => exact ⟨0, _, rfl, by omega, by omega, rfl, l1'⟩
  case round =>
    obtain ⟨i, wr, rfl, hi, hg, rfl, hl⟩ := hrel
    have ci : i = 0 ∨ i = 1 ∨ i = 2 ∨ i = 3 ∨ i = 4 := by omega
    rcases ci with rfl | rfl | rfl | rfl | rfl
    · obtain ⟨sp, sn⟩ := step' 0 _ (by omega) hl k0 rfl
      clear step' last'
      by_cases c1 : k0 < 1
      · obtain ⟨th, l2⟩ := sp (.inl c1)
        clear sp sn
        go_wp2_with (first
          | (refine wpl_bld rfl _ _ rfl [(0, .int .i64 k0), (1, .string ⟨#[120]⟩), (2, .string ⟨#[121]⟩)] rfl (hbx _ _) ?_)
          | (refine wpl_stm row_Act rfl (.tmp 29) (.tmp 28) rfl (us := (lkX k0).v) rfl rfl th (hlx _) (hox _) ?_; generalize World.setCells _ _ _ _ = wf at *))
        go_roundg (gk - 1)
        case measure => omega
        case rel => exact ⟨1, _, rfl, by omega, by omega, by go_num, l2⟩
      · by_cases c3 : 3 < k0
        · obtain ⟨th, l2⟩ := sp (.inr c3)
          clear sp sn
          go_wp2_with (first
            | (refine wpl_bld rfl _ _ rfl [(0, .int .i64 k0), (1, .string ⟨#[120]⟩), (2, .string ⟨#[121]⟩)] rfl (hbx _ _) ?_)
            | (refine wpl_stm row_Act rfl (.tmp 29) (.tmp 28) rfl (us := (lkX k0).v) rfl rfl th (hlx _) (hox _) ?_; generalize World.setCells _ _ _ _ = wf at *))
          go_roundg (gk - 1)
          case measure => omega
          case rel => exact ⟨1, _, rfl, by omega, by omega, by go_num, l2⟩
        · have l2 := sn (by omega)
          clear sp sn
          go_wp2
          go_roundg (gk - 1)
          case measure => omega
          case rel => exact ⟨1, _, rfl, by omega, by omega, by go_num, l2⟩
    · obtain ⟨sp, sn⟩ := step' 1 _ (by omega) hl k1 rfl
      clear step' last'
      by_cases c1 : k1 < 1
      · obtain ⟨th, l2⟩ := sp (.inl c1)
        clear sp sn
        go_wp2_with (first
          | (refine wpl_bld rfl _ _ rfl [(0, .int .i64 k1), (1, .string ⟨#[120]⟩), (2, .string ⟨#[121]⟩)] rfl (hbx _ _) ?_)
          | (refine wpl_stm row_Act rfl (.tmp 29) (.tmp 28) rfl (us := (lkX k1).v) rfl rfl th (hlx _) (hox _) ?_; generalize World.setCells _ _ _ _ = wf at *))
        go_roundg (gk - 1)
        case measure => omega
        case rel => exact ⟨2, _, rfl, by omega, by omega, by go_num, l2⟩
      · by_cases c3 : 3 < k1
        · obtain ⟨th, l2⟩ := sp (.inr c3)
          clear sp sn
          go_wp2_with (first
            | (refine wpl_bld rfl _ _ rfl [(0, .int .i64 k1), (1, .string ⟨#[120]⟩), (2, .string ⟨#[121]⟩)] rfl (hbx _ _) ?_)
            | (refine wpl_stm row_Act rfl (.tmp 29) (.tmp 28) rfl (us := (lkX k1).v) rfl rfl th (hlx _) (hox _) ?_; generalize World.setCells _ _ _ _ = wf at *))
          go_roundg (gk - 1)
          case measure => omega
          case rel => exact ⟨2, _, rfl, by omega, by omega, by go_num, l2⟩
        · have l2 := sn (by omega)
          clear sp sn
          go_wp2
          go_roundg (gk - 1)
          case measure => omega
          case rel => exact ⟨2, _, rfl, by omega, by omega, by go_num, l2⟩
    · obtain ⟨sp, sn⟩ := step' 2 _ (by omega) hl k2 rfl
      clear step' last'
      by_cases c1 : k2 < 1
      · obtain ⟨th, l2⟩ := sp (.inl c1)
        clear sp sn
        go_wp2_with (first
          | (refine wpl_bld rfl _ _ rfl [(0, .int .i64 k2), (1, .string ⟨#[120]⟩), (2, .string ⟨#[121]⟩)] rfl (hbx _ _) ?_)
          | (refine wpl_stm row_Act rfl (.tmp 29) (.tmp 28) rfl (us := (lkX k2).v) rfl rfl th (hlx _) (hox _) ?_; generalize World.setCells _ _ _ _ = wf at *))
        go_roundg (gk - 1)
        case measure => omega
        case rel => exact ⟨3, _, rfl, by omega, by omega, by go_num, l2⟩
      · by_cases c3 : 3 < k2
        · obtain ⟨th, l2⟩ := sp (.inr c3)
          clear sp sn
          go_wp2_with (first
            | (refine wpl_bld rfl _ _ rfl [(0, .int .i64 k2), (1, .string ⟨#[120]⟩), (2, .string ⟨#[121]⟩)] rfl (hbx _ _) ?_)
            | (refine wpl_stm row_Act rfl (.tmp 29) (.tmp 28) rfl (us := (lkX k2).v) rfl rfl th (hlx _) (hox _) ?_; generalize World.setCells _ _ _ _ = wf at *))
          go_roundg (gk - 1)
          case measure => omega
          case rel => exact ⟨3, _, rfl, by omega, by omega, by go_num, l2⟩
        · have l2 := sn (by omega)
          clear sp sn
          go_wp2
          go_roundg (gk - 1)
          case measure => omega
          case rel => exact ⟨3, _, rfl, by omega, by omega, by go_num, l2⟩
    · obtain ⟨sp, sn⟩ := step' 3 _ (by omega) hl k3 rfl
      clear step' last'
      by_cases c1 : k3 < 1
      · obtain ⟨th, l2⟩ := sp (.inl c1)
        clear sp sn
        go_wp2_with (first
          | (refine wpl_bld rfl _ _ rfl [(0, .int .i64 k3), (1, .string ⟨#[120]⟩), (2, .string ⟨#[121]⟩)] rfl (hbx _ _) ?_)
          | (refine wpl_stm row_Act rfl (.tmp 29) (.tmp 28) rfl (us := (lkX k3).v) rfl rfl th (hlx _) (hox _) ?_; generalize World.setCells _ _ _ _ = wf at *))
        go_roundg (gk - 1)
        case measure => omega
        case rel => exact ⟨4, _, rfl, by omega, by omega, by go_num, l2⟩
      · by_cases c3 : 3 < k3
        · obtain ⟨th, l2⟩ := sp (.inr c3)
          clear sp sn
          go_wp2_with (first
            | (refine wpl_bld rfl _ _ rfl [(0, .int .i64 k3), (1, .string ⟨#[120]⟩), (2, .string ⟨#[121]⟩)] rfl (hbx _ _) ?_)
            | (refine wpl_stm row_Act rfl (.tmp 29) (.tmp 28) rfl (us := (lkX k3).v) rfl rfl th (hlx _) (hox _) ?_; generalize World.setCells _ _ _ _ = wf at *))
          go_roundg (gk - 1)
          case measure => omega
          case rel => exact ⟨4, _, rfl, by omega, by omega, by go_num, l2⟩
        · have l2 := sn (by omega)
          clear sp sn
          go_wp2
          go_roundg (gk - 1)
          case measure => omega
          case rel => exact ⟨4, _, rfl, by omega, by omega, by go_num, l2⟩
    · obtain ⟨ra, rb, rc, rd⟩ := last' _ hl
      clear step' last' i0 i1 i2 i3 hbx hlx hox
      obtain ⟨hh, hgB, hbl, hsz⟩ := hl
      obtain ⟨W4, hW4⟩ : ∃ W4, W4 = wr.alloc (.cells #[.int .i64 0, .int .i64 0] 24) := ⟨_, rfl⟩
      have a4 : Below wr.heap.size wr W4 := by rw [hW4]; exact (Below.refl _ _).alloc (Nat.le_refl _) _
      have x4 : Aq W4 (w.heap.size + 3) 0 0 := by rw [hW4, ← hsz]; exact Blk.new _ _ _
      have h4 := hh.up a4
      have g4 := hgB.up a4
      have w4 : Below w.heap.size w W4 := hbl.trans (a4.mono hbl.size)
      have hr4 : ∀ {o : Nat} {l : List Value}, wr.rangeAt (w.heap.size + 2) o l → W4.rangeAt (w.heap.size + 2) o l := fun k j v hv => (a4.cell (p := ⟨w.heap.size + 2, _, none⟩) (by show w.heap.size + 2 < _; omega)).trans (k j v hv)
      have ra4 := hr4 ra
      have rb4 := hr4 rb
      have rc4 := hr4 rc
      have rd4 := hr4 rd
      have hS4 := hSay W4 (w.heap.size + 3) x4
      clear hr4 ra rb rc rd hh hgB a4
      go_upto_region 9 with fail
      rw [← hW4]
      clear hW4
      go_upto_region 10 with (first
        | (refine wpl_ld row_Act rfl (.tmp 32) rfl (vs := La) rfl ra4 hla ?_)
        | (refine wpl_ld row_Act rfl (.tmp 34) rfl (vs := Lb) rfl rb4 hlb ?_)
        | (refine wpl_ld row_Act rfl (.tmp 36) rfl (vs := Lc) rfl rc4 hlc ?_)
        | (refine wpl_ld row_Act rfl (.tmp 38) rfl (vs := Ld) rfl rd4 hld ?_)
        | (refine wpl_bld rfl _ _ rfl [(0, .agg La.toArray), (1, .agg Lb.toArray), (2, .agg Lc.toArray), (3, .agg Ld.toArray)] rfl (hb4 _) ?_)
        | (refine wpl_ld row_Spec rfl (.tmp 3) rfl (vs := G) rfl g4.range hlg ?_)
        | (go_at_call 9; refine hS4.mono ?_; rintro e W5 ⟨rfl, x5, gr5⟩))
      have ra5 : W5.rangeAt (w.heap.size + 2) 0 La := fun j v hv => (World.cell?_of_block (w := W4) (a := ⟨w.heap.size + 2, _, none⟩) (gr5.block (w.heap.size + 2) h4.b (by simp))).trans (ra4 j v hv)
      have g5 := g4.grown gr5 (by omega)
      have c5 := hcv g5
      have w5 : Below w.heap.size w W5 := w4.grown gr5 w4.size (fun k hk => by cases hk; omega)
      have hD5 := hDo W5 (w.heap.size + 3) x5
      go_upto_region 11 with (first
        | (refine wpl_ld row_Act rfl (.tmp 49) rfl (vs := La) rfl ra5 hla ?_)
        | (go_at_call 6; refine hD5.mono ?_; rintro e W6 ⟨rfl, x6, gr6⟩))
      have w6 : Below w.heap.size w W6 := w5.grown gr6 w5.size (fun k hk => by cases hk; omega)
      have hL6 := hL W6 w6
      go_wp2_with (first
        | (refine wpl_ldg lrow_Asked rfl (.tmp 10) rfl (vs := [.int .i64 0, .int .i64 0]) rfl x6.range rfl ?_)
        | (go_at_call 5; refine hL6.mono ?_; rintro e W7 ⟨rfl, q7⟩))
      go_ret
      exact ⟨rfl, w6.trans (q7.mono w6.size)⟩
end Go.Proofs.YtbfaapbbhgegiabDoor
