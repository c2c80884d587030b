/- VLives, ZAsk, HtB: these texts in one. -/
import Derived.Test.YtdlnmnipnkeabaaGreatDoorVRaw
import Derived.Test.YtdlnmnipnkeabaaGreatDoorVBuild
import Derived.Test.YtdlnmnipnkeabaaGreatDoorVMade
import Derived.Test.YtdlnmnipnkeabaaGreatDoorPt2
import Derived.Test.YtdlnmnipnkeabaaGreatDoorPt7
import Derived.MapKept
import Derived.Test.YtdlnmnipnkeabaaGreatDoorINumC
import Derived.Defers
import Derived.Recover
import Derived.Laws.EntriesVeiled
import Derived.Deep.RegionHeld
namespace Go.Proofs.YtdlnmnipnkeabaaGreatDoor
open Go.RowKit
set_option linter.unusedVariables false
set_option linter.unusedSimpArgs false
def kindN : List ByteArray := [⟨#[60, 110, 105, 108, 62]⟩, ⟨#[98, 111, 111, 108]⟩, ⟨#[105, 110, 116, 56]⟩, ⟨#[105, 110, 116, 49, 54]⟩, ⟨#[105, 110, 116, 51, 50]⟩, ⟨#[105, 110, 116, 54, 52]⟩, ⟨#[105, 110, 116]⟩, ⟨#[117, 105, 110, 116, 56]⟩, ⟨#[117, 105, 110, 116, 49, 54]⟩, ⟨#[117, 105, 110, 116, 51, 50]⟩, ⟨#[117, 105, 110, 116, 54, 52]⟩, ⟨#[117, 105, 110, 116]⟩, ⟨#[102, 108, 111, 97, 116, 51, 50]⟩, ⟨#[102, 108, 111, 97, 116, 54, 52]⟩, ⟨#[99, 111, 109, 112, 108, 101, 120, 54, 52]⟩, ⟨#[99, 111, 109, 112, 108, 101, 120, 49, 50, 56]⟩, ⟨#[115, 116, 114, 105, 110, 103]⟩, ⟨#[91, 93, 117, 105, 110, 116, 56]⟩, ⟨#[115, 116, 114, 117, 99, 116]⟩, ⟨#[97, 114, 114, 97, 121]⟩, ⟨#[115, 108, 105, 99, 101]⟩, ⟨#[109, 97, 112]⟩, ⟨#[112, 116, 114]⟩]
def KN (W : World) : Prop := ∀ (i : Nat) (s : ByteArray), kindN[i]? = some s → W.cell? ⟨1, i, none⟩ = some (.string s)
theorem KN.up {W W' : World} (h : KN W) (hb : Below W.heap.size W W') : KN W' := fun i s hs => up_cell hb (h i s hs)
set_option maxRecDepth 1000000 in
set_option maxHeartbeats 1000000 in
theorem type_own (v : Value) (k : Nat) (h : Int) (w : World) (s : ByteArray) (hs : kindN[k]? = some s) (hk : KN w) (hm : ∀ W, Calls Tryz.prog 84 #[v] W fun e w' => e = .returned (.agg #[.int .i64 k, .string ⟨#[]⟩, .int .i64 h]) ∧ Below W.heap.size W w') :
  Calls Tryz.prog 68 #[v] w fun e w' => e = .returned (.string s) ∧ Below w.heap.size w w' := by
 have hlt : k < 23 := by
  have := (List.getElem?_eq_some_iff.1 hs).1
  simpa [kindN] using this
 go_enter Tryz.func68, Tryz.ntmps68
 go_wp2_with fail
 refine (hm _).mono ?_
 rintro e V ⟨rfl, hV⟩
 have hc := (hk.up hV) k s hs
 have h0 : 1 < V.heap.size := lt_of_cell hc
 clear hs hk hm
 go_wp2
 go_ret
 exact ⟨rfl, hV.alloc hV.size _⟩
set_option maxRecDepth 1000000 in
set_option maxHeartbeats 1000000 in
theorem raw_flat (v : Value) (k h b i : Int) (ty s : ByteArray) (w : World) (hm : ∀ W, Calls Tryz.prog 187 #[v] W fun e w' => e = .returned (.agg #[.int .i64 k, .string ty, .int .u64 b, .int .u64 i, .string s, .slice none 0 0, .slice none 0 0, .int .i64 h]) ∧ Below W.heap.size W w') :
  Calls Tryz.prog 145 #[v] w fun e w' => e = .returned (.agg #[.int .i64 k, .string ty, .int .u64 b, .int .u64 i, .string s, .slice none 0 0, .slice none 0 0, .int .i64 h]) ∧ Below w.heap.size w w' := by
 obtain ⟨W1, hW1⟩ : ∃ W1, W1 = w.alloc (.cells #[.int .i64 0, .string ⟨#[]⟩, .int .u64 0, .int .u64 0, .string ⟨#[]⟩, .slice none 0 0, .slice none 0 0, .int .i64 0] 29) := ⟨_, rfl⟩
 have hb1 : Below w.heap.size w W1 := by rw [hW1]; exact (Below.refl _ _).alloc (Nat.le_refl _) _
 have z1 : Zero8 W1 w.heap.size := by
  rw [hW1]
  refine ⟨by simp, fun i => ?_⟩
  rw [frozen?_alloc_cells]; exact frozen_none _ _ (Nat.le_refl _)
 go_enter Tryz.func145, Tryz.ntmps145
 go_wp2_with fail
 rw [← hW1]
 refine (hm _).mono ?_
 rintro e V ⟨rfl, hV⟩
 obtain ⟨⟨z0, z1, z2, z3, z4, z5, z6, z7⟩, zf⟩ := z1.up hV
 have y0 := zf 0
 have y1 := zf 1
 have y2 := zf 2
 have y3 := zf 3
 have y4 := zf 4
 have y5 := zf 5
 have y6 := zf 6
 have y7 := zf 7
 clear hm hW1
 go_wp2
 obtain ⟨r0, r1, r2, r3, r4, r5, r6, r7⟩ := set8 z0 z1 z2 z3 z4 z5 z6 z7 (.int .i64 k) (.string ty) (.int .u64 b) (.int .u64 i) (.string s) (.slice none 0 0) (.slice none 0 0) (.int .i64 h)
 refine bodyPost_ret (v := .agg #[.int .i64 k, .string ty, .int .u64 b, .int .u64 i, .string s, .slice none 0 0, .slice none 0 0, .int .i64 h]) (by simp [results, Tryz.results145, go_sem, r0, r1, r2, r3, r4, r5, r6, r7]) rfl ?_
 exact ⟨rfl, set8_below (hb1.trans (hV.mono hb1.size)) (Nat.le_refl _)⟩
theorem field_6 (v0 v1 v2 v3 v4 v5 v6 v7 : Value) (w : World) : (Instr.field 29 (.agg #[v0, v1, v2, v3, v4, v5, v6, v7]) 6).run Tryz.prog w = .ok v6 w := by kernel_rfl
abbrev D0 (k b i h : Int) (ty s : ByteArray) : D := ⟨k, ty, b, i, s, [], [], h⟩
theorem rd0 (k b i h : Int) (ty s : ByteArray) (W : World) (hf : Fit (D0 k b i h ty s)) : RdC 1 W (.slice none 0 0) (.slice none 0 0) (D0 k b i h ty s) :=
 ⟨hf, ⟨none, 0, rfl, Nat.le_refl _, Nat.zero_le _, fun i s h => by simp at h⟩, none, 0, rfl, Nat.le_refl _, Nat.zero_le _, fun i x h => by simp at h⟩
theorem pre0 (k b i h : Int) (ty s : ByteArray) (n : Int) : pre (D0 k b i h ty s) n = [(D0 k b i h ty s, n)] := by
 rw [pre_eq]
 split
 ·rfl
 ·rfl
theorem build0 (k b i h : Int) (ty s : ByteArray) (w : World) (hf : Fit (D0 k b i h ty s)) (h0 : 0 ≤ k) (h1 : k ≤ 17) (hc : chk0 (D0 k b i h ty s) = 0) :
  Calls Tryz.prog 60 #[.agg #[.int .i64 k, .string ty, .int .u64 b, .int .u64 i, .string s, .slice none 0 0, .slice none 0 0, .int .i64 h]] w fun e w' => e = .returned (.tuple #[mdV (D0 k b i h ty s), .int .i64 0]) ∧ Below w.heap.size w w' := by
 refine (build_any 1 (D0 k b i h ty s) _ _ w (rd0 k b i h ty s w hf) (by omega) False (fun _ v => v = mdV (D0 k b i h ty s)) ?_).mono ?_
 ·intro _ W hW _
  refine (made_flat (D0 k b i h ty s) none none 0 0 W h0 h1 hf.2.1.1 hf.2.1.2 hf.2.2.1.1 hf.2.2.1.2).mono ?_
  rintro e W' ⟨rfl, hb⟩
  obtain ⟨t, x, hx⟩ : ∃ t x, mdV (D0 k b i h ty s) = .iface t x := by
   unfold mdV
   repeat' split
   all_goals exact ⟨_, _, rfl⟩
  exact ⟨hb, .inl ⟨id, t, x, by rw [hx], fun _ _ => hx.symm⟩⟩
 ·rintro e w' ⟨hb, (⟨-, -, v, rfl, -, rfl⟩ | ⟨-, hF, -⟩ | ⟨hne, -⟩)⟩
  ·exact ⟨rfl, hb⟩
  ·exact hF.elim
  ·exact absurd hc hne
theorem sz_nil : (⟨#[]⟩ : ByteArray).size = 0 := rfl
end Go.Proofs.YtdlnmnipnkeabaaGreatDoor
namespace Go.Proofs.YtdlnmnipnkeabaaGreatDoor
open Go.RowKit
set_option linter.unusedVariables false
set_option linter.unusedSimpArgs false
def MkC (v : Value) (k : Int) (ty : ByteArray) (h : Int) : Prop := ∀ W, Calls Tryz.prog 84 #[v] W fun e w' => e = .returned (.agg #[.int .i64 k, .string ty, .int .i64 h]) ∧ Below W.heap.size W w'
set_option maxRecDepth 1000000 in
theorem hook_of (v : Value) (k : Int) (ty : ByteArray) (h : Int) (hm : MkC v k ty h) (w : World) :
  Calls Tryz.prog 113 #[v] w fun e w' => e = .returned (.int .i64 h) ∧ Below w.heap.size w w' := by
 have hm' := hm w
 have hf : ∀ w, (Instr.field 147 (.agg #[.int .i64 k, .string ty, .int .i64 h]) 2).run Tryz.prog w = .ok (.int .i64 h) w := fun w => by kernel_rfl
 clear hm
 go_enter Tryz.func113, Tryz.ntmps113
 go_wp2_with (go_at_call 84; refine hm'.mono ?_; rintro e V ⟨rfl, hV⟩)
 go_ret
 exact ⟨rfl, hV⟩
def hk0 : Hk := ⟨.no, .no, .no, .no⟩
theorem bld_hk0 (w : World) : (Instr.build 34 #[]).run Tryz.prog w = .ok (.agg hk0.v.toArray) w := by kernel_rfl
theorem zero_hk (w : World) : (zeroValue 34).run Tryz.prog w = .ok (.agg hk0.v.toArray) w := by kernel_rfl
theorem wpl_allocz {t : TypeId} {vs : List Value} (hz : ∀ w, (zeroValue t).run Tryz.prog w = .ok (.agg vs.toArray) w) {ops : Array Oper} {rest : List Oper} {o : Oper} {a : Act} {w : World} {Q : Exit → Act → World → Prop} (hg : o.guard = none) (ho : o.op = .alloc t)
  (h : wpList Tryz.prog ops Q rest (a.put o.dst (.pointer (some ⟨w.heap.size, 0, none⟩))) (w.alloc (.cells vs.toArray t))) : wpList Tryz.prog ops Q (o :: rest) a w := by
 refine wpList_plain hg fun K hK => ?_
 unfold Oper.wp execOp
 simp only [ho, Instr.alloc, Sem.run_bind, hz, Result.andThen_ok, newVar, newRow, Value.cells]
 exact hK _ _ h
theorem res_row2 {t n s s2 : Nat} (hw : Row t n) {f : Func} (hr : f.results = #[.cell s t, .tmp s2]) {tmps : Array Value} {w : World} {B : Nat} {vs : List Value} {v : Value} (ht : tmps.getD s undef = .pointer (some ⟨B, 0, none⟩)) (hv : tmps.getD s2 undef = v) (h : Blk w B vs) (hl : vs.length = n) : (results f tmps).run Tryz.prog w = .ok (.tuple #[.agg vs.toArray, v]) w := by
 obtain ⟨⟨d, h1, h2⟩, h3⟩ := hw
 have hL := run_loadVar_mid (P := Tryz.prog) w B 0 t vs d h.range h1 h2 (by rw [hl]; exact h3)
 have ht' : tmps[s]?.getD undef = .pointer (some ⟨B, 0, none⟩) := by simpa using ht
 have hv' : tmps[s2]?.getD undef = v := by simpa using hv
 simp [results, hr, ht', hv', hL, asAddr]
theorem look_none (w : World) (M : Nat) (k : Int) (hM : w.heap[M]? = some (.map #[] 0)) : (Instr.lookup 95 (.map (some M)) (.int .i64 k) true).run Tryz.prog w = .ok (.tuple #[.agg hk0.v.toArray, .bool false]) w := by
 have h1 := MapKept.run_findKey (P := Tryz.prog) (w := w) (kt := 3) (k := .int .i64 k) (l := []) (a := none) Tryz.underlying3 rfl
 have h2 := fun e n => MapKept.run_checkKey (P := Tryz.prog) (w := w) (kt := 3) (k := .int .i64 k) Tryz.underlying3 (by exact rfl) e n
 simp [Instr.lookup, run_underlying Tryz.underlying95, MapKept.run_getObj_map hM, h1, h2, zero_hk, Result.andThen]
 rfl
set_option maxRecDepth 1000000 in
set_option maxHeartbeats 2000000 in
theorem get_h (n : Int) (hn : n = 0 ∨ n = 1) (w : World) : Calls Tryz.prog 140 #[.slice none 0 0, .int .i64 n] w fun e w' => e = .returned (.tuple #[.agg hk0.v.toArray, .bool false]) ∧ Below w.heap.size w w' := by
 have hz : hk0.v.length = 48 := rfl
 have hb0 := fun w => bld_hk0 w
 have ha0 := fun w => zero_hk w
 have hoz := hk0.one
 generalize hk0.v = ZV at *
 obtain ⟨W1, hW1⟩ : ∃ W1, W1 = w.alloc (.cells ZV.toArray 34) := ⟨_, rfl⟩
 have br : Blk W1 w.heap.size ZV := by rw [hW1]; exact Blk.new w ZV 34
 have w1 : Below w.heap.size w W1 := by rw [hW1]; exact (Below.refl _ _).alloc (Nat.le_refl _) _
 have f1 : Blk (W1.setCells w.heap.size 0 ZV) w.heap.size ZV := br.all _ rfl
 have f2 : Below w.heap.size w (W1.setCells w.heap.size 0 ZV) := xbelow_sc w1 (Nat.le_refl _) _ _
 have hm : min (0 : Int) 16 = 0 := by decide
 rcases hn with rfl | rfl
 all_goals
  go_enter Tryz.func140, Tryz.ntmps140
  go_upto_region 1 with (refine wpl_allocz ha0 rfl rfl ?_)
  rw [← hW1]
  clear hW1
  go_wp2_with (first
   | (refine wpl_bld rfl _ _ rfl [] rfl (hb0 _) ?_)
   | (refine wpl_st row_Hook rfl (.tmp 4) (.tmp 15) rfl (us := ZV) rfl rfl br hz hz hoz ?_; generalize W1.setCells w.heap.size 0 ZV = Wf at *))
  exact bodyPost_ret (res_row2 row_Hook Tryz.results140 rfl rfl f1 hz) rfl ⟨rfl, f2⟩
set_option maxRecDepth 1000000 in
set_option maxHeartbeats 4000000 in
theorem row_x (n : Int) (tv : Value) (ht : ∃ a m c, tv = .slice a m c) (ents : Obj) (C M : Nat) (w : World) (c0 : w.cell? ⟨C, 0, none⟩ = some tv) (c1 : w.cell? ⟨C, 1, none⟩ = some (.map (some M))) (hM : w.heap[M]? = some ents)
  (hlk : ∀ W : World, W.heap[M]? = some ents → (Instr.lookup 95 (.map (some M)) (.int .i64 n) true).run Tryz.prog W = .ok (.tuple #[.agg hk0.v.toArray, .bool false]) W) (hg : ∀ W, Below w.heap.size w W → Calls Tryz.prog 140 #[tv, .int .i64 n] W fun e w' => e = .returned (.tuple #[.agg hk0.v.toArray, .bool false]) ∧ Below W.heap.size W w') :
  Calls Tryz.prog 112 #[.pointer (some ⟨C, 0, none⟩), .int .i64 n] w fun e w' => e = .returned (.tuple #[.agg hk0.v.toArray, .bool false]) ∧ Below w.heap.size w w' := by
 have hz : hk0.v.length = 48 := rfl
 have ha0 := fun w => zero_hk w
 have hoz := hk0.one
 obtain ⟨ta, tn, tc, rfl⟩ := ht
 generalize hk0.v = ZV at *
 obtain ⟨W1, hW1⟩ : ∃ W1, W1 = w.alloc (.cells ZV.toArray 34) := ⟨_, rfl⟩
 have b1 : Below w.heap.size w W1 := by rw [hW1]; exact (Below.refl _ _).alloc (Nat.le_refl _) _
 have k1 : Blk W1 w.heap.size ZV := by rw [hW1]; exact Blk.new w ZV 34
 have hM1 : W1.heap[M]? = some ents := (b1.block M (Array.getElem?_eq_some_iff.1 hM).1).trans hM
 have hl1 := hlk W1 hM1
 have d1 := up_cell b1 c1
 have d0 := up_cell b1 c0
 have k2 : Blk (W1.alloc (.cells ZV.toArray 34)) W1.heap.size ZV := Blk.new W1 ZV 34
 have b3 : Below W1.heap.size W1 ((W1.alloc (.cells ZV.toArray 34)).setCells W1.heap.size 0 ZV) := xbelow_sc ((Below.refl _ _).alloc (Nat.le_refl _) _) (Nat.le_refl _) _ _
 go_enter Tryz.func112, Tryz.ntmps112
 go_upto_region 1 with (refine wpl_allocz ha0 rfl rfl ?_)
 rw [← hW1]
 clear hW1 hlk c0 c1 hM
 go_upto_region 2 with (first | (refine wpl_allocz ha0 rfl rfl ?_) | (refine wpl_st row_Hook rfl (.tmp 6) (.tmp 17) rfl (us := ZV) rfl rfl k2 hz hz hoz ?_; generalize (W1.alloc (.cells ZV.toArray 34)).setCells W1.heap.size 0 ZV = W3 at *))
 clear hl1 d1 k2
 have d3 := up_cell b3 d0
 have k3 := k1.up b3
 have bw3 : Below w.heap.size w W3 := b1.trans (b3.mono b1.size)
 clear d0 k1 b3
 have hg3 := hg W3 bw3
 go_upto_region 5 with (first | (go_at_call 140; refine hg3.mono ?_; rintro e W4 ⟨rfl, b4⟩; have k5 : Blk (W4.alloc (.cells ZV.toArray 34)) W4.heap.size ZV := Blk.new W4 ZV 34; have b6 : Below W4.heap.size W4 ((W4.alloc (.cells ZV.toArray 34)).setCells W4.heap.size 0 ZV) := xbelow_sc ((Below.refl _ _).alloc (Nat.le_refl _) _) (Nat.le_refl _) _ _; have k6 : Blk ((W4.alloc (.cells ZV.toArray 34)).setCells W4.heap.size 0 ZV) W4.heap.size ZV := k5.all _ rfl) | (refine wpl_allocz ha0 rfl rfl ?_) | (refine wpl_st row_Hook rfl (.tmp 8) (.tmp 28) rfl (us := ZV) rfl rfl k5 hz hz hoz ?_; generalize (W4.alloc (.cells ZV.toArray 34)).setCells W4.heap.size 0 ZV = W6 at *))
 have b36 : Below W3.heap.size W3 W6 := b4.trans (b6.mono b4.size)
 have j6 := k3.up b36
 have hs6 : w.heap.size < W6.heap.size := j6.b
 have f1 : Blk (W6.setCells w.heap.size 0 ZV) w.heap.size ZV := j6.all _ rfl
 have f2 : Below w.heap.size w (W6.setCells w.heap.size 0 ZV) := xbelow_sc (bw3.trans (b36.mono bw3.size)) (Nat.le_refl _) _ _
 clear k5 d3 k3 hg hg3
 go_wp2_with (first | (refine wpl_ld row_Hook rfl (.tmp 8) rfl rfl k6.range hz ?_) | (refine wpl_st row_Hook rfl (.tmp 4) (.tmp 37) rfl (us := ZV) rfl rfl j6 hz hz hoz ?_; generalize W6.setCells w.heap.size 0 ZV = Wf at *))
 exact bodyPost_ret (res_row2 row_Hook Tryz.results112 rfl rfl f1 hz) rfl ⟨rfl, f2⟩
theorem row_h (n : Int) (hn : n = 0 ∨ n = 1) (C M : Nat) (w : World) (c0 : w.cell? ⟨C, 0, none⟩ = some (.slice none 0 0)) (c1 : w.cell? ⟨C, 1, none⟩ = some (.map (some M))) (hM : w.heap[M]? = some (.map #[] 0)) :
  Calls Tryz.prog 112 #[.pointer (some ⟨C, 0, none⟩), .int .i64 n] w fun e w' => e = .returned (.tuple #[.agg hk0.v.toArray, .bool false]) ∧ Below w.heap.size w w' :=
 row_x n _ ⟨_, _, _, rfl⟩ _ C M w c0 c1 hM (fun W h => look_none W M n h) (fun W _ => get_h n hn W)
end Go.Proofs.YtdlnmnipnkeabaaGreatDoor
namespace Go.Proofs.YtdlnmnipnkeabaaGreatDoor
open Go.RowKit
set_option linter.unusedVariables false
set_option linter.unusedSimpArgs false
structure Sq where
 p : Bool
 mi : Bool
 sh : Bool
 sp : Bool
 z : Bool
 wid : Int
 prec : Int
 verb : Int
abbrev Sq.c (f : Sq) : Array Value := #[.bool f.p, .bool f.mi, .bool f.sh, .bool f.sp, .bool f.z, .int .i64 f.wid, .int .i64 f.prec, .int .i32 f.verb]
abbrev WV (f : Sq) (ask : Value) : Value := .agg #[.bool f.p, .bool f.mi, .bool f.sh, .bool f.sp, .bool f.z, .int .i64 f.wid, .int .i64 f.prec, .int .i32 f.verb, ask]
def At9 (W : World) (b : Nat) (f : Sq) (ask : Value) : Prop :=
 W.cell? ⟨b, 0, none⟩ = some (.bool f.p) ∧ W.cell? ⟨b, 1, none⟩ = some (.bool f.mi) ∧ W.cell? ⟨b, 2, none⟩ = some (.bool f.sh) ∧ W.cell? ⟨b, 3, none⟩ = some (.bool f.sp) ∧ W.cell? ⟨b, 4, none⟩ = some (.bool f.z) ∧
 W.cell? ⟨b, 5, none⟩ = some (.int .i64 f.wid) ∧ W.cell? ⟨b, 6, none⟩ = some (.int .i64 f.prec) ∧ W.cell? ⟨b, 7, none⟩ = some (.int .i32 f.verb) ∧ W.cell? ⟨b, 8, none⟩ = some ask
theorem At9.up {W W' : World} {b : Nat} {f : Sq} {ask : Value} (h : At9 W b f ask) (hb : Below W.heap.size W W') : At9 W' b f ask :=
 ⟨up_cell hb h.1, up_cell hb h.2.1, up_cell hb h.2.2.1, up_cell hb h.2.2.2.1, up_cell hb h.2.2.2.2.1, up_cell hb h.2.2.2.2.2.1, up_cell hb h.2.2.2.2.2.2.1, up_cell hb h.2.2.2.2.2.2.2.1, up_cell hb h.2.2.2.2.2.2.2.2⟩
abbrev SV (f : Sq) : Value := .agg #[.bool f.p, .bool f.mi, .bool f.sh, .bool f.sp, .bool f.z, .int .i64 f.wid, .int .i64 f.prec, .int .i32 f.verb]
def bareQ (c : Int) : Sq := ⟨false, false, false, false, false, -1, -1, c⟩
def numQ (f : Sq) : Sq := ⟨f.p && !decide (f.verb = 118), f.mi, f.sh, f.sp, f.z, f.wid, f.prec, f.verb⟩
set_option maxRecDepth 1000000 in
theorem forNumbers_any (f : Sq) (ask : Value) (w : World) : Calls Tryz.prog 169 #[WV f ask] w fun e w' => e = .returned (SV (numQ f)) ∧ Below w.heap.size w w' := by
 obtain ⟨p, mi, sh, sp, z, wid, prec, verb⟩ := f
 unfold numQ
 dsimp only
 by_cases h : verb = 118
 ·subst h
  cases p
  ·go_enter Tryz.func169, Tryz.ntmps169
   go_wp2
   go_returns
   exact ⟨rfl, by go_grown⟩
  ·go_enter Tryz.func169, Tryz.ntmps169
   go_wp2
   go_returns
   exact ⟨rfl, by go_grown⟩
 ·have hd : decide (verb = 118) = false := decide_eq_false h
  have hd2 : (!decide (verb = 118)) = true := by rw [hd]; rfl
  rw [hd2]
  cases p
  ·go_enter Tryz.func169, Tryz.ntmps169
   go_wp2
   go_returns
   exact ⟨rfl, by go_grown⟩
  ·go_enter Tryz.func169, Tryz.ntmps169
   go_wp2
   go_returns
   exact ⟨by simp [h], by go_grown⟩
set_option maxRecDepth 1000000 in
set_option maxHeartbeats 2000000 in
theorem written_by (f : Sq) (ask v : Value) (depth : Int) (w : World) (ty T : ByteArray) (P : TypeId → Value → World → Prop)
  (hA0 : ∀ W, Below w.heap.size w W → Calls Tryz.prog 137 #[WV f ask, v] W fun e W' => e = .returned (.tuple #[.string ⟨#[]⟩, .bool false]) ∧ Below W.heap.size W W')
  (hS : ∀ W, Below w.heap.size w W → Calls Tryz.prog 135 #[v] W fun e W' => Below W.heap.size W W' ∧ ∃ t x, e = .returned (.iface t x) ∧ P t x W')
  (hTy : ∀ W, Below w.heap.size w W → Calls Tryz.prog 68 #[v] W fun e W' => e = .returned (.string ty) ∧ Below W.heap.size W W')
  (hSh : ∀ t x W1 W2, P t x W1 → Below W1.heap.size W1 W2 → Calls Tryz.prog 138 #[WV f ask, .iface t x, .string ty, .int .i64 depth] W2 fun e W' => e = .returned (.tuple #[.string T, .bool true]) ∧ Below W2.heap.size W2 W') :
  Calls Tryz.prog 111 #[WV f ask, v, .int .i64 depth] w fun e w' => e = .returned (.string T) ∧ Below w.heap.size w w' := by
 have hne : ∀ (t : TypeId) (x : Value) w, (binOp .eql 20 (.iface t x) .nilIface).run Tryz.prog w = .ok (.bool false) w := fun t x w => by kernel_rfl
 obtain ⟨W1, hW1⟩ : ∃ W1, W1 = w.alloc (.cells #[.bool f.p, .bool f.mi, .bool f.sh, .bool f.sp, .bool f.z, .int .i64 f.wid, .int .i64 f.prec, .int .i32 f.verb, ask] 200) := ⟨_, rfl⟩
 have b1 : Below w.heap.size w W1 := by rw [hW1]; exact (Below.refl _ _).alloc (Nat.le_refl _) _
 have a1 : At9 W1 w.heap.size f ask := by
  rw [hW1]
  refine ⟨?_, ?_, ?_, ?_, ?_, ?_, ?_, ?_, ?_⟩
  all_goals simp [go_sem]
 have hS1 := hS W1 b1
 go_enter Tryz.func111, Tryz.ntmps111
 go_upto_region 1 with fail
 rw [← hW1]
 clear hW1
 obtain ⟨X, hX⟩ : ∃ X, w.heap.size = X := ⟨_, rfl⟩
 have HX : Unit → w.heap.size = X := fun _ => hX
 rw [hX] at a1
 simp only [hX]
 clear hX hS
 go_upto_region 2 with (go_at_call 135; refine hS1.mono ?_; rintro e W2 ⟨b2, t, x, rfl, hP⟩)
 have hA := hA0 W2 (b1.trans (b2.mono b1.size))
 have a2 := a1.up b2
 obtain ⟨q0, q1, q2, q3, q4, q5, q6, q7, q8⟩ := id a2
 clear hS1
 go_upto_region 7 with (go_at_call 137; refine hA.mono ?_; rintro e W3 ⟨rfl, b3⟩)
 have a3 := a2.up b3
 have b13 : Below W1.heap.size W1 W3 := b2.trans (b3.mono b2.size)
 have bW3 : Below w.heap.size w W3 := b1.trans (b13.mono b1.size)
 obtain ⟨Yd, hYd⟩ : ∃ Yd, Yd = W3.drew := ⟨_, rfl⟩
 have bY : Below w.heap.size w Yd := by rw [hYd]; exact bW3.drew
 have b2Y : Below W2.heap.size W2 Yd := by rw [hYd]; exact b3.drew
 clear q0 q1 q2 q3 q4 q5 q6 q7 q8 hA a1 a2 b1 b2 b3 b13
 refine wp_region_held_drew (S := fun w' : World => At9 w' X f ask) (by kernel_rfl) (by exact a3) ?_
 rw [← hYd]
 have s5 : (fun w' : World => At9 w' X f ask) Yd := by rw [hYd]; exact a3
 have hup : ∀ {w1 w2 : World}, (fun w' : World => At9 w' X f ask) w1 → Below w1.heap.size w1 w2 → (fun w' : World => At9 w' X f ask) w2 := fun h h' => At9.up h h'
 clear hYd a3 bW3
 intro hS
 refine tk 0 (.agg #[.bool f.p, .bool f.mi, .bool f.sh, .bool f.sp, .bool f.z, .int .i64 f.wid, .int .i64 f.prec, .int .i32 f.verb, ask]) rfl (by kernel_rfl) (fun _ _ _ h => h) (by rfl) (by assumption) ?_ ?_
 ·intro w5 s0
  obtain ⟨q0, q1, q2, q3, q4, q5, q6, q7, q8⟩ := s0
  go_simp
 try simp only [Act.put, lys]
 refine tk 1 (.iface t x) rfl (by kernel_rfl) (fun _ _ _ h => h) (by rfl) (by assumption) ?_ ?_
 ·intro w5 s0
  go_simp
 try simp only [Act.put, lys]
 refine tk 2 (v) rfl (by kernel_rfl) (fun _ _ _ h => h) (by rfl) (by assumption) ?_ ?_
 ·intro w5 s0
  go_simp
 try simp only [Act.put, lys]
 refine tk 4 (.int .i64 depth) rfl (by kernel_rfl) (fun _ _ _ h => h) (by rfl) (by assumption) ?_ ?_
 ·intro w5 s0
  go_simp
 try simp only [Act.put, lys]
 refine rd1 3 (by kernel_rfl) rfl fun K101 hK101 => ?_
 go_simp
 refine (hTy _ bY).mono ?_
 rintro e Z1 ⟨rfl, z1⟩
 have sZ1 := (hup s5) z1
 refine hK101.out _ _ sZ1 (fun _ => ?_)
 clear hK101
 try simp only [Act.put, lys]
 refine rd1 5 (by kernel_rfl) rfl fun K102 hK102 => ?_
 go_simp
 refine (hSh t x W2 Z1 hP (b2Y.trans (z1.mono b2Y.size))).mono ?_
 rintro e Z2 ⟨rfl, z2⟩
 have sZ2 := (hup sZ1) z2
 refine hK102.out _ _ sZ2 (fun _ => ?_)
 clear hK102
 try simp only [Act.put, lys]
 refine rd1 6 (by kernel_rfl) rfl fun K109 hK109 => ?_
 go_simp
 refine hK109.out _ _ sZ2 (fun _ => ?_)
 clear hK109
 try simp only [Act.put, lys]
 refine tk 7 (.string T) rfl (by kernel_rfl) (fun _ _ _ h => h) (by rfl) (by assumption) ?_ ?_
 ·intro w5 s0
  go_simp
 try simp only [Act.put, lys]
 refine tk 8 (.bool true) rfl (by kernel_rfl) (fun _ _ _ h => h) (by rfl) (by assumption) ?_ ?_
 ·intro w5 s0
  go_simp
 try simp only [Act.put, lys]
 refine rd1 9 (by kernel_rfl) rfl fun K110 hK110 => ?_
 go_simp
 refine hK110.out _ _ sZ2 (fun _ => ?_)
 clear hK110
 try simp only [Act.put, lys]
 refine rd1 10 (by kernel_rfl) rfl fun K111 hK111 => ?_
 go_simp
 refine hK111.out _ _ sZ2 (fun _ => ?_)
 clear hK111
 try simp only [Act.put, lys]
 refine wpAnyH_done (by kernel_rfl) ?_ _
 clear hS
 go_wp2
 go_ret
 exact ⟨rfl, (bY.trans (z1.mono bY.size)).trans (z2.mono (by have := bY.size; have := z1.size; omega))⟩
end Go.Proofs.YtdlnmnipnkeabaaGreatDoor
