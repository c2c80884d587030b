/- VSort, VLives, VNil: these texts in one. -/
import Derived.Test.YtlgieoabellbmaaGreatDoorVKey
import Derived.Test.YtlgieoabellbmaaGreatDoorPt7
import Derived.Test.YtlgieoabellbmaaGreatDoorShelf
import Derived.Shelf.SlSortCmp.NoneTotal
import Derived.Shelf.SlSortCmp.InsertionK
import Derived.Test.YtlgieoabellbmaaGreatDoorVRaw
import Derived.Test.YtlgieoabellbmaaGreatDoorPt8
import Derived.Test.YtlgieoabellbmaaGreatDoorVMade
import Derived.BigQuiet
import Derived.Deep.LoopGhost
namespace Go.Proofs.YtlgieoabellbmaaGreatDoor
open Go.RowKit
set_option linter.unusedVariables false
set_option linter.unusedSimpArgs false
structure Ent where
 p : D × D
 kt : Nat
 kx : Value
 vt : Nat
 vx : Value
 rk : Rk
 ok : RkD (.iface kt kx) rk
def encE (e : Ent) : List Value := [.iface e.kt e.kx, .iface e.vt e.vx]
def cmpE (e f : Ent) : Int := cmpR e.rk f.rk
theorem swoE : Sort.SWO (ltOf cmpE) := TO.swo TO.rk Ent.rk
set_option maxRecDepth 1000000 in
set_option maxHeartbeats 4000000 in
theorem sort1_any (e f : Ent) (w : World) : Calls Tryz.prog 103 #[.agg #[.iface e.kt e.kx, .iface e.vt e.vx], .agg #[.iface f.kt f.kx, .iface f.vt f.vx]] w fun r w' => r = .returned (.int .i64 (cmpE e f)) ∧ Below w.heap.size w w' ∧ w.drawn ≤ w'.drawn := by
 have hc := fun W => cmpD_any _ _ e.rk f.rk e.ok f.ok W
 unfold cmpE
 obtain ⟨W2, hW2⟩ : ∃ W2, W2 = (w.alloc (.cells #[.iface e.kt e.kx, .iface e.vt e.vx] 93)).alloc (.cells #[.iface f.kt f.kx, .iface f.vt f.vx] 93) := ⟨_, rfl⟩
 have hb2 : Below w.heap.size w W2 := by rw [hW2]; exact ((Below.refl _ _).alloc (Nat.le_refl _) _).alloc (by simp) _
 have hd : W2.drawn = w.drawn := by rw [hW2]; rfl
 go_enter Tryz.func103, Tryz.ntmps103
 go_wp2_with fail
 rw [← hW2]
 refine (hc _).mono ?_
 rintro r V ⟨rfl, hV, hdV⟩
 rw [hd] at hdV
 clear hc hW2 hd
 go_wp2
 go_ret
 exact ⟨rfl, hb2.trans (hV.mono hb2.size), hdV⟩
theorem sort1_lays [Inhabited Ent] (blk off size : Nat) (w : World) : CmpLays Tryz.prog 103 #[] encE 2 cmpE blk off size w := by
 intro m os dk hs x y
 refine (sort1_any x y _).mono ?_
 rintro r w' ⟨rfl, hb, hd⟩
 exact ⟨rfl, gr_of hb hd⟩
theorem encE_len (x : Ent) : (encE x).length = 2 := rfl
theorem encE_one (x : Ent) : ∀ v ∈ encE x, v.oneCell' = true := by
 intro v hv
 simp only [encE, List.mem_cons, List.not_mem_nil, or_false] at hv
 rcases hv with rfl | rfl <;> rfl
set_option maxRecDepth 1000000 in
theorem sortE [Inhabited Ent] (blk off cap : Nat) (d : Array Ent) (w : World) (hH : Sort.HoldsK encE 2 w blk off d) (hblk : blk < w.heap.size) (hsz : d.size < 4611686018427387904) :
  Calls Tryz.prog 102 #[.slice (some ⟨blk, off, none⟩) d.size cap, .func (.func 103) #[] #[]] w fun e w' =>
   e = .returned (.tuple #[]) ∧ ∃ d' n os, Sort.PermIn 0 d.size d d' ∧ Sort.SortedIn (ltOf cmpE) 0 d.size d' ∧ w' = sortWorldK encE 2 w blk off n d' os :=
 AnyQ.slices_SortFunc Tryz.laysSort 2 (fun _ => by kernel_rfl) (fun _ => by kernel_rfl) encE encE_len encE_one cmpE swoE 103 #[] blk off cap d w (fun _ _ => by kernel_rfl) (sort1_lays blk off d.size w) hH hblk hsz
end Go.Proofs.YtlgieoabellbmaaGreatDoor
namespace Go.Proofs.YtlgieoabellbmaaGreatDoor
open Go.RowKit
set_option linter.unusedVariables false
set_option linter.unusedSimpArgs false
def kindN : List ByteArray := [⟨#[60, 110, 105, 108, 62]⟩, ⟨#[98, 111, 111, 108]⟩, ⟨#[105, 110, 116, 56]⟩, ⟨#[105, 110, 116, 49, 54]⟩, ⟨#[105, 110, 116, 51, 50]⟩, ⟨#[105, 110, 116, 54, 52]⟩, ⟨#[105, 110, 116]⟩, ⟨#[117, 105, 110, 116, 56]⟩, ⟨#[117, 105, 110, 116, 49, 54]⟩, ⟨#[117, 105, 110, 116, 51, 50]⟩, ⟨#[117, 105, 110, 116, 54, 52]⟩, ⟨#[117, 105, 110, 116]⟩, ⟨#[102, 108, 111, 97, 116, 51, 50]⟩, ⟨#[102, 108, 111, 97, 116, 54, 52]⟩, ⟨#[99, 111, 109, 112, 108, 101, 120, 54, 52]⟩, ⟨#[99, 111, 109, 112, 108, 101, 120, 49, 50, 56]⟩, ⟨#[115, 116, 114, 105, 110, 103]⟩, ⟨#[91, 93, 117, 105, 110, 116, 56]⟩, ⟨#[115, 116, 114, 117, 99, 116]⟩, ⟨#[97, 114, 114, 97, 121]⟩, ⟨#[115, 108, 105, 99, 101]⟩, ⟨#[109, 97, 112]⟩, ⟨#[112, 116, 114]⟩]
def KN (W : World) : Prop := ∀ (i : Nat) (s : ByteArray), kindN[i]? = some s → W.cell? ⟨0, i, none⟩ = some (.string s)
theorem KN.up {W W' : World} (h : KN W) (hb : Below W.heap.size W W') : KN W' := fun i s hs => up_cell hb (h i s hs)
set_option maxRecDepth 1000000 in
set_option maxHeartbeats 1000000 in
theorem type_own (v : Value) (k : Nat) (h : Int) (w : World) (s : ByteArray) (hs : kindN[k]? = some s) (hk : KN w) (hm : ∀ W, Calls Tryz.prog 26 #[v] W fun e w' => e = .returned (.agg #[.int .i64 k, .string ⟨#[]⟩, .int .i64 h]) ∧ Below W.heap.size W w') :
  Calls Tryz.prog 13 #[v] w fun e w' => e = .returned (.string s) ∧ Below w.heap.size w w' := by
 have hlt : k < 23 := by
  have := (List.getElem?_eq_some_iff.1 hs).1
  simpa [kindN] using this
 go_enter Tryz.func13, Tryz.ntmps13
 go_wp2_with fail
 refine (hm _).mono ?_
 rintro e V ⟨rfl, hV⟩
 have hc := (hk.up hV) k s hs
 have h0 : 0 < V.heap.size := lt_of_cell hc
 clear hs hk hm
 go_wp2
 go_ret
 exact ⟨rfl, hV.alloc hV.size _⟩
set_option maxRecDepth 1000000 in
set_option maxHeartbeats 1000000 in
theorem type_given (v : Value) (k : Int) (h : Int) (w : World) (s : ByteArray) (hs : 0 < s.size) (hm : ∀ W, Calls Tryz.prog 26 #[v] W fun e w' => e = .returned (.agg #[.int .i64 k, .string s, .int .i64 h]) ∧ Below W.heap.size W w') :
  Calls Tryz.prog 13 #[v] w fun e w' => e = .returned (.string s) ∧ Below w.heap.size w w' := by
 have hne : ¬ s.toList = [] := by
  rw [Lib.toList_data]
  intro e
  have := congrArg List.length e
  rw [len_sz, List.length_nil] at this
  omega
 have hie : s.toList.isEmpty = false := by simpa using hne
 go_enter Tryz.func13, Tryz.ntmps13
 go_wp2_with fail
 refine (hm _).mono ?_
 rintro e V ⟨rfl, hV⟩
 go_wp2
 go_ret
 exact ⟨rfl, hV.alloc hV.size _⟩
set_option maxRecDepth 1000000 in
set_option maxHeartbeats 1000000 in
theorem raw_flat (v : Value) (k h b i : Int) (ty s : ByteArray) (w : World) (hm : ∀ W, Calls Tryz.prog 115 #[v] W fun e w' => e = .returned (.agg #[.int .i64 k, .string ty, .int .u64 b, .int .u64 i, .string s, .slice none 0 0, .slice none 0 0, .int .i64 h]) ∧ Below W.heap.size W w') :
  Calls Tryz.prog 80 #[v] w fun e w' => e = .returned (.agg #[.int .i64 k, .string ty, .int .u64 b, .int .u64 i, .string s, .slice none 0 0, .slice none 0 0, .int .i64 h]) ∧ Below w.heap.size w w' := by
 obtain ⟨W1, hW1⟩ : ∃ W1, W1 = w.alloc (.cells #[.int .i64 0, .string ⟨#[]⟩, .int .u64 0, .int .u64 0, .string ⟨#[]⟩, .slice none 0 0, .slice none 0 0, .int .i64 0] 26) := ⟨_, rfl⟩
 have hb1 : Below w.heap.size w W1 := by rw [hW1]; exact (Below.refl _ _).alloc (Nat.le_refl _) _
 have z1 : Zero8 W1 w.heap.size := by
  rw [hW1]
  refine ⟨by simp, fun i => ?_⟩
  rw [frozen?_alloc_cells]; exact frozen_none _ _ (Nat.le_refl _)
 go_enter Tryz.func80, Tryz.ntmps80
 go_wp2_with fail
 rw [← hW1]
 refine (hm _).mono ?_
 rintro e V ⟨rfl, hV⟩
 obtain ⟨⟨z0, z1, z2, z3, z4, z5, z6, z7⟩, zf⟩ := z1.up hV
 have y0 := zf 0
 have y1 := zf 1
 have y2 := zf 2
 have y3 := zf 3
 have y4 := zf 4
 have y5 := zf 5
 have y6 := zf 6
 have y7 := zf 7
 clear hm hW1
 go_wp2
 obtain ⟨r0, r1, r2, r3, r4, r5, r6, r7⟩ := set8 z0 z1 z2 z3 z4 z5 z6 z7 (.int .i64 k) (.string ty) (.int .u64 b) (.int .u64 i) (.string s) (.slice none 0 0) (.slice none 0 0) (.int .i64 h)
 refine bodyPost_ret (v := .agg #[.int .i64 k, .string ty, .int .u64 b, .int .u64 i, .string s, .slice none 0 0, .slice none 0 0, .int .i64 h]) (by simp [results, Tryz.results80, go_sem, r0, r1, r2, r3, r4, r5, r6, r7]) rfl ?_
 exact ⟨rfl, set8_below (hb1.trans (hV.mono hb1.size)) (Nat.le_refl _)⟩
theorem field_0 (v0 v1 v2 v3 v4 v5 v6 v7 : Value) (w : World) : (Instr.field 26 (.agg #[v0, v1, v2, v3, v4, v5, v6, v7]) 0).run Tryz.prog w = .ok v0 w := by kernel_rfl
theorem field_1 (v0 v1 v2 v3 v4 v5 v6 v7 : Value) (w : World) : (Instr.field 26 (.agg #[v0, v1, v2, v3, v4, v5, v6, v7]) 1).run Tryz.prog w = .ok v1 w := by kernel_rfl
theorem field_2 (v0 v1 v2 v3 v4 v5 v6 v7 : Value) (w : World) : (Instr.field 26 (.agg #[v0, v1, v2, v3, v4, v5, v6, v7]) 2).run Tryz.prog w = .ok v2 w := by kernel_rfl
theorem field_3 (v0 v1 v2 v3 v4 v5 v6 v7 : Value) (w : World) : (Instr.field 26 (.agg #[v0, v1, v2, v3, v4, v5, v6, v7]) 3).run Tryz.prog w = .ok v3 w := by kernel_rfl
theorem field_4 (v0 v1 v2 v3 v4 v5 v6 v7 : Value) (w : World) : (Instr.field 26 (.agg #[v0, v1, v2, v3, v4, v5, v6, v7]) 4).run Tryz.prog w = .ok v4 w := by kernel_rfl
theorem field_5 (v0 v1 v2 v3 v4 v5 v6 v7 : Value) (w : World) : (Instr.field 26 (.agg #[v0, v1, v2, v3, v4, v5, v6, v7]) 5).run Tryz.prog w = .ok v5 w := by kernel_rfl
theorem field_6 (v0 v1 v2 v3 v4 v5 v6 v7 : Value) (w : World) : (Instr.field 26 (.agg #[v0, v1, v2, v3, v4, v5, v6, v7]) 6).run Tryz.prog w = .ok v6 w := by kernel_rfl
theorem field_7 (v0 v1 v2 v3 v4 v5 v6 v7 : Value) (w : World) : (Instr.field 26 (.agg #[v0, v1, v2, v3, v4, v5, v6, v7]) 7).run Tryz.prog w = .ok v7 w := by kernel_rfl
abbrev D0 (k b i h : Int) (ty s : ByteArray) : D := ⟨k, ty, b, i, s, [], [], h⟩
theorem rd0 (k b i h : Int) (ty s : ByteArray) (W : World) (hf : Fit (D0 k b i h ty s)) : RdC 1 W (.slice none 0 0) (.slice none 0 0) (D0 k b i h ty s) :=
 ⟨hf, ⟨none, 0, rfl, Nat.le_refl _, Nat.zero_le _, fun i s h => by simp at h⟩, none, 0, rfl, Nat.le_refl _, Nat.zero_le _, fun i x h => by simp at h⟩
theorem pre0 (k b i h : Int) (ty s : ByteArray) (n : Int) : pre (D0 k b i h ty s) n = [(D0 k b i h ty s, n)] := by
 rw [pre_eq]
 split
 ·rfl
 ·rfl
theorem build0 (k b i h : Int) (ty s : ByteArray) (w : World) (hf : Fit (D0 k b i h ty s)) (h0 : 0 ≤ k) (h1 : k ≤ 17) (hc : chk0 (D0 k b i h ty s) = 0) :
  Calls Tryz.prog 20 #[.agg #[.int .i64 k, .string ty, .int .u64 b, .int .u64 i, .string s, .slice none 0 0, .slice none 0 0, .int .i64 h]] w fun e w' => e = .returned (.tuple #[mdV (D0 k b i h ty s), .int .i64 0]) ∧ Below w.heap.size w w' := by
 refine (build_any 1 (D0 k b i h ty s) _ _ w (rd0 k b i h ty s w hf) (by omega) False (fun _ v => v = mdV (D0 k b i h ty s)) ?_).mono ?_
 ·intro _ W hW _
  refine (made_flat (D0 k b i h ty s) none none 0 0 W h0 h1 hf.2.1.1 hf.2.1.2 hf.2.2.1.1 hf.2.2.1.2).mono ?_
  rintro e W' ⟨rfl, hb⟩
  obtain ⟨t, x, hx⟩ : ∃ t x, mdV (D0 k b i h ty s) = .iface t x := by
   unfold mdV
   repeat' split
   all_goals exact ⟨_, _, rfl⟩
  exact ⟨hb, .inl ⟨id, t, x, by rw [hx], fun _ _ => hx.symm⟩⟩
 ·rintro e w' ⟨hb, (⟨-, -, v, rfl, -, rfl⟩ | ⟨-, hF, -⟩ | ⟨hne, -⟩)⟩
  ·exact ⟨rfl, hb⟩
  ·exact hF.elim
  ·exact absurd hc hne
theorem build0_err (k b i h : Int) (ty s : ByteArray) (w : World) (hf : Fit (D0 k b i h ty s)) (hc : chk0 (D0 k b i h ty s) ≠ 0) :
  Calls Tryz.prog 20 #[.agg #[.int .i64 k, .string ty, .int .u64 b, .int .u64 i, .string s, .slice none 0 0, .slice none 0 0, .int .i64 h]] w fun e w' => e = .returned (.tuple #[.nilIface, .int .i64 (chk0 (D0 k b i h ty s))]) ∧ Below w.heap.size w w' := by
 refine (build_any 1 (D0 k b i h ty s) _ _ w (rd0 k b i h ty s w hf) (by omega) False (fun _ v => False) (fun h => absurd h hc)).mono ?_
 rintro e w' ⟨hb, (⟨h, -⟩ | ⟨h, -⟩ | ⟨hne, rfl⟩)⟩
 ·exact absurd h hc
 ·exact absurd h hc
 ·exact ⟨rfl, hb⟩
theorem sz_nil : (⟨#[]⟩ : ByteArray).size = 0 := rfl
theorem chk_8 : chk0 (D0 2 255 0 0 ⟨#[]⟩ ⟨#[]⟩) = 0 := by
 unfold chk0
 rw [pre0]
 simp [runV, ok1, ok2, ok3, ok4, fitsB, frmB, typedB, allB, sz_nil]
theorem chk_23 : chk0 (D0 23 0 0 0 ⟨#[]⟩ ⟨#[]⟩) = 3 := by
 unfold chk0
 rw [pre0]
 simp [runV, ok1, ok2, ok3, ok4, fitsB, frmB, typedB, allB]
theorem fit_0 (k b : Int) (h : -9223372036854775808 ≤ k ∧ k ≤ 9223372036854775807) (hb : 0 ≤ b ∧ b ≤ 18446744073709551615) : Fit (D0 k b 0 0 ⟨#[]⟩ ⟨#[]⟩) :=
 ⟨h, hb, by simp, by simp, Nat.zero_le _, Nat.zero_le _⟩
theorem md_8 : mdV (D0 2 255 0 0 ⟨#[]⟩ ⟨#[]⟩) = .iface 104 (.agg #[.int .i64 2, .string ⟨#[]⟩, .int .i64 0, .int .i64 (-1)]) := by
 unfold mdV
 simp [sgN, swr]
theorem named_a1 : namedB ⟨#[97, 95, 49]⟩ = true := by decide +kernel
end Go.Proofs.YtlgieoabellbmaaGreatDoor
namespace Go.Proofs.YtlgieoabellbmaaGreatDoor
open Go.RowKit
set_option linter.unusedVariables false
set_option linter.unusedSimpArgs false
theorem madeall_nil (w : World) : Calls Tryz.prog 61 #[.slice none 0 0] w fun e w' => e = .returned (.slice none 0 0) ∧ w' = w := by
 go_enter Tryz.func61, Tryz.ntmps61
 go_wp2
 refine wp_loop_rounds 1 ?_
 rw [rounds_succ]
 go_wp2
 go_ret
 exact ⟨rfl, rfl⟩
theorem anytwice_nil (w : World) : Calls Tryz.prog 59 #[.slice none 0 0] w fun e w' => e = .returned (.bool false) ∧ w' = w := by
 go_enter Tryz.func59, Tryz.ntmps59
 go_wp2
 refine wp_loop_rounds 1 ?_
 rw [rounds_succ]
 go_wp2
 go_ret
 exact ⟨rfl, rfl⟩
theorem sort_nil (w : World) : Calls Tryz.prog 102 #[.slice none 0 0, .func (.func 103) #[] #[]] w fun e w' => e = .returned (.tuple #[]) ∧ w' = w :=
 AnyF.slices_SortFunc_none Tryz.laysSort none 0 _ w
set_option maxRecDepth 1000000 in
set_option maxHeartbeats 1000000 in
theorem entries_nil (w : World) : Calls Tryz.prog 62 #[.slice none 0 0] w fun e w' => e = .returned (.slice none 0 0) ∧ w' = w := by
 go_enter Tryz.func62, Tryz.ntmps62
 go_wp2
 refine wp_loop_rounds 1 ?_
 rw [rounds_succ]
 go_wp2_with (go_at_call 102; refine (sort_nil _).mono ?_; rintro e w1 ⟨rfl, rfl⟩)
 refine wp_loop_rounds 1 ?_
 rw [rounds_succ]
 go_wp2
 go_ret
 exact ⟨rfl, rfl⟩
set_option maxRecDepth 1000000 in
set_option maxHeartbeats 4000000 in
theorem madenil_18 (bits imag hook : Int) (ty text : ByteArray) (w : World) :
  Calls Tryz.prog 32 #[.agg #[.int .i64 18, .string ty, .int .u64 bits, .int .u64 imag, .string text, .slice none 0 0, .slice none 0 0, .int .i64 hook]] w fun e w' => e = .returned (.iface 86 (.agg #[.int .i64 18, .string ty, .int .i64 hook, .slice none 0 0, .slice none 0 0])) ∧ Below w.heap.size w w' := by
 obtain ⟨W2, hW2⟩ : ∃ W2, W2 = (w.alloc (.cells #[.int .i64 18, .string ty, .int .u64 bits, .int .u64 imag, .string text, .slice none 0 0, .slice none 0 0, .int .i64 hook] 26)).alloc (.cells #[.int .i64 18, .string ty, .int .i64 hook] 60) := ⟨_, rfl⟩
 have f2 : ∀ x : Cl W2, x.w.cell? ⟨w.heap.size, 2, none⟩ = some (.int .u64 bits) := fun x => x.cell (by rw [hW2]; simp [go_sem])
 have f5 : ∀ x : Cl W2, x.w.cell? ⟨w.heap.size, 5, none⟩ = some (.slice none 0 0) := fun x => x.cell (by rw [hW2]; simp [go_sem])
 have f6 : ∀ x : Cl W2, x.w.cell? ⟨w.heap.size, 6, none⟩ = some (.slice none 0 0) := fun x => x.cell (by rw [hW2]; simp [go_sem])
 have g0 : ∀ x : Cl W2, x.w.cell? ⟨w.heap.size + 1, 0, none⟩ = some (.int .i64 18) := fun x => x.cell (by rw [hW2]; simp [go_sem])
 have g1 : ∀ x : Cl W2, x.w.cell? ⟨w.heap.size + 1, 1, none⟩ = some (.string ty) := fun x => x.cell (by rw [hW2]; simp [go_sem])
 have g2 : ∀ x : Cl W2, x.w.cell? ⟨w.heap.size + 1, 2, none⟩ = some (.int .i64 hook) := fun x => x.cell (by rw [hW2]; simp [go_sem])
 have hbW : Below w.heap.size w W2 := by rw [hW2]; exact ((Below.refl _ _).alloc (Nat.le_refl _) _).alloc (by simp) _
 go_enter Tryz.func32, Tryz.ntmps32
 go_wp2_with (first | (go_at_call 59; refine (anytwice_nil _).mono ?_; rintro e w1 ⟨rfl, hw⟩; subst hw) | (go_at_call 50; refine (must_ok _ _).mono ?_; rintro e w1 ⟨rfl, hw⟩; subst hw))
 rw [← hW2]
 refine wp_region_above W2 (Below.refl _ _) (by kernel_rfl) (by kernel_rfl) ?_
 intro hCl
 repeat (go_big_quiet_step ((first | (go_at_call 60; exact Cl.call_same (Tryz.slices_Clone_nil 0 0 _)) | (go_at_call 61; exact Cl.call_same (madeall_nil _)) | exact rfl)))
 refine wpQuiet_nil ?_
 intro _ hw'
 obtain ⟨y, hx⟩ := hw'
 subst hx
 go_wp2
 go_ret
 exact ⟨rfl, hbW.trans (y.below.mono hbW.size)⟩
set_option maxRecDepth 1000000 in
set_option maxHeartbeats 4000000 in
theorem madenil_19 (bits imag hook : Int) (ty text : ByteArray) (w : World) :
  Calls Tryz.prog 32 #[.agg #[.int .i64 19, .string ty, .int .u64 bits, .int .u64 imag, .string text, .slice none 0 0, .slice none 0 0, .int .i64 hook]] w fun e w' => e = .returned (.iface 88 (.agg #[.int .i64 19, .string ty, .int .i64 hook, .slice none 0 0])) ∧ Below w.heap.size w w' := by
 obtain ⟨W2, hW2⟩ : ∃ W2, W2 = (w.alloc (.cells #[.int .i64 19, .string ty, .int .u64 bits, .int .u64 imag, .string text, .slice none 0 0, .slice none 0 0, .int .i64 hook] 26)).alloc (.cells #[.int .i64 19, .string ty, .int .i64 hook] 60) := ⟨_, rfl⟩
 have f2 : ∀ x : Cl W2, x.w.cell? ⟨w.heap.size, 2, none⟩ = some (.int .u64 bits) := fun x => x.cell (by rw [hW2]; simp [go_sem])
 have f5 : ∀ x : Cl W2, x.w.cell? ⟨w.heap.size, 5, none⟩ = some (.slice none 0 0) := fun x => x.cell (by rw [hW2]; simp [go_sem])
 have f6 : ∀ x : Cl W2, x.w.cell? ⟨w.heap.size, 6, none⟩ = some (.slice none 0 0) := fun x => x.cell (by rw [hW2]; simp [go_sem])
 have g0 : ∀ x : Cl W2, x.w.cell? ⟨w.heap.size + 1, 0, none⟩ = some (.int .i64 19) := fun x => x.cell (by rw [hW2]; simp [go_sem])
 have g1 : ∀ x : Cl W2, x.w.cell? ⟨w.heap.size + 1, 1, none⟩ = some (.string ty) := fun x => x.cell (by rw [hW2]; simp [go_sem])
 have g2 : ∀ x : Cl W2, x.w.cell? ⟨w.heap.size + 1, 2, none⟩ = some (.int .i64 hook) := fun x => x.cell (by rw [hW2]; simp [go_sem])
 have hbW : Below w.heap.size w W2 := by rw [hW2]; exact ((Below.refl _ _).alloc (Nat.le_refl _) _).alloc (by simp) _
 go_enter Tryz.func32, Tryz.ntmps32
 go_wp2
 rw [← hW2]
 refine wp_region_above W2 (Below.refl _ _) (by kernel_rfl) (by kernel_rfl) ?_
 intro hCl
 repeat (go_big_quiet_step ((first | (go_at_call 61; exact Cl.call_same (madeall_nil _)) | exact rfl)))
 refine wpQuiet_nil ?_
 intro _ hw'
 obtain ⟨y, hx⟩ := hw'
 subst hx
 go_wp2
 go_ret
 exact ⟨rfl, hbW.trans (y.below.mono hbW.size)⟩
set_option maxRecDepth 1000000 in
set_option maxHeartbeats 4000000 in
theorem madenil_20 (bits imag hook : Int) (ty text : ByteArray) (w : World) :
  Calls Tryz.prog 32 #[.agg #[.int .i64 20, .string ty, .int .u64 bits, .int .u64 imag, .string text, .slice none 0 0, .slice none 0 0, .int .i64 hook]] w fun e w' => e = .returned (.iface 88 (.agg #[.int .i64 20, .string ty, .int .i64 hook, .slice none 0 0])) ∧ Below w.heap.size w w' := by
 obtain ⟨W2, hW2⟩ : ∃ W2, W2 = (w.alloc (.cells #[.int .i64 20, .string ty, .int .u64 bits, .int .u64 imag, .string text, .slice none 0 0, .slice none 0 0, .int .i64 hook] 26)).alloc (.cells #[.int .i64 20, .string ty, .int .i64 hook] 60) := ⟨_, rfl⟩
 have f2 : ∀ x : Cl W2, x.w.cell? ⟨w.heap.size, 2, none⟩ = some (.int .u64 bits) := fun x => x.cell (by rw [hW2]; simp [go_sem])
 have f5 : ∀ x : Cl W2, x.w.cell? ⟨w.heap.size, 5, none⟩ = some (.slice none 0 0) := fun x => x.cell (by rw [hW2]; simp [go_sem])
 have f6 : ∀ x : Cl W2, x.w.cell? ⟨w.heap.size, 6, none⟩ = some (.slice none 0 0) := fun x => x.cell (by rw [hW2]; simp [go_sem])
 have g0 : ∀ x : Cl W2, x.w.cell? ⟨w.heap.size + 1, 0, none⟩ = some (.int .i64 20) := fun x => x.cell (by rw [hW2]; simp [go_sem])
 have g1 : ∀ x : Cl W2, x.w.cell? ⟨w.heap.size + 1, 1, none⟩ = some (.string ty) := fun x => x.cell (by rw [hW2]; simp [go_sem])
 have g2 : ∀ x : Cl W2, x.w.cell? ⟨w.heap.size + 1, 2, none⟩ = some (.int .i64 hook) := fun x => x.cell (by rw [hW2]; simp [go_sem])
 have hbW : Below w.heap.size w W2 := by rw [hW2]; exact ((Below.refl _ _).alloc (Nat.le_refl _) _).alloc (by simp) _
 go_enter Tryz.func32, Tryz.ntmps32
 go_wp2
 rw [← hW2]
 refine wp_region_above W2 (Below.refl _ _) (by kernel_rfl) (by kernel_rfl) ?_
 intro hCl
 repeat (go_big_quiet_step ((first | (go_at_call 61; exact Cl.call_same (madeall_nil _)) | exact rfl)))
 refine wpQuiet_nil ?_
 intro _ hw'
 obtain ⟨y, hx⟩ := hw'
 subst hx
 go_wp2
 go_ret
 exact ⟨rfl, hbW.trans (y.below.mono hbW.size)⟩
set_option maxRecDepth 1000000 in
set_option maxHeartbeats 4000000 in
theorem madenil_21 (bits imag hook : Int) (ty text : ByteArray) (w : World) :
  Calls Tryz.prog 32 #[.agg #[.int .i64 21, .string ty, .int .u64 bits, .int .u64 imag, .string text, .slice none 0 0, .slice none 0 0, .int .i64 hook]] w fun e w' => e = .returned (.iface 91 (.agg #[.int .i64 21, .string ty, .int .i64 hook, .slice none 0 0])) ∧ Below w.heap.size w w' := by
 obtain ⟨W2, hW2⟩ : ∃ W2, W2 = (w.alloc (.cells #[.int .i64 21, .string ty, .int .u64 bits, .int .u64 imag, .string text, .slice none 0 0, .slice none 0 0, .int .i64 hook] 26)).alloc (.cells #[.int .i64 21, .string ty, .int .i64 hook] 60) := ⟨_, rfl⟩
 have f2 : ∀ x : Cl W2, x.w.cell? ⟨w.heap.size, 2, none⟩ = some (.int .u64 bits) := fun x => x.cell (by rw [hW2]; simp [go_sem])
 have f5 : ∀ x : Cl W2, x.w.cell? ⟨w.heap.size, 5, none⟩ = some (.slice none 0 0) := fun x => x.cell (by rw [hW2]; simp [go_sem])
 have f6 : ∀ x : Cl W2, x.w.cell? ⟨w.heap.size, 6, none⟩ = some (.slice none 0 0) := fun x => x.cell (by rw [hW2]; simp [go_sem])
 have g0 : ∀ x : Cl W2, x.w.cell? ⟨w.heap.size + 1, 0, none⟩ = some (.int .i64 21) := fun x => x.cell (by rw [hW2]; simp [go_sem])
 have g1 : ∀ x : Cl W2, x.w.cell? ⟨w.heap.size + 1, 1, none⟩ = some (.string ty) := fun x => x.cell (by rw [hW2]; simp [go_sem])
 have g2 : ∀ x : Cl W2, x.w.cell? ⟨w.heap.size + 1, 2, none⟩ = some (.int .i64 hook) := fun x => x.cell (by rw [hW2]; simp [go_sem])
 have hbW : Below w.heap.size w W2 := by rw [hW2]; exact ((Below.refl _ _).alloc (Nat.le_refl _) _).alloc (by simp) _
 go_enter Tryz.func32, Tryz.ntmps32
 go_wp2
 rw [← hW2]
 refine wp_region_above W2 (Below.refl _ _) (by kernel_rfl) (by kernel_rfl) ?_
 intro hCl
 repeat (go_big_quiet_step ((first | (go_at_call 61; exact Cl.call_same (madeall_nil _)) | (go_at_call 62; exact Cl.call_same (entries_nil _)) | exact rfl)))
 refine wpQuiet_nil ?_
 intro _ hw'
 obtain ⟨y, hx⟩ := hw'
 subst hx
 go_wp2
 go_ret
 exact ⟨rfl, hbW.trans (y.below.mono hbW.size)⟩
set_option maxRecDepth 1000000 in
set_option maxHeartbeats 4000000 in
theorem madenil_22 (bits imag hook : Int) (ty text : ByteArray) (w : World) :
  Calls Tryz.prog 32 #[.agg #[.int .i64 22, .string ty, .int .u64 bits, .int .u64 imag, .string text, .slice none 0 0, .slice none 0 0, .int .i64 hook]] w fun e w' => e = .returned (.iface 95 (.agg #[.int .i64 22, .string ty, .int .i64 hook, .int .u64 bits, .slice none 0 0])) ∧ Below w.heap.size w w' := by
 obtain ⟨W2, hW2⟩ : ∃ W2, W2 = (w.alloc (.cells #[.int .i64 22, .string ty, .int .u64 bits, .int .u64 imag, .string text, .slice none 0 0, .slice none 0 0, .int .i64 hook] 26)).alloc (.cells #[.int .i64 22, .string ty, .int .i64 hook] 60) := ⟨_, rfl⟩
 have f2 : ∀ x : Cl W2, x.w.cell? ⟨w.heap.size, 2, none⟩ = some (.int .u64 bits) := fun x => x.cell (by rw [hW2]; simp [go_sem])
 have f5 : ∀ x : Cl W2, x.w.cell? ⟨w.heap.size, 5, none⟩ = some (.slice none 0 0) := fun x => x.cell (by rw [hW2]; simp [go_sem])
 have f6 : ∀ x : Cl W2, x.w.cell? ⟨w.heap.size, 6, none⟩ = some (.slice none 0 0) := fun x => x.cell (by rw [hW2]; simp [go_sem])
 have g0 : ∀ x : Cl W2, x.w.cell? ⟨w.heap.size + 1, 0, none⟩ = some (.int .i64 22) := fun x => x.cell (by rw [hW2]; simp [go_sem])
 have g1 : ∀ x : Cl W2, x.w.cell? ⟨w.heap.size + 1, 1, none⟩ = some (.string ty) := fun x => x.cell (by rw [hW2]; simp [go_sem])
 have g2 : ∀ x : Cl W2, x.w.cell? ⟨w.heap.size + 1, 2, none⟩ = some (.int .i64 hook) := fun x => x.cell (by rw [hW2]; simp [go_sem])
 have hbW : Below w.heap.size w W2 := by rw [hW2]; exact ((Below.refl _ _).alloc (Nat.le_refl _) _).alloc (by simp) _
 go_enter Tryz.func32, Tryz.ntmps32
 go_wp2
 rw [← hW2]
 refine wp_region_above W2 (Below.refl _ _) (by kernel_rfl) (by kernel_rfl) ?_
 intro hCl
 repeat (go_big_quiet_step ((first | (go_at_call 61; exact Cl.call_same (madeall_nil _)) | exact rfl)))
 refine wpQuiet_nil ?_
 intro _ hw'
 obtain ⟨y, hx⟩ := hw'
 subst hx
 go_wp2
 go_ret
 exact ⟨rfl, hbW.trans (y.below.mono hbW.size)⟩
theorem buildnil_any (k b i h : Int) (ty s : ByteArray) (w : World) (hf : Fit (D0 k b i h ty s)) :
  Calls Tryz.prog 20 #[.agg #[.int .i64 k, .string ty, .int .u64 b, .int .u64 i, .string s, .slice none 0 0, .slice none 0 0, .int .i64 h]] w fun e w' => Below w.heap.size w w' ∧
   ((chk0 (D0 k b i h ty s) = 0 ∧ ∃ v, e = .returned (.tuple #[v, .int .i64 0]) ∧ v ≠ .nilIface) ∨ (chk0 (D0 k b i h ty s) ≠ 0 ∧ e = .returned (.tuple #[.nilIface, .int .i64 (chk0 (D0 k b i h ty s))]))) := by
 refine (build_any 1 (D0 k b i h ty s) _ _ w (rd0 k b i h ty s w hf) (by omega) False (fun _ _ => True) ?_).mono ?_
 ·intro hc W hW _
  have h3 : ok3 0 (D0 k b i h ty s) 0 = true := by
   unfold chk0 at hc
   rw [pre0] at hc
   cases h3 : ok3 0 (D0 k b i h ty s) 0 with
   | true => rfl
   | false =>
     simp only [runV, h3] at hc
     repeat' split at hc
     all_goals simp_all
  have h4 : 0 ≤ k ∧ k ≤ 22 := by simpa [ok3] using h3
  by_cases h17 : k ≤ 17
  ·refine (made_flat (D0 k b i h ty s) none none 0 0 W h4.1 h17 hf.2.1.1 hf.2.1.2 hf.2.2.1.1 hf.2.2.1.2).mono ?_
   rintro e W' ⟨rfl, hb⟩
   obtain ⟨t, x, hx⟩ : ∃ t x, mdV (D0 k b i h ty s) = .iface t x := by
    unfold mdV
    repeat' split
    all_goals exact ⟨_, _, rfl⟩
   exact ⟨hb, .inl ⟨id, t, x, by rw [hx], fun _ _ => trivial⟩⟩
  ·have hk : k = 18 ∨ k = 19 ∨ k = 20 ∨ k = 21 ∨ k = 22 := by omega
   rcases hk with rfl | rfl | rfl | rfl | rfl
   ·refine (madenil_18 b i h ty s W).mono ?_
    rintro e W' ⟨rfl, hb⟩
    exact ⟨hb, .inl ⟨id, _, _, rfl, fun _ _ => trivial⟩⟩
   ·refine (madenil_19 b i h ty s W).mono ?_
    rintro e W' ⟨rfl, hb⟩
    exact ⟨hb, .inl ⟨id, _, _, rfl, fun _ _ => trivial⟩⟩
   ·refine (madenil_20 b i h ty s W).mono ?_
    rintro e W' ⟨rfl, hb⟩
    exact ⟨hb, .inl ⟨id, _, _, rfl, fun _ _ => trivial⟩⟩
   ·refine (madenil_21 b i h ty s W).mono ?_
    rintro e W' ⟨rfl, hb⟩
    exact ⟨hb, .inl ⟨id, _, _, rfl, fun _ _ => trivial⟩⟩
   ·refine (madenil_22 b i h ty s W).mono ?_
    rintro e W' ⟨rfl, hb⟩
    exact ⟨hb, .inl ⟨id, _, _, rfl, fun _ _ => trivial⟩⟩
 ·rintro e w' ⟨hb, (⟨h0, -, v, rfl, hv, -⟩ | ⟨-, hF, -⟩ | ⟨hne, rfl⟩)⟩
  ·exact ⟨hb, .inl ⟨h0, v, rfl, hv⟩⟩
  ·exact hF.elim
  ·exact ⟨hb, .inr ⟨hne, rfl⟩⟩
end Go.Proofs.YtlgieoabellbmaaGreatDoor
