/- ZLiveB, ZLiveC, WPrinterLits, DDeepE: these texts in one. -/
import Derived.Test.YtjfmhghpkefihaaGreatDoorPt25
import Derived.Test.YtjfmhghpkefihaaGreatDoorPt26
namespace Go.Proofs.YtjfmhghpkefihaaGreatDoor
open Go.RowKit
set_option linter.unusedVariables false
set_option linter.unusedSimpArgs false
theorem flat8 : ∀ (ds : List (List Value)) (_ : ∀ d ∈ ds, d.length = 8) (i : Nat) (d : List Value) (j : Nat) (u : Value), ds[i]? = some d → d[j]? = some u → ds.flatten[i * 8 + j]? = some u
 | [], _, _, _, _, _, h, _ => by simp at h
 | q :: t, h8, 0, d, j, u, h, hu => by
   simp at h
   subst h
   have hj : j < q.length := (List.getElem?_eq_some_iff.1 hu).1
   rw [List.flatten_cons, Nat.zero_mul, Nat.zero_add, List.getElem?_append_left hj]
   exact hu
 | q :: t, h8, i + 1, d, j, u, h, hu => by
   have hl : q.length = 8 := h8 q (List.mem_cons_self ..)
   rw [List.flatten_cons, List.getElem?_append_right (by rw [hl]; omega), hl, show (i + 1) * 8 + j - 8 = i * 8 + j by omega]
   exact flat8 t (fun d hd => h8 d (List.mem_cons_of_mem _ hd)) i d j u (by simpa using h) hu
def AgOK (d : List Value) (u : Value) : Prop := (∃ (kk : Int) (ty : ByteArray) (bt im : Int) (tx : ByteArray) (hk' : Int), d = [.int .i64 kk, .string ty, .int .u64 bt, .int .u64 im, .string tx, .slice none 0 0, .slice none 0 0, .int .i64 hk']) ∧ (∃ t x, u = .iface t x) ∧ ∀ W, Calls Tryz.prog 21 #[.agg d.toArray] W fun e w' => e = .returned u ∧ Below W.heap.size W w'
abbrev cI (n : Int) : List Value := [.int .i64 6, .string ⟨#[]⟩, .int .u64 n, .int .u64 0, .string ⟨#[]⟩, .slice none 0 0, .slice none 0 0, .int .i64 0]
abbrev cX (s : ByteArray) : List Value := [.int .i64 16, .string ⟨#[]⟩, .int .u64 0, .int .u64 0, .string s, .slice none 0 0, .slice none 0 0, .int .i64 0]
theorem ag_I (n : Int) (h0 : 0 ≤ n) (h1 : n < 9223372036854775808) : AgOK (cI n) (VI 0 n) := ⟨⟨_, _, _, _, _, _, rfl⟩, ⟨_, _, rfl⟩, fun W => valueOf_I 0 n W h0 h1 (by decide)⟩
theorem ag_X (s : ByteArray) (hs : s.size ≤ 1024) : AgOK (cX s) (VX 0 s) := ⟨⟨_, _, _, _, _, _, rfl⟩, ⟨_, _, rfl⟩, fun W => valueOf_X 0 s W hs (by decide)⟩
theorem begun_l (ags : List (List Value × Value)) (hok : ∀ a ∈ ags, AgOK a.1 a.2) (h16 : ags.length ≤ 16) {w : World} {C M A : Nat} (hc : IsCall w C M 0) (he : Esc w) (hk : KN w) (hC : C < w.heap.size) (hM : M < w.heap.size) (hA : A < w.heap.size)
  (hcell : ∀ j u, (ags.map Prod.fst).flatten[j]? = some u → w.cell? ⟨A, j, none⟩ = some u) :
  Calls Tryz.prog 15 #[.pointer (some ⟨C, 0, none⟩), .int .i64 0, .slice (some ⟨A, 0, none⟩) ags.length ags.length] w fun e w' => ∃ g av, e = .returned (.pointer (some ⟨g, 0, none⟩)) ∧ w.heap.size ≤ g ∧ En w' g C M [] 0 av (ags.map Prod.snd) 1 ∧ Below w.heap.size w w' := by
 have h8 : ∀ d ∈ ags.map Prod.fst, d.length = 8 := fun d hd => by
  obtain ⟨a, ha, rfl⟩ := List.mem_map.1 hd
  obtain ⟨_, _, _, _, _, _, e⟩ := (hok a ha).1
  rw [e]
  rfl
 have := begun_any w C M 0 A ags.length (ags.map Prod.fst) (ags.map Prod.snd) hc he hk hC hM hA (by simp) (by simpa using h16) (by simp) (by unfold maxLen; omega) (fun i d hd => ?_) (fun i d u hd hu => ?_)
 ·rw [List.length_map] at this
  exact this
 ·rw [List.getElem?_map] at hd
  obtain ⟨a, ha, rfl⟩ := Option.map_eq_some_iff.1 hd
  exact ⟨(hok a (List.mem_of_getElem? ha)).1, fun j u hu => hcell _ _ (flat8 _ h8 i a.1 j u (by rw [List.getElem?_map, ha]; rfl) hu)⟩
 ·rw [List.getElem?_map] at hd hu
  obtain ⟨a, ha, rfl⟩ := Option.map_eq_some_iff.1 hd
  rw [ha] at hu
  obtain rfl := Option.some.inj hu
  exact (hok a (List.mem_of_getElem? ha)).2
theorem args_up {w w' : World} {A : Nat} {cs : List Value} (h : ∀ j u, cs[j]? = some u → w.cell? ⟨A, j, none⟩ = some u) (b : Below w.heap.size w w') : ∀ j u, cs[j]? = some u → w'.cell? ⟨A, j, none⟩ = some u := fun j u hu => up_cell b (h j u hu)
abbrev p1 : Pc := ⟨1, [37, 42, 100], fl0, -1, 100, ⟨2, 0, ix0⟩, nb0, ix0⟩
abbrev p2 : Pc := ⟨1, [37, 37], fl0, -1, 37, nb0, nb0, ix0⟩
theorem spr_star (w : World) (A : Nat) (he : Esc w) (hk : KN w) (hA : A < w.heap.size) (hcell : ∀ j u, (cI 5 ++ cI 1)[j]? = some u → w.cell? ⟨A, j, none⟩ = some u) :
  Calls Tryz.prog 5 #[.slice none 0 0, .string ⟨#[37, 42, 100, 37, 37]⟩, .slice (some ⟨A, 0, none⟩) 2 2] w fun e w' => e = .returned (.string ⟨#[32, 32, 32, 32, 49, 37]⟩) ∧ Below w.heap.size w w' := by
 refine sprintf_of _ _ _ w fun W C M bW hc hC hM => ?_
 have hat := at_of ⟨#[37, 42, 100, 37, 37]⟩ (.slice (some ⟨A, 0, none⟩) 2 2) [VI 0 5, VI 0 1] (((numT 1 ⟨false, false, false, false, false, 5, -1, 100⟩).data.toList ++ [37]) ++ []) C M W (by decide +kernel)
  (begun_l [(cI 5, VI 0 5), (cI 1, VI 0 1)] (by
   intro a ha
   simp only [List.mem_cons, List.not_mem_nil, or_false] at ha
   rcases ha with rfl | rfl
   ·exact ag_I 5 (by decide) (by decide)
   ·exact ag_I 1 (by decide) (by decide)) (by decide) hc (he.below bW) (hk.up bW) hC hM (Nat.lt_of_lt_of_le hA bW.size) (args_up hcell bW)) (fun g av V hE => ?_)
 ·rw [List.append_nil, ex_star] at hat
  exact hat
 ·refine (format_of ⟨#[37, 42, 100, 37, 37]⟩ (by decide) [p1, p2] ex_pr (by
   intro p hp
   simp only [List.mem_cons, List.not_mem_nil, or_false] at hp
   rcases hp with rfl | rfl
   ·exact ⟨rfl, rfl, rfl⟩
   ·exact ⟨rfl, rfl, rfl⟩) ((numT 1 ⟨false, false, false, false, false, 5, -1, 100⟩).data.toList ++ [37]) [] hE (nx' := 3) ⟨(numT 1 ⟨false, false, false, false, false, 5, -1, 100⟩).data.toList, [37], 3, ?_, ⟨[37], [], 3, ?_, ⟨rfl, rfl⟩, rfl⟩, rfl⟩ (Or.inr (by decide +kernel)) (by decide +kernel) (fun X hX => extra_none hX (by decide))).mono fun e w' h => ⟨h.1, _, h.2⟩
  ·intro X l EX hl
   exact lpiece_dir p1 (ba p1.text) rfl _ 3 EX fun X' EX' => dir_show p1 (ba p1.text) (spW p1 5) 1 _ _ (numT 1 (spW p1 5)) 0 EX' (fun Y EY => sized_star p1 (ba p1.text) 0 0 rfl rfl rfl rfl rfl 5 0 EY rfl (by decide) (by decide) (by decide)) (by decide) rfl rfl rfl (by decide) (fun Y EY => shown_I 1 (spW p1 5) rfl (by decide) EY.v (by decide) (by decide)) (by rw [Lib.size_eq]; exact Nat.le_trans hl (by decide))
  ·intro X l EX hl
   exact lpiece_dir p2 (ba p2.text) rfl _ 3 EX fun X' EX' => dir_pct p2 (ba p2.text) rfl rfl rfl EX' (by have : l.length + 1 ≤ 900000000 := hl; omega)
theorem spr_ext (w : World) (A : Nat) (he : Esc w) (hk : KN w) (hA : A < w.heap.size) (hcell : ∀ j u, (cI 1)[j]? = some u → w.cell? ⟨A, j, none⟩ = some u) :
  Calls Tryz.prog 5 #[.slice none 0 0, .string ⟨#[120]⟩, .slice (some ⟨A, 0, none⟩) 1 1] w fun e w' => e = .returned (.string ⟨#[120, 37, 33, 40, 69, 88, 84, 82, 65, 32, 105, 110, 116, 61, 49, 41]⟩) ∧ Below w.heap.size w w' := by
 refine sprintf_of _ _ _ w fun W C M bW hc hC hM => ?_
 have hat := at_of ⟨#[120]⟩ (.slice (some ⟨A, 0, none⟩) 1 1) [VI 0 1] ([120] ++ [37, 33, 40, 69, 88, 84, 82, 65, 32, 105, 110, 116, 61, 49, 41]) C M W (by decide)
  (begun_l [(cI 1, VI 0 1)] (by
   intro a ha
   simp only [List.mem_cons, List.not_mem_nil, or_false] at ha
   subst ha
   exact ag_I 1 (by decide) (by decide)) (by decide) hc (he.below bW) (hk.up bW) hC hM (Nat.lt_of_lt_of_le hA bW.size) (args_up (by simpa using hcell) bW)) (fun g av V hE => ?_)
 ·rw [show txt ([120] ++ [37, 33, 40, 69, 88, 84, 82, 65, 32, 105, 110, 116, 61, 49, 41]) = ⟨#[120, 37, 33, 40, 69, 88, 84, 82, 65, 32, 105, 110, 116, 61, 49, 41]⟩ by decide +kernel] at hat
  exact hat
 ·refine (format_of ⟨#[120]⟩ (by decide) [lit [120]] rfl (by
   intro p hp
   simp only [List.mem_cons, List.not_mem_nil, or_false] at hp
   subst hp
   exact ⟨rfl, rfl, rfl⟩) [120] _ hE (nx' := 1) ⟨[120], [], 1, ?_, ⟨rfl, rfl⟩, rfl⟩ (Or.inl (by decide)) (by decide) (fun X hX => extra_one 1 (by decide) (by decide) hX ⟨#[37, 33, 40, 69, 88, 84, 82, 65, 32, 105, 110, 116, 61, 49, 41]⟩ (by rw [ex_n1]; exact ex_ext.symm) (by rw [ex_n1]; decide) (by decide) (by decide))).mono fun e w' h => ⟨h.1, _, h.2⟩
  intro X l EX hl
  exact lpiece_lit (lit [120]) (ba [120]) rfl EX (by have : l.length + 1 ≤ 900000000 := hl; show l.length + 1 ≤ _; omega)
theorem spr_list (w : World) (A : Nat) (he : Esc w) (hk : KN w) (hA : A < w.heap.size) (hcell : ∀ j u, (cI 1 ++ (cI 2 ++ (cX ⟨#[97]⟩ ++ (cX ⟨#[98]⟩ ++ cI 3))))[j]? = some u → w.cell? ⟨A, j, none⟩ = some u) :
  Calls Tryz.prog 10 #[.slice none 0 0, .slice (some ⟨A, 0, none⟩) 5 5] w fun e w' => e = .returned (.string ⟨#[49, 32, 50, 97, 98, 51]⟩) ∧ Below w.heap.size w w' := by
 have hsp := sprint_of (.slice (some ⟨A, 0, none⟩) 5 5) [VI 0 1, VI 0 2, VX 0 ⟨#[97]⟩, VX 0 ⟨#[98]⟩, VI 0 3] [49, 32, 50, 97, 98, 51] w (by decide) (fun W C M bW hc hC hM => begun_l [(cI 1, VI 0 1), (cI 2, VI 0 2), (cX ⟨#[97]⟩, VX 0 ⟨#[97]⟩), (cX ⟨#[98]⟩, VX 0 ⟨#[98]⟩), (cI 3, VI 0 3)] (by
   intro a ha
   simp only [List.mem_cons, List.not_mem_nil, or_false] at ha
   rcases ha with rfl | rfl | rfl | rfl | rfl
   ·exact ag_I 1 (by decide) (by decide)
   ·exact ag_I 2 (by decide) (by decide)
   ·exact ag_X _ (by decide)
   ·exact ag_X _ (by decide)
   ·exact ag_I 3 (by decide) (by decide)) (by decide) hc (he.below bW) (hk.up bW) hC hM (Nat.lt_of_lt_of_le hA bW.size) (args_up (by simpa using hcell) bW)) (fun C M g av W hE => ?_)
 ·rw [show txt [49, 32, 50, 97, 98, 51] = ⟨#[49, 32, 50, 97, 98, 51]⟩ by decide +kernel] at hsp
  exact hsp
 ·refine list_of [⟨_, _, 6, ⟨#[49]⟩⟩, ⟨_, _, 6, ⟨#[50]⟩⟩, ⟨_, _, 16, ⟨#[97]⟩⟩, ⟨_, _, 16, ⟨#[98]⟩⟩, ⟨_, _, 6, ⟨#[51]⟩⟩] (by decide) (by decide) hE ?_ ?_ _ rfl (by decide)
  ·intro q hq
   simp only [List.mem_cons, List.not_mem_nil, or_false] at hq
   rcases hq with rfl | rfl | rfl | rfl | rfl
   ·exact kq_I 0 1
   ·exact kq_I 0 2
   ·exact kq_X 0 _
   ·exact kq_X 0 _
   ·exact kq_I 0 3
  ·intro q hq X l EX
   simp only [List.mem_cons, List.not_mem_nil, or_false] at hq
   rcases hq with rfl | rfl | rfl | rfl | rfl
   ·have := shown_I 1 (bareQ 118) rfl (by decide) EX.v (by decide) (by decide)
    rw [ex_n1] at this
    exact this
   ·have := shown_I 2 (bareQ 118) rfl (by decide) EX.v (by decide) (by decide)
    rw [ex_n2] at this
    exact this
   ·have := shown_X ⟨#[97]⟩ (bareQ 118) rfl rfl (by decide) EX.v (by decide)
    rw [ex_x1] at this
    exact this
   ·have := shown_X ⟨#[98]⟩ (bareQ 118) rfl rfl (by decide) EX.v (by decide)
    rw [ex_x2] at this
    exact this
   ·have := shown_I 3 (bareQ 118) rfl (by decide) EX.v (by decide) (by decide)
    rw [ex_n3] at this
    exact this
end Go.Proofs.YtjfmhghpkefihaaGreatDoor
namespace Go.Proofs.YtjfmhghpkefihaaGreatDoor
open Go.RowKit
set_option linter.unusedVariables false
set_option linter.unusedSimpArgs false
theorem lv_star (w V : World) (he : Esc w) (hk : KN w) (hV : Below w.heap.size w V) : Calls Tryz.prog 5 #[.slice none 0 0, .string ⟨#[37, 42, 100, 37, 37]⟩, .slice (some ⟨V.heap.size, 0, none⟩) 2 2] (V.alloc (.cells #[.int .i64 6, .string ⟨#[]⟩, .int .u64 5, .int .u64 0, .string ⟨#[]⟩, .slice none 0 0, .slice none 0 0, .int .i64 0, .int .i64 6, .string ⟨#[]⟩, .int .u64 1, .int .u64 0, .string ⟨#[]⟩, .slice none 0 0, .slice none 0 0, .int .i64 0] 29)) fun e w' => ∃ y : Cl w, e = .returned (.string ⟨#[32, 32, 32, 32, 49, 37]⟩) ∧ w' = y.w := by
 have b1 : Below w.heap.size w (V.alloc (.cells #[.int .i64 6, .string ⟨#[]⟩, .int .u64 5, .int .u64 0, .string ⟨#[]⟩, .slice none 0 0, .slice none 0 0, .int .i64 0, .int .i64 6, .string ⟨#[]⟩, .int .u64 1, .int .u64 0, .string ⟨#[]⟩, .slice none 0 0, .slice none 0 0, .int .i64 0] 29)) := hV.alloc hV.size _
 have hB : Blk (V.alloc (.cells #[.int .i64 6, .string ⟨#[]⟩, .int .u64 5, .int .u64 0, .string ⟨#[]⟩, .slice none 0 0, .slice none 0 0, .int .i64 0, .int .i64 6, .string ⟨#[]⟩, .int .u64 1, .int .u64 0, .string ⟨#[]⟩, .slice none 0 0, .slice none 0 0, .int .i64 0] 29)) V.heap.size [.int .i64 6, .string ⟨#[]⟩, .int .u64 5, .int .u64 0, .string ⟨#[]⟩, .slice none 0 0, .slice none 0 0, .int .i64 0, .int .i64 6, .string ⟨#[]⟩, .int .u64 1, .int .u64 0, .string ⟨#[]⟩, .slice none 0 0, .slice none 0 0, .int .i64 0] := Blk.new V _ 29
 refine (spr_star _ V.heap.size (he.below b1) (hk.up b1) hB.b hB.c).mono ?_
 rintro e w' ⟨rfl, b2⟩
 exact ⟨⟨w', b1.trans (b2.mono b1.size)⟩, rfl, rfl⟩
theorem lv_ext (w V : World) (he : Esc w) (hk : KN w) (hV : Below w.heap.size w V) : Calls Tryz.prog 5 #[.slice none 0 0, .string ⟨#[120]⟩, .slice (some ⟨V.heap.size, 0, none⟩) 1 1] (V.alloc (.cells #[.int .i64 6, .string ⟨#[]⟩, .int .u64 1, .int .u64 0, .string ⟨#[]⟩, .slice none 0 0, .slice none 0 0, .int .i64 0] 29)) fun e w' => ∃ y : Cl w, e = .returned (.string ⟨#[120, 37, 33, 40, 69, 88, 84, 82, 65, 32, 105, 110, 116, 61, 49, 41]⟩) ∧ w' = y.w := by
 have b1 : Below w.heap.size w (V.alloc (.cells #[.int .i64 6, .string ⟨#[]⟩, .int .u64 1, .int .u64 0, .string ⟨#[]⟩, .slice none 0 0, .slice none 0 0, .int .i64 0] 29)) := hV.alloc hV.size _
 have hB : Blk (V.alloc (.cells #[.int .i64 6, .string ⟨#[]⟩, .int .u64 1, .int .u64 0, .string ⟨#[]⟩, .slice none 0 0, .slice none 0 0, .int .i64 0] 29)) V.heap.size [.int .i64 6, .string ⟨#[]⟩, .int .u64 1, .int .u64 0, .string ⟨#[]⟩, .slice none 0 0, .slice none 0 0, .int .i64 0] := Blk.new V _ 29
 refine (spr_ext _ V.heap.size (he.below b1) (hk.up b1) hB.b hB.c).mono ?_
 rintro e w' ⟨rfl, b2⟩
 exact ⟨⟨w', b1.trans (b2.mono b1.size)⟩, rfl, rfl⟩
theorem lv_list (w V : World) (he : Esc w) (hk : KN w) (hV : Below w.heap.size w V) : Calls Tryz.prog 10 #[.slice none 0 0, .slice (some ⟨V.heap.size, 0, none⟩) 5 5] (V.alloc (.cells #[.int .i64 6, .string ⟨#[]⟩, .int .u64 1, .int .u64 0, .string ⟨#[]⟩, .slice none 0 0, .slice none 0 0, .int .i64 0, .int .i64 6, .string ⟨#[]⟩, .int .u64 2, .int .u64 0, .string ⟨#[]⟩, .slice none 0 0, .slice none 0 0, .int .i64 0, .int .i64 16, .string ⟨#[]⟩, .int .u64 0, .int .u64 0, .string ⟨#[97]⟩, .slice none 0 0, .slice none 0 0, .int .i64 0, .int .i64 16, .string ⟨#[]⟩, .int .u64 0, .int .u64 0, .string ⟨#[98]⟩, .slice none 0 0, .slice none 0 0, .int .i64 0, .int .i64 6, .string ⟨#[]⟩, .int .u64 3, .int .u64 0, .string ⟨#[]⟩, .slice none 0 0, .slice none 0 0, .int .i64 0] 29)) fun e w' => ∃ y : Cl w, e = .returned (.string ⟨#[49, 32, 50, 97, 98, 51]⟩) ∧ w' = y.w := by
 have b1 : Below w.heap.size w (V.alloc (.cells #[.int .i64 6, .string ⟨#[]⟩, .int .u64 1, .int .u64 0, .string ⟨#[]⟩, .slice none 0 0, .slice none 0 0, .int .i64 0, .int .i64 6, .string ⟨#[]⟩, .int .u64 2, .int .u64 0, .string ⟨#[]⟩, .slice none 0 0, .slice none 0 0, .int .i64 0, .int .i64 16, .string ⟨#[]⟩, .int .u64 0, .int .u64 0, .string ⟨#[97]⟩, .slice none 0 0, .slice none 0 0, .int .i64 0, .int .i64 16, .string ⟨#[]⟩, .int .u64 0, .int .u64 0, .string ⟨#[98]⟩, .slice none 0 0, .slice none 0 0, .int .i64 0, .int .i64 6, .string ⟨#[]⟩, .int .u64 3, .int .u64 0, .string ⟨#[]⟩, .slice none 0 0, .slice none 0 0, .int .i64 0] 29)) := hV.alloc hV.size _
 have hB : Blk (V.alloc (.cells #[.int .i64 6, .string ⟨#[]⟩, .int .u64 1, .int .u64 0, .string ⟨#[]⟩, .slice none 0 0, .slice none 0 0, .int .i64 0, .int .i64 6, .string ⟨#[]⟩, .int .u64 2, .int .u64 0, .string ⟨#[]⟩, .slice none 0 0, .slice none 0 0, .int .i64 0, .int .i64 16, .string ⟨#[]⟩, .int .u64 0, .int .u64 0, .string ⟨#[97]⟩, .slice none 0 0, .slice none 0 0, .int .i64 0, .int .i64 16, .string ⟨#[]⟩, .int .u64 0, .int .u64 0, .string ⟨#[98]⟩, .slice none 0 0, .slice none 0 0, .int .i64 0, .int .i64 6, .string ⟨#[]⟩, .int .u64 3, .int .u64 0, .string ⟨#[]⟩, .slice none 0 0, .slice none 0 0, .int .i64 0] 29)) V.heap.size [.int .i64 6, .string ⟨#[]⟩, .int .u64 1, .int .u64 0, .string ⟨#[]⟩, .slice none 0 0, .slice none 0 0, .int .i64 0, .int .i64 6, .string ⟨#[]⟩, .int .u64 2, .int .u64 0, .string ⟨#[]⟩, .slice none 0 0, .slice none 0 0, .int .i64 0, .int .i64 16, .string ⟨#[]⟩, .int .u64 0, .int .u64 0, .string ⟨#[97]⟩, .slice none 0 0, .slice none 0 0, .int .i64 0, .int .i64 16, .string ⟨#[]⟩, .int .u64 0, .int .u64 0, .string ⟨#[98]⟩, .slice none 0 0, .slice none 0 0, .int .i64 0, .int .i64 6, .string ⟨#[]⟩, .int .u64 3, .int .u64 0, .string ⟨#[]⟩, .slice none 0 0, .slice none 0 0, .int .i64 0] := Blk.new V _ 29
 refine (spr_list _ V.heap.size (he.below b1) (hk.up b1) hB.b hB.c).mono ?_
 rintro e w' ⟨rfl, b2⟩
 exact ⟨⟨w', b1.trans (b2.mono b1.size)⟩, rfl, rfl⟩
set_option maxRecDepth 1000000 in
set_option maxHeartbeats 4000000 in
theorem lives14_any (w : World) (he : Esc w) (hk : KN w) : Calls Tryz.prog 6 #[] w fun e w' => e = .returned (.bool true) ∧ Below w.heap.size w w' := by
 have hn := fun n h0 h1 w => num14_any n h0 h1 w
 have ht := fun s w => text14_any s w
 have h1 := fun V hV => lv_star w V he hk hV
 have h2 := fun V hV => lv_ext w V he hk hV
 have h3 := fun V hV => lv_list w V he hk hV
 go_enter Tryz.func6, Tryz.ntmps6
 go_wp2_with (first
  | (go_at_call 9; (first | refine (Cl.go (hn _ (by decide) (by decide) _)).mono ?_ | refine (Cl.go0 (hn _ (by decide) (by decide) _)).mono ?_); rintro e w9 ⟨y, rfl, rfl⟩)
  | (go_at_call 11; refine (Cl.go (ht _ _)).mono ?_; rintro e w9 ⟨y, rfl, rfl⟩)
  | (go_at_call_of 5 (42 : UInt8); refine (h1 _ (Cl.below _)).mono ?_; rintro e w9 ⟨y, rfl, rfl⟩)
  | (go_at_call_of 5 (120 : UInt8); refine (h2 _ (Cl.below _)).mono ?_; rintro e w9 ⟨y, rfl, rfl⟩)
  | (go_at_call 10; refine (h3 _ (Cl.below _)).mono ?_; rintro e w9 ⟨y, rfl, rfl⟩))
 go_ret
 exact ⟨rfl, y.below⟩
end Go.Proofs.YtjfmhghpkefihaaGreatDoor
namespace Go.Proofs.YtjfmhghpkefihaaGreatDoor
open Go.RowKit
set_option linter.unusedVariables false
set_option linter.unusedSimpArgs false
def NoP (T : ByteArray) : Prop := ∀ x ∈ T.data.toList, noPc x = true
theorem NoP.add {T : ByteArray} (h : NoP T) (s : ByteArray) (k : Nat) (hk : k < s.size) (hb : ¬ (s.data[k]).toNat = 37) : NoP (T ++ s.extract k (k + 1)) := by
 intro x hx
 rw [ByteArray.data_append, Array.toList_append, List.mem_append] at hx
 rcases hx with hx | hx
 ·exact h x hx
 ·rw [ByteArray.data_extract] at hx
  have : x = s.data[k] := by
   have hm : x ∈ s.data.extract k (k + 1) := Array.mem_toList_iff.1 hx
   obtain ⟨i, hi, e⟩ := Array.mem_iff_getElem.1 hm
   rw [Array.getElem_extract] at e
   have : i = 0 := by simp at hi; omega
   subst this
   exact e.symm
  rw [this]
  unfold noPc
  exact decide_eq_true hb
end Go.Proofs.YtjfmhghpkefihaaGreatDoor
namespace Go.Proofs.YtjfmhghpkefihaaGreatDoor
open Go.RowKit
set_option linter.unusedVariables false
set_option linter.unusedSimpArgs false
theorem lat_out {C M TB AB c : Nat} {f : ByteArray} (L : List UInt8) (hL : L.length ≤ 200) (hno : ∀ x ∈ L, noPc x = true) (hf : f.data.toList = L ++ [60, 37, 118, 62]) (r : Nat) (hr3 : r ≤ 3) (AR : Nat) (W : World) (ho : NcO C M TB AB W.heap.size) (hN : NC C M TB AB c f W) (hAR : W.rangeAt AR 0 dH.v) (hARl : AR < W.heap.size) :
  Calls Tryz.prog 14 #[.pointer (some ⟨C, 0, none⟩), .int .i64 (3 - (r : Int)), .string ⟨#[37, 118]⟩, .slice (some ⟨AR, 0, none⟩) 1 1] W fun e w' => e = .returned (.string ⟨(outT L r).toArray⟩) ∧ Kx (fun k => k = C ∨ k = M) W w' := by
 have hlen := outT_len L hL r
 have hoo : (outT L r ++ []) = outT L r := List.append_nil _
 have hat := at_J ⟨#[37, 118]⟩ (.slice (some ⟨AR, 0, none⟩) 1 1) [VI 1 0] (outT L r ++ []) C (3 - (r : Int)) (by omega) (by omega) (J' := fun _ => True) (P := fun k => k = C ∨ k = M) W (by rw [hoo]; omega) (fun _ _ _ _ => trivial) (beg_H C (3 - (r : Int)) AR 1 W hAR hARl (by decide) (by decide)) (fun g V hg bV hR => ?_)
 ·rw [hoo, txt_short (by omega)] at hat
  exact hat.mono fun e w' h => ⟨h.1, h.2.2⟩
 ·obtain ⟨ao, cc, hp, hc1, hc2, ha⟩ := hR
  have hog := ho.mono hg
  have hCg : C < g := hog.1
  have hMg : M < g := hog.2.1
  have hE : EnJ (NC C M TB AB c f) V g C [] (3 - (r : Int)) (.slice ao [VI 1 0].length cc) [VI 1 0] 1 := ⟨hp, hN.kx ho (Kx.of_below bV), fun w w' h k => h.kx hog k, hCg, ao, cc, rfl, hc1, hc2, ha⟩
  refine (format_J ⟨#[37, 118]⟩ (by decide) [pV] rfl (by
   intro p hp
   simp only [List.mem_cons, List.not_mem_nil, or_false] at hp
   subst hp
   exact ⟨rfl, rfl, rfl⟩) (outT L r) [] (J' := fun _ => True) (P := fun k => k = g ∨ (k = C ∨ k = M)) (Or.inl rfl) (fun k hk => by omega) hE (nx' := 2) ⟨outT L r, [], 2, fun _ => True, dirJ_pc (Or.inl rfl) (fun k hk => by omega) _ _ ⟨(outT L r).toArray⟩ _ _ (fun V2 l2 E2 => shown_out L hL hno hf r hr3 hog l2 _ rfl _ _ 2 V2 E2), ⟨rfl, rfl, rfl⟩, by simp⟩ (Or.inl (by decide)) (by omega) (fun V2 E2 => extra_J E2 (by decide))).mono ?_
  rintro e w' ⟨h1, h2, h3⟩
  exact ⟨h1, ⟨_, h2.p⟩, trivial, h3⟩
set_option maxRecDepth 1000000 in
theorem at_deep {TB AB c : Nat} {f : ByteArray} (L : List UInt8) (hL : L.length ≤ 200) (hno : ∀ x ∈ L, noPc x = true) (hf : f.data.toList = L ++ [60, 37, 118, 62]) (r : Nat) (hr3 : r ≤ 3) (AR : Nat) (depth : Int) (hd : max depth 0 = 3 - (r : Int)) (w : World) (hT : Blk w TB (hkP f ⟨some ⟨AB, 0, none⟩, 1, c⟩).v) (hr : w.rangeAt AB 0 dH.v) (hAB : AB < w.heap.size) (hAR : w.rangeAt AR 0 dH.v) (hARl : AR < w.heap.size) (he : Esc w) (hk : KN w) :
  Calls Tryz.prog 8 #[.int .i64 depth, .slice (some ⟨TB, 0, none⟩) 1 1, .string ⟨#[37, 118]⟩, .slice (some ⟨AR, 0, none⟩) 1 1] w fun e w' => e = .returned (.string ⟨(outT L r).toArray⟩) ∧ Below w.heap.size w w' := by
 have hN := newCall_t TB w
 obtain ⟨q, hq⟩ : ∃ q, max depth 0 = q := ⟨_, rfl⟩
 have hA : ∀ W C M, Below w.heap.size w W → (w.heap.size ≤ C ∧ w.heap.size ≤ M ∧ M ≠ C ∧ C < W.heap.size ∧ M < W.heap.size ∧ W.cell? ⟨C, 0, none⟩ = some (.slice (some ⟨TB, 0, none⟩) 1 1) ∧ W.cell? ⟨C, 1, none⟩ = some (.map (some M)) ∧ W.cell? ⟨C, 2, none⟩ = some (.int .i64 0) ∧ W.frozen? ⟨C, 2, none⟩ = false ∧ W.heap[M]? = some (.map #[] 0)) → Calls Tryz.prog 14 #[.pointer (some ⟨C, 0, none⟩), .int .i64 q, .string ⟨#[37, 118]⟩, .slice (some ⟨AR, 0, none⟩) 1 1] W fun e w' => e = .returned (.string ⟨(outT L r).toArray⟩) ∧ Below w.heap.size w w' := by
  rintro W C M bW ⟨a1, a2, a3, a4, a5, a6, a7, a8, a9, a10⟩
  have hs := bW.size
  have hb := hT.b
  have hel := he.1
  have hkl := kn_lt hk
  rw [← hq, hd]
  refine (lat_out L hL hno hf r hr3 AR W ⟨a4, a5, by omega, by omega, by omega, by omega, a3, by omega, by omega, by omega, by omega⟩ ⟨a6, a7, a8, a9, a10, hT.kx (P := fun _ => False) ⟨bW.os, bW.tape, bW.output, bW.size, fun i hi _ => bW.block i hi⟩ id, fun j v hv => (bW.cell (p := ⟨AB, 0 + j, none⟩) hAB).trans (hr j v hv), he.below bW, hk.up bW⟩ (fun j v hv => (bW.cell (p := ⟨AR, 0 + j, none⟩) hARl).trans (hAR j v hv)) (by omega)).mono ?_
  rintro e w' ⟨h1, h2⟩
  exact ⟨h1, bW.trans (h2.below (fun k hk => by omega) hs)⟩
 clear hd hT hr hAR he hk
 go_enter Tryz.func8, Tryz.ntmps8
 go_wp2_with (first | (go_at_call 13; refine hN.mono ?_; rintro e W ⟨C, M, rfl, hh, bW⟩; have hA1 := hA W C M bW hh.out) | (go_at_call 14; refine hA1.mono ?_; rintro e W2 ⟨rfl, b2⟩))
 go_ret
 exact ⟨rfl, b2⟩
set_option maxRecDepth 1000000 in
theorem at_deeper (TB AR : Nat) (depth : Int) (hd : 3 < max depth 0) (w : World) :
  Calls Tryz.prog 8 #[.int .i64 depth, .slice (some ⟨TB, 0, none⟩) 1 1, .string ⟨#[37, 118]⟩, .slice (some ⟨AR, 0, none⟩) 1 1] w fun e w' => e = .returned (.string ⟨#[37, 33, 40, 68, 69, 80, 84, 72, 41]⟩) ∧ Below w.heap.size w w' := by
 have hN := newCall_t TB w
 obtain ⟨q, hq⟩ : ∃ q, max depth 0 = q := ⟨_, rfl⟩
 rw [hq] at hd
 have hA := fun C W => depth_lat C q hd ⟨#[37, 118]⟩ (.slice (some ⟨AR, 0, none⟩) 1 1) W
 go_enter Tryz.func8, Tryz.ntmps8
 go_wp2_with (first | (go_at_call 13; refine hN.mono ?_; rintro e W ⟨C, M, rfl, hh, bW⟩; have hA1 := hA C W) | (go_at_call 14; refine hA1.mono ?_; rintro e W2 ⟨rfl, b2⟩))
 go_ret
 exact ⟨rfl, bW.trans (b2.mono bW.size)⟩
theorem bldA (f : ByteArray) (B : Nat) (w : World) : (Instr.build 31 #[(0, .int .i64 3), (2, .string f), (3, .slice (some ⟨B, 0, none⟩) 1 1)]).run Tryz.prog w = .ok (.agg (Ac.v ⟨3, ⟨#[]⟩, f, ⟨some ⟨B, 0, none⟩, 1, 1⟩, .no⟩).toArray) w := by kernel_rfl
theorem bldK (f : ByteArray) (B : Nat) (w : World) : (Instr.build 33 #[(3, .agg (Ac.v ⟨3, ⟨#[]⟩, f, ⟨some ⟨B, 0, none⟩, 1, 1⟩, .no⟩).toArray)]).run Tryz.prog w = .ok (.agg (hkP f ⟨some ⟨B, 0, none⟩, 1, 1⟩).v.toArray) w := by kernel_rfl
theorem outT_app (T : ByteArray) (r : Nat) : T ++ ⟨#[60]⟩ ++ ⟨(outT T.data.toList r).toArray⟩ ++ ⟨#[62]⟩ = ⟨(outT T.data.toList (r + 1)).toArray⟩ := by
 apply ByteArray.ext
 apply Array.ext'
 simp [outT, ByteArray.data_append]
end Go.Proofs.YtjfmhghpkefihaaGreatDoor
