/- ZLive, ZLiveB, ZLiveC, WPrinterLits, Laid14: these texts in one. -/
import Derived.Test.YtjfmhghpkefihaaGreatDoorPt21
import Derived.Test.YtjfmhghpkefihaaGreatDoorZBeg
import Derived.Test.YtjfmhghpkefihaaGreatDoorRows
import Derived.Test.YtjfmhghpkefihaaGreatDoorPt10
import Derived.Test.YtjfmhghpkefihaaGreatDoorPt3
import Derived.WalkKit
import Derived.ProofKit
import Derived.LaidMore
import Derived.Lay
import Derived.OpenShut
import Derived.Stop.Joined
/- printer: Sprintf, Sprint where there is no table; the document's examples. -/
namespace Go.Proofs.YtjfmhghpkefihaaGreatDoor
open Go.RowKit
set_option linter.unusedVariables false
set_option linter.unusedSimpArgs false

set_option maxRecDepth 1000000 in
set_option maxHeartbeats 1000000 in
theorem at_of (s : ByteArray) (args : Value) (vs : List Value) (o : List UInt8) (C M : Nat) (w : World) (ho : o.length ≤ 1000000)
    (hBg : Calls Tryz.prog 15 #[.pointer (some ⟨C, 0, none⟩), .int .i64 0, args] w fun e w' => ∃ g av, e = .returned (.pointer (some ⟨g, 0, none⟩)) ∧ w.heap.size ≤ g ∧ En w' g C M [] 0 av vs 1 ∧ Below w.heap.size w w')
    (hF : ∀ g av W, En W g C M [] 0 av vs 1 → Calls Tryz.prog 20 #[.pointer (some ⟨g, 0, none⟩), .string s] W fun e w' => e = .returned (.tuple #[]) ∧ ∃ tl, IsPr w' g o tl ∧ Kx (fun k => k = g) W w') :
    Calls Tryz.prog 14 #[.pointer (some ⟨C, 0, none⟩), .int .i64 0, .string s, args] w fun e w' => e = .returned (.string (txt o)) ∧ Below w.heap.size w w' := by
  go_enter Tryz.func14, Tryz.ntmps14
  go_upto_region 4 with (go_at_call 15; refine hBg.mono ?_; rintro e W ⟨g, av, rfl, hg, hE, bW⟩; have hF1 := hF g av W hE)
  go_upto_region 5 with (go_at_call 20; refine hF1.mono ?_; rintro e W2 ⟨rfl, tl, p2, k2⟩; have hT := text_any g o tl W2 p2 (by omega))
  go_wp2_with (go_at_call 18; refine hT.mono ?_; rintro e W3 ⟨rfl, b3⟩)
  go_ret
  have b2 : Below w.heap.size W W2 := k2.below (fun k hk => by omega) bW.size
  have b12 : Below w.heap.size w W2 := bW.trans b2
  exact ⟨rfl, b12.trans (b3.mono b12.size)⟩
set_option maxRecDepth 1000000 in
theorem sprintf_of (s : ByteArray) (args : Value) (T : ByteArray) (w : World)
    (hA : ∀ W C M, Below w.heap.size w W → IsCall W C M 0 → C < W.heap.size → M < W.heap.size → Calls Tryz.prog 14 #[.pointer (some ⟨C, 0, none⟩), .int .i64 0, .string s, args] W fun e w' => e = .returned (.string T) ∧ Below W.heap.size W w') :
    Calls Tryz.prog 5 #[.slice none 0 0, .string s, args] w fun e w' => e = .returned (.string T) ∧ Below w.heap.size w w' := by
  have hN := newCall_nil w
  have hAt : Calls Tryz.prog 8 #[.int .i64 0, .slice none 0 0, .string s, args] w fun e w' => e = .returned (.string T) ∧ Below w.heap.size w w' := by
    go_enter Tryz.func8, Tryz.ntmps8
    go_wp2_with (first | (go_at_call 13; refine hN.mono ?_; rintro e W ⟨C, M, rfl, c1, c2, c3, c4, c5, bW⟩; have hA1 := hA W C M bW c5 c3 c4) | (go_at_call 14; refine hA1.mono ?_; rintro e W2 ⟨rfl, b2⟩))
    go_ret
    exact ⟨rfl, bW.trans (b2.mono bW.size)⟩
  go_enter Tryz.func5, Tryz.ntmps5
  go_wp2_with (go_at_call 8; refine hAt.mono ?_; rintro e W2 ⟨rfl, b2⟩)
  go_ret
  exact ⟨rfl, b2⟩
set_option maxRecDepth 1000000 in
theorem sprint_of (args : Value) (vs : List Value) (o : List UInt8) (w : World) (ho : o.length ≤ 1000000)
    (hBg : ∀ W C M, Below w.heap.size w W → IsCall W C M 0 → C < W.heap.size → M < W.heap.size → Calls Tryz.prog 15 #[.pointer (some ⟨C, 0, none⟩), .int .i64 0, args] W fun e w' => ∃ g av, e = .returned (.pointer (some ⟨g, 0, none⟩)) ∧ W.heap.size ≤ g ∧ En w' g C M [] 0 av vs 1 ∧ Below W.heap.size W w')
    (hL : ∀ C M g av W, En W g C M [] 0 av vs 1 → Calls Tryz.prog 16 #[.pointer (some ⟨g, 0, none⟩), .func (.func 17) #[] #[]] W fun e w' => e = .returned (.tuple #[]) ∧ IsPr w' g o (prT C 0 av 1) ∧ Kx (fun k => k = g) W w') :
    Calls Tryz.prog 10 #[.slice none 0 0, args] w fun e w' => e = .returned (.string (txt o)) ∧ Below w.heap.size w w' := by
  have hN := newCall_nil w
  go_enter Tryz.func10, Tryz.ntmps10
  go_upto_region 2 with (first | (go_at_call 13; refine hN.mono ?_; rintro e W ⟨C, M, rfl, c1, c2, c3, c4, c5, bW⟩; have hB1 := hBg W C M bW c5 c3 c4) | (go_at_call 15; refine hB1.mono ?_; rintro e W2 ⟨g, av, rfl, hg, hE, bW2⟩; have hL1 := hL C M g av W2 hE))
  go_upto_region 3 with (go_at_call 16; refine hL1.mono ?_; rintro e W3 ⟨rfl, p3, k3⟩; have hT := text_any g o _ W3 p3 (by omega))
  go_wp2_with (go_at_call 18; refine hT.mono ?_; rintro e W4 ⟨rfl, b4⟩)
  go_ret
  have b1 : Below w.heap.size w W2 := bW.trans (bW2.mono bW.size)
  have b3 : Below w.heap.size W2 W3 := k3.below (fun k hk => by have := bW.size; omega) b1.size
  have b13 : Below w.heap.size w W3 := b1.trans b3
  exact ⟨rfl, b13.trans (b4.mono b13.size)⟩
set_option maxRecDepth 1000000 in
theorem num14_any (n : Int) (h0 : 0 ≤ n) (h1 : n < 9223372036854775808) (w : World) : Calls Tryz.prog 9 #[.int .i64 n] w fun e w' => e = .returned (DI 0 n) ∧ Below w.heap.size w w' := by
  have hw : IntKind.u64.wrap n = n := by show n % 18446744073709551616 = n; omega
  go_enter Tryz.func9, Tryz.ntmps9
  go_wp2
  go_returns
  refine ⟨?_, by go_grown⟩
  first | rfl | simp [hw]
set_option maxRecDepth 1000000 in
theorem text14_any (s : ByteArray) (w : World) : Calls Tryz.prog 11 #[.string s] w fun e w' => e = .returned (DX 0 s) ∧ Below w.heap.size w w' := by
  go_enter Tryz.func11, Tryz.ntmps11
  go_wp2
  go_returns
  exact ⟨rfl, by go_grown⟩
theorem ex_star : txt ((numT 1 ⟨false, false, false, false, false, 5, -1, 100⟩).data.toList ++ [37]) = ⟨#[32, 32, 32, 32, 49, 37]⟩ := by decide +kernel
theorem ex_pr : prs [37, 42, 100, 37, 37] = [⟨1, [37, 42, 100], fl0, -1, 100, ⟨2, 0, ix0⟩, nb0, ix0⟩, ⟨1, [37, 37], fl0, -1, 37, nb0, nb0, ix0⟩] := by rfl
theorem ex_n1 : numT 1 (bareQ 118) = ⟨#[49]⟩ := by decide +kernel
theorem ex_n2 : numT 2 (bareQ 118) = ⟨#[50]⟩ := by decide +kernel
theorem ex_n3 : numT 3 (bareQ 118) = ⟨#[51]⟩ := by decide +kernel
theorem ex_ext : bT [] ((insL [⟨#[105, 110, 116]⟩] [⟨#[49]⟩] 1).flatMap (·.data.toList)) = ⟨#[37, 33, 40, 69, 88, 84, 82, 65, 32, 105, 110, 116, 61, 49, 41]⟩ := by decide +kernel
theorem ex_x1 : padS (cutS ⟨#[97]⟩ (min (bareQ 118).prec 1000)) (bareQ 118).mi (bareQ 118).z (bareQ 118).wid = ⟨#[97]⟩ := by decide +kernel
theorem ex_x2 : padS (cutS ⟨#[98]⟩ (min (bareQ 118).prec 1000)) (bareQ 118).mi (bareQ 118).z (bareQ 118).wid = ⟨#[98]⟩ := by decide +kernel
end Go.Proofs.YtjfmhghpkefihaaGreatDoor

/- printer: the document's examples; a format without a % is printed as it is. -/
namespace Go.Proofs.YtjfmhghpkefihaaGreatDoor
open Go.RowKit
set_option linter.unusedVariables false
set_option linter.unusedSimpArgs false

theorem flat8 : ∀ (ds : List (List Value)) (_ : ∀ d ∈ ds, d.length = 8) (i : Nat) (d : List Value) (j : Nat) (u : Value), ds[i]? = some d → d[j]? = some u → ds.flatten[i * 8 + j]? = some u
  | [], _, _, _, _, _, h, _ => by simp at h
  | q :: t, h8, 0, d, j, u, h, hu => by
    simp at h
    subst h
    have hj : j < q.length := (List.getElem?_eq_some_iff.1 hu).1
    rw [List.flatten_cons, Nat.zero_mul, Nat.zero_add, List.getElem?_append_left hj]
    exact hu
  | q :: t, h8, i + 1, d, j, u, h, hu => by
    have hl : q.length = 8 := h8 q (List.mem_cons_self ..)
    rw [List.flatten_cons, List.getElem?_append_right (by rw [hl]; omega), hl, show (i + 1) * 8 + j - 8 = i * 8 + j by omega]
    exact flat8 t (fun d hd => h8 d (List.mem_cons_of_mem _ hd)) i d j u (by simpa using h) hu
/-- The cells d are those of a descriptor without parts whose value is u. -/
def AgOK (d : List Value) (u : Value) : Prop := (∃ (kk : Int) (ty : ByteArray) (bt im : Int) (tx : ByteArray) (hk' : Int), d = [.int .i64 kk, .string ty, .int .u64 bt, .int .u64 im, .string tx, .slice none 0 0, .slice none 0 0, .int .i64 hk']) ∧ (∃ t x, u = .iface t x) ∧ ∀ W, Calls Tryz.prog 21 #[.agg d.toArray] W fun e w' => e = .returned u ∧ Below W.heap.size W w'
abbrev cI (n : Int) : List Value := [.int .i64 6, .string ⟨#[]⟩, .int .u64 n, .int .u64 0, .string ⟨#[]⟩, .slice none 0 0, .slice none 0 0, .int .i64 0]
abbrev cX (s : ByteArray) : List Value := [.int .i64 16, .string ⟨#[]⟩, .int .u64 0, .int .u64 0, .string s, .slice none 0 0, .slice none 0 0, .int .i64 0]
theorem ag_I (n : Int) (h0 : 0 ≤ n) (h1 : n < 9223372036854775808) : AgOK (cI n) (VI 0 n) := ⟨⟨_, _, _, _, _, _, rfl⟩, ⟨_, _, rfl⟩, fun W => valueOf_I 0 n W h0 h1 (by decide)⟩
theorem ag_X (s : ByteArray) (hs : s.size ≤ 1024) : AgOK (cX s) (VX 0 s) := ⟨⟨_, _, _, _, _, _, rfl⟩, ⟨_, _, rfl⟩, fun W => valueOf_X 0 s W hs (by decide)⟩
theorem begun_l (ags : List (List Value × Value)) (hok : ∀ a ∈ ags, AgOK a.1 a.2) (h16 : ags.length ≤ 16) {w : World} {C M A : Nat} (hc : IsCall w C M 0) (he : Esc w) (hk : KN w) (hC : C < w.heap.size) (hM : M < w.heap.size) (hA : A < w.heap.size)
    (hcell : ∀ j u, (ags.map Prod.fst).flatten[j]? = some u → w.cell? ⟨A, j, none⟩ = some u) :
    Calls Tryz.prog 15 #[.pointer (some ⟨C, 0, none⟩), .int .i64 0, .slice (some ⟨A, 0, none⟩) ags.length ags.length] w fun e w' => ∃ g av, e = .returned (.pointer (some ⟨g, 0, none⟩)) ∧ w.heap.size ≤ g ∧ En w' g C M [] 0 av (ags.map Prod.snd) 1 ∧ Below w.heap.size w w' := by
  have h8 : ∀ d ∈ ags.map Prod.fst, d.length = 8 := fun d hd => by
    obtain ⟨a, ha, rfl⟩ := List.mem_map.1 hd
    obtain ⟨_, _, _, _, _, _, e⟩ := (hok a ha).1
    rw [e]
    rfl
  have := begun_any w C M 0 A ags.length (ags.map Prod.fst) (ags.map Prod.snd) hc he hk hC hM hA (by simp) (by simpa using h16) (by simp) (by unfold maxLen; omega) (fun i d hd => ?_) (fun i d u hd hu => ?_)
  · rw [List.length_map] at this
    exact this
  · rw [List.getElem?_map] at hd
    obtain ⟨a, ha, rfl⟩ := Option.map_eq_some_iff.1 hd
    exact ⟨(hok a (List.mem_of_getElem? ha)).1, fun j u hu => hcell _ _ (flat8 _ h8 i a.1 j u (by rw [List.getElem?_map, ha]; rfl) hu)⟩
  · rw [List.getElem?_map] at hd hu
    obtain ⟨a, ha, rfl⟩ := Option.map_eq_some_iff.1 hd
    rw [ha] at hu
    obtain rfl := Option.some.inj hu
    exact (hok a (List.mem_of_getElem? ha)).2
theorem args_up {w w' : World} {A : Nat} {cs : List Value} (h : ∀ j u, cs[j]? = some u → w.cell? ⟨A, j, none⟩ = some u) (b : Below w.heap.size w w') : ∀ j u, cs[j]? = some u → w'.cell? ⟨A, j, none⟩ = some u := fun j u hu => up_cell b (h j u hu)
abbrev p1 : Pc := ⟨1, [37, 42, 100], fl0, -1, 100, ⟨2, 0, ix0⟩, nb0, ix0⟩
abbrev p2 : Pc := ⟨1, [37, 37], fl0, -1, 37, nb0, nb0, ix0⟩
theorem spr_star (w : World) (A : Nat) (he : Esc w) (hk : KN w) (hA : A < w.heap.size) (hcell : ∀ j u, (cI 5 ++ cI 1)[j]? = some u → w.cell? ⟨A, j, none⟩ = some u) :
    Calls Tryz.prog 5 #[.slice none 0 0, .string ⟨#[37, 42, 100, 37, 37]⟩, .slice (some ⟨A, 0, none⟩) 2 2] w fun e w' => e = .returned (.string ⟨#[32, 32, 32, 32, 49, 37]⟩) ∧ Below w.heap.size w w' := by
  refine sprintf_of _ _ _ w fun W C M bW hc hC hM => ?_
  have hat := at_of ⟨#[37, 42, 100, 37, 37]⟩ (.slice (some ⟨A, 0, none⟩) 2 2) [VI 0 5, VI 0 1] (((numT 1 ⟨false, false, false, false, false, 5, -1, 100⟩).data.toList ++ [37]) ++ []) C M W (by decide +kernel)
    (begun_l [(cI 5, VI 0 5), (cI 1, VI 0 1)] (by
      intro a ha
      simp only [List.mem_cons, List.not_mem_nil, or_false] at ha
      rcases ha with rfl | rfl
      · exact ag_I 5 (by decide) (by decide)
      · exact ag_I 1 (by decide) (by decide)) (by decide) hc (he.below bW) (hk.up bW) hC hM (Nat.lt_of_lt_of_le hA bW.size) (args_up hcell bW)) (fun g av V hE => ?_)
  · rw [List.append_nil, ex_star] at hat
    exact hat
  · refine (format_of ⟨#[37, 42, 100, 37, 37]⟩ (by decide) [p1, p2] ex_pr (by
      intro p hp
      simp only [List.mem_cons, List.not_mem_nil, or_false] at hp
      rcases hp with rfl | rfl
      · exact ⟨rfl, rfl, rfl⟩
      · exact ⟨rfl, rfl, rfl⟩) ((numT 1 ⟨false, false, false, false, false, 5, -1, 100⟩).data.toList ++ [37]) [] hE (nx' := 3) ⟨(numT 1 ⟨false, false, false, false, false, 5, -1, 100⟩).data.toList, [37], 3, ?_, ⟨[37], [], 3, ?_, ⟨rfl, rfl⟩, rfl⟩, rfl⟩ (Or.inr (by decide +kernel)) (by decide +kernel) (fun X hX => extra_none hX (by decide))).mono fun e w' h => ⟨h.1, _, h.2⟩
    · intro X l EX hl
      exact lpiece_dir p1 (ba p1.text) rfl _ 3 EX fun X' EX' => dir_show p1 (ba p1.text) (spW p1 5) 1 _ _ (numT 1 (spW p1 5)) 0 EX' (fun Y EY => sized_star p1 (ba p1.text) 0 0 rfl rfl rfl rfl rfl 5 0 EY rfl (by decide) (by decide) (by decide)) (by decide) rfl rfl rfl (by decide) (fun Y EY => shown_I 1 (spW p1 5) rfl (by decide) EY.v (by decide) (by decide)) (by rw [Lib.size_eq]; exact Nat.le_trans hl (by decide))
    · intro X l EX hl
      exact lpiece_dir p2 (ba p2.text) rfl _ 3 EX fun X' EX' => dir_pct p2 (ba p2.text) rfl rfl rfl EX' (by have : l.length + 1 ≤ 900000000 := hl; omega)
theorem spr_ext (w : World) (A : Nat) (he : Esc w) (hk : KN w) (hA : A < w.heap.size) (hcell : ∀ j u, (cI 1)[j]? = some u → w.cell? ⟨A, j, none⟩ = some u) :
    Calls Tryz.prog 5 #[.slice none 0 0, .string ⟨#[120]⟩, .slice (some ⟨A, 0, none⟩) 1 1] w fun e w' => e = .returned (.string ⟨#[120, 37, 33, 40, 69, 88, 84, 82, 65, 32, 105, 110, 116, 61, 49, 41]⟩) ∧ Below w.heap.size w w' := by
  refine sprintf_of _ _ _ w fun W C M bW hc hC hM => ?_
  have hat := at_of ⟨#[120]⟩ (.slice (some ⟨A, 0, none⟩) 1 1) [VI 0 1] ([120] ++ [37, 33, 40, 69, 88, 84, 82, 65, 32, 105, 110, 116, 61, 49, 41]) C M W (by decide)
    (begun_l [(cI 1, VI 0 1)] (by
      intro a ha
      simp only [List.mem_cons, List.not_mem_nil, or_false] at ha
      subst ha
      exact ag_I 1 (by decide) (by decide)) (by decide) hc (he.below bW) (hk.up bW) hC hM (Nat.lt_of_lt_of_le hA bW.size) (args_up (by simpa using hcell) bW)) (fun g av V hE => ?_)
  · rw [show txt ([120] ++ [37, 33, 40, 69, 88, 84, 82, 65, 32, 105, 110, 116, 61, 49, 41]) = ⟨#[120, 37, 33, 40, 69, 88, 84, 82, 65, 32, 105, 110, 116, 61, 49, 41]⟩ by decide +kernel] at hat
    exact hat
  · refine (format_of ⟨#[120]⟩ (by decide) [lit [120]] rfl (by
      intro p hp
      simp only [List.mem_cons, List.not_mem_nil, or_false] at hp
      subst hp
      exact ⟨rfl, rfl, rfl⟩) [120] _ hE (nx' := 1) ⟨[120], [], 1, ?_, ⟨rfl, rfl⟩, rfl⟩ (Or.inl (by decide)) (by decide) (fun X hX => extra_one 1 (by decide) (by decide) hX ⟨#[37, 33, 40, 69, 88, 84, 82, 65, 32, 105, 110, 116, 61, 49, 41]⟩ (by rw [ex_n1]; exact ex_ext.symm) (by rw [ex_n1]; decide) (by decide) (by decide))).mono fun e w' h => ⟨h.1, _, h.2⟩
    intro X l EX hl
    exact lpiece_lit (lit [120]) (ba [120]) rfl EX (by have : l.length + 1 ≤ 900000000 := hl; show l.length + 1 ≤ _; omega)
theorem spr_list (w : World) (A : Nat) (he : Esc w) (hk : KN w) (hA : A < w.heap.size) (hcell : ∀ j u, (cI 1 ++ (cI 2 ++ (cX ⟨#[97]⟩ ++ (cX ⟨#[98]⟩ ++ cI 3))))[j]? = some u → w.cell? ⟨A, j, none⟩ = some u) :
    Calls Tryz.prog 10 #[.slice none 0 0, .slice (some ⟨A, 0, none⟩) 5 5] w fun e w' => e = .returned (.string ⟨#[49, 32, 50, 97, 98, 51]⟩) ∧ Below w.heap.size w w' := by
  have hsp := sprint_of (.slice (some ⟨A, 0, none⟩) 5 5) [VI 0 1, VI 0 2, VX 0 ⟨#[97]⟩, VX 0 ⟨#[98]⟩, VI 0 3] [49, 32, 50, 97, 98, 51] w (by decide) (fun W C M bW hc hC hM => begun_l [(cI 1, VI 0 1), (cI 2, VI 0 2), (cX ⟨#[97]⟩, VX 0 ⟨#[97]⟩), (cX ⟨#[98]⟩, VX 0 ⟨#[98]⟩), (cI 3, VI 0 3)] (by
      intro a ha
      simp only [List.mem_cons, List.not_mem_nil, or_false] at ha
      rcases ha with rfl | rfl | rfl | rfl | rfl
      · exact ag_I 1 (by decide) (by decide)
      · exact ag_I 2 (by decide) (by decide)
      · exact ag_X _ (by decide)
      · exact ag_X _ (by decide)
      · exact ag_I 3 (by decide) (by decide)) (by decide) hc (he.below bW) (hk.up bW) hC hM (Nat.lt_of_lt_of_le hA bW.size) (args_up (by simpa using hcell) bW)) (fun C M g av W hE => ?_)
  · rw [show txt [49, 32, 50, 97, 98, 51] = ⟨#[49, 32, 50, 97, 98, 51]⟩ by decide +kernel] at hsp
    exact hsp
  · refine list_of [⟨_, _, 6, ⟨#[49]⟩⟩, ⟨_, _, 6, ⟨#[50]⟩⟩, ⟨_, _, 16, ⟨#[97]⟩⟩, ⟨_, _, 16, ⟨#[98]⟩⟩, ⟨_, _, 6, ⟨#[51]⟩⟩] (by decide) (by decide) hE ?_ ?_ _ rfl (by decide)
    · intro q hq
      simp only [List.mem_cons, List.not_mem_nil, or_false] at hq
      rcases hq with rfl | rfl | rfl | rfl | rfl
      · exact kq_I 0 1
      · exact kq_I 0 2
      · exact kq_X 0 _
      · exact kq_X 0 _
      · exact kq_I 0 3
    · intro q hq X l EX
      simp only [List.mem_cons, List.not_mem_nil, or_false] at hq
      rcases hq with rfl | rfl | rfl | rfl | rfl
      · have := shown_I 1 (bareQ 118) rfl (by decide) EX.v (by decide) (by decide)
        rw [ex_n1] at this
        exact this
      · have := shown_I 2 (bareQ 118) rfl (by decide) EX.v (by decide) (by decide)
        rw [ex_n2] at this
        exact this
      · have := shown_X ⟨#[97]⟩ (bareQ 118) rfl rfl (by decide) EX.v (by decide)
        rw [ex_x1] at this
        exact this
      · have := shown_X ⟨#[98]⟩ (bareQ 118) rfl rfl (by decide) EX.v (by decide)
        rw [ex_x2] at this
        exact this
      · have := shown_I 3 (bareQ 118) rfl (by decide) EX.v (by decide) (by decide)
        rw [ex_n3] at this
        exact this
theorem spr_lit (w : World) (s : ByteArray) (he : Esc w) (hk : KN w) (hs : s.size ≤ 100000) (hno : ∀ x ∈ s.data.toList, noPc x = true) :
    Calls Tryz.prog 5 #[.slice none 0 0, .string s, .slice none 0 0] w fun e w' => e = .returned (.string (txt s.data.toList)) ∧ Below w.heap.size w w' := by
  have hsl : s.data.toList.length = s.size := by rw [Array.length_toList]; rfl
  refine sprintf_of _ _ _ w fun W C M bW hc hC hM => ?_
  have hat := at_of s (.slice none 0 0) [] (s.data.toList ++ []) C M W (by rw [List.append_nil, hsl]; omega) (begun_nil W C M 0 hc (he.below bW) (hk.up bW) hC hM) (fun g av V hE => ?_)
  · rw [List.append_nil] at hat
    exact hat
  · by_cases h0 : s.data.toList = []
    · rw [h0]
      exact (format_of s hs [] (by rw [h0]; rfl) (by simp) [] [] hE (nx' := 1) ⟨rfl, rfl⟩ (Or.inl (by decide)) (by decide) (fun X hX => extra_none hX (by decide))).mono fun e w' h => ⟨h.1, _, h.2⟩
    · refine (format_of s hs [lit s.data.toList] (prs_lit hno h0) (by
        intro p hp
        simp only [List.mem_cons, List.not_mem_nil, or_false] at hp
        subst hp
        exact ⟨rfl, rfl, rfl⟩) s.data.toList [] hE (nx' := 1) ⟨s.data.toList, [], 1, ?_, ⟨rfl, rfl⟩, by simp⟩ (Or.inl (by simp)) (by rw [hsl]; exact hs) (fun X hX => extra_none hX (by decide))).mono fun e w' h => ⟨h.1, _, h.2⟩
      intro X l EX hl
      exact lpiece_lit (lit s.data.toList) (ba s.data.toList) rfl EX (by rw [Lib.size_eq]; exact Nat.le_trans hl (by decide))
end Go.Proofs.YtjfmhghpkefihaaGreatDoor

/- printer: lives. -/
namespace Go.Proofs.YtjfmhghpkefihaaGreatDoor
open Go.RowKit
set_option linter.unusedVariables false
set_option linter.unusedSimpArgs false

theorem lv_star (w V : World) (he : Esc w) (hk : KN w) (hV : Below w.heap.size w V) : Calls Tryz.prog 5 #[.slice none 0 0, .string ⟨#[37, 42, 100, 37, 37]⟩, .slice (some ⟨V.heap.size, 0, none⟩) 2 2] (V.alloc (.cells #[.int .i64 6, .string ⟨#[]⟩, .int .u64 5, .int .u64 0, .string ⟨#[]⟩, .slice none 0 0, .slice none 0 0, .int .i64 0, .int .i64 6, .string ⟨#[]⟩, .int .u64 1, .int .u64 0, .string ⟨#[]⟩, .slice none 0 0, .slice none 0 0, .int .i64 0] 29)) fun e w' => ∃ y : Cl w, e = .returned (.string ⟨#[32, 32, 32, 32, 49, 37]⟩) ∧ w' = y.w := by
  have b1 : Below w.heap.size w (V.alloc (.cells #[.int .i64 6, .string ⟨#[]⟩, .int .u64 5, .int .u64 0, .string ⟨#[]⟩, .slice none 0 0, .slice none 0 0, .int .i64 0, .int .i64 6, .string ⟨#[]⟩, .int .u64 1, .int .u64 0, .string ⟨#[]⟩, .slice none 0 0, .slice none 0 0, .int .i64 0] 29)) := hV.alloc hV.size _
  have hB : Blk (V.alloc (.cells #[.int .i64 6, .string ⟨#[]⟩, .int .u64 5, .int .u64 0, .string ⟨#[]⟩, .slice none 0 0, .slice none 0 0, .int .i64 0, .int .i64 6, .string ⟨#[]⟩, .int .u64 1, .int .u64 0, .string ⟨#[]⟩, .slice none 0 0, .slice none 0 0, .int .i64 0] 29)) V.heap.size [.int .i64 6, .string ⟨#[]⟩, .int .u64 5, .int .u64 0, .string ⟨#[]⟩, .slice none 0 0, .slice none 0 0, .int .i64 0, .int .i64 6, .string ⟨#[]⟩, .int .u64 1, .int .u64 0, .string ⟨#[]⟩, .slice none 0 0, .slice none 0 0, .int .i64 0] := Blk.new V _ 29
  refine (spr_star _ V.heap.size (he.below b1) (hk.up b1) hB.b hB.c).mono ?_
  rintro e w' ⟨rfl, b2⟩
  exact ⟨⟨w', b1.trans (b2.mono b1.size)⟩, rfl, rfl⟩
theorem lv_ext (w V : World) (he : Esc w) (hk : KN w) (hV : Below w.heap.size w V) : Calls Tryz.prog 5 #[.slice none 0 0, .string ⟨#[120]⟩, .slice (some ⟨V.heap.size, 0, none⟩) 1 1] (V.alloc (.cells #[.int .i64 6, .string ⟨#[]⟩, .int .u64 1, .int .u64 0, .string ⟨#[]⟩, .slice none 0 0, .slice none 0 0, .int .i64 0] 29)) fun e w' => ∃ y : Cl w, e = .returned (.string ⟨#[120, 37, 33, 40, 69, 88, 84, 82, 65, 32, 105, 110, 116, 61, 49, 41]⟩) ∧ w' = y.w := by
  have b1 : Below w.heap.size w (V.alloc (.cells #[.int .i64 6, .string ⟨#[]⟩, .int .u64 1, .int .u64 0, .string ⟨#[]⟩, .slice none 0 0, .slice none 0 0, .int .i64 0] 29)) := hV.alloc hV.size _
  have hB : Blk (V.alloc (.cells #[.int .i64 6, .string ⟨#[]⟩, .int .u64 1, .int .u64 0, .string ⟨#[]⟩, .slice none 0 0, .slice none 0 0, .int .i64 0] 29)) V.heap.size [.int .i64 6, .string ⟨#[]⟩, .int .u64 1, .int .u64 0, .string ⟨#[]⟩, .slice none 0 0, .slice none 0 0, .int .i64 0] := Blk.new V _ 29
  refine (spr_ext _ V.heap.size (he.below b1) (hk.up b1) hB.b hB.c).mono ?_
  rintro e w' ⟨rfl, b2⟩
  exact ⟨⟨w', b1.trans (b2.mono b1.size)⟩, rfl, rfl⟩
theorem lv_list (w V : World) (he : Esc w) (hk : KN w) (hV : Below w.heap.size w V) : Calls Tryz.prog 10 #[.slice none 0 0, .slice (some ⟨V.heap.size, 0, none⟩) 5 5] (V.alloc (.cells #[.int .i64 6, .string ⟨#[]⟩, .int .u64 1, .int .u64 0, .string ⟨#[]⟩, .slice none 0 0, .slice none 0 0, .int .i64 0, .int .i64 6, .string ⟨#[]⟩, .int .u64 2, .int .u64 0, .string ⟨#[]⟩, .slice none 0 0, .slice none 0 0, .int .i64 0, .int .i64 16, .string ⟨#[]⟩, .int .u64 0, .int .u64 0, .string ⟨#[97]⟩, .slice none 0 0, .slice none 0 0, .int .i64 0, .int .i64 16, .string ⟨#[]⟩, .int .u64 0, .int .u64 0, .string ⟨#[98]⟩, .slice none 0 0, .slice none 0 0, .int .i64 0, .int .i64 6, .string ⟨#[]⟩, .int .u64 3, .int .u64 0, .string ⟨#[]⟩, .slice none 0 0, .slice none 0 0, .int .i64 0] 29)) fun e w' => ∃ y : Cl w, e = .returned (.string ⟨#[49, 32, 50, 97, 98, 51]⟩) ∧ w' = y.w := by
  have b1 : Below w.heap.size w (V.alloc (.cells #[.int .i64 6, .string ⟨#[]⟩, .int .u64 1, .int .u64 0, .string ⟨#[]⟩, .slice none 0 0, .slice none 0 0, .int .i64 0, .int .i64 6, .string ⟨#[]⟩, .int .u64 2, .int .u64 0, .string ⟨#[]⟩, .slice none 0 0, .slice none 0 0, .int .i64 0, .int .i64 16, .string ⟨#[]⟩, .int .u64 0, .int .u64 0, .string ⟨#[97]⟩, .slice none 0 0, .slice none 0 0, .int .i64 0, .int .i64 16, .string ⟨#[]⟩, .int .u64 0, .int .u64 0, .string ⟨#[98]⟩, .slice none 0 0, .slice none 0 0, .int .i64 0, .int .i64 6, .string ⟨#[]⟩, .int .u64 3, .int .u64 0, .string ⟨#[]⟩, .slice none 0 0, .slice none 0 0, .int .i64 0] 29)) := hV.alloc hV.size _
  have hB : Blk (V.alloc (.cells #[.int .i64 6, .string ⟨#[]⟩, .int .u64 1, .int .u64 0, .string ⟨#[]⟩, .slice none 0 0, .slice none 0 0, .int .i64 0, .int .i64 6, .string ⟨#[]⟩, .int .u64 2, .int .u64 0, .string ⟨#[]⟩, .slice none 0 0, .slice none 0 0, .int .i64 0, .int .i64 16, .string ⟨#[]⟩, .int .u64 0, .int .u64 0, .string ⟨#[97]⟩, .slice none 0 0, .slice none 0 0, .int .i64 0, .int .i64 16, .string ⟨#[]⟩, .int .u64 0, .int .u64 0, .string ⟨#[98]⟩, .slice none 0 0, .slice none 0 0, .int .i64 0, .int .i64 6, .string ⟨#[]⟩, .int .u64 3, .int .u64 0, .string ⟨#[]⟩, .slice none 0 0, .slice none 0 0, .int .i64 0] 29)) V.heap.size [.int .i64 6, .string ⟨#[]⟩, .int .u64 1, .int .u64 0, .string ⟨#[]⟩, .slice none 0 0, .slice none 0 0, .int .i64 0, .int .i64 6, .string ⟨#[]⟩, .int .u64 2, .int .u64 0, .string ⟨#[]⟩, .slice none 0 0, .slice none 0 0, .int .i64 0, .int .i64 16, .string ⟨#[]⟩, .int .u64 0, .int .u64 0, .string ⟨#[97]⟩, .slice none 0 0, .slice none 0 0, .int .i64 0, .int .i64 16, .string ⟨#[]⟩, .int .u64 0, .int .u64 0, .string ⟨#[98]⟩, .slice none 0 0, .slice none 0 0, .int .i64 0, .int .i64 6, .string ⟨#[]⟩, .int .u64 3, .int .u64 0, .string ⟨#[]⟩, .slice none 0 0, .slice none 0 0, .int .i64 0] := Blk.new V _ 29
  refine (spr_list _ V.heap.size (he.below b1) (hk.up b1) hB.b hB.c).mono ?_
  rintro e w' ⟨rfl, b2⟩
  exact ⟨⟨w', b1.trans (b2.mono b1.size)⟩, rfl, rfl⟩
set_option maxRecDepth 1000000 in
set_option maxHeartbeats 4000000 in
theorem lives14_any (w : World) (he : Esc w) (hk : KN w) : Calls Tryz.prog 6 #[] w fun e w' => e = .returned (.bool true) ∧ Below w.heap.size w w' := by
  have hn := fun n h0 h1 w => num14_any n h0 h1 w
  have ht := fun s w => text14_any s w
  have h1 := fun V hV => lv_star w V he hk hV
  have h2 := fun V hV => lv_ext w V he hk hV
  have h3 := fun V hV => lv_list w V he hk hV
  go_enter Tryz.func6, Tryz.ntmps6
  go_wp2_with (first
    | (go_at_call 9; (first | refine (Cl.go (hn _ (by decide) (by decide) _)).mono ?_ | refine (Cl.go0 (hn _ (by decide) (by decide) _)).mono ?_); rintro e w9 ⟨y, rfl, rfl⟩)
    | (go_at_call 11; refine (Cl.go (ht _ _)).mono ?_; rintro e w9 ⟨y, rfl, rfl⟩)
    | (go_at_call_of 5 (42 : UInt8); refine (h1 _ (Cl.below _)).mono ?_; rintro e w9 ⟨y, rfl, rfl⟩)
    | (go_at_call_of 5 (120 : UInt8); refine (h2 _ (Cl.below _)).mono ?_; rintro e w9 ⟨y, rfl, rfl⟩)
    | (go_at_call 10; refine (h3 _ (Cl.below _)).mono ?_; rintro e w9 ⟨y, rfl, rfl⟩))
  go_ret
  exact ⟨rfl, y.below⟩
end Go.Proofs.YtjfmhghpkefihaaGreatDoor

/- PrinterLits: a format without a % is printed as it is. -/
namespace Go.Proofs.YtjfmhghpkefihaaGreatDoor
open Go.RowKit
set_option linter.unusedVariables false
set_option linter.unusedSimpArgs false

/-- No % is among the bytes. -/
def NoP (T : ByteArray) : Prop := ∀ x ∈ T.data.toList, noPc x = true
theorem NoP.add {T : ByteArray} (h : NoP T) (s : ByteArray) (k : Nat) (hk : k < s.size) (hb : ¬ (s.data[k]).toNat = 37) : NoP (T ++ s.extract k (k + 1)) := by
  intro x hx
  rw [ByteArray.data_append, Array.toList_append, List.mem_append] at hx
  rcases hx with hx | hx
  · exact h x hx
  · rw [ByteArray.data_extract] at hx
    have : x = s.data[k] := by
      have hm : x ∈ s.data.extract k (k + 1) := Array.mem_toList_iff.1 hx
      obtain ⟨i, hi, e⟩ := Array.mem_iff_getElem.1 hm
      rw [Array.getElem_extract] at e
      have : i = 0 := by simp at hi; omega
      subst this
      exact e.symm
    rw [this]
    unfold noPc
    exact decide_eq_true hb
theorem txt_few {T : ByteArray} (h : ¬ (4096 : Int) < T.size) : txt T.data.toList = T := by
  unfold txt
  rw [if_neg (by rw [Array.length_toList]; have : T.size = T.data.size := rfl; omega)]
theorem txt_many {T : ByteArray} (h : (4096 : Int) < T.size) : txt T.data.toList = T.extract 0 4096 ++ ⟨#[37, 33, 40, 84, 79, 79, 76, 79, 78, 71, 41]⟩ := by
  unfold txt
  rw [if_pos (by rw [Array.length_toList]; have : T.size = T.data.size := rfl; omega)]
  congr 1
  apply ByteArray.ext
  rw [ByteArray.data_extract]
  apply Array.ext'
  rw [Array.toList_extract]
  simp
set_option maxRecDepth 1000000 in
set_option maxHeartbeats 4000000 in
theorem printerLits_walk (s : ByteArray) (times : Int) (ht : (Lit.int .i64 times).wf = true) (w : World) (hk : KN w) (he : Esc w) : Calls Tryz.prog 3 #[.string s, .int .i64 times] w fun e w' => e = .returned (.bool true) ∧ Below w.heap.size w w' := by
  have hL := fun W (hW : Below w.heap.size w W) => lives14_any W (he.below hW) (hk.up hW)
  have hS := fun T h1 h2 => spr_lit w T he hk h1 h2
  obtain ⟨m, hm⟩ : ∃ m, max 1 (min times 200) = m := ⟨_, rfl⟩
  have hm1 : m ≤ 200 := by omega
  clear ht
  go_enter Tryz.func3, Tryz.ntmps3
  go_wp2
  go_loopg [5, 6, 7] 200 (fun gg z5 z6 z7 wr => ∃ (T : ByteArray) (i : Nat), z5 = .string T ∧ z6 = .int .i64 i ∧ wr = w ∧ i + gg = 200 ∧ NoP T ∧ T.size ≤ 7000)
  case atStart => exact ⟨⟨#[]⟩, 0, rfl, rfl, rfl, rfl, fun x hx => by simp at hx, by decide⟩
  case round =>
    obtain ⟨T, i, rfl, rfl, rfl, hig, hT, hTs⟩ := hrel
    have hTI : (T.size : Int) ≤ 7000 := by omega
    have hiI : (i : Int) ≤ 200 := by omega
    by_cases hc1 : (i : Int) < m
    · by_cases hc2 : (T.size : Int) < 6000
      · go_wp2
        obtain ⟨T0, hT0⟩ : ∃ T0 : Nat, T.size = T0 := ⟨_, rfl⟩
        have hT0' : T.size ≤ 5999 := by omega
        clear hT0
        obtain ⟨G, hG⟩ : ∃ G, G = gk := ⟨_, rfl⟩
        have HG : Hid (G = gk) := hG
        clear hG
        go_loopg [5, 7] 1000 (fun gg z5 z7 wr2 => ∃ (U : ByteArray) (k : Nat), z5 = .string U ∧ z7 = .int .i64 k ∧ wr2 = wr ∧ k + gg = 1000 ∧ NoP U ∧ U.size ≤ 5999 + k)
        case atStart => exact ⟨T, 0, rfl, rfl, rfl, rfl, hT, by omega⟩
        case round =>
          obtain ⟨U, k, rfl, rfl, rfl, hkg, hU, hUs⟩ := hrel
          have hkI : (k : Int) ≤ 1000 := by omega
          have hUI : (U.size : Int) ≤ 7000 := by omega
          by_cases hk1 : k < s.size
          · by_cases hk2 : k < 1000
            · have hk1I : (k : Int) < s.size := by omega
              have hk2I : (k : Int) < 1000 := by omega
              by_cases hb : (s[k]).toNat = 37
              · have hbI : (((s[k]).toNat : Int) != 37) = false := by simp [hb]
                have HB : Hid ((s[k]).toNat = 37) := hb
                clear hb
                go_wp2
                go_roundg (gk - 1)
                case measure => omega
                case rel => exact ⟨U, k + 1, rfl, by go_num, rfl, by omega, hU, by omega⟩
              · have hbI : (((s[k]).toNat : Int) != 37) = true := by simp; omega
                have hE1 : (s.extract k (k + 1)).size = 1 := by simp; omega
                have hU2 := hU.add s k hk1 hb
                have hU3 : (U ++ s.extract k (k + 1)).size ≤ 5999 + (k + 1) := by rw [ByteArray.size_append, hE1]; omega
                have hsum : ¬ 9223372036854775807 < U.size + (s.extract k (k + 1)).size := by omega
                clear hE1
                go_wp2
                go_roundg (gk - 1)
                case measure => omega
                case rel => exact ⟨_, k + 1, rfl, by go_num, rfl, by omega, hU2, hU3⟩
            · have hk1I : (k : Int) < s.size := by omega
              have hk2I : ¬ (k : Int) < 1000 := by omega
              go_wp2
              go_roundg (G - 1)
              case measure => have := HG.out; omega
              case rel => exact ⟨U, i + 1, rfl, by go_num, rfl, by have := HG.out; omega, hU, by omega⟩
          · have hk1I : ¬ (k : Int) < s.size := by omega
            go_wp2
            go_roundg (G - 1)
            case measure => have := HG.out; omega
            case rel => exact ⟨U, i + 1, rfl, by go_num, rfl, by have := HG.out; omega, hU, by omega⟩
      · by_cases hL4 : (4096 : Int) < T.size
        · have hC := hS T (by omega) hT
          rw [txt_many hL4] at hC
          have hes : (T.extract 0 4096).size = 4096 := by simp; omega
          have hsum : ¬ 9223372036854775807 < (T.extract 0 4096).size + 11 := by omega
          clear hes
          go_wp2_with (first | (go_at_call 5; refine hC.mono ?_; rintro e W1 ⟨rfl, b1⟩; have hL1 := hL W1 b1) | (go_at_call 6; refine hL1.mono ?_; rintro e W2 ⟨rfl, b2⟩))
          go_ret
          exact ⟨rfl, b1.trans (b2.mono b1.size)⟩
        · exfalso; omega
    · by_cases hL4 : (4096 : Int) < T.size
      · have hC := hS T (by omega) hT
        rw [txt_many hL4] at hC
        have hes : (T.extract 0 4096).size = 4096 := by simp; omega
        have hsum : ¬ 9223372036854775807 < (T.extract 0 4096).size + 11 := by omega
        clear hes
        go_wp2_with (first | (go_at_call 5; refine hC.mono ?_; rintro e W1 ⟨rfl, b1⟩; have hL1 := hL W1 b1) | (go_at_call 6; refine hL1.mono ?_; rintro e W2 ⟨rfl, b2⟩))
        go_ret
        exact ⟨rfl, b1.trans (b2.mono b1.size)⟩
      · have hC := hS T (by omega) hT
        rw [txt_few hL4] at hC
        go_wp2_with (first | (go_at_call 5; refine hC.mono ?_; rintro e W1 ⟨rfl, b1⟩; have hL1 := hL W1 b1) | (go_at_call 6; refine hL1.mono ?_; rintro e W2 ⟨rfl, b2⟩))
        go_ret
        exact ⟨rfl, b1.trans (b2.mono b1.size)⟩
end Go.Proofs.YtjfmhghpkefihaaGreatDoor

/- (Layer 14: five listed variables, two of them pinned.) What the walks read of them; a start in which they lie. -/
namespace Go.Proofs.YtjfmhghpkefihaaGreatDoor
open Go.ChangeShapes Go.WideShapes Go.ChangeAt Go.RowKit

theorem laid.own : ownKnob Tryz.prog.godebug = none := by kernel_rfl
theorem laid.tEsc : (Tryz.prog.globals[2]?).map (·.type) = some 266 := by kernel_rfl
/-- A start in which the listed variable lies meets the condition. -/
theorem laid.door_met (os : Os) (args : Array Value) : laidMetH Tryz.prog Rows.printerLitsRow.laid ((World.laidAll Tryz.prog os Rows.printerLitsRow.laid).forCall (fun _ _ => 0) ⟨#[], args, []⟩).memory := by
  rw [MakeChecks.laidMetH_plain _ _ _ (by kernel_rfl)]
  exact laidMet_laidAll _ (by kernel_rfl) (by kernel_rfl)
/-- The row's condition says that the table lies as the text lays it. -/
theorem kn_of {W : World} (h : laidMetH Tryz.prog Rows.printerLitsRow.laid W) : KN W := by
  rw [MakeChecks.laidMetH_plain _ _ _ (by kernel_rfl)] at h
  obtain ⟨ps, ⟨_, _, _, _, _, _, _, _, _, _, ⟨g', t', cs, fuel, p, q, hg', ht', hvar, hd, _, _⟩, _⟩, _, _⟩ := h
  have hg : Tryz.prog.globalNamed "platen/values.kindNames" = some 0 := by kernel_rfl
  have hty : (Tryz.prog.globals[0]?).map (·.type) = some 131 := by kernel_rfl
  obtain rfl := Option.some.inj (hg.symm.trans hg')
  obtain rfl := Option.some.inj (hty.symm.trans ht')
  obtain ⟨xs, m, -, hx, -, hxl, hf⟩ := DataW.trod_array Tryz.underlying131 hd
  have hce : Tryz.prog.cellsOf 9 = 1 := by kernel_rfl
  intro i s hs
  have hi : i < 23 := by
    have := (List.getElem?_eq_some_iff.1 hs).1
    simpa [kindN] using this
  have hfi := hf i hi
  obtain ⟨y, hy⟩ : ∃ y, xs[i]? = some y := ⟨xs[i]'(by omega), List.getElem?_eq_getElem (by omega)⟩
  rw [hy, hce, Nat.mul_one] at hfi
  obtain ⟨s', hc, hy1, -⟩ := DataW.trod_string Tryz.underlying9 hfi
  have hlist : xs.map (·.1) = kindN.map fun s => (DataW.lit (.string s.data.toList) : DataW Unit) := by
    have h1 : (DataW.agg (kindN.map fun s => (DataW.lit (.string s.data.toList) : DataW Unit)) : DataW Unit) = .agg (xs.map (·.1)) := congrArg Prod.fst hx
    exact (DataW.agg.inj h1).symm
  have h2 : (xs.map (·.1))[i]? = some y.1 := by rw [List.getElem?_map, hy]; rfl
  rw [hlist, List.getElem?_map, hs] at h2
  have h3 : (DataW.lit (.string s.data.toList) : DataW Unit) = y.1 := Option.some.inj h2
  rw [hy1] at h3
  have h4 : s.data.toList = s'.data.toList := Lit.string.inj (DataW.lit.inj h3)
  have h5 : s = s' := by
    obtain ⟨⟨a⟩⟩ := s
    obtain ⟨⟨b⟩⟩ := s'
    simp only at h4
    rw [h4]
  have h6 : cs[i]? = some (.string s') := by
    have := congrArg (·[0]?) hc
    simpa [List.getElem?_take, List.getElem?_drop] using this
  rw [World.var?_cell hg hvar i, h6, h5]
theorem laid.room {W : World} {p : Addr} {v : Value} (h : W.cell? p = some v) : p.block < W.heap.size := by
  rcases Nat.lt_or_ge p.block W.heap.size with h1 | h1
  · exact h1
  · simp [World.cell?, Array.getElem?_eq_none h1] at h
theorem laid.get (l : List Value) (i : Nat) (v : Value) (h : (l.drop i).take 1 = [v]) : l[i]? = some v := by
  have h2 := congrArg (fun x => x[0]?) h
  simpa [List.getElem?_take, List.getElem?_drop] using h2
set_option maxRecDepth 1000000 in
theorem esc_of {W : World} (h : laidMetH Tryz.prog Rows.printerLitsRow.laid W) : Esc W := by
  rw [MakeChecks.laidMetH_plain _ _ _ (by kernel_rfl)] at h
  obtain ⟨ps, ⟨_, _, _, _, _, _, _, _, _, _, ⟨_, _, _, _, _, _, _, _, _, _, ⟨g0, t0, cs0, f0, p0, q0, hg0, ht0, hv0, hd0, _, _⟩, _⟩, _⟩, _, _⟩ := h
  obtain rfl : 2 = g0 := Option.some.inj (Eq.trans (Eq.symm (by kernel_rfl)) hg0)
  obtain rfl := Option.some.inj (laid.tEsc.symm.trans ht0)
  obtain ⟨xs, m1, rfl, hx1, hlen, hn, hel⟩ := DataW.trod_array Tryz.underlying266 hd0
  have c1 : Tryz.prog.cellsOf 21 = 1 := by kernel_rfl
  have c7 : Tryz.prog.cellsOf 266 = 7 := by kernel_rfl
  simp only [Prod.mk.injEq, Rows.laid_platen_quote_escapes, DataW.agg.injEq] at hx1
  have key : ∀ i, i < 7 → W.cell? ⟨2, i, none⟩ = some (.int .i32 (escT i : Nat)) := by
    intro i hi
    have hcell := World.var?_cell hg0 hv0 i
    have h0 := hel i hi
    have hx : ∃ x, xs[i]? = some x ∧ x.1 = .lit (.int .i32 (escT i : Nat)) := by
      match xs, hn, hx1 with
      | [x0, x1, x2, x3, x4, x5, x6], _, hx1 =>
        simp only [List.map_cons, List.map_nil, List.cons.injEq] at hx1
        obtain ⟨⟨e0, e1, e2, e3, e4, e5, e6, -⟩, -⟩ := hx1
        match i, hi with
        | 0, _ => exact ⟨x0, rfl, e0.symm⟩
        | 1, _ => exact ⟨x1, rfl, e1.symm⟩
        | 2, _ => exact ⟨x2, rfl, e2.symm⟩
        | 3, _ => exact ⟨x3, rfl, e3.symm⟩
        | 4, _ => exact ⟨x4, rfl, e4.symm⟩
        | 5, _ => exact ⟨x5, rfl, e5.symm⟩
        | 6, _ => exact ⟨x6, rfl, e6.symm⟩
        | n + 7, hi => omega
    obtain ⟨x, hxi, hxv⟩ := hx
    rw [hxi, c1, Nat.mul_one] at h0
    obtain ⟨k, f1, f2, _⟩ := DataW.trod_int Tryz.underlying21 h0
    rw [f2] at hxv
    have hk : k = (escT i : Nat) := by simpa using hxv
    rw [hk] at f1
    rw [hcell]
    have := laid.get _ _ _ f1
    simpa using this
  exact ⟨laid.room (key 0 (by omega)), key⟩
end Go.Proofs.YtjfmhghpkefihaaGreatDoor
