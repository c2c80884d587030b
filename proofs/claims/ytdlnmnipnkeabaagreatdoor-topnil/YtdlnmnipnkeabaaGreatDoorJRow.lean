/- press: a row of acts without lists is copied. -/
import Derived.Test.YtdlnmnipnkeabaaGreatDoorPt18
import Derived.Test.YtdlnmnipnkeabaaGreatDoorPt23
namespace Go.Proofs.YtdlnmnipnkeabaaGreatDoor
open Go.RowKit
set_option linter.unusedVariables false
set_option linter.unusedSimpArgs false
structure PlA (x : Ac) : Prop where
 l : x.l = .no
 n : x.p.ns = .no
 p : x.p.ps = .no
 k : ¬ (18 ≤ x.p.k ∧ x.p.k ≤ 22)
structure PlH (h : Hk) : Prop where
 a : PlA h.a
 b : PlA h.b
 c : PlA h.c
 d : PlA h.d
theorem hasParts_no (k : Int) (h : ¬ (18 ≤ k ∧ k ≤ 22)) (w : World) : Calls Tryz.prog 47 #[.int .i64 k] w fun e w' => e = .returned (.bool false) ∧ w' = w := by
 have h1 : ¬ k = 18 := by omega
 have h2 : ¬ k = 19 := by omega
 have h3 : ¬ k = 20 := by omega
 have h4 : ¬ k = 21 := by omega
 have h5 : ¬ k = 22 := by omega
 go_enter Tryz.func47, Tryz.ntmps47
 go_wp2
 go_ret
 exact ⟨rfl, rfl⟩
set_option maxRecDepth 1000000 in
set_option maxHeartbeats 8000000 in
theorem rdesc_no (c : Nat) (d : Ds) (hk : ¬ (18 ≤ d.k ∧ d.k ≤ 22)) (hn : d.ns = .no) (hp : d.ps = .no) (w : World) : Calls Tryz.prog 40 #[.pointer (some ⟨c, 0, none⟩), .agg d.v.toArray] w fun e w' => e = .returned (.agg d.v.toArray) ∧ Below w.heap.size w w' := by
 obtain ⟨W1, hW1⟩ : ∃ W1, W1 = (w.alloc (.cells d.v.toArray 29)).alloc (.cells #[.int .i64 0, .string ⟨#[]⟩, .int .u64 0, .int .u64 0, .string ⟨#[]⟩, .slice none 0 0, .slice none 0 0, .int .i64 0] 29) := ⟨_, rfl⟩
 have bd : Blk W1 w.heap.size d.v := by rw [hW1]; exact (Blk.new _ _ _).alloc _
 have br : Blk W1 (w.heap.size + 1) Ds.no.v := by
  rw [hW1]
  have := Blk.new (w.alloc (.cells d.v.toArray 29)) Ds.no.v 29
  rwa [show (w.alloc (.cells d.v.toArray 29)).heap.size = w.heap.size + 1 by simp] at this
 have w1 : Below w.heap.size w W1 := by rw [hW1]; exact ((Below.refl _ _).alloc (Nat.le_refl _) _).alloc (by simp) _
 have hs1 : W1.heap.size = w.heap.size + 2 := by rw [hW1]; simp
 have c0 : W1.cell? ⟨w.heap.size, 0, none⟩ = some (.int .i64 d.k) := bd.c 0 _ rfl
 have c5 : W1.cell? ⟨w.heap.size, 5, none⟩ = some (.slice none 0 0) := by
  have := bd.c 5 _ rfl
  rw [hn] at this
  exact this
 have c6 : W1.cell? ⟨w.heap.size, 6, none⟩ = some (.slice none 0 0) := by
  have := bd.c 6 _ rfl
  rw [hp] at this
  exact this
 have z5 := bd.z 5
 have z6 := bd.z 6
 obtain ⟨W3, hW3⟩ : ∃ W3, W3 = (W1.setCell ⟨w.heap.size, 5, none⟩ (.slice none 0 0)).setCell ⟨w.heap.size, 6, none⟩ (.slice none 0 0) := ⟨_, rfl⟩
 have b3 : Blk W3 w.heap.size d.v := by
  rw [hW3]
  have := (bd.set 5 (by rw [d.len]; omega) (.slice none 0 0)).set 6 (by rw [List.length_set, d.len]; omega) (.slice none 0 0)
  rwa [show (d.v.set 5 (.slice none 0 0)).set 6 (.slice none 0 0) = d.v by unfold Ds.v; rw [hn, hp]; rfl] at this
 have r3 : Blk W3 (w.heap.size + 1) Ds.no.v := by rw [hW3]; exact (br.other (by omega) _).other (by omega) _
 have w3 : Below w.heap.size w W3 := by rw [hW3]; exact (w1.setCell (Nat.le_refl _) _).setCell (Nat.le_refl _) _
 have fin : Blk (W3.setCells (w.heap.size + 1) 0 d.v) (w.heap.size + 1) d.v ∧ Below w.heap.size w (W3.setCells (w.heap.size + 1) 0 d.v) := ⟨r3.all _ rfl, xbelow_sc w3 (by omega) _ _⟩
 have hl := d.len
 have h1 := d.one
 have hz : Ds.no.v.length = 8 := rfl
 generalize Ds.no.v = Z at *
 generalize d.v = D at *
 obtain ⟨f1, f2⟩ := fin
 go_enter Tryz.func40, Tryz.ntmps40
 go_upto_region 1 with fail
 rw [← hW1]
 clear hW1
 go_upto_region 3 with (go_at_call 47; refine (hasParts_no _ hk _).mono ?_; rintro e w9 ⟨rfl, q9⟩; subst q9)
 rw [← hW3]
 clear hW3
 go_wp2_with (first
  | (refine wpl_ld row_Desc rfl (.tmp 3) rfl (vs := D) rfl b3.range hl ?_)
  | (refine wpl_st row_Desc rfl (.tmp 4) (.tmp 13) rfl (us := D) rfl rfl r3 hz hl h1 ?_; generalize W3.setCells (w.heap.size + 1) 0 D = Wf at *))
 exact bodyPost_ret (res_row row_Desc Tryz.results40 rfl f1 hl) rfl ⟨rfl, f2⟩
set_option maxRecDepth 1000000 in
set_option maxHeartbeats 8000000 in
theorem rcopied_no (d : Ds) (hk : ¬ (18 ≤ d.k ∧ d.k ≤ 22)) (hn : d.ns = .no) (hp : d.ps = .no) (w : World) : Calls Tryz.prog 34 #[.agg d.v.toArray] w fun e w' => e = .returned (.agg d.v.toArray) ∧ Below w.heap.size w w' := by
 obtain ⟨W1, hW1⟩ : ∃ W1, W1 = (w.alloc (.cells d.v.toArray 29)).alloc (.cells #[.int .i64 0, .string ⟨#[]⟩, .int .u64 0, .int .u64 0, .string ⟨#[]⟩, .slice none 0 0, .slice none 0 0, .int .i64 0] 29) := ⟨_, rfl⟩
 have bd : Blk W1 w.heap.size d.v := by rw [hW1]; exact (Blk.new _ _ _).alloc _
 have br : Blk W1 (w.heap.size + 1) Ds.no.v := by
  rw [hW1]
  have := Blk.new (w.alloc (.cells d.v.toArray 29)) Ds.no.v 29
  rwa [show (w.alloc (.cells d.v.toArray 29)).heap.size = w.heap.size + 1 by simp] at this
 have w1 : Below w.heap.size w W1 := by rw [hW1]; exact ((Below.refl _ _).alloc (Nat.le_refl _) _).alloc (by simp) _
 have hs1 : W1.heap.size = w.heap.size + 2 := by rw [hW1]; simp
 obtain ⟨W2, hW2⟩ : ∃ W2, W2 = W1.alloc (.cells #[.int .i64 63, .bool false] 85) := ⟨_, rfl⟩
 have w12 : Below W1.heap.size W1 W2 := by rw [hW2]; exact (Below.refl _ _).alloc (Nat.le_refl _) _
 have bc : Blk W2 W1.heap.size [.int .i64 63, .bool false] := by rw [hW2]; exact Blk.new _ [_, _] _
 have bd2 := bd.up w12
 have br2 := br.up w12
 have w2 : Below w.heap.size w W2 := w1.trans (w12.mono w1.size)
 have hD := rdesc_no W1.heap.size d hk hn hp W2
 have hl := d.len
 have h1 := d.one
 have hz : Ds.no.v.length = 8 := rfl
 have fin : ∀ V, Below W2.heap.size W2 V → Blk (V.setCells w.heap.size 0 d.v) w.heap.size d.v ∧ Blk V w.heap.size d.v ∧ Blk (V.setCells w.heap.size 0 d.v) (w.heap.size + 1) Ds.no.v ∧ Below w.heap.size w (V.setCells w.heap.size 0 d.v) ∧ (V.setCells w.heap.size 0 d.v).cell? ⟨W1.heap.size, 1, none⟩ = some (.bool false) := fun V hV =>
  ⟨(bd2.up hV).all _ rfl, bd2.up hV, (br2.up hV).oth (by omega) _ _, xbelow_sc (w2.trans (hV.mono w2.size)) (Nat.le_refl _) _ _, ((bc.up hV).oth (by omega) _ _).c 1 _ rfl⟩
 generalize Ds.no.v = Z at *
 generalize d.v = D at *
 clear hs1
 go_enter Tryz.func34, Tryz.ntmps34
 go_upto_region 1 with fail
 rw [← hW1]
 clear hW1
 go_upto_region 2 with fail
 rw [← hW2]
 clear hW2
 go_upto_region 3 with (first
  | (refine wpl_ld row_Desc rfl (.tmp 1) rfl (vs := D) rfl bd2.range hl ?_)
  | (go_at_call 40; refine hD.mono ?_; rintro e W4 ⟨rfl, q4⟩; obtain ⟨y1, y2, y3, y4, y5⟩ := fin W4 q4)
  | (refine wpl_st row_Desc rfl (.tmp 1) (.tmp 6) rfl (us := D) rfl rfl y2 hl hl h1 ?_; generalize W4.setCells w.heap.size 0 D = W5 at *))
 have f1 : Blk (W5.setCells (w.heap.size + 1) 0 D) (w.heap.size + 1) D := y3.all _ (by rw [hl, hz])
 have f2 : Below w.heap.size w (W5.setCells (w.heap.size + 1) 0 D) := xbelow_sc y4 (by omega) _ _
 go_wp2_with (first
  | (refine wpl_ld row_Desc rfl (.tmp 1) rfl (vs := D) rfl y1.range hl ?_)
  | (refine wpl_st row_Desc rfl (.tmp 2) (.tmp 10) rfl (us := D) rfl rfl y3 hz hl h1 ?_; generalize W5.setCells (w.heap.size + 1) 0 D = Wf at *))
 exact bodyPost_ret (res_row row_Desc Tryz.results34 rfl f1 hl) rfl ⟨rfl, f2⟩
set_option maxRecDepth 1000000 in
set_option maxHeartbeats 8000000 in
theorem rcopiedAct_no (x : Ac) (hx : PlA x) (w : World) : Calls Tryz.prog 25 #[.agg x.v.toArray] w fun e w' => e = .returned (.agg x.v.toArray) ∧ Below w.heap.size w w' := by
 obtain ⟨W1, hW1⟩ : ∃ W1, W1 = (w.alloc (.cells x.v.toArray 31)).alloc (.cells #[.int .i64 0, .string ⟨#[]⟩, .string ⟨#[]⟩, .slice none 0 0, .int .i64 0, .string ⟨#[]⟩, .int .u64 0, .int .u64 0, .string ⟨#[]⟩, .slice none 0 0, .slice none 0 0, .int .i64 0] 31) := ⟨_, rfl⟩
 have bd : Blk W1 w.heap.size x.v := by rw [hW1]; exact (Blk.new _ _ _).alloc _
 have br : Blk W1 (w.heap.size + 1) Ac.no.v := by
  rw [hW1]
  have := Blk.new (w.alloc (.cells x.v.toArray 31)) Ac.no.v 31
  rwa [show (w.alloc (.cells x.v.toArray 31)).heap.size = w.heap.size + 1 by simp] at this
 have w1 : Below w.heap.size w W1 := by rw [hW1]; exact ((Below.refl _ _).alloc (Nat.le_refl _) _).alloc (by simp) _
 have hs1 : W1.heap.size = w.heap.size + 2 := by rw [hW1]; simp
 have c3 : W1.cell? ⟨w.heap.size, 3, none⟩ = some (.slice none 0 0) := by
  have := bd.c 3 _ rfl
  rw [hx.l] at this
  exact this
 have z3 := bd.z 3
 have hm : min (0 : Int) 16 = 0 := by decide
 obtain ⟨W2, hW2⟩ : ∃ W2, W2 = W1.setCell ⟨w.heap.size, 3, none⟩ (.slice none 0 0) := ⟨_, rfl⟩
 have b2 : Blk W2 w.heap.size x.v := by
  rw [hW2]
  have := bd.set 3 (by rw [x.len]; omega) (.slice none 0 0)
  rwa [show x.v.set 3 (.slice none 0 0) = x.v by unfold Ac.v; rw [hx.l]; rfl] at this
 have r2 : Blk W2 (w.heap.size + 1) Ac.no.v := by rw [hW2]; exact br.other (by omega) _
 have w2 : Below w.heap.size w W2 := by rw [hW2]; exact w1.setCell (Nat.le_refl _) _
 have d3 : W2.cell? ⟨w.heap.size, 3, none⟩ = some (.slice none 0 0) := by
  have := b2.c 3 _ rfl
  rw [hx.l] at this
  exact this
 have b2' : Blk W2 w.heap.size ([.int .i64 x.k, .string x.t, .string x.f, .slice x.l.a x.l.n x.l.c] ++ (x.p.v ++ [])) := by rw [List.append_nil]; exact b2
 have rp : W2.rangeAt w.heap.size 4 x.p.v := Blk.mid b2' rfl
 have hD := rcopied_no x.p hx.k hx.n hx.p W2
 have hlp := x.p.len
 have hd2 := x.p.one
 have hz : Ac.no.v.length = 12 := rfl
 have hl := x.len
 have ho := x.one
 have fin : ∀ (V : World), Below W2.heap.size W2 V → V.there w.heap.size 4 8 ∧ Blk (V.setCells w.heap.size 4 x.p.v) w.heap.size x.v ∧ Blk (V.setCells w.heap.size 4 x.p.v) (w.heap.size + 1) Ac.no.v ∧ Below w.heap.size w (V.setCells w.heap.size 4 x.p.v) := fun V hV => by
  have bV := b2'.up hV
  have h2 := Blk.put (p := [.int .i64 x.k, .string x.t, .string x.f, .slice x.l.a x.l.n x.l.c]) (cs := x.p.v) (q := []) bV x.p.v rfl
  rw [List.append_nil] at h2
  exact ⟨Blk.thereMid (p := [.int .i64 x.k, .string x.t, .string x.f, .slice x.l.a x.l.n x.l.c]) (cs := x.p.v) (q := []) bV, h2, (r2.up hV).oth (by omega) _ _, xbelow_sc (w2.trans (hV.mono w2.size)) (Nat.le_refl _) _ _⟩
 clear b2' b2
 generalize Ac.no.v = Z at *
 generalize x.p.v = XP at *
 generalize x.v = X at *
 go_enter Tryz.func25, Tryz.ntmps25
 go_upto_region 1 with fail
 rw [← hW1]
 clear hW1
 go_upto_region 2 with (go_at_call 33; refine (cloneD_nil _).mono ?_; rintro e w9 ⟨rfl, q9⟩; subst q9)
 rw [← hW2]
 clear hW2
 go_upto_region 3 with fail
 refine wp_loop_rounds 1 ?_
 rw [rounds_succ]
 go_upto_region 8 with (first
  | (refine wpl_ld row_Desc rfl (.tmp 29) rfl (vs := XP) rfl rp hlp ?_)
  | (go_at_call 34; refine hD.mono ?_; rintro e W4 ⟨rfl, q4⟩; obtain ⟨th4, b5, r5, w5⟩ := fin W4 q4)
  | (refine wpl_stm row_Desc rfl (.tmp 32) (.tmp 31) rfl (us := XP) rfl rfl th4 hlp hd2 ?_; generalize W4.setCells w.heap.size 4 XP = W5 at *))
 have f1 : Blk (W5.setCells (w.heap.size + 1) 0 X) (w.heap.size + 1) X := r5.all _ (by rw [hl, hz])
 have f2 : Below w.heap.size w (W5.setCells (w.heap.size + 1) 0 X) := xbelow_sc w5 (by omega) _ _
 go_wp2_with (first
  | (refine wpl_ld row_Act rfl (.tmp 1) rfl (vs := X) rfl b5.range hl ?_)
  | (refine wpl_st row_Act rfl (.tmp 2) (.tmp 33) rfl (us := X) rfl rfl r5 hz hl ho ?_; generalize W5.setCells (w.heap.size + 1) 0 X = Wf at *))
 exact bodyPost_ret (res_row row_Act Tryz.results25 rfl f1 hl) rfl ⟨rfl, f2⟩
set_option maxRecDepth 1000000 in
set_option maxHeartbeats 8000000 in
theorem cloneH_any (a : Addr) (n c : Nat) (news : List Value) (w : World) (hl : news.length = n * 48) (hc : ∀ j u, news[j]? = some u → w.cell? (a.add j) = some u) (h1 : ∀ u ∈ news, u.oneCell' = true) (hbig : n * 704 ≤ 140737488355328) :
  Calls Tryz.prog 24 #[.slice (some a) n c] w fun e w' => ∃ v', e = .returned v' ∧ w'.ownsRow w.heap.size 34 48 v' n news ∧ Below w.heap.size w w' := by
 have he : ∀ w, (binOp BinOp.eql 35 (.slice (some a) n c) (.slice none 0 0)).run Tryz.prog w = .ok (.bool false) w := fun w => by kernel_rfl
 obtain ⟨i0, hi⟩ : ∃ i0, Tryz.prog.info? 34 = some i0 := ⟨_, rfl⟩
 have hz1 : i0.size = 48 := by
  have : (Tryz.prog.info? 34).map (·.size) = some 48 := by kernel_rfl
  rw [hi] at this; exact Option.some.inj this
 have hz2 : i0.bytes = 704 := by
  have : (Tryz.prog.info? 34).map (·.bytes) = some 704 := by kernel_rfl
  rw [hi] at this; exact Option.some.inj this
 have hz0 : i0.zero = some (.agg hk0.v.toArray) := by
  have : (Tryz.prog.info? 34).bind (·.zero) = some (.agg hk0.v.toArray) := by kernel_rfl
  rw [hi] at this; exact this
 have hn : n ≤ maxLen := by unfold maxLen; omega
 have ho := World.ownsRow_lit (base := w.heap.size) (e := 34) (size := 48) w #[] 0 (Nat.le_refl _) (by unfold maxLen; omega) rfl
 have hb0 : Below w.heap.size w (w.alloc (.cells #[] 34)) := (Below.refl _ _).alloc (Nat.le_refl _) _
 have hs0 : (w.alloc (.cells #[] 34)).heap.size = w.heap.size + 1 := by simp
 have hc0 : ∀ j u, news[j]? = some u → (w.alloc (.cells #[] 34)).cell? (a.add j) = some u := fun j u hu => (hb0.cell (World.block_lt_of_cell? w _ (hc j u hu))).trans (hc j u hu)
 generalize hW0 : w.alloc (.cells #[] 34) = W0 at *
 go_enter Tryz.func24, Tryz.ntmps24
 go_wp2_with (first
  | (at_builtin; (try rw [hW0]); refine wpList_append_own_at _ rfl _ _ 35 rfl w.heap.size 34 i0 _ 48 704 Tryz.underlying35 hi hz0 hz1 hz2 rfl (by decide) _ _ _ rfl ho a n c news rfl hl hc0 h1 ?c1 ?c2 ?c3 ?_))
 intro v' w' o4 g4 _ hat
 have b4 : Below w.heap.size w w' := hb0.grown g4 (by omega) (fun k hk => by cases hk; exact Nat.le_refl _)
 go_wp2
 go_ret
 refine ⟨_, rfl, ?_, b4⟩
 simpa using o4
def RwP (h : Hk) (a : Option Addr) (n k hi : Nat) (W : World) : Prop := ∃ b, a = some ⟨b, 0, none⟩ ∧ n = 1 ∧ b < hi ∧ Blk W b h.v
theorem RwP.kx {h : Hk} {a : Option Addr} {n k hi : Nat} {W W' : World} (r : RwP h a n k hi W) (x : Kx (fun b => hi ≤ b) W W') : RwP h a n k hi W' := by
 obtain ⟨b, h1, h2, h3, h4⟩ := r
 exact ⟨b, h1, h2, h3, h4.kx x (by omega)⟩
set_option maxRecDepth 1000000 in
set_option maxHeartbeats 8000000 in
theorem copiedTable_1 (h : Hk) (hh : PlH h) (tb c : Nat) (hc1 : 1 ≤ c) (w : World) (hB : w.rangeAt tb 0 h.v) : Calls Tryz.prog 19 #[.slice (some ⟨tb, 0, none⟩) 1 c] w fun e w' => ∃ a n k, e = .returned (.slice a n k) ∧ Hid (RwP h a n k w'.heap.size w') ∧ Below w.heap.size w w' := by
 have hm : min (1 : Int) 16 = 1 := by decide
 have hcI : ¬ (c : Int) < 1 := by omega
 have hC := cloneH_any ⟨tb, 0, none⟩ 1 c h.v w h.len (fun j u hu => by have := hB j u hu; rw [Addr.add_mid]; exact this) h.one (by decide)
 have hA := fun V => rcopiedAct_no h.a hh.a V
 have hBb := fun V => rcopiedAct_no h.b hh.b V
 have hCc := fun V => rcopiedAct_no h.c hh.c V
 have hDd := fun V => rcopiedAct_no h.d hh.d V
 have hbd := fun w => nbld_hk4 h w
 have hlen := h.len
 have hone := h.one
 have la := h.a.len
 have lb := h.b.len
 have lc := h.c.len
 have ld := h.d.len
 have ha0 := fun w => zero_hk w
 have hz : hk0.v.length = 48 := rfl
 have hoz := hk0.one
 unfold RwP
 go_enter Tryz.func19, Tryz.ntmps19
 go_upto_region 2 with (go_at_call 24; refine hC.mono ?_; rintro e W2 ⟨v', rfl, o2, b2⟩; obtain ⟨g, cap, rfl, hg1, hg2⟩ := o2.form (by decide))
 have r2 : W2.rangeAt g 0 h.v := fun j v hv => by
  have := (List.getElem?_eq_some_iff.1 hv).1
  rw [Nat.zero_add, o2.cellAt j (by omega)]
  exact hv
 have z2 := fun x => o2.frozenAt x
 clear o2 hC hB
 go_upto_region 3 with fail
 refine wp_loop_rounds 2 ?_
 rw [rounds_succ]
 obtain ⟨W3, hW3⟩ : ∃ W3, W3 = W2.alloc (.cells hk0.v.toArray 34) := ⟨_, rfl⟩
 have b3 : Below W2.heap.size W2 W3 := by rw [hW3]; exact (Below.refl _ _).alloc (Nat.le_refl _) _
 have k3 : Blk W3 W2.heap.size hk0.v := by rw [hW3]; exact Blk.new W2 hk0.v 34
 obtain ⟨W4, hW4⟩ : ∃ W4, W4 = W3.setCells W2.heap.size 0 h.v := ⟨_, rfl⟩
 have k4 : Blk W4 W2.heap.size h.v := by rw [hW4]; exact k3.all _ (by rw [hlen, hz])
 have b4 : Below W2.heap.size W2 W4 := by rw [hW4]; exact xbelow_sc b3 (Nat.le_refl _) _ _
 have fx : ∀ V, Below W4.heap.size W4 V → V.there g 0 48 ∧ Below w.heap.size w (V.setCells g 0 h.v) ∧ Blk (V.setCells g 0 h.v) g h.v := fun V hV => by
  have b24 := b4.trans (hV.mono b4.size)
  have rV : V.rangeAt g 0 h.v := fun j v hv => (b24.cell (p := ⟨g, 0 + j, none⟩) hg2).trans (r2 j v hv)
  have zV : ∀ j, V.frozen? ⟨g, j, none⟩ = false := fun j => (b24.frozen (p := ⟨g, j, none⟩) hg2).trans (z2 j)
  have bV : Blk V g h.v := ⟨fun i v hv => by have := rV i v hv; rwa [Nat.zero_add] at this, zV, Nat.lt_of_lt_of_le hg2 b24.size⟩
  have t := bV.there
  rw [hlen] at t
  exact ⟨t, xbelow_sc (b2.trans (b24.mono b2.size)) hg1 _ _, bV.all _ rfl⟩
 have f0 : ∀ V, Below W4.heap.size W4 V → (fun w' : World => w'.rangeAt W2.heap.size 0 h.a.v ∧ w'.rangeAt W2.heap.size 12 h.b.v ∧ w'.rangeAt W2.heap.size 24 h.c.v ∧ w'.rangeAt W2.heap.size 36 h.d.v) V := fun V q => ⟨hk_a (k4.up q), hk_b (k4.up q), hk_c (k4.up q), hk_d (k4.up q)⟩
 obtain ⟨B5, hB5⟩ : ∃ B5, W2.heap.size = B5 := ⟨_, rfl⟩
 rw [hB5] at k3 k4 hW4
 simp only [hB5] at f0
 generalize hHH : h.v = H at *
 generalize hk0.v = ZV at *
 subst hW3
 go_upto_region 5 with (first
  | (refine wpl_ld row_Hook rfl (.tmp 17) rfl (vs := H) rfl r2 hlen ?_)
  | (refine wpl_allocz ha0 rfl rfl ?_)
  | (refine wpl_st row_Hook rfl (.tmp 5) (.tmp 18) rfl (us := H) rfl rfl k3 hz hlen hone ?_; rw [← hW4]))
 clear hW4 k3 k4 r2
 have bD : Below W4.heap.size W4 W4.drew := (Below.refl W4.heap.size W4).drew
 try simp only [hB5]
 generalize h.a.v = La at *
 generalize h.b.v = Lb at *
 generalize h.c.v = Lc at *
 generalize h.d.v = Ld at *
 refine wp_region_held_drew (S := fun w' => w'.rangeAt B5 0 La ∧ w'.rangeAt B5 12 Lb ∧ w'.rangeAt B5 24 Lc ∧ w'.rangeAt B5 36 Ld) (by kernel_rfl) (f0 _ bD) ?_
 intro hS
 refine tk 0 (.slice (some ⟨g, 0, none⟩) 1 cap) rfl (by kernel_rfl) (fun _ _ _ h => h) (by rfl) (by assumption) ?_ ?_
 ·intro w5 hSw
  go_simp
 try simp only [Act.put, List.getElem_toArray, List.getElem_cons_zero, List.getElem_cons_succ, List.setIfInBounds_toArray, List.set_cons_zero, List.set_cons_succ, List.length_cons]
 refine tk 1 (.int .i64 0) rfl (by kernel_rfl) (fun _ _ _ h => h) (by rfl) (by assumption) ?_ ?_
 ·intro w5 hSw
  go_simp
 try simp only [Act.put, List.getElem_toArray, List.getElem_cons_zero, List.getElem_cons_succ, List.setIfInBounds_toArray, List.set_cons_zero, List.set_cons_succ, List.length_cons]
 refine tk 2 (.pointer (some ⟨B5, 0, none⟩)) rfl (by kernel_rfl) (fun _ _ _ h => h) (by rfl) (by assumption) ?_ ?_
 ·intro w5 hSw
  go_simp
 try simp only [Act.put, List.getElem_toArray, List.getElem_cons_zero, List.getElem_cons_succ, List.setIfInBounds_toArray, List.set_cons_zero, List.set_cons_succ, List.length_cons]
 refine wpAnyH_take (i := 3) (v := .agg La.toArray) rfl (by kernel_rfl) (by kernel_rfl) (by kernel_rfl) (fun _ _ _ h => h) ?_ (by assumption) ?_
 ·obtain ⟨⟨dd, r1, r2⟩, r3⟩ := row_Act
  exact yieldsIf_load_mid rfl 31 (.tmp 21) rfl B5 0 rfl La dd (fun _ h => h.1) r1 r2 (by rw [la]; exact r3)
 try simp only [Act.put, List.getElem_toArray, List.getElem_cons_zero, List.getElem_cons_succ, List.setIfInBounds_toArray, List.set_cons_zero, List.set_cons_succ, List.length_cons]
 refine tk 5 (.pointer (some ⟨B5, 12, none⟩)) rfl (by kernel_rfl) (fun _ _ _ h => h) (by rfl) (by assumption) ?_ ?_
 ·intro w5 hSw
  go_simp
 try simp only [Act.put, List.getElem_toArray, List.getElem_cons_zero, List.getElem_cons_succ, List.setIfInBounds_toArray, List.set_cons_zero, List.set_cons_succ, List.length_cons]
 refine wpAnyH_take (i := 6) (v := .agg Lb.toArray) rfl (by kernel_rfl) (by kernel_rfl) (by kernel_rfl) (fun _ _ _ h => h) ?_ (by assumption) ?_
 ·obtain ⟨⟨dd, r1, r2⟩, r3⟩ := row_Act
  exact yieldsIf_load_mid rfl 31 (.tmp 24) rfl B5 12 rfl Lb dd (fun _ h => h.2.1) r1 r2 (by rw [lb]; exact r3)
 try simp only [Act.put, List.getElem_toArray, List.getElem_cons_zero, List.getElem_cons_succ, List.setIfInBounds_toArray, List.set_cons_zero, List.set_cons_succ, List.length_cons]
 refine tk 8 (.pointer (some ⟨B5, 24, none⟩)) rfl (by kernel_rfl) (fun _ _ _ h => h) (by rfl) (by assumption) ?_ ?_
 ·intro w5 hSw
  go_simp
 try simp only [Act.put, List.getElem_toArray, List.getElem_cons_zero, List.getElem_cons_succ, List.setIfInBounds_toArray, List.set_cons_zero, List.set_cons_succ, List.length_cons]
 refine wpAnyH_take (i := 9) (v := .agg Lc.toArray) rfl (by kernel_rfl) (by kernel_rfl) (by kernel_rfl) (fun _ _ _ h => h) ?_ (by assumption) ?_
 ·obtain ⟨⟨dd, r1, r2⟩, r3⟩ := row_Act
  exact yieldsIf_load_mid rfl 31 (.tmp 27) rfl B5 24 rfl Lc dd (fun _ h => h.2.2.1) r1 r2 (by rw [lc]; exact r3)
 try simp only [Act.put, List.getElem_toArray, List.getElem_cons_zero, List.getElem_cons_succ, List.setIfInBounds_toArray, List.set_cons_zero, List.set_cons_succ, List.length_cons]
 refine tk 11 (.pointer (some ⟨B5, 36, none⟩)) rfl (by kernel_rfl) (fun _ _ _ h => h) (by rfl) (by assumption) ?_ ?_
 ·intro w5 hSw
  go_simp
 try simp only [Act.put, List.getElem_toArray, List.getElem_cons_zero, List.getElem_cons_succ, List.setIfInBounds_toArray, List.set_cons_zero, List.set_cons_succ, List.length_cons]
 refine wpAnyH_take (i := 12) (v := .agg Ld.toArray) rfl (by kernel_rfl) (by kernel_rfl) (by kernel_rfl) (fun _ _ _ h => h) ?_ (by assumption) ?_
 ·obtain ⟨⟨dd, r1, r2⟩, r3⟩ := row_Act
  exact yieldsIf_load_mid rfl 31 (.tmp 30) rfl B5 36 rfl Ld dd (fun _ h => h.2.2.2) r1 r2 (by rw [ld]; exact r3)
 try simp only [Act.put, List.getElem_toArray, List.getElem_cons_zero, List.getElem_cons_succ, List.setIfInBounds_toArray, List.set_cons_zero, List.set_cons_succ, List.length_cons]
 refine rd1 4 (by kernel_rfl) rfl fun K0 hK0 => ?_
 go_simp
 refine (hA _).mono ?_
 rintro e Z0 ⟨rfl, q0⟩
 have x0 : Below W4.heap.size W4 Z0 := bD.trans (q0.mono bD.size)
 refine hK0.out _ _ (f0 _ x0) (fun _ => ?_)
 clear hK0
 try simp only [Act.put, List.getElem_toArray, List.getElem_cons_zero, List.getElem_cons_succ, List.setIfInBounds_toArray, List.set_cons_zero, List.set_cons_succ, List.length_cons]
 refine rd1 7 (by kernel_rfl) rfl fun K1 hK1 => ?_
 go_simp
 refine (hBb _).mono ?_
 rintro e Z1 ⟨rfl, q1⟩
 have x1 : Below W4.heap.size W4 Z1 := x0.trans (q1.mono x0.size)
 refine hK1.out _ _ (f0 _ x1) (fun _ => ?_)
 clear hK1
 try simp only [Act.put, List.getElem_toArray, List.getElem_cons_zero, List.getElem_cons_succ, List.setIfInBounds_toArray, List.set_cons_zero, List.set_cons_succ, List.length_cons]
 refine rd1 10 (by kernel_rfl) rfl fun K2 hK2 => ?_
 go_simp
 refine (hCc _).mono ?_
 rintro e Z2 ⟨rfl, q2⟩
 have x2 : Below W4.heap.size W4 Z2 := x1.trans (q2.mono x1.size)
 refine hK2.out _ _ (f0 _ x2) (fun _ => ?_)
 clear hK2
 try simp only [Act.put, List.getElem_toArray, List.getElem_cons_zero, List.getElem_cons_succ, List.setIfInBounds_toArray, List.set_cons_zero, List.set_cons_succ, List.length_cons]
 refine rd1 13 (by kernel_rfl) rfl fun K3 hK3 => ?_
 go_simp
 refine (hDd _).mono ?_
 rintro e Z3 ⟨rfl, q3⟩
 have x3 : Below W4.heap.size W4 Z3 := x2.trans (q3.mono x2.size)
 refine hK3.out _ _ (f0 _ x3) (fun _ => ?_)
 clear hK3
 try simp only [Act.put, List.getElem_toArray, List.getElem_cons_zero, List.getElem_cons_succ, List.setIfInBounds_toArray, List.set_cons_zero, List.set_cons_succ, List.length_cons]
 refine wpAnyH_take (i := 14) (v := .agg H.toArray) rfl (by kernel_rfl) (by kernel_rfl) (by kernel_rfl) (fun _ _ _ h => h) (yieldsIf_bld rfl _ _ rfl [(0, .agg La.toArray), (1, .agg Lb.toArray), (2, .agg Lc.toArray), (3, .agg Ld.toArray)] rfl (fun w => hbd w)) (by assumption) ?_
 try simp only [Act.put, List.getElem_toArray, List.getElem_cons_zero, List.getElem_cons_succ, List.setIfInBounds_toArray, List.set_cons_zero, List.set_cons_succ, List.length_cons]
 refine tk 15 (.pointer (some ⟨g, 0, none⟩)) rfl (by kernel_rfl) (fun _ _ _ h => h) (by rfl) (by assumption) ?_ ?_
 ·intro w5 hSw
  go_simp
 try simp only [Act.put, List.getElem_toArray, List.getElem_cons_zero, List.getElem_cons_succ, List.setIfInBounds_toArray, List.set_cons_zero, List.set_cons_succ, List.length_cons]
 obtain ⟨th, bw, kf⟩ := fx Z3 x3
 refine rd1 16 (by kernel_rfl) rfl fun K hK => ?_
 rw [if_pos (by rfl)]
 have f3 := f0 Z3 x3
 refine wp_store_mid 34 (.tmp 34) (.tmp 33) rfl g 0 H.toArray rfl rfl (by simpa [hlen] using th) (by simp [hlen, row_Hook.2]) (all_oneCell_toArray hone) ?_
 rw [show H.toArray.toList = H from rfl]
 have hne : B5 ≠ g := by omega
 generalize hW9 : Z3.setCells g 0 H = W9 at *
 have f9 : (fun w' : World => w'.rangeAt B5 0 La ∧ w'.rangeAt B5 12 Lb ∧ w'.rangeAt B5 24 Lc ∧ w'.rangeAt B5 36 Ld) W9 := by
  have hx : ∀ o' (L : List Value), Z3.rangeAt B5 o' L → W9.rangeAt B5 o' L := fun o' L hr j v hv => by rw [← hW9]; exact (World.cell?_of_block (w := Z3) (a := ⟨B5, o' + j, none⟩) (xsc_heap _ _ (by dsimp only; omega) _ _ _)).trans (hr j v hv)
  exact ⟨hx _ _ f3.1, hx _ _ f3.2.1, hx _ _ f3.2.2.1, hx _ _ f3.2.2.2⟩
 refine hK.out _ _ f9 (fun _ => ?_)
 clear hK
 try simp only [Act.put, List.getElem_toArray, List.getElem_cons_zero, List.getElem_cons_succ, List.setIfInBounds_toArray, List.set_cons_zero, List.set_cons_succ, List.length_cons]
 refine wpAnyH_done (by kernel_rfl) ?_ _
 go_wp2
 rw [rounds_succ]
 go_wp2
 go_ret
 exact ⟨_, _, _, rfl, ⟨g, rfl, rfl, kf.b, by rw [hHH]; exact kf⟩, bw⟩
end Go.Proofs.YtdlnmnipnkeabaaGreatDoor
