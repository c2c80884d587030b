/- Package hooks: descriptors are copied, with all that they hold. -/
import Derived.Test.YtbfaapbbhgegiaaDoorXCopyN
import Derived.Test.YtbfaapbbhgegiaaDoorXMid
import Derived.Deep.AppendLies
namespace Go.Proofs.YtbfaapbbhgegiaaDoor
open Go.RowKit
set_option linter.unusedVariables false
set_option linter.unusedSimpArgs false

/-- A list of n things of s cells and bt bytes each, that can be read. -/
def LsK (W : World) (s bt : Nat) (Q : Nat → Nat → Prop) (l : Sl) : Prop := l.n * bt ≤ 140737488355328 ∧ ((l.a = none ∧ l.n = 0 ∧ l.c = 0) ∨ (l.a ≠ none ∧ l.n = 0) ∨ (0 < l.n ∧ ∃ b off, l.a = some ⟨b, off, none⟩ ∧ b < W.heap.size ∧ ∀ i, i < l.n → Q b (off + i * s)))
def NsK (W : World) (l : Sl) : Prop := LsK W 1 16 (fun b o => ∃ t : ByteArray, W.cell? ⟨b, o, none⟩ = some (.string t)) l
def DsK : Nat → World → Ds → Prop
  | 0, _, _ => False
  | m + 1, W, d => NsK W d.ns ∧ LsK W 8 112 (fun b o => ∃ e : Ds, W.rangeAt b o e.v ∧ DsK m W e) d.ps
def PsK (m : Nat) (W : World) (l : Sl) : Prop := LsK W 8 112 (fun b o => ∃ e : Ds, W.rangeAt b o e.v ∧ DsK m W e) l
theorem LsK.imp {W W' : World} {s bt : Nat} {Q Q' : Nat → Nat → Prop} {l : Sl} (h : LsK W s bt Q l) (hs : W.heap.size ≤ W'.heap.size) (hq : ∀ b o, b < W.heap.size → Q b o → Q' b o) : LsK W' s bt Q' l :=
  ⟨h.1, h.2.imp id (fun x => x.imp id (fun ⟨a, b, off, c, d, e⟩ => ⟨a, b, off, c, Nat.lt_of_lt_of_le d hs, fun i hi => hq _ _ d (e i hi)⟩))⟩
theorem rng_up {W W' : World} (hb : Below W.heap.size W W') {b o : Nat} {vs : List Value} (hlt : b < W.heap.size) (h : W.rangeAt b o vs) : W'.rangeAt b o vs := fun j v hv => (hb.cell (p := ⟨b, _, none⟩) hlt).trans (h j v hv)
theorem DsK.up : ∀ {m : Nat} {W W' : World} {d : Ds}, Below W.heap.size W W' → DsK m W d → DsK m W' d
  | 0, _, _, _, _, h => h
  | m + 1, W, W', d, hb, h => ⟨h.1.imp hb.size (fun b o hlt ⟨t, ht⟩ => ⟨t, (hb.cell (p := ⟨b, o, none⟩) hlt).trans ht⟩), h.2.imp hb.size (fun b o hlt ⟨e, h1, h2⟩ => ⟨e, rng_up hb hlt h1, DsK.up hb h2⟩)⟩
theorem PsK.up {m : Nat} {W W' : World} {l : Sl} (hb : Below W.heap.size W W') (h : PsK m W l) : PsK m W' l := h.imp hb.size (fun b o hlt ⟨e, h1, h2⟩ => ⟨e, rng_up hb hlt h1, DsK.up hb h2⟩)
theorem NsK.up {W W' : World} {l : Sl} (hb : Below W.heap.size W W') (h : NsK W l) : NsK W' l := h.imp hb.size (fun b o hlt ⟨t, ht⟩ => ⟨t, (hb.cell (p := ⟨b, o, none⟩) hlt).trans ht⟩)
set_option maxRecDepth 1000000 in
set_option maxHeartbeats 4000000 in
theorem cloneD_any (a : Addr) (n c : Nat) (news : List Value) (w : World) (hl : news.length = n * 8) (hc : ∀ j u, news[j]? = some u → w.cell? (a.add j) = some u) (h1 : ∀ u ∈ news, u.oneCell' = true) (hbig : n * 112 ≤ 140737488355328) :
    Calls Tryd.prog 84 #[.slice (some a) n c] w fun e w' => ∃ v', e = .returned v' ∧ w'.ownsRow w.heap.size 26 8 v' n news ∧ Below w.heap.size w w' := by
  have he : ∀ w, (binOp BinOp.eql 22 (.slice (some a) n c) (.slice none 0 0)).run Tryd.prog w = .ok (.bool false) w := fun w => by kernel_rfl
  obtain ⟨i0, hi⟩ : ∃ i0, Tryd.prog.info? 26 = some i0 := ⟨_, rfl⟩
  have hz1 : i0.size = 8 := by
    have : (Tryd.prog.info? 26).map (·.size) = some 8 := by kernel_rfl
    rw [hi] at this; exact Option.some.inj this
  have hz2 : i0.bytes = 112 := by
    have : (Tryd.prog.info? 26).map (·.bytes) = some 112 := by kernel_rfl
    rw [hi] at this; exact Option.some.inj this
  have hz0 : i0.zero = some (.agg Ds.no.v.toArray) := by
    have : (Tryd.prog.info? 26).bind (·.zero) = some (.agg Ds.no.v.toArray) := by kernel_rfl
    rw [hi] at this; exact this
  have hn : n ≤ maxLen := by unfold maxLen; omega
  have ho := World.ownsRow_lit (base := w.heap.size) (e := 26) (size := 8) w #[] 0 (Nat.le_refl _) (by unfold maxLen; omega) rfl
  have hb0 : Below w.heap.size w (w.alloc (.cells #[] 26)) := (Below.refl _ _).alloc (Nat.le_refl _) _
  have hs0 : (w.alloc (.cells #[] 26)).heap.size = w.heap.size + 1 := by simp
  have hc0 : ∀ j u, news[j]? = some u → (w.alloc (.cells #[] 26)).cell? (a.add j) = some u := fun j u hu => (hb0.cell (World.block_lt_of_cell? w _ (hc j u hu))).trans (hc j u hu)
  generalize hW0 : w.alloc (.cells #[] 26) = W0 at *
  go_enter Tryd.func84, Tryd.ntmps84
  go_wp2_with (first
    | (at_builtin; (try rw [hW0]); refine wpList_append_own_at _ rfl _ _ 22 rfl w.heap.size 26 i0 _ 8 112 Tryd.underlying22 hi hz0 hz1 hz2 rfl (by decide) _ _ _ rfl ho a n c news rfl hl hc0 h1 ?c1 ?c2 ?c3 ?_))
  intro v' w' o4 g4 _ hat
  have b4 : Below w.heap.size w w' := hb0.grown g4 (by omega) (fun k hk => by cases hk; exact Nat.le_refl _)
  go_wp2
  go_ret
  refine ⟨_, rfl, ?_, b4⟩
  simpa using o4
theorem own_slice {w : World} {base : Nat} {e : TypeId} {size : Nat} {v : Value} {n : Nat} {xs : List Value} (h : w.ownsRow base e size v n xs) : ∃ s : Sl, v = .slice s.a s.n s.c ∧ s.n = n ∧ ∀ b off, s.a = some ⟨b, off, none⟩ → base ≤ b := by
  rcases h.2 with ⟨rfl, rfl⟩ | ⟨g, cap, cur, rfl, hg, _⟩
  · exact ⟨⟨none, 0, 0⟩, rfl, rfl, fun b off h => by cases h⟩
  · exact ⟨⟨some ⟨g, 0, none⟩, n, cap⟩, rfl, rfl, fun b off h => by cases h; exact hg⟩
theorem cloneN_any (l : Sl) (w : World) (h : NsK w l) : Calls Tryd.prog 66 #[.slice l.a l.n l.c] w fun e w' => (∃ l' : Sl, e = .returned (.slice l'.a l'.n l'.c)) ∧ Below w.heap.size w w' := by
  obtain ⟨a, n, c⟩ := l
  rcases h.2 with ⟨ha, hn, hc⟩ | ⟨ha, hn⟩ | ⟨hn, b, off, ha, hb, hx⟩
  · dsimp only at ha hn hc
    subst ha hn hc
    exact (Tryd.slices_Clone_string_nil 0 0 w).mono (fun e w' ⟨e1, e2⟩ => ⟨⟨⟨none, 0, 0⟩, e1⟩, by rw [e2]; exact Below.refl _ _⟩)
  · dsimp only at ha hn
    subst hn
    obtain ⟨ad, rfl⟩ := Option.ne_none_iff_exists'.1 ha
    refine (Tryd.slices_Clone_string_zero ad c w).mono (fun e w' ⟨v', e1, e2, _, e3⟩ => ?_)
    obtain ⟨s, hs, _⟩ := own_slice e2
    exact ⟨⟨s, by rw [e1, hs]⟩, e3⟩
  · dsimp only at ha hn hx
    subst ha
    have hx' : ∀ i : Fin n, ∃ t : ByteArray, w.cell? ⟨b, off + i.val, none⟩ = some (.string t) := fun i => by have := hx i.val i.isLt; rwa [Nat.mul_one] at this
    have hz : ∃ zs : List ByteArray, zs.length = n ∧ ∀ j, j < n → w.cell? ⟨b, off + j, none⟩ = some (.string (zs.getD j ByteArray.empty)) := by
      have := Classical.skolem.1 hx'
      obtain ⟨f, hf⟩ := this
      refine ⟨List.ofFn f, by simp, fun j hj => ?_⟩
      rw [hf ⟨j, hj⟩]
      congr 2
      rw [List.getD_eq_getElem?_getD, List.getElem?_ofFn]
      simp [hj]
    obtain ⟨zs, hzl, hzc⟩ := hz
    refine (Tryd.slices_Clone_string b off n c zs w (by omega) h.1 (fun j hj => hzc j (by omega))).mono (fun e w' ⟨v', e1, e2, _, e3⟩ => ?_)
    obtain ⟨s, hs, _⟩ := own_slice e2
    exact ⟨⟨s, by rw [e1, hs]⟩, e3⟩
/-- The kind of the i-th of a list. -/
def KsAt (W : World) (l : Sl) (i : Nat) (k : Int) : Prop := ∃ b off, l.a = some ⟨b, off, none⟩ ∧ b < W.heap.size ∧ ∃ e : Ds, W.rangeAt b (off + i * 8) e.v ∧ e.k = k
def CpD (m : Nat) : Prop := ∀ (d : Ds) (W : World), DsK m W d → Calls Tryd.prog 50 #[.agg d.v.toArray] W fun e W' => (∃ d' : Ds, e = .returned (.agg d'.v.toArray) ∧ d'.k = d.k ∧ d'.tx = d.tx) ∧ Below W.heap.size W W'
def CpL (m : Nat) : Prop := ∀ (l : Sl) (W : World), PsK m W l → Calls Tryd.prog 64 #[.slice l.a l.n l.c] W fun e W' => (∃ l' : Sl, e = .returned (.slice l'.a l'.n l'.c) ∧ l'.n = l.n ∧ (∀ b off, l'.a = some ⟨b, off, none⟩ → W.heap.size ≤ b) ∧ ∀ i, i < l.n → ∀ k, KsAt W l i k → KsAt W' l' i k) ∧ Below W.heap.size W W'
set_option maxRecDepth 1000000 in
set_option maxHeartbeats 4000000 in
theorem copied_step (m : Nat) (hL : CpL m) : CpD (m + 1) := by
  intro d w hd
  obtain ⟨W1, hW1⟩ : ∃ W1, W1 = (w.alloc (.cells d.v.toArray 26)).alloc (.cells #[.int .i64 0, .string ⟨#[]⟩, .int .u64 0, .int .u64 0, .string ⟨#[]⟩, .slice none 0 0, .slice none 0 0, .int .i64 0] 26) := ⟨_, rfl⟩
  have bd : Blk W1 w.heap.size d.v := by rw [hW1]; exact (Blk.new _ _ _).alloc _
  have br : Blk W1 (w.heap.size + 1) Ds.no.v := by
    rw [hW1]
    have := Blk.new (w.alloc (.cells d.v.toArray 26)) Ds.no.v 26
    rwa [show (w.alloc (.cells d.v.toArray 26)).heap.size = w.heap.size + 1 by simp] at this
  have w1 : Below w.heap.size w W1 := by rw [hW1]; exact ((Below.refl _ _).alloc (Nat.le_refl _) _).alloc (by simp) _
  have c5 : W1.cell? ⟨w.heap.size, 5, none⟩ = some (.slice d.ns.a d.ns.n d.ns.c) := bd.c 5 _ rfl
  have hN := cloneN_any d.ns W1 (hd.1.up w1)
  have hP : ∀ V, Below w.heap.size w V → Calls Tryd.prog 64 #[.slice d.ps.a d.ps.n d.ps.c] V fun e W' => (∃ l' : Sl, e = .returned (.slice l'.a l'.n l'.c)) ∧ Below V.heap.size V W' := fun V hV => (hL d.ps V (PsK.up hV hd.2)).mono (fun e W' ⟨⟨l', e1, _⟩, e2⟩ => ⟨⟨l', e1⟩, e2⟩)
  have hz : Ds.no.v.length = 8 := rfl
  have fin : ∀ (V : World) (s1 s2 : Sl), Blk V w.heap.size (Ds.v ⟨d.k, d.ty, d.bi, d.im, d.tx, s1, s2, d.hk⟩) → Blk V (w.heap.size + 1) Ds.no.v → Below w.heap.size w V → Blk (V.setCells (w.heap.size + 1) 0 (Ds.v ⟨d.k, d.ty, d.bi, d.im, d.tx, s1, s2, d.hk⟩)) (w.heap.size + 1) (Ds.v ⟨d.k, d.ty, d.bi, d.im, d.tx, s1, s2, d.hk⟩) ∧ Below w.heap.size w (V.setCells (w.heap.size + 1) 0 (Ds.v ⟨d.k, d.ty, d.bi, d.im, d.tx, s1, s2, d.hk⟩)) := fun V s1 s2 h1 h2 h3 => ⟨h2.all _ rfl, xbelow_sc h3 (by omega) _ _⟩
  clear hd hL
  go_enter Tryd.func50, Tryd.ntmps50
  go_upto_region 1 with fail
  rw [← hW1]
  clear hW1
  go_upto_region 2 with (go_at_call 66; refine hN.mono ?_; rintro e W2 ⟨⟨s1, rfl⟩, q2⟩; have b2 := bd.up q2; have c2 := b2.c 5 _ rfl; have z2 := b2.z 5)
  have r2 := br.up q2
  have w2 : Below w.heap.size w W2 := w1.trans (q2.mono w1.size)
  have b3 : Blk (W2.setCell ⟨w.heap.size, 5, none⟩ (.slice s1.a s1.n s1.c)) w.heap.size (Ds.v ⟨d.k, d.ty, d.bi, d.im, d.tx, s1, d.ps, d.hk⟩) := b2.set 5 (by rw [d.len]; omega) _
  have r3 : Blk (W2.setCell ⟨w.heap.size, 5, none⟩ (.slice s1.a s1.n s1.c)) (w.heap.size + 1) Ds.no.v := r2.other (by omega) _
  have w3 : Below w.heap.size w (W2.setCell ⟨w.heap.size, 5, none⟩ (.slice s1.a s1.n s1.c)) := w2.setCell (Nat.le_refl _) _
  generalize W2.setCell ⟨w.heap.size, 5, none⟩ (.slice s1.a s1.n s1.c) = W3 at *
  clear b2 c2 z2 r2 w2 q2 bd br w1 c5 hN
  have c6 : W3.cell? ⟨w.heap.size, 6, none⟩ = some (.slice d.ps.a d.ps.n d.ps.c) := b3.c 6 _ rfl
  have hP3 := hP W3 w3
  clear hP
  go_upto_region 3 with (go_at_call 64; refine hP3.mono ?_; rintro e W4 ⟨⟨s2, rfl⟩, q4⟩; have b4 := b3.up q4; have c4 := b4.c 6 _ rfl; have z4 := b4.z 6)
  have r4 := r3.up q4
  have w4 : Below w.heap.size w W4 := w3.trans (q4.mono w3.size)
  have b5 : Blk (W4.setCell ⟨w.heap.size, 6, none⟩ (.slice s2.a s2.n s2.c)) w.heap.size (Ds.v ⟨d.k, d.ty, d.bi, d.im, d.tx, s1, s2, d.hk⟩) := b4.set 6 (by rw [Ds.len]; omega) _
  have r5 : Blk (W4.setCell ⟨w.heap.size, 6, none⟩ (.slice s2.a s2.n s2.c)) (w.heap.size + 1) Ds.no.v := r4.other (by omega) _
  have w5 : Below w.heap.size w (W4.setCell ⟨w.heap.size, 6, none⟩ (.slice s2.a s2.n s2.c)) := w4.setCell (Nat.le_refl _) _
  generalize W4.setCell ⟨w.heap.size, 6, none⟩ (.slice s2.a s2.n s2.c) = W5 at *
  obtain ⟨f1, f2⟩ := fin W5 s1 s2 b5 r5 w5
  clear fin b4 c4 z4 r4 w4 q4 b3 r3 w3 c6 hP3
  obtain ⟨d', hd'⟩ : ∃ d' : Ds, d' = ⟨d.k, d.ty, d.bi, d.im, d.tx, s1, s2, d.hk⟩ := ⟨_, rfl⟩
  rw [← hd'] at f1 f2 b5
  have hk : d'.k = d.k := by rw [hd']
  have ht : d'.tx = d.tx := by rw [hd']
  clear hd'
  go_wp2_with (first
    | (refine wpl_ld row_Desc rfl (.tmp 1) rfl (vs := d'.v) rfl b5.range d'.len ?_)
    | (refine wpl_st row_Desc rfl (.tmp 2) (.tmp 11) rfl (us := d'.v) rfl rfl r5 hz d'.len d'.one ?_; generalize W5.setCells (w.heap.size + 1) 0 d'.v = Wf at *))
  exact bodyPost_ret (res_row row_Desc Tryd.results50 rfl f1 d'.len) rfl ⟨⟨d', rfl, hk, ht⟩, f2⟩
/-- The row while it is gone through. -/
structure Cpy (w : World) (g n : Nat) (es : Nat → Ds) (i : Nat) (fs : Nat → Ds) (wr : World) : Prop where
  r : ∀ j, j < n → wr.rangeAt g (j * 8) (fs j).v
  k : ∀ j, j < n → (fs j).k = (es j).k
  e : ∀ j, i ≤ j → j < n → fs j = es j
  z : ∀ x, wr.frozen? ⟨g, x, none⟩ = false
  l : g < wr.heap.size
  b : Below w.heap.size w wr
  u : w.heap.size ≤ g
theorem Cpy.up {w : World} {g n : Nat} {es fs : Nat → Ds} {i : Nat} {wr V : World} (h : Cpy w g n es i fs wr) (hb : Below wr.heap.size wr V) : Cpy w g n es i fs V :=
  ⟨fun j hj => rng_up hb h.l (h.r j hj), h.k, h.e, fun x => (hb.frozen (p := ⟨g, x, none⟩) h.l).trans (h.z x), Nat.lt_of_lt_of_le h.l hb.size, h.b.trans (hb.mono h.b.size), h.u⟩
theorem Cpy.there {w : World} {g n : Nat} {es fs : Nat → Ds} {i : Nat} {wr : World} (h : Cpy w g n es i fs wr) (j : Nat) (hj : j < n) : wr.there g (j * 8) 8 := fun x hx => by
  have hl : x < (fs j).v.length := by rw [Ds.len]; exact hx
  exact ⟨by rw [h.r j hj x _ (List.getElem?_eq_getElem hl)]; rfl, h.z _⟩
theorem Cpy.put {w : World} {g n : Nat} {es fs : Nat → Ds} {i : Nat} {wr : World} (h : Cpy w g n es i fs wr) (hi : i < n) (d : Ds) (hd : d.k = (es i).k) : Cpy w g n es (i + 1) (fun j => if j = i then d else fs j) (wr.setCells g (i * 8) d.v) := by
  refine ⟨fun j hj => ?_, fun j hj => ?_, fun j h1 h2 => ?_, fun x => (World.frozen?_setCells _ _ _ _ _).trans (h.z x), by rw [xsc_size]; exact h.l, xbelow_sc h.b h.u _ _, h.u⟩
  · by_cases e : j = i
    · subst e
      rw [if_pos rfl]
      exact World.rangeAt_setCells_same wr g (j * 8) d.v (by rw [d.len]; exact h.there j hj)
    · rw [if_neg e]
      refine World.rangeAt_setCells_apart (h.r j hj) g (i * 8) d.v (.inr ?_)
      rw [Ds.len, Ds.len]
      omega
  · by_cases e : j = i
    · rw [if_pos e, e]; exact hd
    · rw [if_neg e]; exact h.k j hj
  · rw [if_neg (by omega)]
    exact h.e j (by omega) h2
theorem flat_len (l : List Ds) : (l.flatMap Ds.v).length = l.length * 8 := by
  induction l with
  | nil => rfl
  | cons d r ih => rw [List.flatMap_cons, List.length_append, ih, d.len, List.length_cons]; omega
theorem flat_get (l : List Ds) (j x : Nat) (d : Ds) (hj : l[j]? = some d) (hx : x < 8) : (l.flatMap Ds.v)[j * 8 + x]? = d.v[x]? := by
  induction l generalizing j with
  | nil => simp at hj
  | cons c r ih =>
    rw [List.flatMap_cons]
    cases j with
    | zero =>
      simp only [List.getElem?_cons_zero, Option.some.injEq] at hj
      subst hj
      rw [Nat.zero_mul, Nat.zero_add, List.getElem?_append_left (by rw [c.len]; exact hx)]
    | succ j =>
      rw [List.getElem?_append_right (by rw [c.len]; omega), c.len, show (j + 1) * 8 + x - 8 = j * 8 + x by omega]
      exact ih j (by simpa using hj)
set_option maxRecDepth 1000000 in
set_option maxHeartbeats 4000000 in
theorem copies_zero (a : Addr) (c : Nat) (w : World) : Calls Tryd.prog 64 #[.slice (some a) 0 c] w fun e w' => (∃ l' : Sl, e = .returned (.slice l'.a l'.n l'.c) ∧ l'.n = 0 ∧ ∀ b off, l'.a = some ⟨b, off, none⟩ → w.heap.size ≤ b) ∧ Below w.heap.size w w' := by
  have hC := cloneD_any a 0 c [] w rfl (fun j u h => by simp at h) (fun u h => by simp at h) (by omega)
  go_enter Tryd.func64, Tryd.ntmps64
  go_upto_region 2 with (go_at_call 84; refine hC.mono ?_; rintro e W2 ⟨v', rfl, o2, b2⟩; obtain ⟨⟨a2, n2, c2⟩, hv, hn, hb2⟩ := own_slice o2; dsimp only at hv hn hb2; subst hn; subst hv)
  go_wp2
  refine wp_loop_rounds 1 ?_
  rw [rounds_succ]
  go_wp2
  go_ret
  exact ⟨⟨⟨a2, 0, c2⟩, rfl, rfl, hb2⟩, b2⟩
set_option maxRecDepth 1000000 in
set_option maxHeartbeats 8000000 in
theorem copies_many (m : Nat) (hD : CpD m) (b off n c : Nat) (es : Nat → Ds) (w : World) (hn : 0 < n) (hbig : n * 112 ≤ 140737488355328) (hb : b < w.heap.size) (hr : ∀ i, i < n → w.rangeAt b (off + i * 8) (es i).v) (hk : ∀ i, i < n → DsK m w (es i)) :
    Calls Tryd.prog 64 #[.slice (some ⟨b, off, none⟩) n c] w fun e w' => (∃ (g cap : Nat) (fs : Nat → Ds), e = .returned (.slice (some ⟨g, 0, none⟩) n cap) ∧ Cpy w g n es n fs w') := by
  obtain ⟨L, hL⟩ : ∃ L : List Ds, L = (List.range n).map es := ⟨_, rfl⟩
  have hLl : L.length = n := by rw [hL]; simp
  have hLg : ∀ j, j < n → L[j]? = some (es j) := fun j hj => by rw [hL, List.getElem?_map, List.getElem?_range hj]; rfl
  have hC := cloneD_any ⟨b, off, none⟩ n c (L.flatMap Ds.v) w (by rw [flat_len, hLl]) (fun j u hu => by
    have hj : j < n * 8 := by have := (List.getElem?_eq_some_iff.1 hu).1; rwa [flat_len, hLl] at this
    have e : j = (j / 8) * 8 + j % 8 := by omega
    rw [e, flat_get L (j / 8) (j % 8) (es (j / 8)) (hLg _ (by omega)) (Nat.mod_lt _ (by omega))] at hu
    have := hr (j / 8) (by omega) (j % 8) u hu
    rw [Addr.add_mid]
    rwa [show off + j / 8 * 8 + j % 8 = off + j by omega] at this) (fun u hu => by
    obtain ⟨d, _, hd⟩ := List.mem_flatMap.1 hu
    exact d.one u hd) hbig
  have st : ∀ (g cap : Nat) (W : World), W.ownsRow w.heap.size 26 8 (.slice (some ⟨g, 0, none⟩) n cap) n (L.flatMap Ds.v) → Below w.heap.size w W → w.heap.size ≤ g → g < W.heap.size → Cpy w g n es 0 es W := fun g cap W ho hB h1 h2 =>
    ⟨fun j hj x v hv => by
      have hx : x < 8 := by have := (List.getElem?_eq_some_iff.1 hv).1; rwa [Ds.len] at this
      rw [ho.cellAt (j * 8 + x) (by omega), flat_get L j x (es j) (hLg j hj) hx]
      exact hv, fun _ _ => rfl, fun _ _ _ => rfl, fun x => ho.frozenAt x, h2, hB, h1⟩
  have hnI : (n : Int) ≤ 140737488355328 := by omega
  clear hL hLl hLg hr
  generalize L.flatMap Ds.v = news at *
  go_enter Tryd.func64, Tryd.ntmps64
  go_upto_region 2 with (go_at_call 84; refine hC.mono ?_; rintro e W2 ⟨v', rfl, o2, b2⟩; obtain ⟨g, cap, rfl, hg1, hg2⟩ := o2.form hn)
  have c0 := st g cap W2 o2 b2 hg1 hg2
  clear st o2 hC
  go_wp2
  go_loopg [3, 8] n (fun gg x y wr => ∃ (i : Nat) (fs : Nat → Ds) (V : World), V = wr ∧ i ≤ n ∧ n ≤ i + gg ∧ y = .int .i64 (i : Nat) ∧ Cpy w g n es i fs V)
  case atStart => exact ⟨0, es, _, rfl, by omega, by omega, rfl, c0⟩
  case round =>
    obtain ⟨i, fs, V, rfl, hi, hgk, rfl, hc⟩ := hrel
    by_cases hlt : i < n
    · have hltI : (i : Int) < n := by omega
      have hre := hc.r i hlt
      have hDs := hD (fs i) V (by rw [hc.e i (Nat.le_refl _) hlt]; exact (hk i hlt).up hc.b)
      have hlen := (fs i).len
      have hki : (fs i).k = (es i).k := hc.k i hlt
      have hnn : ¬ (i : Int) < 0 := by omega
      generalize (fs i).v = FV at *
      go_upto_region 5 with fail
      go_wp2_with (first
        | (refine wpl_ld row_Desc rfl (.tmp 15) rfl (vs := FV) rfl hre hlen ?_)
        | (go_at_call 50; refine hDs.mono ?_; rintro e V2 ⟨⟨d', rfl, hk', _⟩, q2⟩; have c2 := hc.up q2; have th2 := c2.there i hlt; have p2 := c2.put hlt d' (hk'.trans hki); have hd1 := d'.len; have hd2 := d'.one; generalize d'.v = DV at *)
        | (refine wpl_stm row_Desc rfl (.tmp 18) (.tmp 17) rfl (us := DV) rfl rfl th2 hd1 hd2 ?_; generalize V2.setCells g (i * 8) DV = V3 at *))
      go_roundg (gk - 1)
      case measure => omega
      case rel => exact ⟨i + 1, _, _, rfl, by omega, by omega, by go_num, p2⟩
    · obtain rfl : i = n := by omega
      go_wp2
      go_ret
      exact ⟨g, cap, fs, rfl, hc⟩
theorem copies_step (m : Nat) (hD : CpD m) : CpL m := by
  intro l w h
  obtain ⟨a, n, c⟩ := l
  rcases h.2 with ⟨ha, hn, hc⟩ | ⟨ha, hn⟩ | ⟨hn, b, off, ha, hb, hx⟩
  · dsimp only at ha hn hc
    subst ha hn hc
    exact (copies_nil w).mono (fun e w' ⟨e1, e2⟩ => ⟨⟨⟨none, 0, 0⟩, e1, rfl, (fun b off h => by cases h), fun i hi => absurd hi (Nat.not_lt_zero _)⟩, by rw [e2]; exact Below.refl _ _⟩)
  · dsimp only at ha hn
    subst hn
    obtain ⟨ad, rfl⟩ := Option.ne_none_iff_exists'.1 ha
    exact (copies_zero ad c w).mono (fun e w' ⟨⟨l', e1, e2, e4⟩, e3⟩ => ⟨⟨l', e1, e2, e4, fun i hi => absurd hi (Nat.not_lt_zero _)⟩, e3⟩)
  · dsimp only at ha hn hx
    subst ha
    have hx' : ∀ i : Nat, ∃ e : Ds, i < n → w.rangeAt b (off + i * 8) e.v ∧ DsK m w e := fun i => by
      rcases Nat.lt_or_ge i n with h1 | h1
      · obtain ⟨e, he⟩ := hx i h1
        exact ⟨e, fun _ => he⟩
      · exact ⟨.no, fun h2 => by omega⟩
    obtain ⟨es, hes⟩ := Classical.skolem.1 hx'
    refine (copies_many m hD b off n c es w hn h.1 hb (fun i hi => (hes i hi).1) (fun i hi => (hes i hi).2)).mono (fun e w' ⟨g, cap, fs, e1, e2⟩ => ⟨⟨⟨some ⟨g, 0, none⟩, n, cap⟩, e1, rfl, (fun b off h => by cases h; exact e2.u), fun i hi k hk => ?_⟩, e2.b⟩)
    obtain ⟨b', off', ha', hb', d, hd, hdk⟩ := hk
    simp only [Option.some.injEq, Addr.mk.injEq, and_true] at ha'
    obtain ⟨rfl, rfl⟩ := ha'
    refine ⟨g, 0, rfl, e2.l, fs i, by rw [Nat.zero_add]; exact e2.r i hi, ?_⟩
    rw [e2.k i hi]
    have h1 := (hes i hi).1 0 _ rfl
    have h2 := hd 0 _ rfl
    rw [h1] at h2
    have := Option.some.inj h2
    simp only [Value.int.injEq, true_and] at this
    rw [this, hdk]
theorem copied_all : ∀ m, CpD m
  | 0 => fun _ _ h => h.elim
  | m + 1 => copied_step m (copies_step m (copied_all m))
theorem copies_all (m : Nat) : CpL m := copies_step m (copied_all m)
end Go.Proofs.YtbfaapbbhgegiaaDoor
