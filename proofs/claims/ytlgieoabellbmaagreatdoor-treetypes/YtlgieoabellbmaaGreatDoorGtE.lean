/- tree: what stands between brackets (a range over a function). -/
import Derived.RangeFuncNested
import Derived.RangeFuncBound
import Derived.RangeFuncCalls
import Derived.RangeFuncLeaves
import Derived.Shelf.Abstract
import Derived.Shelf.RegionOpen
import Derived.WalkKit
import Derived.OwnWalkIn
import Derived.TacticsInMore
import Derived.LoopNIn
import Derived.LoopIn
import Derived.Laws.EntriesVeiled
import Derived.Test.YtlgieoabellbmaaGreatDoorPt3
namespace Go.Proofs.YtlgieoabellbmaaGreatDoor
open Go.RowKit Go.Shelf
set_option linter.unusedVariables false
set_option linter.unusedSimpArgs false
attribute [local go_sem] Oper.semAt_some
structure Sq where
 p : Bool
 mi : Bool
 sh : Bool
 sp : Bool
 z : Bool
 wid : Int
 prec : Int
 verb : Int
abbrev Sq.c (f : Sq) : Array Value := #[.bool f.p, .bool f.mi, .bool f.sh, .bool f.sp, .bool f.z, .int .i64 f.wid, .int .i64 f.prec, .int .i32 f.verb]
abbrev WV (f : Sq) (ask : Value) : Value := .agg #[.bool f.p, .bool f.mi, .bool f.sh, .bool f.sp, .bool f.z, .int .i64 f.wid, .int .i64 f.prec, .int .i32 f.verb, ask]
def syn (f : Sq) : Bool := decide (f.verb = 118) && f.sh
theorem asSyntax_any (f : Sq) (ask : Value) (w : World) : Calls Tryz.prog 129 #[WV f ask] w fun e w' => e = .returned (.bool (syn f)) ∧ Below w.heap.size w w' := by
 obtain ⟨p, mi, sh, sp, z, wid, prec, verb⟩ := f
 unfold syn
 dsimp only
 by_cases h : verb = 118
 ·subst h
  go_enter Tryz.func129, Tryz.ntmps129
  go_wp2
  go_ret
  exact ⟨by simp, (Below.refl _ _).alloc (Nat.le_refl _) _⟩
 ·have hd : decide (verb = 118) = false := decide_eq_false h
  rw [hd]
  go_enter Tryz.func129, Tryz.ntmps129
  go_wp2
  go_ret
  exact ⟨by simp, (Below.refl _ _).alloc (Nat.le_refl _) _⟩
theorem between_any (g : ByteArray) (w : World) : Calls Tryz.prog 130 #[.string g] w fun e w' => e = .returned (.func (.func 175) #[] #[.pointer (some ⟨w.heap.size + 1, 0, none⟩), .pointer (some ⟨w.heap.size, 0, none⟩)]) ∧ w' = (w.alloc (.cells #[.string g] 9)).alloc (.cells #[.string ⟨#[]⟩] 9) := by
 have hmf : ∀ (fn : Fn) (first cap : Array Value) (w : World), (Instr.makeFunc fn first cap).run Tryz.prog w = .ok (.func fn first cap) w := fun _ _ _ _ => rfl
 go_enter Tryz.func130, Tryz.ntmps130
 go_wp2
 go_ret
 exact ⟨rfl, rfl⟩
theorem between1_any (Bn Bg : Nat) (x g : ByteArray) (w : World) (hn : Boxed w Bn 9 (.string x)) (hg : Boxed w Bg 9 (.string g)) :
  Calls Tryz.prog 175 #[.pointer (some ⟨Bn, 0, none⟩), .pointer (some ⟨Bg, 0, none⟩)] w fun e w' => e = .returned (.string x) ∧ w' = w.setCell ⟨Bn, 0, none⟩ (.string g) := by
 have h1 := hn.cell
 have h2 := hn.frozen
 have h3 := hg.cell
 go_enter Tryz.func175, Tryz.ntmps175
 go_wp2
 go_ret
 exact ⟨rfl, rfl⟩
def jn (g : List UInt8) (l : List ByteArray) : Bool × List UInt8 := l.foldl (fun st x => (true, st.2 ++ (if st.1 then g else []) ++ x.data.toList)) (false, [])
theorem jn_snoc (g : List UInt8) (l : List ByteArray) (x : ByteArray) : jn g (l ++ [x]) = (true, (jn g l).2 ++ (if (jn g l).1 then g else []) ++ x.data.toList) := by
 unfold jn; rw [List.foldl_append]; rfl
abbrev TxK := { s : ByteArray // s.size ≤ 1000000000 }
theorem jn_len (g : List UInt8) (hg : g.length ≤ 2) : ∀ l : List TxK, (jn g (l.map (·.1))).2.length ≤ l.length * 1000000002 := by
 have key : ∀ (l : List TxK) (st : Bool × List UInt8), ((l.map (·.1)).foldl (fun (st : Bool × List UInt8) (x : ByteArray) => (true, st.2 ++ (if st.1 then g else []) ++ x.data.toList)) st).2.length ≤ st.2.length + l.length * 1000000002 := by
  intro l
  induction l with
  | nil => intro st; simp
  | cons x t ih =>
    intro st
    rw [List.map_cons, List.foldl_cons]
    refine Nat.le_trans (ih _) ?_
    have hx := x.2
    have e : x.1.data.toList.length = x.1.size := by rw [Array.length_toList]; rfl
    have hif : (if st.1 then g else []).length ≤ 2 := by
     split
     ·exact hg
     ·exact Nat.zero_le _
    simp only [List.length_append, List.length_cons, e]
    omega
 intro l
 have := key l (false, [])
 simpa [jn] using this
theorem isBF_own {β : Type} (T e : TypeId) (B b : Nat) (f : β → List Value) : Own (fun s W => Lib.IsBuilderF T e B b (f s) W) := by
 intro s W W' row h hg hr
 have blk : ∀ (k : Nat) (c : Array Value) (t : TypeId) (fz : Nat × Nat), W.heap[k]? = some (.cells c t fz) → W'.heap[k]? = some (.cells c t fz) := by
  intro k c t fz hk
  refine (hg.block k (Array.getElem?_eq_some_iff.1 hk).1 (fun e' => ?_)).trans hk
  obtain ⟨o, ho, hc⟩ := hr k e'.symm
  rw [hk] at ho
  cases ho
  cases hc
 have key : ∀ p, Lib.BuilderAtF T e B b p (f s) W → Lib.BuilderAtF T e B b p (f s) W' := by
  rintro p ⟨hB, v, hbk, hown, hne⟩
  refine ⟨hB, v, blk _ _ _ _ hbk, ⟨hown.1, ?_⟩, hne⟩
  rcases hown.2 with hn | ⟨g, cap, cur, fz, hv, hbg, hg, rest⟩
  ·exact .inl hn
  ·exact .inr ⟨g, cap, cur, fz, hv, hbg, blk _ _ _ _ hg, rest⟩
 exact h.elim (fun x => .inl (key _ x)) (fun x => .inr (key _ x))
theorem isBF_far {T e : TypeId} {B b : Nat} {bs : List Value} {W W' : World} (h : Lib.IsBuilderF T e B b bs W) (hk : ∀ k, B ≤ k → W'.heap[k]? = W.heap[k]?) : Lib.IsBuilderF T e B b bs W' := by
 have key : ∀ p, Lib.BuilderAtF T e B b p bs W → Lib.BuilderAtF T e B b p bs W' := by
  rintro p ⟨hB, v, hbk, hown, hne⟩
  refine ⟨hB, v, (hk _ hB).trans hbk, ⟨hown.1, ?_⟩, hne⟩
  rcases hown.2 with hn | ⟨g, cap, cur, fz, hv, hbg, hg, rest⟩
  ·exact .inl hn
  ·exact .inr ⟨g, cap, cur, fz, hv, hbg, (hk _ hbg).trans hg, rest⟩
 exact h.elim (fun x => .inl (key _ x)) (fun x => .inr (key _ x))
theorem isBF_cells {T e : TypeId} {B b : Nat} {bs : List Value} {W : World} (h : Lib.IsBuilderF T e B b bs W) : ∃ c t fz, W.heap[b]? = some (.cells c t fz) := by
 rcases h with ⟨_, v, hb, _⟩ | ⟨_, v, hb, _⟩ <;> exact ⟨_, _, _, hb⟩
theorem keepsFrom_others {e : TypeId} {B b : Nat} {W W' : World} (hs : W.heap.size ≤ W'.heap.size) (h : Lib.OthersKept e (some b) W W') (hb : ∃ c t fz, W.heap[b]? = some (.cells c t fz)) : KeepsFrom B W W' := by
 refine ⟨hs, fun k o _ hk ho => h k o hk (fun e' => ?_) (fun c fz e' => by rw [e'] at ho; cases ho)⟩
 obtain ⟨c, t, fz, hc⟩ := hb
 cases e'
 rw [hc] at hk
 cases hk
 cases ho
set_option maxRecDepth 1000000 in
set_option maxHeartbeats 2000000 in
theorem enclosed_plain (f : Sq) (ask : Value) (ty op cl : ByteArray) (ts : List TxK) (gf : Nat) (lb : Array Value) (w : World) (hs : syn f = false) (hent : ∀ args w, (callFunc gf args).run Tryz.prog w = .ok (.enter gf args) w)
  (hseq : SeqStopsK Fence.wide 4 Tryz.prog gf lb (fun s : TxK => #[.string s.1]) (Below w.heap.size) (fun xs => xs = ts) (fun _ => True) ts.length w) (hz : op.size + cl.size ≤ 1000000000) (hN : ts.length ≤ 1000) (R : ByteArray) (HR0 : Unit → (⟨(op.data.toList ++ (jn [32] (ts.map (·.1))).2 ++ cl.data.toList).toArray⟩ : ByteArray) = R) :
  Calls Tryz.prog 90 #[WV f ask, .string ty, .string op, .string cl, .func (.func gf) #[] lb] w fun e w' => e = .returned (.string R) ∧ Below w.heap.size w w' := by
 obtain ⟨W1, hW1⟩ : ∃ W1, W1 = w.alloc (.cells #[.bool f.p, .bool f.mi, .bool f.sh, .bool f.sp, .bool f.z, .int .i64 f.wid, .int .i64 f.prec, .int .i32 f.verb, ask] 57) := ⟨_, rfl⟩
 have b1 : Below w.heap.size w W1 := by rw [hW1]; exact (Below.refl _ _).alloc (Nat.le_refl _) _
 have hsy := asSyntax_any f ask W1
 rw [hs] at hsy
 refine (callsIn_wide (n := 5)).1 ?_
 refine callsIn_of_wp_marks Tryz.func90 rfl trivial ?_ rfl
 simp only [Tryz.ntmps90, List.size_toArray, List.length_cons, List.length_nil, Nat.reduceAdd, Nat.reduceSub, Array.replicate_succ, Array.replicate_zero, List.push_toArray, List.append_toArray, List.nil_append, List.cons_append]
 gi_wp2_with fail
 rw [← hW1]
 refine ⟨trivial, (callsIn_wide.2 hsy).mono ?_⟩
 rintro e W2 ⟨rfl, b2⟩
 have bW2 : Below w.heap.size w W2 := b1.trans (b2.mono b1.size)
 clear hW1 hsy b1 b2
 have hbt := between_any ⟨#[32]⟩ W2
 obtain ⟨W4, hW4⟩ : ∃ W4, W4 = ((W2.alloc (.cells #[.string ⟨#[32]⟩] 9)).alloc (.cells #[.string ⟨#[]⟩] 9)).alloc (.cells #[.func (.func 175) #[] #[.pointer (some ⟨W2.heap.size + 1, 0, none⟩), .pointer (some ⟨W2.heap.size, 0, none⟩)]] 76) := ⟨_, rfl⟩
 gi_wp2_with ((refine ⟨trivial, ?_⟩; gi_at_call 130; refine (callsIn_wide.2 hbt).mono ?_; rintro e W3 ⟨rfl, rfl⟩))
 rw [← hW4]
 have hs4 : W4.heap.size = W2.heap.size + 1 + 1 + 1 := by rw [hW4]; simp
 have xg : Boxed W4 W2.heap.size 9 (.string ⟨#[32]⟩) := by rw [hW4]; exact ((Boxed.new _ _ _).alloc _).alloc _
 have xn : Boxed W4 (W2.heap.size + 1) 9 (.string ⟨#[]⟩) := by
  have h := (Boxed.new (W2.alloc (.cells #[.string ⟨#[32]⟩] 9)) 9 (.string ⟨#[]⟩)).alloc (.cells #[.func (.func 175) #[] #[.pointer (some ⟨W2.heap.size + 1, 0, none⟩), .pointer (some ⟨W2.heap.size, 0, none⟩)]] 76)
  rw [World.size_alloc] at h
  rw [hW4]; exact h
 have xf : Boxed W4 (W2.heap.size + 1 + 1) 76 (.func (.func 175) #[] #[.pointer (some ⟨W2.heap.size + 1, 0, none⟩), .pointer (some ⟨W2.heap.size, 0, none⟩)]) := by
  have h := Boxed.new ((W2.alloc (.cells #[.string ⟨#[32]⟩] 9)).alloc (.cells #[.string ⟨#[]⟩] 9)) 76 (.func (.func 175) #[] #[.pointer (some ⟨W2.heap.size + 1, 0, none⟩), .pointer (some ⟨W2.heap.size, 0, none⟩)])
  rw [World.size_alloc, World.size_alloc] at h
  rw [hW4]; exact h
 have bW4 : Below w.heap.size w W4 := by rw [hW4]; exact ((bW2.alloc bW2.size _).alloc (by have := bW2.size; simp; omega) _).alloc (by have := bW2.size; simp; omega) _
 have hX := bW2.size
 clear hW4 hbt bW2
 obtain ⟨X, hXe⟩ : ∃ X, W2.heap.size = X := ⟨_, rfl⟩
 rw [hXe] at hs4 xg xn xf hX
 simp only [hXe]
 clear hXe
 have hI0 := Lib.IsBuilderF.of (Lib.fresh_isBuilder 131 5 W4)
 rw [hs4] at hI0
 obtain ⟨W5, hW5⟩ : ∃ W5, W5 = W4.alloc (.cells #[.pointer none, .slice none 0 0] 131) := ⟨_, rfl⟩
 have b45 : Below W4.heap.size W4 W5 := by rw [hW5]; exact (Below.refl _ _).alloc (Nat.le_refl _) _
 rw [← hW5]
 replace hI0 : Lib.IsBuilderF 131 5 (X + 1 + 1 + 1) (X + 1 + 1 + 1) [] W5 := by rw [hW5]; exact hI0
 have s5 : X + 1 + 1 + 1 + 1 = W5.heap.size := by rw [hW5, World.size_alloc, hs4]
 have bx5 : ∀ {B : Nat} {t : TypeId} {v : Value}, Boxed W4 B t v → Boxed W5 B t v := fun h => by rw [hW5]; exact h.alloc _
 have xg5 := bx5 xg
 have xn5 := bx5 xn
 have xf5 := bx5 xf
 have bW5 : Below w.heap.size w W5 := bW4.trans (b45.mono bW4.size)
 clear hW5 bx5 xg xn xf b45 bW4 hs4
 refine ⟨trivial, (callsIn_wide.2 (Tryz.writeString (X + 1 + 1 + 1) (X + 1 + 1 + 1) [] op W5 hI0 (by simp; omega) (by omega))).mono ?_⟩
 rintro e W6 ⟨rfl, h6, b6, o6⟩
 have hI6 : Lib.IsBuilderF 131 5 (X + 1 + 1 + 1) (X + 1 + 1 + 1) (Lib.byteCells op.data.toList) W6 := by
  rw [List.nil_append, show Lib.strCells op = Lib.byteCells op.data.toList from rfl] at h6
  exact .inr h6
 have kb : ∀ {B : Nat} {t : TypeId} {v : Value}, B < X + 1 + 1 + 1 → Boxed W5 B t v → Boxed W6 B t v := fun hB h => (b6.block _ hB).trans h
 have xg6 := kb (by omega) xg5
 have xn6 := kb (by omega) xn5
 have xf6 := kb (by omega) xf5
 have bW6 : Below w.heap.size w W6 := bW5.trans (b6.mono (by omega))
 have s6 : X + 1 + 1 + 1 + 1 ≤ W6.heap.size := by have := b6.size; omega
 clear h6 o6 b6 kb xg5 xn5 xf5 bW5 hI0 s5
 gi_wp2
 refine wpIn_rangeFunc_ownG rfl (by omega) (gf := gf) (lb := lb) rfl trivial hent hseq belowK_t (belowK_b (by omega)) bW6 (fun _ => rfl)
  (fun pre W => (Boxed W X 9 (.string ⟨#[32]⟩) ∧ Boxed W (X + 1) 9 (.string ⟨(if (jn [32] (pre.map (·.1))).1 then ([32] : List UInt8) else []).toArray⟩) ∧ Boxed W (X + 1 + 1) 76 (.func (.func 175) #[] #[.pointer (some ⟨X + 1, 0, none⟩), .pointer (some ⟨X, 0, none⟩)]) ∧ Lib.IsBuilderF 131 5 (X + 1 + 1 + 1) (X + 1 + 1 + 1) (Lib.byteCells (op.data.toList ++ (jn [32] (pre.map (·.1))).2)) W) ∧ Below w.heap.size w W)
  (fun _ _ _ => False)
  (OwnFrom.and (Own.from (fun s A B row hs hg hr => ⟨boxed_own X _ (fun _ : Unit => _) () A B row hs.1 hg hr, boxed_own (X + 1) _ (fun _ : Unit => _) () A B row hs.2.1 hg hr, boxed_own (X + 1 + 1) _ (fun _ : Unit => _) () A B row hs.2.2.1 hg hr, isBF_own _ _ _ _ (fun _ : Unit => _) () A B row hs.2.2.2 hg hr⟩) _) (ownFrom_below (Nat.le_refl _) (by omega)))
  (fun _ _ _ _ _ hs _ _ => hs)
  ⟨⟨xg6, xn6, xf6, by simpa [jn] using hI6⟩, bW6⟩
  (fun x => { tmps := #[WV f ask, .string ty, .string op, .string cl, .func (.func gf) #[] lb, .pointer (some ⟨w.heap.size, 0, none⟩), undef, undef, undef, undef, .string ⟨#[]⟩, .string ⟨#[32]⟩, .pointer (some ⟨X + 1 + 1, 0, none⟩), .pointer (some ⟨X + 1 + 1 + 1, 0, none⟩), .string x.1, WV f ask, .bool false, undef, undef, .string ⟨#[32]⟩, .func (.func 175) #[] #[.pointer (some ⟨X + 1, 0, none⟩), .pointer (some ⟨X, 0, none⟩)], .string op, .tuple #[.int .i64 op.size, .nilIface], .func (.func gf) #[] lb, .string x.1, undef, undef, undef, undef, undef, undef, undef, undef], defers := [] }) ?assign ?body ?done ?stop
 case assign =>
  intro l x W K hK
  gi_wp2
  exact hK
 case body =>
  rintro l pre x W ⟨⟨xg, xn, xf, hI⟩, hB⟩ hlt
  have cf := xf.cell
  obtain ⟨NX, hNX⟩ : ∃ NX : ByteArray, (⟨(if (jn [32] (pre.map (·.1))).1 then ([32] : List UInt8) else []).toArray⟩ : ByteArray) = NX := ⟨_, rfl⟩
  have HN : Unit → NX.data.toList = (if (jn [32] (pre.map (·.1))).1 then ([32] : List UInt8) else []) := fun _ => by rw [← hNX]
  have HN1 : NX.size ≤ 1 := by
   rw [← hNX]
   show (List.toArray _).size ≤ 1
   rw [List.size_toArray]
   split <;> simp
  rw [hNX] at xn
  clear hNX
  have hb1 := between1_any (X + 1) X _ _ W xn xg
  have HZ : ∀ y : Nat, y ≤ 1 → (Lib.byteCells (op.data.toList ++ (jn [32] (pre.map (·.1))).2)).length + y ≤ 140737488355328 ∧ (Lib.byteCells (op.data.toList ++ (jn [32] (pre.map (·.1))).2)).length + y + x.1.size ≤ 140737488355328 := by
   intro y hy
   have hlen := jn_len [32] (by simp) pre
   have hx := x.2
   have e : op.data.toList.length = op.size := by rw [Array.length_toList]; rfl
   rw [Lib.byteCells_length, List.length_append, e]
   omega
  obtain ⟨AC, hAC⟩ : ∃ AC, op.data.toList ++ (jn [32] (pre.map (·.1))).2 = AC := ⟨_, rfl⟩
  have HAC : Unit → op.data.toList ++ (jn [32] (pre.map (·.1))).2 = AC := fun _ => hAC
  rw [hAC] at HZ hI
  clear hAC hz hN hlt
  obtain ⟨V7, hW7⟩ : ∃ V7, V7 = W.setCell ⟨X + 1, 0, none⟩ (.string ⟨#[32]⟩) := ⟨_, rfl⟩
  rw [← hW7] at hb1
  gi_wp2_with (refine ⟨trivial, ?_⟩; gi_at_call 175; refine (CallsIn.inRound l (callsIn_wide.2 hb1)).mono ?_; rintro e W7 ⟨rfl, rfl⟩)
  rw [← hW7]
  have far7 : ∀ k, k ≠ X + 1 → W7.heap[k]? = W.heap[k]? := fun k hk => by rw [hW7]; exact Below.heap_setCell _ _ _ _ hk
  have xn7 : Boxed W7 (X + 1) 9 (.string ⟨#[32]⟩) := by rw [hW7]; exact xn.set _
  have xg7 : Boxed W7 X 9 (.string ⟨#[32]⟩) := (far7 X (by omega)).trans xg
  have xf7 : Boxed W7 (X + 1 + 1) 76 (.func (.func 175) #[] #[.pointer (some ⟨X + 1, 0, none⟩), .pointer (some ⟨X, 0, none⟩)]) := (far7 _ (by omega)).trans xf
  have hI7 := isBF_far hI fun k hk => far7 k (by omega)
  have k7 : KeepsOthers W W7 := by rw [hW7]; exact KeepsOthers.setCell _ _ _
  have b7 : Below w.heap.size W W7 := by rw [hW7]; exact (Below.refl _ W).setCell (p := ⟨X + 1, 0, none⟩) (by show w.heap.size ≤ X + 1; omega) _
  have s7 : X + 1 + 1 + 1 ≤ W7.heap.size := by have h := isBF_cells hI7; obtain ⟨c, t, fz, h⟩ := h; have := (Array.getElem?_eq_some_iff.1 h).1; omega
  clear hW7 far7 hb1 cf xn xg xf hI
  refine ⟨trivial, (CallsIn.inRound l (callsIn_wide.2 (Tryz.writeString (X + 1 + 1 + 1) (X + 1 + 1 + 1) _ NX W7 hI7 (HZ _ HN1).1 s7))).mono ?_⟩
  rintro e W8 ⟨rfl, h8, b8, o8⟩
  have hI8 : Lib.IsBuilderF 131 5 (X + 1 + 1 + 1) (X + 1 + 1 + 1) (Lib.byteCells (AC ++ NX.data.toList)) W8 := by
   have e : Lib.byteCells AC ++ Lib.strCells NX = Lib.byteCells (AC ++ NX.data.toList) := by simp [Lib.strCells, Lib.byteCells]
   rw [e] at h8
   exact .inr h8
  have k8 : KeepsFrom W6.heap.size W W8 := (k7.from _).trans (keepsFrom_others b8.size o8 (isBF_cells hI7))
  have bb8 : Below w.heap.size W W8 := b7.trans (b8.mono (by omega))
  have xn8 := (b8.block (X + 1) (by omega)).trans xn7
  have xg8 := (b8.block X (by omega)).trans xg7
  have xf8 := (b8.block (X + 1 + 1) (by omega)).trans xf7
  have s8 : X + 1 + 1 + 1 ≤ W8.heap.size := Nat.le_trans s7 b8.size
  have HZ8 : (Lib.byteCells (AC ++ NX.data.toList)).length + x.1.size ≤ 140737488355328 := by
   have h := (HZ _ HN1).2
   have e : NX.data.toList.length = NX.size := by rw [Array.length_toList]; rfl
   rw [Lib.byteCells_length] at h
   rw [Lib.byteCells_length, List.length_append, e]
   omega
  clear h8 b8 o8 k7 b7 xn7 xg7 xf7 hI7 HZ s7
  gi_wp2_with fail
  refine ⟨trivial, (CallsIn.inRound l (callsIn_wide.2 (Tryz.writeString (X + 1 + 1 + 1) (X + 1 + 1 + 1) _ x.1 W8 hI8 HZ8 s8))).mono ?_⟩
  rintro e W9 ⟨rfl, h9, b9, o9⟩
  have hI9 : Lib.IsBuilderF 131 5 (X + 1 + 1 + 1) (X + 1 + 1 + 1) (Lib.byteCells (op.data.toList ++ (jn [32] ((pre ++ [x]).map (·.1))).2)) W9 := by
   have e : Lib.byteCells (AC ++ NX.data.toList) ++ Lib.strCells x.1 = Lib.byteCells (op.data.toList ++ (jn [32] ((pre ++ [x]).map (·.1))).2) := by
    rw [List.map_append, List.map_cons, List.map_nil, jn_snoc, ← HN (), ← HAC ()]
    simp [Lib.strCells, Lib.byteCells]
   rw [e] at h9
   exact .inr h9
  have k9 : KeepsFrom W6.heap.size W W9 := k8.trans (keepsFrom_others b9.size o9 (isBF_cells hI8))
  have bb9 : Below w.heap.size W W9 := bb8.trans (b9.mono (by omega))
  have xn9 : Boxed W9 (X + 1) 9 (.string ⟨#[32]⟩) := (b9.block (X + 1) (by omega)).trans xn8
  have xg9 : Boxed W9 X 9 (.string ⟨#[32]⟩) := (b9.block X (by omega)).trans xg8
  have xf9 := (b9.block (X + 1 + 1) (by omega)).trans xf8
  gi_wp2
  refine ⟨k9, bb9, ⟨xg9, ?_, xf9, hI9⟩, hB.trans bb9⟩
  rw [List.map_append, List.map_cons, List.map_nil, jn_snoc]
  exact xn9
 case done =>
  rintro D xs W hD hxs ⟨⟨-, -, -, hI⟩, hB⟩ hK
  obtain rfl := hxs
  have HZ : (Lib.byteCells (op.data.toList ++ (jn [32] (xs.map (·.1))).2)).length + cl.size ≤ 140737488355328 := by
   have hlen := jn_len [32] (by simp) xs
   have e : op.data.toList.length = op.size := by rw [Array.length_toList]; rfl
   rw [Lib.byteCells_length, List.length_append, e]
   omega
  obtain ⟨AC, hAC⟩ : ∃ AC, op.data.toList ++ (jn [32] (xs.map (·.1))).2 = AC := ⟨_, rfl⟩
  rw [hAC] at HZ hI
  have HR : Unit → (⟨(AC ++ cl.data.toList).toArray⟩ : ByteArray) = R := fun _ => by rw [← HR0 (), hAC]
  have s6' : X + 1 + 1 + 1 ≤ W.heap.size := by obtain ⟨c, t, fz, h⟩ := isBF_cells hI; have := (Array.getElem?_eq_some_iff.1 h).1; omega
  have kD : ∀ {b : Nat} {A B : World}, Lib.OthersKept 5 (some b) A B → (∃ c t fz, A.heap[b]? = some (.cells c t fz)) → A.heap[D]? = some (.deferred (some [])) → B.heap[D]? = some (.deferred (some [])) := by
   intro b A B ho hb hk
   refine ho D _ hk (fun e' => ?_) (fun c fz e' => by cases e')
   obtain ⟨c, t, fz, hc⟩ := hb
   cases e'
   rw [hc] at hk
   cases hk
  clear hz hN hAC
  gi_wp2_with fail
  refine ⟨trivial, (callsIn_wide.2 (Tryz.writeString (X + 1 + 1 + 1) (X + 1 + 1 + 1) _ cl W hI HZ s6')).mono ?_⟩
  rintro e W8 ⟨rfl, h8, b8, o8⟩
  have hI8 : Lib.IsBuilderF 131 5 (X + 1 + 1 + 1) (X + 1 + 1 + 1) (Lib.byteCells (AC ++ cl.data.toList)) W8 := by
   have e : Lib.byteCells AC ++ Lib.strCells cl = Lib.byteCells (AC ++ cl.data.toList) := by simp [Lib.strCells, Lib.byteCells]
   rw [e] at h8
   exact .inr h8
  have hK8 := kD o8 (isBF_cells hI) hK
  have s8 := Nat.le_trans s6' b8.size
  gi_wp2_with fail
  refine ⟨trivial, (callsIn_wide.2 (Tryz.builderString (X + 1 + 1 + 1) (X + 1 + 1 + 1) _ W8 hI8 s8)).mono ?_⟩
  rintro e W9 ⟨rfl, h9, b9, o9⟩
  have hK9 := kD o9 (isBF_cells hI8) hK8
  rw [HR ()]
  have bW9 : Below w.heap.size w W9 := (hB.trans (b8.mono (by omega))).trans (b9.mono (by omega))
  clear HR kD HZ hI hI8 h8 h9 o8 o9
  gi_wp2
  refine ⟨by simp, .inl ⟨_, _, rfl, run_takeDeferred hK9, ?_⟩⟩
  exact ⟨_, results_tmp rfl _ _ _, rfl, bW9.trans (belowK_b (w := W6) (by omega) W9 D _ _ hD hK9 rfl rfl)⟩
 case stop =>
  rintro D c pre W _ _ h _
  exact h.elim
set_option maxRecDepth 1000000 in
set_option maxHeartbeats 2000000 in
theorem enclosed_syn (f : Sq) (ask : Value) (ty op cl o0 c0 : ByteArray) (ts : List TxK) (gf : Nat) (lb : Array Value) (w : World) (hs : syn f = true) (hop : ty ++ ⟨#[123]⟩ = op) (hcl : (⟨#[125]⟩ : ByteArray) = cl) (hty : ty.size ≤ 1000000000) (hent : ∀ args w, (callFunc gf args).run Tryz.prog w = .ok (.enter gf args) w)
  (hseq : SeqStopsK Fence.wide 4 Tryz.prog gf lb (fun s : TxK => #[.string s.1]) (Below w.heap.size) (fun xs => xs = ts) (fun _ => True) ts.length w) (hz : op.size + cl.size ≤ 1000000000) (hN : ts.length ≤ 1000) (R : ByteArray) (HR0 : Unit → (⟨(op.data.toList ++ (jn [44, 32] (ts.map (·.1))).2 ++ cl.data.toList).toArray⟩ : ByteArray) = R) :
  Calls Tryz.prog 90 #[WV f ask, .string ty, .string o0, .string c0, .func (.func gf) #[] lb] w fun e w' => e = .returned (.string R) ∧ Below w.heap.size w w' := by
 have hsum : ¬ 9223372036854775807 < ty.size + 1 := by omega
 obtain ⟨W1, hW1⟩ : ∃ W1, W1 = w.alloc (.cells #[.bool f.p, .bool f.mi, .bool f.sh, .bool f.sp, .bool f.z, .int .i64 f.wid, .int .i64 f.prec, .int .i32 f.verb, ask] 57) := ⟨_, rfl⟩
 have b1 : Below w.heap.size w W1 := by rw [hW1]; exact (Below.refl _ _).alloc (Nat.le_refl _) _
 have hsy := asSyntax_any f ask W1
 rw [hs] at hsy
 refine (callsIn_wide (n := 5)).1 ?_
 refine callsIn_of_wp_marks Tryz.func90 rfl trivial ?_ rfl
 simp only [Tryz.ntmps90, List.size_toArray, List.length_cons, List.length_nil, Nat.reduceAdd, Nat.reduceSub, Array.replicate_succ, Array.replicate_zero, List.push_toArray, List.append_toArray, List.nil_append, List.cons_append]
 gi_wp2_with fail
 rw [← hW1]
 refine ⟨trivial, (callsIn_wide.2 hsy).mono ?_⟩
 rintro e W2 ⟨rfl, b2⟩
 have bW2 : Below w.heap.size w W2 := b1.trans (b2.mono b1.size)
 clear hW1 hsy b1 b2
 have hbt := between_any ⟨#[44, 32]⟩ W2
 obtain ⟨W4, hW4⟩ : ∃ W4, W4 = ((W2.alloc (.cells #[.string ⟨#[44, 32]⟩] 9)).alloc (.cells #[.string ⟨#[]⟩] 9)).alloc (.cells #[.func (.func 175) #[] #[.pointer (some ⟨W2.heap.size + 1, 0, none⟩), .pointer (some ⟨W2.heap.size, 0, none⟩)]] 76) := ⟨_, rfl⟩
 gi_wp2_with ((refine ⟨trivial, ?_⟩; gi_at_call 130; refine (callsIn_wide.2 hbt).mono ?_; rintro e W3 ⟨rfl, rfl⟩))
 rw [← hW4]
 have hs4 : W4.heap.size = W2.heap.size + 1 + 1 + 1 := by rw [hW4]; simp
 have xg : Boxed W4 W2.heap.size 9 (.string ⟨#[44, 32]⟩) := by rw [hW4]; exact ((Boxed.new _ _ _).alloc _).alloc _
 have xn : Boxed W4 (W2.heap.size + 1) 9 (.string ⟨#[]⟩) := by
  have h := (Boxed.new (W2.alloc (.cells #[.string ⟨#[44, 32]⟩] 9)) 9 (.string ⟨#[]⟩)).alloc (.cells #[.func (.func 175) #[] #[.pointer (some ⟨W2.heap.size + 1, 0, none⟩), .pointer (some ⟨W2.heap.size, 0, none⟩)]] 76)
  rw [World.size_alloc] at h
  rw [hW4]; exact h
 have xf : Boxed W4 (W2.heap.size + 1 + 1) 76 (.func (.func 175) #[] #[.pointer (some ⟨W2.heap.size + 1, 0, none⟩), .pointer (some ⟨W2.heap.size, 0, none⟩)]) := by
  have h := Boxed.new ((W2.alloc (.cells #[.string ⟨#[44, 32]⟩] 9)).alloc (.cells #[.string ⟨#[]⟩] 9)) 76 (.func (.func 175) #[] #[.pointer (some ⟨W2.heap.size + 1, 0, none⟩), .pointer (some ⟨W2.heap.size, 0, none⟩)])
  rw [World.size_alloc, World.size_alloc] at h
  rw [hW4]; exact h
 have bW4 : Below w.heap.size w W4 := by rw [hW4]; exact ((bW2.alloc bW2.size _).alloc (by have := bW2.size; simp; omega) _).alloc (by have := bW2.size; simp; omega) _
 have hX := bW2.size
 clear hW4 hbt bW2
 obtain ⟨X, hXe⟩ : ∃ X, W2.heap.size = X := ⟨_, rfl⟩
 rw [hXe] at hs4 xg xn xf hX
 simp only [hXe]
 clear hXe
 have hI0 := Lib.IsBuilderF.of (Lib.fresh_isBuilder 131 5 W4)
 rw [hs4] at hI0
 obtain ⟨W5, hW5⟩ : ∃ W5, W5 = W4.alloc (.cells #[.pointer none, .slice none 0 0] 131) := ⟨_, rfl⟩
 have b45 : Below W4.heap.size W4 W5 := by rw [hW5]; exact (Below.refl _ _).alloc (Nat.le_refl _) _
 rw [← hW5]
 replace hI0 : Lib.IsBuilderF 131 5 (X + 1 + 1 + 1) (X + 1 + 1 + 1) [] W5 := by rw [hW5]; exact hI0
 have s5 : X + 1 + 1 + 1 + 1 = W5.heap.size := by rw [hW5, World.size_alloc, hs4]
 have bx5 : ∀ {B : Nat} {t : TypeId} {v : Value}, Boxed W4 B t v → Boxed W5 B t v := fun h => by rw [hW5]; exact h.alloc _
 have xg5 := bx5 xg
 have xn5 := bx5 xn
 have xf5 := bx5 xf
 have bW5 : Below w.heap.size w W5 := bW4.trans (b45.mono bW4.size)
 clear hW5 bx5 xg xn xf b45 bW4 hs4
 refine ⟨trivial, (callsIn_wide.2 (Tryz.writeString (X + 1 + 1 + 1) (X + 1 + 1 + 1) [] op W5 hI0 (by simp; omega) (by omega))).mono ?_⟩
 rintro e W6 ⟨rfl, h6, b6, o6⟩
 have hI6 : Lib.IsBuilderF 131 5 (X + 1 + 1 + 1) (X + 1 + 1 + 1) (Lib.byteCells op.data.toList) W6 := by
  rw [List.nil_append, show Lib.strCells op = Lib.byteCells op.data.toList from rfl] at h6
  exact .inr h6
 have kb : ∀ {B : Nat} {t : TypeId} {v : Value}, B < X + 1 + 1 + 1 → Boxed W5 B t v → Boxed W6 B t v := fun hB h => (b6.block _ hB).trans h
 have xg6 := kb (by omega) xg5
 have xn6 := kb (by omega) xn5
 have xf6 := kb (by omega) xf5
 have bW6 : Below w.heap.size w W6 := bW5.trans (b6.mono (by omega))
 have s6 : X + 1 + 1 + 1 + 1 ≤ W6.heap.size := by have := b6.size; omega
 clear h6 o6 b6 kb xg5 xn5 xf5 bW5 hI0 s5
 gi_wp2
 refine wpIn_rangeFunc_ownG rfl (by omega) (gf := gf) (lb := lb) rfl trivial hent hseq belowK_t (belowK_b (by omega)) bW6 (fun _ => rfl)
  (fun pre W => (Boxed W X 9 (.string ⟨#[44, 32]⟩) ∧ Boxed W (X + 1) 9 (.string ⟨(if (jn [44, 32] (pre.map (·.1))).1 then ([44, 32] : List UInt8) else []).toArray⟩) ∧ Boxed W (X + 1 + 1) 76 (.func (.func 175) #[] #[.pointer (some ⟨X + 1, 0, none⟩), .pointer (some ⟨X, 0, none⟩)]) ∧ Lib.IsBuilderF 131 5 (X + 1 + 1 + 1) (X + 1 + 1 + 1) (Lib.byteCells (op.data.toList ++ (jn [44, 32] (pre.map (·.1))).2)) W) ∧ Below w.heap.size w W)
  (fun _ _ _ => False)
  (OwnFrom.and (Own.from (fun s A B row hs hg hr => ⟨boxed_own X _ (fun _ : Unit => _) () A B row hs.1 hg hr, boxed_own (X + 1) _ (fun _ : Unit => _) () A B row hs.2.1 hg hr, boxed_own (X + 1 + 1) _ (fun _ : Unit => _) () A B row hs.2.2.1 hg hr, isBF_own _ _ _ _ (fun _ : Unit => _) () A B row hs.2.2.2 hg hr⟩) _) (ownFrom_below (Nat.le_refl _) (by omega)))
  (fun _ _ _ _ _ hs _ _ => hs)
  ⟨⟨xg6, xn6, xf6, by simpa [jn] using hI6⟩, bW6⟩
  (fun x => { tmps := #[WV f ask, .string ty, .string op, .string cl, .func (.func gf) #[] lb, .pointer (some ⟨w.heap.size, 0, none⟩), undef, undef, undef, undef, .string ⟨#[]⟩, .string ⟨#[44, 32]⟩, .pointer (some ⟨X + 1 + 1, 0, none⟩), .pointer (some ⟨X + 1 + 1 + 1, 0, none⟩), .string x.1, WV f ask, .bool true, .string ty, .string op, .string ⟨#[44, 32]⟩, .func (.func 175) #[] #[.pointer (some ⟨X + 1, 0, none⟩), .pointer (some ⟨X, 0, none⟩)], .string op, .tuple #[.int .i64 op.size, .nilIface], .func (.func gf) #[] lb, .string x.1, undef, undef, undef, undef, undef, undef, undef, undef], defers := [] }) ?assign ?body ?done ?stop
 case assign =>
  intro l x W K hK
  gi_wp2
  exact hK
 case body =>
  rintro l pre x W ⟨⟨xg, xn, xf, hI⟩, hB⟩ hlt
  have cf := xf.cell
  obtain ⟨NX, hNX⟩ : ∃ NX : ByteArray, (⟨(if (jn [44, 32] (pre.map (·.1))).1 then ([44, 32] : List UInt8) else []).toArray⟩ : ByteArray) = NX := ⟨_, rfl⟩
  have HN : Unit → NX.data.toList = (if (jn [44, 32] (pre.map (·.1))).1 then ([44, 32] : List UInt8) else []) := fun _ => by rw [← hNX]
  have HN1 : NX.size ≤ 2 := by
   rw [← hNX]
   show (List.toArray _).size ≤ 2
   rw [List.size_toArray]
   split <;> simp
  rw [hNX] at xn
  clear hNX
  have hb1 := between1_any (X + 1) X _ _ W xn xg
  have HZ : ∀ y : Nat, y ≤ 2 → (Lib.byteCells (op.data.toList ++ (jn [44, 32] (pre.map (·.1))).2)).length + y ≤ 140737488355328 ∧ (Lib.byteCells (op.data.toList ++ (jn [44, 32] (pre.map (·.1))).2)).length + y + x.1.size ≤ 140737488355328 := by
   intro y hy
   have hlen := jn_len [44, 32] (by simp) pre
   have hx := x.2
   have e : op.data.toList.length = op.size := by rw [Array.length_toList]; rfl
   rw [Lib.byteCells_length, List.length_append, e]
   omega
  obtain ⟨AC, hAC⟩ : ∃ AC, op.data.toList ++ (jn [44, 32] (pre.map (·.1))).2 = AC := ⟨_, rfl⟩
  have HAC : Unit → op.data.toList ++ (jn [44, 32] (pre.map (·.1))).2 = AC := fun _ => hAC
  rw [hAC] at HZ hI
  clear hAC hz hN hlt
  obtain ⟨V7, hW7⟩ : ∃ V7, V7 = W.setCell ⟨X + 1, 0, none⟩ (.string ⟨#[44, 32]⟩) := ⟨_, rfl⟩
  rw [← hW7] at hb1
  gi_wp2_with (refine ⟨trivial, ?_⟩; gi_at_call 175; refine (CallsIn.inRound l (callsIn_wide.2 hb1)).mono ?_; rintro e W7 ⟨rfl, rfl⟩)
  rw [← hW7]
  have far7 : ∀ k, k ≠ X + 1 → W7.heap[k]? = W.heap[k]? := fun k hk => by rw [hW7]; exact Below.heap_setCell _ _ _ _ hk
  have xn7 : Boxed W7 (X + 1) 9 (.string ⟨#[44, 32]⟩) := by rw [hW7]; exact xn.set _
  have xg7 : Boxed W7 X 9 (.string ⟨#[44, 32]⟩) := (far7 X (by omega)).trans xg
  have xf7 : Boxed W7 (X + 1 + 1) 76 (.func (.func 175) #[] #[.pointer (some ⟨X + 1, 0, none⟩), .pointer (some ⟨X, 0, none⟩)]) := (far7 _ (by omega)).trans xf
  have hI7 := isBF_far hI fun k hk => far7 k (by omega)
  have k7 : KeepsOthers W W7 := by rw [hW7]; exact KeepsOthers.setCell _ _ _
  have b7 : Below w.heap.size W W7 := by rw [hW7]; exact (Below.refl _ W).setCell (p := ⟨X + 1, 0, none⟩) (by show w.heap.size ≤ X + 1; omega) _
  have s7 : X + 1 + 1 + 1 ≤ W7.heap.size := by have h := isBF_cells hI7; obtain ⟨c, t, fz, h⟩ := h; have := (Array.getElem?_eq_some_iff.1 h).1; omega
  clear hW7 far7 hb1 cf xn xg xf hI
  refine ⟨trivial, (CallsIn.inRound l (callsIn_wide.2 (Tryz.writeString (X + 1 + 1 + 1) (X + 1 + 1 + 1) _ NX W7 hI7 (HZ _ HN1).1 s7))).mono ?_⟩
  rintro e W8 ⟨rfl, h8, b8, o8⟩
  have hI8 : Lib.IsBuilderF 131 5 (X + 1 + 1 + 1) (X + 1 + 1 + 1) (Lib.byteCells (AC ++ NX.data.toList)) W8 := by
   have e : Lib.byteCells AC ++ Lib.strCells NX = Lib.byteCells (AC ++ NX.data.toList) := by simp [Lib.strCells, Lib.byteCells]
   rw [e] at h8
   exact .inr h8
  have k8 : KeepsFrom W6.heap.size W W8 := (k7.from _).trans (keepsFrom_others b8.size o8 (isBF_cells hI7))
  have bb8 : Below w.heap.size W W8 := b7.trans (b8.mono (by omega))
  have xn8 := (b8.block (X + 1) (by omega)).trans xn7
  have xg8 := (b8.block X (by omega)).trans xg7
  have xf8 := (b8.block (X + 1 + 1) (by omega)).trans xf7
  have s8 : X + 1 + 1 + 1 ≤ W8.heap.size := Nat.le_trans s7 b8.size
  have HZ8 : (Lib.byteCells (AC ++ NX.data.toList)).length + x.1.size ≤ 140737488355328 := by
   have h := (HZ _ HN1).2
   have e : NX.data.toList.length = NX.size := by rw [Array.length_toList]; rfl
   rw [Lib.byteCells_length] at h
   rw [Lib.byteCells_length, List.length_append, e]
   omega
  clear h8 b8 o8 k7 b7 xn7 xg7 xf7 hI7 HZ s7
  gi_wp2_with fail
  refine ⟨trivial, (CallsIn.inRound l (callsIn_wide.2 (Tryz.writeString (X + 1 + 1 + 1) (X + 1 + 1 + 1) _ x.1 W8 hI8 HZ8 s8))).mono ?_⟩
  rintro e W9 ⟨rfl, h9, b9, o9⟩
  have hI9 : Lib.IsBuilderF 131 5 (X + 1 + 1 + 1) (X + 1 + 1 + 1) (Lib.byteCells (op.data.toList ++ (jn [44, 32] ((pre ++ [x]).map (·.1))).2)) W9 := by
   have e : Lib.byteCells (AC ++ NX.data.toList) ++ Lib.strCells x.1 = Lib.byteCells (op.data.toList ++ (jn [44, 32] ((pre ++ [x]).map (·.1))).2) := by
    rw [List.map_append, List.map_cons, List.map_nil, jn_snoc, ← HN (), ← HAC ()]
    simp [Lib.strCells, Lib.byteCells]
   rw [e] at h9
   exact .inr h9
  have k9 : KeepsFrom W6.heap.size W W9 := k8.trans (keepsFrom_others b9.size o9 (isBF_cells hI8))
  have bb9 : Below w.heap.size W W9 := bb8.trans (b9.mono (by omega))
  have xn9 : Boxed W9 (X + 1) 9 (.string ⟨#[44, 32]⟩) := (b9.block (X + 1) (by omega)).trans xn8
  have xg9 : Boxed W9 X 9 (.string ⟨#[44, 32]⟩) := (b9.block X (by omega)).trans xg8
  have xf9 := (b9.block (X + 1 + 1) (by omega)).trans xf8
  gi_wp2
  refine ⟨k9, bb9, ⟨xg9, ?_, xf9, hI9⟩, hB.trans bb9⟩
  rw [List.map_append, List.map_cons, List.map_nil, jn_snoc]
  exact xn9
 case done =>
  rintro D xs W hD hxs ⟨⟨-, -, -, hI⟩, hB⟩ hK
  obtain rfl := hxs
  have HZ : (Lib.byteCells (op.data.toList ++ (jn [44, 32] (xs.map (·.1))).2)).length + cl.size ≤ 140737488355328 := by
   have hlen := jn_len [44, 32] (by simp) xs
   have e : op.data.toList.length = op.size := by rw [Array.length_toList]; rfl
   rw [Lib.byteCells_length, List.length_append, e]
   omega
  obtain ⟨AC, hAC⟩ : ∃ AC, op.data.toList ++ (jn [44, 32] (xs.map (·.1))).2 = AC := ⟨_, rfl⟩
  rw [hAC] at HZ hI
  have HR : Unit → (⟨(AC ++ cl.data.toList).toArray⟩ : ByteArray) = R := fun _ => by rw [← HR0 (), hAC]
  have s6' : X + 1 + 1 + 1 ≤ W.heap.size := by obtain ⟨c, t, fz, h⟩ := isBF_cells hI; have := (Array.getElem?_eq_some_iff.1 h).1; omega
  have kD : ∀ {b : Nat} {A B : World}, Lib.OthersKept 5 (some b) A B → (∃ c t fz, A.heap[b]? = some (.cells c t fz)) → A.heap[D]? = some (.deferred (some [])) → B.heap[D]? = some (.deferred (some [])) := by
   intro b A B ho hb hk
   refine ho D _ hk (fun e' => ?_) (fun c fz e' => by cases e')
   obtain ⟨c, t, fz, hc⟩ := hb
   cases e'
   rw [hc] at hk
   cases hk
  clear hz hN hAC
  gi_wp2_with fail
  refine ⟨trivial, (callsIn_wide.2 (Tryz.writeString (X + 1 + 1 + 1) (X + 1 + 1 + 1) _ cl W hI HZ s6')).mono ?_⟩
  rintro e W8 ⟨rfl, h8, b8, o8⟩
  have hI8 : Lib.IsBuilderF 131 5 (X + 1 + 1 + 1) (X + 1 + 1 + 1) (Lib.byteCells (AC ++ cl.data.toList)) W8 := by
   have e : Lib.byteCells AC ++ Lib.strCells cl = Lib.byteCells (AC ++ cl.data.toList) := by simp [Lib.strCells, Lib.byteCells]
   rw [e] at h8
   exact .inr h8
  have hK8 := kD o8 (isBF_cells hI) hK
  have s8 := Nat.le_trans s6' b8.size
  gi_wp2_with fail
  refine ⟨trivial, (callsIn_wide.2 (Tryz.builderString (X + 1 + 1 + 1) (X + 1 + 1 + 1) _ W8 hI8 s8)).mono ?_⟩
  rintro e W9 ⟨rfl, h9, b9, o9⟩
  have hK9 := kD o9 (isBF_cells hI8) hK8
  rw [HR ()]
  have bW9 : Below w.heap.size w W9 := (hB.trans (b8.mono (by omega))).trans (b9.mono (by omega))
  clear HR kD HZ hI hI8 h8 h9 o8 o9
  gi_wp2
  refine ⟨by simp, .inl ⟨_, _, rfl, run_takeDeferred hK9, ?_⟩⟩
  exact ⟨_, results_tmp rfl _ _ _, rfl, bW9.trans (belowK_b (w := W6) (by omega) W9 D _ _ hD hK9 rfl rfl)⟩
 case stop =>
  rintro D c pre W _ _ h _
  exact h.elim
end Go.Proofs.YtlgieoabellbmaaGreatDoor
