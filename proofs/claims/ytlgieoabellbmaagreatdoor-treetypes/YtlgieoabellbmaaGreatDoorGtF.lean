/- tree: the texts of a struct's fields, one by one (an iterator). -/
import Derived.Test.YtlgieoabellbmaaGreatDoorGtE
import Derived.Test.YtlgieoabellbmaaGreatDoorPt4
namespace Go.Proofs.YtlgieoabellbmaaGreatDoor
open Go.RowKit Go.Shelf
set_option linter.unusedVariables false
set_option linter.unusedSimpArgs false
attribute [local go_sem] Oper.semAt_some
def wnm (f : Sq) : Bool := decide (f.verb = 118) && (f.p || f.sh)
theorem withNames_any (f : Sq) (ask : Value) (w : World) : Calls Tryz.prog 132 #[WV f ask] w fun e w' => e = .returned (.bool (wnm f)) ∧ Below w.heap.size w w' := by
 obtain ⟨p, mi, sh, sp, z, wid, prec, verb⟩ := f
 unfold wnm
 dsimp only
 by_cases h : verb = 118
 ·subst h
  cases p
  ·go_enter Tryz.func132, Tryz.ntmps132
   go_wp2
   go_ret
   exact ⟨by simp, (Below.refl _ _).alloc (Nat.le_refl _) _⟩
  ·go_enter Tryz.func132, Tryz.ntmps132
   go_wp2
   go_ret
   exact ⟨by simp, (Below.refl _ _).alloc (Nat.le_refl _) _⟩
 ·have hd : decide (verb = 118) = false := decide_eq_false h
  rw [hd]
  go_enter Tryz.func132, Tryz.ntmps132
  go_wp2
  go_ret
  exact ⟨by simp, (Below.refl _ _).alloc (Nat.le_refl _) _⟩
def TxOf (f : Sq) (ask : Value) (depth : Int) (w : World) (x : D) (nv pv : Value) (t : ByteArray) : Prop :=
 ∀ W, Below w.heap.size w W → Calls Tryz.prog 133 #[DV x nv pv] W fun e W1 => Below W.heap.size W W1 ∧ ∃ v, e = .returned v ∧ ∀ W2, Below W1.heap.size W1 W2 → Calls Tryz.prog 25 #[WV f ask, v, .int .i64 depth] W2 fun e W3 => e = .returned (.string t) ∧ Below W2.heap.size W2 W3
def At9 (W : World) (b : Nat) (f : Sq) (ask : Value) : Prop :=
 W.cell? ⟨b, 0, none⟩ = some (.bool f.p) ∧ W.cell? ⟨b, 1, none⟩ = some (.bool f.mi) ∧ W.cell? ⟨b, 2, none⟩ = some (.bool f.sh) ∧ W.cell? ⟨b, 3, none⟩ = some (.bool f.sp) ∧ W.cell? ⟨b, 4, none⟩ = some (.bool f.z) ∧
 W.cell? ⟨b, 5, none⟩ = some (.int .i64 f.wid) ∧ W.cell? ⟨b, 6, none⟩ = some (.int .i64 f.prec) ∧ W.cell? ⟨b, 7, none⟩ = some (.int .i32 f.verb) ∧ W.cell? ⟨b, 8, none⟩ = some ask
theorem At9.up {W W' : World} {b : Nat} {f : Sq} {ask : Value} (h : At9 W b f ask) (hb : Below W.heap.size W W') : At9 W' b f ask :=
 ⟨up_cell hb h.1, up_cell hb h.2.1, up_cell hb h.2.2.1, up_cell hb h.2.2.2.1, up_cell hb h.2.2.2.2.1, up_cell hb h.2.2.2.2.2.1, up_cell hb h.2.2.2.2.2.2.1, up_cell hb h.2.2.2.2.2.2.2.1, up_cell hb h.2.2.2.2.2.2.2.2⟩
def fldT (f : Sq) (nm t : ByteArray) : ByteArray := if wnm f then nm ++ ⟨#[58]⟩ ++ t else ⟨#[]⟩ ++ t
set_option maxRecDepth 1000000 in
set_option maxHeartbeats 4000000 in
theorem fields_stops (f : Sq) (ask : Value) (depth : Int) (Bs Bw Bd : Nat) (na pa : Option Addr) (nc pc : Nat) (ps : List D) (nms : List ByteArray) (ts : List ByteArray) (xs : List TxK) (w : World)
  (hs0 : w.cell? ⟨Bs, 0, none⟩ = some (.slice na nms.length nc)) (hs1 : w.cell? ⟨Bs, 1, none⟩ = some (.slice pa ps.length pc)) (hw9 : At9 w Bw f ask) (hd : w.cell? ⟨Bd, 0, none⟩ = some (.int .i64 depth))
  (hln : nms.length = ps.length) (hlt : ts.length = ps.length) (hl4 : ps.length ≤ 1000) (hxs : xs.map (·.1) = (nms.zip ts).map fun q => fldT f q.1 q.2)
  (hnm : ∀ (i : Nat) (s : ByteArray), nms[i]? = some s → s.size ≤ 1000 ∧ ∃ b off, na = some ⟨b, off, none⟩ ∧ w.cell? ⟨b, off + i, none⟩ = some (.string s))
  (hts : ∀ t ∈ ts, t.size ≤ 100000000)
  (hps : ∀ (i : Nat) (x : D) (t : ByteArray), ps[i]? = some x → ts[i]? = some t → ∃ b off nv pv, pa = some ⟨b, off, none⟩ ∧ At8 w b (off + i * 8) x nv pv ∧ (∃ na nl nc, nv = .slice na nl nc) ∧ (∃ pa pl pc, pv = .slice pa pl pc) ∧ TxOf f ask depth w x nv pv t) :
  SeqStopsK Fence.wide 4 Tryz.prog 131 #[.pointer (some ⟨Bs, 0, none⟩), .pointer (some ⟨Bw, 0, none⟩), .pointer (some ⟨Bd, 0, none⟩)] (fun s : TxK => #[.string s.1]) (Below w.heap.size) (fun ys => ys = xs) (fun _ => True) xs.length w := fun l J Jx W hW hJ hJx hY h0 => by
 have hlx : xs.length = ps.length := by have := congrArg List.length hxs; simp at this; omega
 refine callsIn_of_wp Tryz.func131 rfl trivial ?_ rfl
 simp only [Tryz.ntmps131, List.size_toArray, List.length_cons, List.length_nil, Nat.reduceAdd, Nat.reduceSub, Array.replicate_succ, Array.replicate_zero, List.push_toArray, List.append_toArray, List.nil_append, List.cons_append]
 have s1 := up_cell hW hs1
 gi_wp2
 gi_loopw [5, 6, 7, 11] (fun _ _ _ i wr => ∃ j : Nat, i = .int .i64 j ∧ j ≤ ps.length ∧ J (xs.take j) wr ∧ Below w.heap.size w wr) (fun _ _ _ i wr => ps.length - (intOf i).toNat)
 case atStart => exact ⟨0, rfl, Nat.zero_le _, by simpa using h0, hW⟩
 case round =>
  obtain ⟨j, rfl, hj, hJs, hB⟩ := hrel
  by_cases hlt' : j < ps.length
  ·have hltI : (j : Int) < ps.length := by omega
   obtain ⟨x, hx⟩ : ∃ x, ps[j]? = some x := ⟨_, List.getElem?_eq_getElem hlt'⟩
   obtain ⟨t, ht⟩ : ∃ t, ts[j]? = some t := ⟨_, List.getElem?_eq_getElem (by omega)⟩
   obtain ⟨nm, hn⟩ : ∃ nm, nms[j]? = some nm := ⟨_, List.getElem?_eq_getElem (by omega)⟩
   obtain ⟨X, hX⟩ : ∃ X, xs[j]? = some X := ⟨_, List.getElem?_eq_getElem (by omega)⟩
   have hXt : X.1 = fldT f nm t := by
    have h1 : (xs.map (·.1))[j]? = some X.1 := by rw [List.getElem?_map, hX]; rfl
    rw [hxs, List.getElem?_map, List.getElem?_zip_eq_some (z := (nm, t)) |>.2 ⟨hn, ht⟩] at h1
    exact (Option.some.inj h1).symm
   have htk : xs.take (j + 1) = xs.take j ++ [X] := by rw [List.take_add_one, hX]; rfl
   obtain ⟨b, off, nv, pv, rfl, h8, ⟨a5, l5, k5, rfl⟩, ⟨a6, l6, k6, rfl⟩, hT⟩ := hps j x t hx ht
   obtain ⟨hnz, bn, offn, rfl, hcn⟩ := hnm j nm hn
   have htz := hts t (List.mem_of_getElem? ht)
   obtain ⟨c0, c1, c2, c3, c4, c5, c6, c7⟩ := h8.up hB
   obtain ⟨W2, hW2⟩ : ∃ W2, W2 = wr.alloc (.cells #[.int .i64 x.kind, .string x.ty, .int .u64 x.bits, .int .u64 x.imag, .string x.text, .slice a5 l5 k5, .slice a6 l6 k6, .int .i64 x.hook] 26) := ⟨_, rfl⟩
   have b2 : Below wr.heap.size wr W2 := by rw [hW2]; exact (Below.refl _ _).alloc (Nat.le_refl _) _
   have x2 : At8 W2 wr.heap.size 0 x (.slice a5 l5 k5) (.slice a6 l6 k6) := by
    rw [hW2]
    refine ⟨?_, ?_, ?_, ?_, ?_, ?_, ?_, ?_⟩
    all_goals simp [go_sem]
   have bW2 := hB.trans (b2.mono hB.size)
   have w92 := hw9.up bW2
   have hwn := withNames_any f ask W2
   obtain ⟨q0, q1, q2, q3, q4, q5, q6, q7, q8⟩ := hw9.up hB
   have hBw : Bw < wr.heap.size := World.block_lt_of_cell? wr _ q0
   gi_wp2_with fail
   rw [← hW2]
   refine ⟨trivial, (callsIn_wide.2 hwn).mono ?_⟩
   rintro e W3 ⟨rfl, b3⟩
   have bW3 := bW2.trans (b3.mono bW2.size)
   have x3 := x2.up b3
   have b13 : Below wr.heap.size wr W3 := b2.trans (b3.mono b2.size)
   have hJ3 : J (xs.take j) W3 := hJ _ _ _ none hJs ⟨b13.os, b13.tape, b13.output, b13.size, fun k hk _ => b13.block k hk⟩ (fun r e => by cases e)
   have hlen : (xs.take j).length < xs.length := by rw [List.length_take]; omega
   obtain ⟨Z, hZ⟩ : ∃ Z, wr.heap.size = Z := ⟨_, rfl⟩
   rw [hZ] at x3
   simp only [hZ]
   have hd3 := up_cell bW3 hd
   have s03 := up_cell bW3 hs0
   have n3 := up_cell bW3 hcn
   have hsd : Bd < W3.heap.size := World.block_lt_of_cell? W3 _ hd3
   have hmx : Tryz.prog.follows .mixedOrders = true := by kernel_rfl
   obtain ⟨y0, y1, y2, y3, y4, y5, y6, y7⟩ := id x3
   obtain ⟨q0, q1, q2, q3, q4, q5, q6, q7, q8⟩ := hw9.up bW3
   simp only [Nat.zero_add] at y0 y1 y2 y3 y4 y5 y6 y7
   have hT3 := hT W3.drew bW3.drew
   clear hW2 hps hnm hts hwn h8 c0 c1 c2 c3 c4 c5 c6 c7 x2 b2 bW2 w92 hT hxs
   cases hwn : wnm f
   ·have hXf : X.1 = ⟨#[]⟩ ++ t := by rw [hXt]; unfold fldT; rw [hwn]; rfl
    have hy0 : ∀ W6, Below W3.heap.size W3 W6 → YieldAt Fence.wide 3 Tryz.prog l #[.string (⟨#[]⟩ ++ t)] W6 fun e W' => ∃ bv : Bool, e = .returned (.bool bv) ∧ ((bv = true ∧ J (xs.take j ++ [X]) W' ∧ Below w.heap.size W6 W') ∨ (bv = false ∧ Jx (xs.take j ++ [X]) W')) := by
     intro W6 h6
     rw [← hXf]
     obtain ⟨fn, tm, asg, bdy, hy, hR⟩ := hY (xs.take j) X W6 (hJ _ _ _ none hJ3 ⟨h6.os, h6.tape, h6.output, h6.size, fun k hk _ => h6.block k hk⟩ (fun r e => by cases e)) hlen
     exact ⟨fn, tm, asg, bdy, hy, hR.mono fun e W' h => h.elim (fun h => ⟨true, h.1, .inl ⟨rfl, h.2⟩⟩) (fun h => ⟨false, h.1, .inr ⟨rfl, h.2⟩⟩)⟩
    have hsum : ¬ 9223372036854775807 < (ByteArray.mk #[]).size + t.size := by show ¬ 9223372036854775807 < 0 + t.size; omega
    clear htz hnz
    gi_wp2
    gi_region_with_o (first
     | (refine ⟨trivial, ?_⟩; gi_at_call 133; refine (callsIn_wide.2 hT3).mono ?_; rintro e W4 ⟨b4, v, rfl, hwr⟩; obtain ⟨p0, p1, p2, p3, p4, p5, p6, p7, p8⟩ := hw9.up (bW3.drew.trans (b4.mono (by have := bW3.size; simpa using this))); have hd4 := up_cell (bW3.drew.trans (b4.mono (by have := bW3.size; simpa using this))) hd)
     | (refine ⟨trivial, ?_⟩; gi_at_call 25; refine (callsIn_wide.2 (hwr _ (Below.refl _ _))).mono ?_; rintro e W5 ⟨rfl, b5⟩; obtain ⟨fn, tm, asg, bdy, hy, hR⟩ := hy0 W5 (((Below.refl _ W3).drew.trans (b4.mono (by simp))).trans (b5.mono (by have := b4.size; simp at this; omega))))
     | (refine hR.mono ?_; rintro e W6 ⟨bv, rfl, hbv⟩))
    all_goals
     have hW5 : Below w.heap.size w W5 := (bW3.drew.trans (b4.mono (by have := bW3.size; simpa using this))).trans (b5.mono (by have := bW3.size; have := b4.size; simp at this; omega))
     clear hy0 hT3 hwr hy hR hY
     rcases hbv with ⟨rfl, hJ6, hk6⟩ | ⟨rfl, hJx6⟩
     ·rw [← htk] at hJ6
      gi_wp2
      go_roundw
      case rel => exact ⟨j + 1, by simp, by omega, hJ6, hW5.trans hk6⟩
      case measure => simp [intOf]; omega
     ·gi_wp2
      refine bodyPost_ret (results_none rfl _ _ _) rfl ?_
      exact ⟨⟨_, rfl⟩, .inr ⟨_, trivial, hJx6⟩⟩
   ·have hsum1 : ¬ 9223372036854775807 < nm.size + (ByteArray.mk #[58]).size := by show ¬ 9223372036854775807 < nm.size + 1; omega
    obtain ⟨NM, hNM⟩ : ∃ NM : ByteArray, nm ++ ⟨#[58]⟩ = NM := ⟨_, rfl⟩
    have hNMz : NM.size ≤ 1001 := by rw [← hNM, ByteArray.size_append]; show nm.size + 1 ≤ 1001; omega
    have hXf : X.1 = NM ++ t := by rw [hXt]; unfold fldT; rw [hwn, ← hNM]; rfl
    have hltN : (j : Int) < nms.length := by omega
    have hy0 : ∀ W6, Below W3.heap.size W3 W6 → YieldAt Fence.wide 3 Tryz.prog l #[.string (NM ++ t)] W6 fun e W' => ∃ bv : Bool, e = .returned (.bool bv) ∧ ((bv = true ∧ J (xs.take j ++ [X]) W' ∧ Below w.heap.size W6 W') ∨ (bv = false ∧ Jx (xs.take j ++ [X]) W')) := by
     intro W6 h6
     rw [← hXf]
     obtain ⟨fn, tm, asg, bdy, hy, hR⟩ := hY (xs.take j) X W6 (hJ _ _ _ none hJ3 ⟨h6.os, h6.tape, h6.output, h6.size, fun k hk _ => h6.block k hk⟩ (fun r e => by cases e)) hlen
     exact ⟨fn, tm, asg, bdy, hy, hR.mono fun e W' h => h.elim (fun h => ⟨true, h.1, .inl ⟨rfl, h.2⟩⟩) (fun h => ⟨false, h.1, .inr ⟨rfl, h.2⟩⟩)⟩
    have hsum : ¬ 9223372036854775807 < NM.size + t.size := by omega
    clear htz hnz hNMz
    gi_wp2
    gi_region_with_o (first
     | (refine ⟨trivial, ?_⟩; gi_at_call 133; refine (callsIn_wide.2 hT3).mono ?_; rintro e W4 ⟨b4, v, rfl, hwr⟩; obtain ⟨p0, p1, p2, p3, p4, p5, p6, p7, p8⟩ := hw9.up (bW3.drew.trans (b4.mono (by have := bW3.size; simpa using this))); have hd4 := up_cell (bW3.drew.trans (b4.mono (by have := bW3.size; simpa using this))) hd)
     | (refine ⟨trivial, ?_⟩; gi_at_call 25; refine (callsIn_wide.2 (hwr _ (Below.refl _ _))).mono ?_; rintro e W5 ⟨rfl, b5⟩; obtain ⟨fn, tm, asg, bdy, hy, hR⟩ := hy0 W5 (((Below.refl _ W3).drew.trans (b4.mono (by simp))).trans (b5.mono (by have := b4.size; simp at this; omega))))
     | (refine hR.mono ?_; rintro e W6 ⟨bv, rfl, hbv⟩))
    all_goals
     have hW5 : Below w.heap.size w W5 := (bW3.drew.trans (b4.mono (by have := bW3.size; simpa using this))).trans (b5.mono (by have := bW3.size; have := b4.size; simp at this; omega))
     clear hy0 hT3 hwr hy hR hY
     rcases hbv with ⟨rfl, hJ6, hk6⟩ | ⟨rfl, hJx6⟩
     ·rw [← htk] at hJ6
      gi_wp2
      go_roundw
      case rel => exact ⟨j + 1, by simp, by omega, hJ6, hW5.trans hk6⟩
      case measure => simp [intOf]; omega
     ·gi_wp2
      refine bodyPost_ret (results_none rfl _ _ _) rfl ?_
      exact ⟨⟨_, rfl⟩, .inr ⟨_, trivial, hJx6⟩⟩
  ·have hltI : ¬ (j : Int) < ps.length := by omega
   gi_wp2
   go_end0
   exact ⟨⟨_, rfl⟩, .inl (by rw [List.take_of_length_le (by omega)] at hJs; exact hJs)⟩
end Go.Proofs.YtlgieoabellbmaaGreatDoor
