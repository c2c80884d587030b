/- DCopy, XName, DHk, JHk, RRune, ABad, XBad: these texts in one. -/
import Derived.Test.YtdlnmnipnkeabaaGreatDoorPt2
import Derived.Test.YtdlnmnipnkeabaaGreatDoorPt16
import Derived.Test.YtdlnmnipnkeabaaGreatDoorPt9
import Derived.Test.YtdlnmnipnkeabaaGreatDoorPt3
import Derived.Test.YtdlnmnipnkeabaaGreatDoorPt1
import Derived.Test.YtdlnmnipnkeabaaGreatDoorShelf
import Derived.Handy
namespace Go.Proofs.YtdlnmnipnkeabaaGreatDoor
open Go.RowKit
set_option linter.unusedVariables false
set_option linter.unusedSimpArgs false
set_option maxRecDepth 1000000 in
theorem cloneD_nil (w : World) : Calls Tryz.prog 33 #[.slice none 0 0] w fun e w' => e = .returned (.slice none 0 0) ∧ w' = w := by
 have he : ∀ w, (binOp BinOp.eql 25 (.slice none 0 0) (.slice none 0 0)).run Tryz.prog w = .ok (.bool true) w := fun w => by kernel_rfl
 go_enter Tryz.func33, Tryz.ntmps33
 go_wp2
 go_ret
 exact ⟨rfl, rfl⟩
set_option maxRecDepth 1000000 in
theorem clone_nil (w : World) : Calls Tryz.prog 48 #[.slice none 0 0] w fun e w' => e = .returned (.slice none 0 0) ∧ w' = w := by
 have he : ∀ w, (binOp BinOp.eql 27 (.slice none 0 0) (.slice none 0 0)).run Tryz.prog w = .ok (.bool true) w := fun w => by kernel_rfl
 go_enter Tryz.func48, Tryz.ntmps48
 go_wp2
 go_ret
 exact ⟨rfl, rfl⟩
set_option maxRecDepth 1000000 in
theorem copies_nil (w : World) : Calls Tryz.prog 267 #[.slice none 0 0] w fun e w' => e = .returned (.slice none 0 0) ∧ w' = w := by
 go_enter Tryz.func267, Tryz.ntmps267
 go_wp2_with (go_at_call 33; refine (cloneD_nil _).mono ?_; rintro e w2 ⟨rfl, q2⟩; subst q2)
 refine wp_loop_rounds 1 ?_
 rw [rounds_succ]
 go_wp2
 go_ret
 exact ⟨rfl, rfl⟩
set_option maxRecDepth 1000000 in
set_option maxHeartbeats 4000000 in
theorem copied_nil (d : Ds) (hn : d.ns = .no) (hp : d.ps = .no) (w : World) : Calls Tryz.prog 234 #[.agg d.v.toArray] w fun e w' => e = .returned (.agg d.v.toArray) ∧ Below w.heap.size w w' := by
 obtain ⟨W1, hW1⟩ : ∃ W1, W1 = (w.alloc (.cells d.v.toArray 29)).alloc (.cells #[.int .i64 0, .string ⟨#[]⟩, .int .u64 0, .int .u64 0, .string ⟨#[]⟩, .slice none 0 0, .slice none 0 0, .int .i64 0] 29) := ⟨_, rfl⟩
 have bd : Blk W1 w.heap.size d.v := by rw [hW1]; exact (Blk.new _ _ _).alloc _
 have br : Blk W1 (w.heap.size + 1) Ds.no.v := by
  rw [hW1]
  have := Blk.new (w.alloc (.cells d.v.toArray 29)) Ds.no.v 29
  rwa [show (w.alloc (.cells d.v.toArray 29)).heap.size = w.heap.size + 1 by simp] at this
 have w1 : Below w.heap.size w W1 := by rw [hW1]; exact ((Below.refl _ _).alloc (Nat.le_refl _) _).alloc (by simp) _
 have c5 : W1.cell? ⟨w.heap.size, 5, none⟩ = some (.slice none 0 0) := by
  have := bd.c 5 _ rfl
  rw [hn] at this
  exact this
 have z5 := bd.z 5
 obtain ⟨W2, hW2⟩ : ∃ W2, W2 = W1.setCell ⟨w.heap.size, 5, none⟩ (.slice none 0 0) := ⟨_, rfl⟩
 have b2 : Blk W2 w.heap.size d.v := by
  rw [hW2]
  have := bd.set 5 (by rw [d.len]; omega) (.slice none 0 0)
  rwa [show d.v.set 5 (.slice none 0 0) = d.v by unfold Ds.v; rw [hn]; rfl] at this
 have r2 : Blk W2 (w.heap.size + 1) Ds.no.v := by rw [hW2]; exact br.other (by omega) _
 have w2 : Below w.heap.size w W2 := by rw [hW2]; exact w1.setCell (Nat.le_refl _) _
 have c6 : W2.cell? ⟨w.heap.size, 6, none⟩ = some (.slice none 0 0) := by
  have := b2.c 6 _ rfl
  rw [hp] at this
  exact this
 have z6 := b2.z 6
 obtain ⟨W3, hW3⟩ : ∃ W3, W3 = W2.setCell ⟨w.heap.size, 6, none⟩ (.slice none 0 0) := ⟨_, rfl⟩
 have b3 : Blk W3 w.heap.size d.v := by
  rw [hW3]
  have := b2.set 6 (by rw [d.len]; omega) (.slice none 0 0)
  rwa [show d.v.set 6 (.slice none 0 0) = d.v by unfold Ds.v; rw [hp]; rfl] at this
 have r3 : Blk W3 (w.heap.size + 1) Ds.no.v := by rw [hW3]; exact r2.other (by omega) _
 have w3 : Below w.heap.size w W3 := by rw [hW3]; exact w2.setCell (Nat.le_refl _) _
 have fin : Blk (W3.setCells (w.heap.size + 1) 0 d.v) (w.heap.size + 1) d.v ∧ Below w.heap.size w (W3.setCells (w.heap.size + 1) 0 d.v) := ⟨r3.all _ rfl, xbelow_sc w3 (by omega) _ _⟩
 have hl := d.len
 have h1 := d.one
 have hz : Ds.no.v.length = 8 := rfl
 generalize Ds.no.v = Z at *
 generalize d.v = D at *
 obtain ⟨f1, f2⟩ := fin
 go_enter Tryz.func234, Tryz.ntmps234
 go_upto_region 1 with fail
 rw [← hW1]
 clear hW1
 go_upto_region 2 with (go_at_call 48; refine (clone_nil _).mono ?_; rintro e w9 ⟨rfl, q9⟩; subst q9)
 rw [← hW2]
 clear hW2
 go_upto_region 3 with (go_at_call 267; refine (copies_nil _).mono ?_; rintro e w9 ⟨rfl, q9⟩; subst q9)
 rw [← hW3]
 clear hW3
 go_wp2_with (first
  | (refine wpl_ld row_Desc rfl (.tmp 1) rfl (vs := D) rfl b3.range hl ?_)
  | (refine wpl_st row_Desc rfl (.tmp 2) (.tmp 11) rfl (us := D) rfl rfl r3 hz hl h1 ?_; generalize W3.setCells (w.heap.size + 1) 0 D = Wf at *))
 exact bodyPost_ret (res_row row_Desc Tryz.results234 rfl f1 hl) rfl ⟨rfl, f2⟩
set_option maxRecDepth 1000000 in
set_option maxHeartbeats 4000000 in
theorem copiedAct_q (x : Ac) (w : World) (QL : Sl → World → Prop) (hQ : ∀ l W W', QL l W → Kx (fun k => k = w.heap.size ∨ k = w.heap.size + 1) W W' → QL l W')
  (hP0 : ∀ V, Below w.heap.size w V → w.heap.size + 2 ≤ V.heap.size → Calls Tryz.prog 267 #[.slice x.l.a x.l.n x.l.c] V fun e W' => (∃ l' : Sl, e = .returned (.slice l'.a l'.n l'.c) ∧ QL l' W') ∧ Below V.heap.size V W')
  (hD0 : ∀ V, Calls Tryz.prog 234 #[.agg x.p.v.toArray] V fun e W' => e = .returned (.agg x.p.v.toArray) ∧ Below V.heap.size V W') :
  Calls Tryz.prog 228 #[.agg x.v.toArray] w fun e w' => (∃ l' : Sl, e = .returned (.agg (Ac.v ⟨x.k, x.t, x.f, l', x.p⟩).toArray) ∧ QL l' w') ∧ Below w.heap.size w w' := by
 obtain ⟨W1, hW1⟩ : ∃ W1, W1 = (w.alloc (.cells x.v.toArray 31)).alloc (.cells #[.int .i64 0, .string ⟨#[]⟩, .string ⟨#[]⟩, .slice none 0 0, .int .i64 0, .string ⟨#[]⟩, .int .u64 0, .int .u64 0, .string ⟨#[]⟩, .slice none 0 0, .slice none 0 0, .int .i64 0] 31) := ⟨_, rfl⟩
 have bd : Blk W1 w.heap.size x.v := by rw [hW1]; exact (Blk.new _ _ _).alloc _
 have br : Blk W1 (w.heap.size + 1) Ac.no.v := by
  rw [hW1]
  have := Blk.new (w.alloc (.cells x.v.toArray 31)) Ac.no.v 31
  rwa [show (w.alloc (.cells x.v.toArray 31)).heap.size = w.heap.size + 1 by simp] at this
 have w1 : Below w.heap.size w W1 := by rw [hW1]; exact ((Below.refl _ _).alloc (Nat.le_refl _) _).alloc (by simp) _
 have c3 : W1.cell? ⟨w.heap.size, 3, none⟩ = some (.slice x.l.a x.l.n x.l.c) := bd.c 3 _ rfl
 have hs1 : w.heap.size + 2 ≤ W1.heap.size := by rw [hW1]; simp
 have hP := hP0 W1 w1 hs1
 have hz : Ac.no.v.length = 12 := rfl
 clear hP0
 go_enter Tryz.func228, Tryz.ntmps228
 go_upto_region 1 with fail
 rw [← hW1]
 clear hW1
 go_upto_region 2 with (go_at_call 267; refine hP.mono ?_; rintro e W2 ⟨⟨s1, rfl, ql⟩, q2⟩; have b2 := bd.up q2; have c2 := b2.c 3 _ rfl; have z2 := b2.z 3)
 have r2 := br.up q2
 have w2 : Below w.heap.size w W2 := w1.trans (q2.mono w1.size)
 have b3 : Blk (W2.setCell ⟨w.heap.size, 3, none⟩ (.slice s1.a s1.n s1.c)) w.heap.size (Ac.v ⟨x.k, x.t, x.f, s1, x.p⟩) := b2.set 3 (by rw [x.len]; omega) _
 have r3 : Blk (W2.setCell ⟨w.heap.size, 3, none⟩ (.slice s1.a s1.n s1.c)) (w.heap.size + 1) Ac.no.v := r2.other (by omega) _
 have w3 : Below w.heap.size w (W2.setCell ⟨w.heap.size, 3, none⟩ (.slice s1.a s1.n s1.c)) := w2.setCell (Nat.le_refl _) _
 have ql3 : QL s1 (W2.setCell ⟨w.heap.size, 3, none⟩ (.slice s1.a s1.n s1.c)) := hQ _ _ _ ql ((Kx.refl _ _).setCell _ _ (Or.inl (Or.inl rfl)) _)
 clear ql
 generalize W2.setCell ⟨w.heap.size, 3, none⟩ (.slice s1.a s1.n s1.c) = W3 at *
 clear b2 c2 z2 r2 w2 q2 bd br w1 c3 hP
 have b3' : Blk W3 w.heap.size ([.int .i64 x.k, .string x.t, .string x.f, .slice s1.a s1.n s1.c] ++ (x.p.v ++ [])) := by rw [List.append_nil]; exact b3
 have rp : W3.rangeAt w.heap.size 4 x.p.v := Blk.mid b3' rfl
 have hD3 := hD0 W3
 have hlp := x.p.len
 clear hD0
 have fin : ∀ (V : World), Below W3.heap.size W3 V → V.there w.heap.size 4 8 ∧ Blk (V.setCells w.heap.size 4 x.p.v) w.heap.size (Ac.v ⟨x.k, x.t, x.f, s1, x.p⟩) ∧ Blk (V.setCells w.heap.size 4 x.p.v) (w.heap.size + 1) Ac.no.v ∧ Below w.heap.size w (V.setCells w.heap.size 4 x.p.v) ∧ QL s1 (V.setCells w.heap.size 4 x.p.v) := fun V hV => by
  have bV := b3'.up hV
  have h2 := Blk.put (p := [.int .i64 x.k, .string x.t, .string x.f, .slice s1.a s1.n s1.c]) (cs := x.p.v) (q := []) bV x.p.v rfl
  rw [List.append_nil] at h2
  exact ⟨Blk.thereMid (p := [.int .i64 x.k, .string x.t, .string x.f, .slice s1.a s1.n s1.c]) (cs := x.p.v) (q := []) bV, h2, (r3.up hV).oth (by omega) _ _, xbelow_sc (w3.trans (hV.mono w3.size)) (Nat.le_refl _) _ _, hQ _ _ _ (hQ _ _ _ ql3 (.of_below hV)) (Kx.setCells _ (Or.inl (Or.inl rfl)) _ _ _ (Kx.refl _ _))⟩
 have hd2 := x.p.one
 go_upto_region 3 with (first
  | (refine wpl_ld row_Desc rfl (.tmp 7) rfl (vs := x.p.v) rfl rp hlp ?_)
  | (go_at_call 234; refine hD3.mono ?_; rintro e W4 ⟨rfl, q4⟩; obtain ⟨th4, b5, r5, w5, ql5⟩ := fin W4 q4)
  | (refine wpl_stm row_Desc rfl (.tmp 10) (.tmp 9) rfl (us := x.p.v) rfl rfl th4 hlp hd2 ?_; generalize W4.setCells w.heap.size 4 x.p.v = W5 at *))
 try simp only [Act.put]
 clear fin th4 q4 rp b3 b3' r3 w3 hD3 ql3
 have ql6 : QL s1 (W5.setCells (w.heap.size + 1) 0 (Ac.v ⟨x.k, x.t, x.f, s1, x.p⟩)) := hQ _ _ _ ql5 (Kx.setCells _ (Or.inl (Or.inr rfl)) _ _ _ (Kx.refl _ _))
 have f1 : Blk (W5.setCells (w.heap.size + 1) 0 (Ac.v ⟨x.k, x.t, x.f, s1, x.p⟩)) (w.heap.size + 1) (Ac.v ⟨x.k, x.t, x.f, s1, x.p⟩) := r5.all _ rfl
 have f2 : Below w.heap.size w (W5.setCells (w.heap.size + 1) 0 (Ac.v ⟨x.k, x.t, x.f, s1, x.p⟩)) := xbelow_sc w5 (by omega) _ _
 obtain ⟨x', hx'⟩ : ∃ x' : Ac, x' = ⟨x.k, x.t, x.f, s1, x.p⟩ := ⟨_, rfl⟩
 have HX : Hid (x' = _) := hx'
 rw [← hx'] at b5 f1 f2 ql6
 clear hx'
 go_wp2_with (first
  | (refine wpl_ld row_Act rfl (.tmp 1) rfl (vs := x'.v) rfl b5.range x'.len ?_)
  | (refine wpl_st row_Act rfl (.tmp 2) (.tmp 11) rfl (us := x'.v) rfl rfl r5 hz x'.len x'.one ?_; generalize W5.setCells (w.heap.size + 1) 0 x'.v = Wf at *))
 exact bodyPost_ret (res_row row_Act Tryz.results228 rfl f1 x'.len) rfl ⟨⟨s1, by rw [HX.out], ql6⟩, f2⟩
end Go.Proofs.YtdlnmnipnkeabaaGreatDoor
namespace Go.Proofs.YtdlnmnipnkeabaaGreatDoor
open Go.RowKit
set_option linter.unusedVariables false
set_option linter.unusedSimpArgs false
def mT (n : Int) : ByteArray := if n = 1 then ⟨#[70, 111, 114, 109, 97, 116]⟩ else if n = 2 then ⟨#[71, 111, 83, 116, 114, 105, 110, 103]⟩ else if n = 3 then ⟨#[69, 114, 114, 111, 114]⟩ else if n = 4 then ⟨#[83, 116, 114, 105, 110, 103]⟩ else ⟨#[]⟩
theorem mT_size (n : Int) : (mT n).size ≤ 8 := by
 unfold mT
 repeat' split
 all_goals decide
set_option maxRecDepth 1000000 in
theorem method_any (n : Int) (w : World) : Calls Tryz.prog 144 #[.int .i64 n] w fun e w' => e = .returned (.string (mT n)) ∧ w' = w := by
 by_cases e1 : n = 1
 ·subst e1
  go_enter Tryz.func144, Tryz.ntmps144
  go_wp2
  go_ret
  exact ⟨rfl, rfl⟩
 ·skip
  by_cases e2 : n = 2
  ·subst e2
   go_enter Tryz.func144, Tryz.ntmps144
   go_wp2
   go_ret
   exact ⟨rfl, rfl⟩
  ·skip
   by_cases e3 : n = 3
   ·subst e3
    go_enter Tryz.func144, Tryz.ntmps144
    go_wp2
    go_ret
    exact ⟨rfl, rfl⟩
   ·skip
    by_cases e4 : n = 4
    ·subst e4
     go_enter Tryz.func144, Tryz.ntmps144
     go_wp2
     go_ret
     exact ⟨rfl, rfl⟩
    ·skip
     rw [show mT n = ⟨#[]⟩ by unfold mT; rw [if_neg e1, if_neg e2, if_neg e3, if_neg e4]]
     go_enter Tryz.func144, Tryz.ntmps144
     go_wp2
     go_ret
     exact ⟨rfl, rfl⟩
end Go.Proofs.YtdlnmnipnkeabaaGreatDoor
namespace Go.Proofs.YtdlnmnipnkeabaaGreatDoor
open Go.RowKit
set_option linter.unusedVariables false
set_option linter.unusedSimpArgs false
abbrev FP (g : Nat) : Value := .func (.func 116) #[.pointer (some ⟨g, 0, none⟩)] #[]
abbrev FS (g : Nat) : Value := .func (.func 117) #[.pointer (some ⟨g, 0, none⟩)] #[]
structure Tn (A B : World → Prop) (P : Nat → Prop) (R : Nat) : Prop where
 a : ∀ W W', A W → Below W.heap.size W W' → A W'
 b : ∀ W W', B W → Kx (fun k => R ≤ k) W W' → B W'
 p : ∀ k, P k → k < R
theorem Tn.up {A B : World → Prop} {P : Nat → Prop} {R : Nat} (h : Tn A B P R) {W W' : World} (hb : B W) (b : Below W.heap.size W W') : B W' := h.b W W' hb (.of_below b)
end Go.Proofs.YtdlnmnipnkeabaaGreatDoor
namespace Go.Proofs.YtdlnmnipnkeabaaGreatDoor
open Go.RowKit
set_option linter.unusedVariables false
set_option linter.unusedSimpArgs false
abbrev spL (f : Sq) : List Value := [.bool f.p, .bool f.mi, .bool f.sh, .bool f.sp, .bool f.z, .int .i64 f.wid, .int .i64 f.prec, .int .i32 f.verb]
abbrev FnC (A B : World → Prop) (P : Nat → Prop) (f : Nat) (args : Array Value) (v : Value) : Prop := ∀ W, A W → Calls Tryz.prog f args W fun e W' => e = .returned v ∧ B W' ∧ Kx P W W'
abbrev DoQ (A B : World → Prop) (P : Nat → Prop) (R g : Nat) (x : Ac) (np : Bool) (v : Int) (m T : ByteArray) (ok : Bool) : Prop := ∀ W, R ≤ W.heap.size → A W → Calls Tryz.prog 142 #[.agg x.v.toArray, .bool np, .int .i32 v, .string m, FP g, FS g] W fun e w' => e = .returned (.tuple #[.string T, .bool ok]) ∧ B w' ∧ Kx P W w'
end Go.Proofs.YtdlnmnipnkeabaaGreatDoor
namespace Go.Proofs.YtdlnmnipnkeabaaGreatDoor
open Go.RowKit
end Go.Proofs.YtdlnmnipnkeabaaGreatDoor
namespace Go.Proofs.YtdlnmnipnkeabaaGreatDoor
open Go.RowKit
set_option linter.unusedVariables false
set_option linter.unusedSimpArgs false
theorem ba_extB {a b : ByteArray} (h : a.data.toList = b.data.toList) : a = b := by
 apply ByteArray.ext; apply Array.ext'; exact h
def bT (V L : List UInt8) : ByteArray := ⟨([37, 33] ++ V ++ [40] ++ L ++ [41]).toArray⟩
theorem bT_list (V L : List UInt8) : (bT V L).data.toList = [37, 33] ++ V ++ [40] ++ L ++ [41] := by simp [bT]
theorem bT_size (V L : List UInt8) : (bT V L).size = V.length + L.length + 4 := by rw [← list_len, bT_list]; simp; omega
theorem join_none (xs : List (List UInt8)) : Lib.join xs [] = xs.flatten := by
 cases xs with
 | nil => rfl
 | cons x r => rw [Lib.join_cons]; simp [Lib.joinTail]
abbrev BtC (v : ByteArray) (w : World) (bk n c : Nat) (L : List UInt8) : Prop := Calls Tryz.prog 18 #[.string v, .slice (some ⟨bk, 0, none⟩) n c] w fun e w' => e = .returned (.string (bT v.data.toList L)) ∧ Below w.heap.size w w'
set_option maxRecDepth 1000000 in
set_option maxHeartbeats 2000000 in
theorem btext_any {v : ByteArray} {xs : List ByteArray} {bk c : Nat} {w : World} {L : List UInt8} (hv : v.size ≤ 1000) (hc : ∀ (j : Nat) x, xs[j]? = some x → w.cell? ⟨bk, j, none⟩ = some (.string x)) (hbk : bk < w.heap.size) (hN : xs.length ≤ 1000) (hcap : xs.length ≤ c) (hL : xs.flatMap (·.data.toList) = L) (hz : L.length ≤ 100000) : BtC v w bk xs.length c L := by
 have hj : Lib.join (xs.map (·.data.toList)) [] = L := by rw [join_none, ← hL]; rfl
 have hJ := Tryz.strings_Join bk 0 c xs ⟨#[]⟩ w (fun j x h => by rw [Nat.zero_add]; exact hc j x h) hbk (by omega) hcap (by rw [show (⟨#[]⟩ : ByteArray).data.toList = [] from rfl, hj]; omega)
 rw [show (⟨#[]⟩ : ByteArray).data.toList = [] from rfl, hj] at hJ
 have hs : (⟨L.toArray⟩ : ByteArray).size = L.length := by rw [← list_len]
 have HF : Hid ((((⟨#[37, 33]⟩ ++ v) ++ ⟨#[40]⟩) ++ (⟨L.toArray⟩ : ByteArray)) ++ ⟨#[41]⟩ = bT v.data.toList L) := by
  refine ba_extB ?_
  rw [bT_list]
  simp only [app_list]
 have hvI : (v.size : Int) ≤ 1000 := by omega
 have hlI : ((⟨L.toArray⟩ : ByteArray).size : Int) ≤ 100000 := by omega
 generalize (⟨L.toArray⟩ : ByteArray) = J at *
 clear hj hL hc hs hv
 go_enter Tryz.func18, Tryz.ntmps18
 go_wp2_with (go_at_call 23; refine hJ.mono ?_; rintro e w2 ⟨rfl, hb2⟩)
 go_ret
 rw [HF.out]
 exact ⟨rfl, hb2⟩
def vB (c : Int) : List UInt8 := (Utf8.encode c).data.toList
theorem vB_size (c : Int) : (Utf8.encode c).size ≤ 4 := enc_size_le c
end Go.Proofs.YtdlnmnipnkeabaaGreatDoor
namespace Go.Proofs.YtdlnmnipnkeabaaGreatDoor
open Go.RowKit
set_option linter.unusedVariables false
set_option linter.unusedSimpArgs false
set_option maxRecDepth 1000000 in
set_option maxHeartbeats 2000000 in
theorem bpanic_big (c : Int) (a : ByteArray) (ha : a.size ≤ 1000) (b : ByteArray) (hb : b.size ≤ 9000) (w : World) : Calls Tryz.prog 14 #[.int .i32 c, .string a, .string b] w fun e w' => e = .returned (.string (bT (vB c) ([80, 65, 78, 73, 67, 61] ++ a.data.toList ++ [32, 109, 101, 116, 104, 111, 100, 58, 32] ++ b.data.toList))) ∧ Below w.heap.size w w' := by
 have hR := fun w => rune_any c w
 have hv := vB_size c
 obtain ⟨W1, hW1⟩ : ∃ W1, W1 = w.alloc (.cells #[.string ⟨#[80, 65, 78, 73, 67, 61]⟩, .string a, .string ⟨#[32, 109, 101, 116, 104, 111, 100, 58, 32]⟩, .string b] 9) := ⟨_, rfl⟩
 have hb1 : Below w.heap.size w W1 := by rw [hW1]; exact (Below.refl _ _).alloc (Nat.le_refl _) _
 have hT : BtC (Utf8.encode c) W1 w.heap.size 4 4 ([80, 65, 78, 73, 67, 61] ++ a.data.toList ++ [32, 109, 101, 116, 104, 111, 100, 58, 32] ++ b.data.toList) := btext_any (xs := [(⟨#[80, 65, 78, 73, 67, 61]⟩ : ByteArray), (a : ByteArray), (⟨#[32, 109, 101, 116, 104, 111, 100, 58, 32]⟩ : ByteArray), (b : ByteArray)]) (by omega) (fun j x hj => by
   have hblk : W1.heap[w.heap.size]? = some (.cells #[.string ⟨#[80, 65, 78, 73, 67, 61]⟩, .string a, .string ⟨#[32, 109, 101, 116, 104, 111, 100, 58, 32]⟩, .string b] 9) := by rw [hW1]; exact heap_alloc_new w _
   rw [cell_of_row W1 w.heap.size j _ _ (0, 0) hblk]
   show (([(⟨#[80, 65, 78, 73, 67, 61]⟩ : ByteArray), (a : ByteArray), (⟨#[32, 109, 101, 116, 104, 111, 100, 58, 32]⟩ : ByteArray), (b : ByteArray)].map Value.string).toArray)[j]? = _
   rw [List.getElem?_toArray, List.getElem?_map, hj]
   rfl) (by rw [hW1]; simp) (by simp) (by simp) (by simp) (by have := list_len a; have := list_len b;  first | (simp; done) | (simp; omega))
 unfold BtC at hT
 change Calls Tryz.prog 18 #[.string (Utf8.encode c), .slice (some ⟨w.heap.size, 0, none⟩) 4 4] W1 fun e w' => e = .returned (.string (bT (vB c) ([80, 65, 78, 73, 67, 61] ++ a.data.toList ++ [32, 109, 101, 116, 104, 111, 100, 58, 32] ++ b.data.toList))) ∧ Below W1.heap.size W1 w' at hT
 generalize Utf8.encode c = E at *
 generalize bT (vB c) ([80, 65, 78, 73, 67, 61] ++ a.data.toList ++ [32, 109, 101, 116, 104, 111, 100, 58, 32] ++ b.data.toList) = RR at *
 go_enter Tryz.func14, Tryz.ntmps14
 go_wp2_with (first
  | (go_at_call 10; refine (hR _).mono ?_; rintro e w2 ⟨rfl, hw2⟩; subst w2)
  | (go_at_call 18; rw [← hW1]; refine hT.mono ?_; rintro e w3 ⟨rfl, hb3⟩))
 go_ret
 exact ⟨rfl, hb1.trans (hb3.mono hb1.size)⟩
end Go.Proofs.YtdlnmnipnkeabaaGreatDoor
