/- DHk, ZDirB, ZLit, ZFmt, RRune, ABad, BExtra, ZExt, ZList: these texts in one. -/
import Derived.Test.YtdlnmnipnkeabaaGreatDoorPt17
import Derived.Test.YtdlnmnipnkeabaaGreatDoorPt19
import Derived.Test.YtdlnmnipnkeabaaGreatDoorPt9
import Derived.Test.YtdlnmnipnkeabaaGreatDoorPt16
import Derived.Test.YtdlnmnipnkeabaaGreatDoorPt3
import Derived.Test.YtdlnmnipnkeabaaGreatDoorPt1
import Derived.Test.YtdlnmnipnkeabaaGreatDoorShelf
import Derived.Handy
import Derived.Deep.RegionHeld
import Derived.Deep.LoopGhost
import Derived.Deep.RegionWith
import Derived.Deep.DeepCutAuto
import Derived.Deep.CutBlock
import Derived.Maps.AppendAt
import Derived.OwnWalk
namespace Go.Proofs.YtdlnmnipnkeabaaGreatDoor
open Go.RowKit
set_option linter.unusedVariables false
set_option linter.unusedSimpArgs false
abbrev FP (g : Nat) : Value := .func (.func 116) #[.pointer (some ⟨g, 0, none⟩)] #[]
abbrev FS (g : Nat) : Value := .func (.func 117) #[.pointer (some ⟨g, 0, none⟩)] #[]
theorem ieql_n (w : World) : (binOp BinOp.eql 20 .nilIface .nilIface).run Tryz.prog w = .ok (.bool true) w := by kernel_rfl
structure Tn (A B : World → Prop) (P : Nat → Prop) (R : Nat) : Prop where
 a : ∀ W W', A W → Below W.heap.size W W' → A W'
 b : ∀ W W', B W → Kx (fun k => R ≤ k) W W' → B W'
 p : ∀ k, P k → k < R
theorem Tn.up {A B : World → Prop} {P : Nat → Prop} {R : Nat} (h : Tn A B P R) {W W' : World} (hb : B W) (b : Below W.heap.size W W') : B W' := h.b W W' hb (.of_below b)
end Go.Proofs.YtdlnmnipnkeabaaGreatDoor
namespace Go.Proofs.YtdlnmnipnkeabaaGreatDoor
open Go.RowKit
set_option linter.unusedVariables false
set_option linter.unusedSimpArgs false
theorem pcV_len (p : Pc) (t : ByteArray) : (pcV p t).length = 20 := rfl
end Go.Proofs.YtdlnmnipnkeabaaGreatDoor
namespace Go.Proofs.YtdlnmnipnkeabaaGreatDoor
open Go.RowKit
set_option linter.unusedVariables false
set_option linter.unusedSimpArgs false
end Go.Proofs.YtdlnmnipnkeabaaGreatDoor
namespace Go.Proofs.YtdlnmnipnkeabaaGreatDoor
open Go.RowKit
set_option linter.unusedVariables false
set_option linter.unusedSimpArgs false
theorem zero_pc (w : World) : (zeroValue 119).run Tryz.prog w = .ok (.agg (pieceV 0 ⟨#[]⟩ fl0 0 0 nb0 nb0 ix0).toArray) w := by kernel_rfl
def noIx (p : Pc) : Prop := p.arg.k = 0 ∧ p.wid.a.k = 0 ∧ p.prec.a.k = 0
end Go.Proofs.YtdlnmnipnkeabaaGreatDoor
namespace Go.Proofs.YtdlnmnipnkeabaaGreatDoor
open Go.RowKit
end Go.Proofs.YtdlnmnipnkeabaaGreatDoor
namespace Go.Proofs.YtdlnmnipnkeabaaGreatDoor
open Go.RowKit
set_option linter.unusedVariables false
set_option linter.unusedSimpArgs false
theorem ba_extB {a b : ByteArray} (h : a.data.toList = b.data.toList) : a = b := by
 apply ByteArray.ext; apply Array.ext'; exact h
def bT (V L : List UInt8) : ByteArray := ⟨([37, 33] ++ V ++ [40] ++ L ++ [41]).toArray⟩
theorem bT_list (V L : List UInt8) : (bT V L).data.toList = [37, 33] ++ V ++ [40] ++ L ++ [41] := by simp [bT]
theorem bT_size (V L : List UInt8) : (bT V L).size = V.length + L.length + 4 := by rw [← list_len, bT_list]; simp; omega
theorem join_none (xs : List (List UInt8)) : Lib.join xs [] = xs.flatten := by
 cases xs with
 | nil => rfl
 | cons x r => rw [Lib.join_cons]; simp [Lib.joinTail]
abbrev BtC (v : ByteArray) (w : World) (bk n c : Nat) (L : List UInt8) : Prop := Calls Tryz.prog 18 #[.string v, .slice (some ⟨bk, 0, none⟩) n c] w fun e w' => e = .returned (.string (bT v.data.toList L)) ∧ Below w.heap.size w w'
set_option maxRecDepth 1000000 in
set_option maxHeartbeats 2000000 in
theorem btext_any {v : ByteArray} {xs : List ByteArray} {bk c : Nat} {w : World} {L : List UInt8} (hv : v.size ≤ 1000) (hc : ∀ (j : Nat) x, xs[j]? = some x → w.cell? ⟨bk, j, none⟩ = some (.string x)) (hbk : bk < w.heap.size) (hN : xs.length ≤ 1000) (hcap : xs.length ≤ c) (hL : xs.flatMap (·.data.toList) = L) (hz : L.length ≤ 100000) : BtC v w bk xs.length c L := by
 have hj : Lib.join (xs.map (·.data.toList)) [] = L := by rw [join_none, ← hL]; rfl
 have hJ := Tryz.strings_Join bk 0 c xs ⟨#[]⟩ w (fun j x h => by rw [Nat.zero_add]; exact hc j x h) hbk (by omega) hcap (by rw [show (⟨#[]⟩ : ByteArray).data.toList = [] from rfl, hj]; omega)
 rw [show (⟨#[]⟩ : ByteArray).data.toList = [] from rfl, hj] at hJ
 have hs : (⟨L.toArray⟩ : ByteArray).size = L.length := by rw [← list_len]
 have HF : Hid ((((⟨#[37, 33]⟩ ++ v) ++ ⟨#[40]⟩) ++ (⟨L.toArray⟩ : ByteArray)) ++ ⟨#[41]⟩ = bT v.data.toList L) := by
  refine ba_extB ?_
  rw [bT_list]
  simp only [app_list]
 have hvI : (v.size : Int) ≤ 1000 := by omega
 have hlI : ((⟨L.toArray⟩ : ByteArray).size : Int) ≤ 100000 := by omega
 generalize (⟨L.toArray⟩ : ByteArray) = J at *
 clear hj hL hc hs hv
 go_enter Tryz.func18, Tryz.ntmps18
 go_wp2_with (go_at_call 23; refine hJ.mono ?_; rintro e w2 ⟨rfl, hb2⟩)
 go_ret
 rw [HF.out]
 exact ⟨rfl, hb2⟩
def vB (c : Int) : List UInt8 := (Utf8.encode c).data.toList
theorem vB_size (c : Int) : (Utf8.encode c).size ≤ 4 := enc_size_le c
set_option maxRecDepth 1000000 in
set_option maxHeartbeats 2000000 in
theorem bverb_any (c : Int) (a : ByteArray) (ha : a.size ≤ 1000) (b : ByteArray) (hb : b.size ≤ 1000) (w : World) : Calls Tryz.prog 179 #[.int .i32 c, .string a, .string b] w fun e w' => e = .returned (.string (bT (vB c) (a.data.toList ++ [61] ++ b.data.toList))) ∧ Below w.heap.size w w' := by
 have hR := fun w => rune_any c w
 have hv := vB_size c
 obtain ⟨W1, hW1⟩ : ∃ W1, W1 = w.alloc (.cells #[.string a, .string ⟨#[61]⟩, .string b] 9) := ⟨_, rfl⟩
 have hb1 : Below w.heap.size w W1 := by rw [hW1]; exact (Below.refl _ _).alloc (Nat.le_refl _) _
 have hT : BtC (Utf8.encode c) W1 w.heap.size 3 3 (a.data.toList ++ [61] ++ b.data.toList) := btext_any (xs := [(a : ByteArray), (⟨#[61]⟩ : ByteArray), (b : ByteArray)]) (by omega) (fun j x hj => by
   have hblk : W1.heap[w.heap.size]? = some (.cells #[.string a, .string ⟨#[61]⟩, .string b] 9) := by rw [hW1]; exact heap_alloc_new w _
   rw [cell_of_row W1 w.heap.size j _ _ (0, 0) hblk]
   show (([(a : ByteArray), (⟨#[61]⟩ : ByteArray), (b : ByteArray)].map Value.string).toArray)[j]? = _
   rw [List.getElem?_toArray, List.getElem?_map, hj]
   rfl) (by rw [hW1]; simp) (by simp) (by simp) (by simp) (by have := list_len a; have := list_len b;  first | (simp; done) | (simp; omega))
 unfold BtC at hT
 change Calls Tryz.prog 18 #[.string (Utf8.encode c), .slice (some ⟨w.heap.size, 0, none⟩) 3 3] W1 fun e w' => e = .returned (.string (bT (vB c) (a.data.toList ++ [61] ++ b.data.toList))) ∧ Below W1.heap.size W1 w' at hT
 generalize Utf8.encode c = E at *
 generalize bT (vB c) (a.data.toList ++ [61] ++ b.data.toList) = RR at *
 go_enter Tryz.func179, Tryz.ntmps179
 go_wp2_with (first
  | (go_at_call 10; refine (hR _).mono ?_; rintro e w2 ⟨rfl, hw2⟩; subst w2)
  | (go_at_call 18; rw [← hW1]; refine hT.mono ?_; rintro e w3 ⟨rfl, hb3⟩))
 go_ret
 exact ⟨rfl, hb1.trans (hb3.mono hb1.size)⟩
end Go.Proofs.YtdlnmnipnkeabaaGreatDoor
namespace Go.Proofs.YtdlnmnipnkeabaaGreatDoor
open Go.RowKit
set_option linter.unusedVariables false
set_option linter.unusedSimpArgs false
end Go.Proofs.YtdlnmnipnkeabaaGreatDoor
namespace Go.Proofs.YtdlnmnipnkeabaaGreatDoor
open Go.RowKit
set_option linter.unusedVariables false
set_option linter.unusedSimpArgs false
end Go.Proofs.YtdlnmnipnkeabaaGreatDoor
namespace Go.Proofs.YtdlnmnipnkeabaaGreatDoor
open Go.RowKit
set_option linter.unusedVariables false
set_option linter.unusedSimpArgs false
def KdQ (t : TypeId) (x : Value) (k : Int) : Prop := ∃ (ty : ByteArray) (h : Int), ∀ Z : World, Sem.run Tryz.prog (method 550 t x "Kind") Z = .ok (376, .agg #[.int .i64 k, .string ty, .int .i64 h]) Z
structure It where
 t : TypeId
 x : Value
 k : Int
 T : ByteArray
abbrev It.v (q : It) : Value := .iface q.t q.x
theorem En.arg {w : World} {g C M A n c : Nat} {l : List UInt8} {dp : Int} {vs : List Value} {nx : Int} (h : En w g C M l dp (.slice (some ⟨A, 0, none⟩) n c) vs nx) {j : Nat} {u : Value} (hj : vs[j]? = some u) : w.cell? ⟨A, j, none⟩ = some u := by
 obtain ⟨a, c', e, h1, h2, ha⟩ := h.a
 injection e with e1 e2 e3
 obtain ⟨A', rfl, -, hc⟩ := ha j u hj
 injection e1 with e1
 injection e1 with e1
 subst e1
 exact hc
end Go.Proofs.YtdlnmnipnkeabaaGreatDoor
