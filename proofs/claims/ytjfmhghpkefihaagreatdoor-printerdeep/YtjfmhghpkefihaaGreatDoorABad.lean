/- Package bad: the texts; the document's. -/
import Derived.Test.YtjfmhghpkefihaaGreatDoorPt5
import Derived.Test.YtjfmhghpkefihaaGreatDoorPt22
import Derived.Test.YtjfmhghpkefihaaGreatDoorPt2
import Derived.Test.YtjfmhghpkefihaaGreatDoorPt1
import Derived.Test.YtjfmhghpkefihaaGreatDoorShelf
import Derived.Handy
namespace Go.Proofs.YtjfmhghpkefihaaGreatDoor
open Go.RowKit
set_option linter.unusedVariables false
set_option linter.unusedSimpArgs false
theorem ba_extB {a b : ByteArray} (h : a.data.toList = b.data.toList) : a = b := by
 apply ByteArray.ext; apply Array.ext'; exact h
def bT (V L : List UInt8) : ByteArray := ⟨([37, 33] ++ V ++ [40] ++ L ++ [41]).toArray⟩
theorem bT_list (V L : List UInt8) : (bT V L).data.toList = [37, 33] ++ V ++ [40] ++ L ++ [41] := by simp [bT]
theorem join_none (xs : List (List UInt8)) : Lib.join xs [] = xs.flatten := by
 cases xs with
 | nil => rfl
 | cons x r => rw [Lib.join_cons]; simp [Lib.joinTail]
abbrev BtC (v : ByteArray) (w : World) (bk n c : Nat) (L : List UInt8) : Prop := Calls Tryz.prog 12 #[.string v, .slice (some ⟨bk, 0, none⟩) n c] w fun e w' => e = .returned (.string (bT v.data.toList L)) ∧ Below w.heap.size w w'
set_option maxRecDepth 1000000 in
set_option maxHeartbeats 2000000 in
theorem btext_any {v : ByteArray} {xs : List ByteArray} {bk c : Nat} {w : World} {L : List UInt8} (hv : v.size ≤ 1000) (hc : ∀ (j : Nat) x, xs[j]? = some x → w.cell? ⟨bk, j, none⟩ = some (.string x)) (hbk : bk < w.heap.size) (hN : xs.length ≤ 1000) (hcap : xs.length ≤ c) (hL : xs.flatMap (·.data.toList) = L) (hz : L.length ≤ 100000) : BtC v w bk xs.length c L := by
 have hj : Lib.join (xs.map (·.data.toList)) [] = L := by rw [join_none, ← hL]; rfl
 have hJ := Tryz.strings_Join bk 0 c xs ⟨#[]⟩ w (fun j x h => by rw [Nat.zero_add]; exact hc j x h) hbk (by omega) hcap (by rw [show (⟨#[]⟩ : ByteArray).data.toList = [] from rfl, hj]; omega)
 rw [show (⟨#[]⟩ : ByteArray).data.toList = [] from rfl, hj] at hJ
 have hs : (⟨L.toArray⟩ : ByteArray).size = L.length := by rw [← list_len]
 have HF : Hid ((((⟨#[37, 33]⟩ ++ v) ++ ⟨#[40]⟩) ++ (⟨L.toArray⟩ : ByteArray)) ++ ⟨#[41]⟩ = bT v.data.toList L) := by
  refine ba_extB ?_
  rw [bT_list]
  simp only [app_list]
 have hvI : (v.size : Int) ≤ 1000 := by omega
 have hlI : ((⟨L.toArray⟩ : ByteArray).size : Int) ≤ 100000 := by omega
 generalize (⟨L.toArray⟩ : ByteArray) = J at *
 clear hj hL hc hs hv
 go_enter Tryz.func12, Tryz.ntmps12
 go_wp2_with (go_at_call 19; refine hJ.mono ?_; rintro e w2 ⟨rfl, hb2⟩)
 go_ret
 rw [HF.out]
 exact ⟨rfl, hb2⟩
end Go.Proofs.YtjfmhghpkefihaaGreatDoor
