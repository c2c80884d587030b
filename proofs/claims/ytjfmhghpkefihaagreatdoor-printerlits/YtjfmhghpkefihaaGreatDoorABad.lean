/- Package bad: the texts; the document's. -/
import Derived.Test.YtjfmhghpkefihaaGreatDoorPt3
import Derived.Test.YtjfmhghpkefihaaGreatDoorPt19
import Derived.Test.YtjfmhghpkefihaaGreatDoorPt2
import Derived.Test.YtjfmhghpkefihaaGreatDoorPt1
import Derived.Test.YtjfmhghpkefihaaGreatDoorPt4
import Derived.Test.YtjfmhghpkefihaaGreatDoorShelf
import Derived.Handy
namespace Go.Proofs.YtjfmhghpkefihaaGreatDoor
open Go.RowKit
set_option linter.unusedVariables false
set_option linter.unusedSimpArgs false

theorem ba_extB {a b : ByteArray} (h : a.data.toList = b.data.toList) : a = b := by
  apply ByteArray.ext; apply Array.ext'; exact h
/-- A text with that verb and that inside. -/
def bT (V L : List UInt8) : ByteArray := ⟨([37, 33] ++ V ++ [40] ++ L ++ [41]).toArray⟩
theorem bT_list (V L : List UInt8) : (bT V L).data.toList = [37, 33] ++ V ++ [40] ++ L ++ [41] := by simp [bT]
theorem bT_size (V L : List UInt8) : (bT V L).size = V.length + L.length + 4 := by rw [← list_len, bT_list]; simp; omega
theorem join_none (xs : List (List UInt8)) : Lib.join xs [] = xs.flatten := by
  cases xs with
  | nil => rfl
  | cons x r => rw [Lib.join_cons]; simp [Lib.joinTail]
abbrev BtC (v : ByteArray) (w : World) (bk n c : Nat) (L : List UInt8) : Prop := Calls Tryz.prog 12 #[.string v, .slice (some ⟨bk, 0, none⟩) n c] w fun e w' => e = .returned (.string (bT v.data.toList L)) ∧ Below w.heap.size w w'
set_option maxRecDepth 1000000 in
set_option maxHeartbeats 2000000 in
theorem btext_any {v : ByteArray} {xs : List ByteArray} {bk c : Nat} {w : World} {L : List UInt8} (hv : v.size ≤ 1000) (hc : ∀ (j : Nat) x, xs[j]? = some x → w.cell? ⟨bk, j, none⟩ = some (.string x)) (hbk : bk < w.heap.size) (hN : xs.length ≤ 1000) (hcap : xs.length ≤ c) (hL : xs.flatMap (·.data.toList) = L) (hz : L.length ≤ 100000) : BtC v w bk xs.length c L := by
  have hj : Lib.join (xs.map (·.data.toList)) [] = L := by rw [join_none, ← hL]; rfl
  have hJ := Tryz.strings_Join bk 0 c xs ⟨#[]⟩ w (fun j x h => by rw [Nat.zero_add]; exact hc j x h) hbk (by omega) hcap (by rw [show (⟨#[]⟩ : ByteArray).data.toList = [] from rfl, hj]; omega)
  rw [show (⟨#[]⟩ : ByteArray).data.toList = [] from rfl, hj] at hJ
  have hs : (⟨L.toArray⟩ : ByteArray).size = L.length := by rw [← list_len]
  have HF : Hid ((((⟨#[37, 33]⟩ ++ v) ++ ⟨#[40]⟩) ++ (⟨L.toArray⟩ : ByteArray)) ++ ⟨#[41]⟩ = bT v.data.toList L) := by
    refine ba_extB ?_
    rw [bT_list]
    simp only [app_list]
  have hvI : (v.size : Int) ≤ 1000 := by omega
  have hlI : ((⟨L.toArray⟩ : ByteArray).size : Int) ≤ 100000 := by omega
  generalize (⟨L.toArray⟩ : ByteArray) = J at *
  clear hj hL hc hs hv
  go_enter Tryz.func12, Tryz.ntmps12
  go_wp2_with (go_at_call 19; refine hJ.mono ?_; rintro e w2 ⟨rfl, hb2⟩)
  go_ret
  rw [HF.out]
  exact ⟨rfl, hb2⟩
/-- The bytes of a verb. -/
def vB (c : Int) : List UInt8 := (Utf8.encode c).data.toList
theorem vB_size (c : Int) : (Utf8.encode c).size ≤ 4 := enc_size_le c
set_option maxRecDepth 1000000 in
set_option maxHeartbeats 2000000 in
theorem bverb_any (c : Int) (a : ByteArray) (ha : a.size ≤ 1000) (b : ByteArray) (hb : b.size ≤ 1000) (w : World) : Calls Tryz.prog 143 #[.int .i32 c, .string a, .string b] w fun e w' => e = .returned (.string (bT (vB c) (a.data.toList ++ [61] ++ b.data.toList))) ∧ Below w.heap.size w w' := by
  have hR := fun w => rune_any c w
  have hv := vB_size c
  obtain ⟨W1, hW1⟩ : ∃ W1, W1 = w.alloc (.cells #[.string a, .string ⟨#[61]⟩, .string b] 9) := ⟨_, rfl⟩
  have hb1 : Below w.heap.size w W1 := by rw [hW1]; exact (Below.refl _ _).alloc (Nat.le_refl _) _
  have hT : BtC (Utf8.encode c) W1 w.heap.size 3 3 (a.data.toList ++ [61] ++ b.data.toList) := btext_any (xs := [(a : ByteArray), (⟨#[61]⟩ : ByteArray), (b : ByteArray)]) (by omega) (fun j x hj => by
      have hblk : W1.heap[w.heap.size]? = some (.cells #[.string a, .string ⟨#[61]⟩, .string b] 9) := by rw [hW1]; exact heap_alloc_new w _
      rw [cell_of_row W1 w.heap.size j _ _ (0, 0) hblk]
      show (([(a : ByteArray), (⟨#[61]⟩ : ByteArray), (b : ByteArray)].map Value.string).toArray)[j]? = _
      rw [List.getElem?_toArray, List.getElem?_map, hj]
      rfl) (by rw [hW1]; simp) (by simp) (by simp) (by simp) (by have := list_len a; have := list_len b;  first | (simp; done) | (simp; omega))
  unfold BtC at hT
  change Calls Tryz.prog 12 #[.string (Utf8.encode c), .slice (some ⟨w.heap.size, 0, none⟩) 3 3] W1 fun e w' => e = .returned (.string (bT (vB c) (a.data.toList ++ [61] ++ b.data.toList))) ∧ Below W1.heap.size W1 w' at hT
  generalize Utf8.encode c = E at *
  generalize bT (vB c) (a.data.toList ++ [61] ++ b.data.toList) = RR at *
  go_enter Tryz.func143, Tryz.ntmps143
  go_wp2_with (first
    | (go_at_call 36; refine (hR _).mono ?_; rintro e w2 ⟨rfl, hw2⟩; subst w2)
    | (go_at_call 12; rw [← hW1]; refine hT.mono ?_; rintro e w3 ⟨rfl, hb3⟩))
  go_ret
  exact ⟨rfl, hb1.trans (hb3.mono hb1.size)⟩
set_option maxRecDepth 1000000 in
set_option maxHeartbeats 2000000 in
theorem bnil_any (c : Int) (w : World) : Calls Tryz.prog 129 #[.int .i32 c] w fun e w' => e = .returned (.string (bT (vB c) ([60, 110, 105, 108, 62]))) ∧ Below w.heap.size w w' := by
  have hR := fun w => rune_any c w
  have hv := vB_size c
  obtain ⟨W1, hW1⟩ : ∃ W1, W1 = w.alloc (.cells #[.string ⟨#[60, 110, 105, 108, 62]⟩] 9) := ⟨_, rfl⟩
  have hb1 : Below w.heap.size w W1 := by rw [hW1]; exact (Below.refl _ _).alloc (Nat.le_refl _) _
  have hT : BtC (Utf8.encode c) W1 w.heap.size 1 1 ([60, 110, 105, 108, 62]) := btext_any (xs := [(⟨#[60, 110, 105, 108, 62]⟩ : ByteArray)]) (by omega) (fun j x hj => by
      have hblk : W1.heap[w.heap.size]? = some (.cells #[.string ⟨#[60, 110, 105, 108, 62]⟩] 9) := by rw [hW1]; exact heap_alloc_new w _
      rw [cell_of_row W1 w.heap.size j _ _ (0, 0) hblk]
      show (([(⟨#[60, 110, 105, 108, 62]⟩ : ByteArray)].map Value.string).toArray)[j]? = _
      rw [List.getElem?_toArray, List.getElem?_map, hj]
      rfl) (by rw [hW1]; simp) (by simp) (by simp) (by simp) (by  first | (simp; done) | (simp; omega))
  unfold BtC at hT
  change Calls Tryz.prog 12 #[.string (Utf8.encode c), .slice (some ⟨w.heap.size, 0, none⟩) 1 1] W1 fun e w' => e = .returned (.string (bT (vB c) ([60, 110, 105, 108, 62]))) ∧ Below W1.heap.size W1 w' at hT
  generalize Utf8.encode c = E at *
  generalize bT (vB c) ([60, 110, 105, 108, 62]) = RR at *
  go_enter Tryz.func129, Tryz.ntmps129
  go_wp2_with (first
    | (go_at_call 36; refine (hR _).mono ?_; rintro e w2 ⟨rfl, hw2⟩; subst w2)
    | (go_at_call 12; rw [← hW1]; refine hT.mono ?_; rintro e w3 ⟨rfl, hb3⟩))
  go_ret
  exact ⟨rfl, hb1.trans (hb3.mono hb1.size)⟩
set_option maxRecDepth 1000000 in
set_option maxHeartbeats 2000000 in
theorem bmissing_any (c : Int) (w : World) : Calls Tryz.prog 68 #[.int .i32 c] w fun e w' => e = .returned (.string (bT (vB c) ([77, 73, 83, 83, 73, 78, 71]))) ∧ Below w.heap.size w w' := by
  have hR := fun w => rune_any c w
  have hv := vB_size c
  obtain ⟨W1, hW1⟩ : ∃ W1, W1 = w.alloc (.cells #[.string ⟨#[77, 73, 83, 83, 73, 78, 71]⟩] 9) := ⟨_, rfl⟩
  have hb1 : Below w.heap.size w W1 := by rw [hW1]; exact (Below.refl _ _).alloc (Nat.le_refl _) _
  have hT : BtC (Utf8.encode c) W1 w.heap.size 1 1 ([77, 73, 83, 83, 73, 78, 71]) := btext_any (xs := [(⟨#[77, 73, 83, 83, 73, 78, 71]⟩ : ByteArray)]) (by omega) (fun j x hj => by
      have hblk : W1.heap[w.heap.size]? = some (.cells #[.string ⟨#[77, 73, 83, 83, 73, 78, 71]⟩] 9) := by rw [hW1]; exact heap_alloc_new w _
      rw [cell_of_row W1 w.heap.size j _ _ (0, 0) hblk]
      show (([(⟨#[77, 73, 83, 83, 73, 78, 71]⟩ : ByteArray)].map Value.string).toArray)[j]? = _
      rw [List.getElem?_toArray, List.getElem?_map, hj]
      rfl) (by rw [hW1]; simp) (by simp) (by simp) (by simp) (by  first | (simp; done) | (simp; omega))
  unfold BtC at hT
  change Calls Tryz.prog 12 #[.string (Utf8.encode c), .slice (some ⟨w.heap.size, 0, none⟩) 1 1] W1 fun e w' => e = .returned (.string (bT (vB c) ([77, 73, 83, 83, 73, 78, 71]))) ∧ Below W1.heap.size W1 w' at hT
  generalize Utf8.encode c = E at *
  generalize bT (vB c) ([77, 73, 83, 83, 73, 78, 71]) = RR at *
  go_enter Tryz.func68, Tryz.ntmps68
  go_wp2_with (first
    | (go_at_call 36; refine (hR _).mono ?_; rintro e w2 ⟨rfl, hw2⟩; subst w2)
    | (go_at_call 12; rw [← hW1]; refine hT.mono ?_; rintro e w3 ⟨rfl, hb3⟩))
  go_ret
  exact ⟨rfl, hb1.trans (hb3.mono hb1.size)⟩
set_option maxRecDepth 1000000 in
set_option maxHeartbeats 2000000 in
theorem bindex_any (c : Int) (w : World) : Calls Tryz.prog 69 #[.int .i32 c] w fun e w' => e = .returned (.string (bT (vB c) ([66, 65, 68, 73, 78, 68, 69, 88]))) ∧ Below w.heap.size w w' := by
  have hR := fun w => rune_any c w
  have hv := vB_size c
  obtain ⟨W1, hW1⟩ : ∃ W1, W1 = w.alloc (.cells #[.string ⟨#[66, 65, 68, 73, 78, 68, 69, 88]⟩] 9) := ⟨_, rfl⟩
  have hb1 : Below w.heap.size w W1 := by rw [hW1]; exact (Below.refl _ _).alloc (Nat.le_refl _) _
  have hT : BtC (Utf8.encode c) W1 w.heap.size 1 1 ([66, 65, 68, 73, 78, 68, 69, 88]) := btext_any (xs := [(⟨#[66, 65, 68, 73, 78, 68, 69, 88]⟩ : ByteArray)]) (by omega) (fun j x hj => by
      have hblk : W1.heap[w.heap.size]? = some (.cells #[.string ⟨#[66, 65, 68, 73, 78, 68, 69, 88]⟩] 9) := by rw [hW1]; exact heap_alloc_new w _
      rw [cell_of_row W1 w.heap.size j _ _ (0, 0) hblk]
      show (([(⟨#[66, 65, 68, 73, 78, 68, 69, 88]⟩ : ByteArray)].map Value.string).toArray)[j]? = _
      rw [List.getElem?_toArray, List.getElem?_map, hj]
      rfl) (by rw [hW1]; simp) (by simp) (by simp) (by simp) (by  first | (simp; done) | (simp; omega))
  unfold BtC at hT
  change Calls Tryz.prog 12 #[.string (Utf8.encode c), .slice (some ⟨w.heap.size, 0, none⟩) 1 1] W1 fun e w' => e = .returned (.string (bT (vB c) ([66, 65, 68, 73, 78, 68, 69, 88]))) ∧ Below W1.heap.size W1 w' at hT
  generalize Utf8.encode c = E at *
  generalize bT (vB c) ([66, 65, 68, 73, 78, 68, 69, 88]) = RR at *
  go_enter Tryz.func69, Tryz.ntmps69
  go_wp2_with (first
    | (go_at_call 36; refine (hR _).mono ?_; rintro e w2 ⟨rfl, hw2⟩; subst w2)
    | (go_at_call 12; rw [← hW1]; refine hT.mono ?_; rintro e w3 ⟨rfl, hb3⟩))
  go_ret
  exact ⟨rfl, hb1.trans (hb3.mono hb1.size)⟩
set_option maxRecDepth 1000000 in
set_option maxHeartbeats 2000000 in
theorem bpanic_any (c : Int) (a : ByteArray) (ha : a.size ≤ 1000) (b : ByteArray) (hb : b.size ≤ 1000) (w : World) : Calls Tryz.prog 150 #[.int .i32 c, .string a, .string b] w fun e w' => e = .returned (.string (bT (vB c) ([80, 65, 78, 73, 67, 61] ++ a.data.toList ++ [32, 109, 101, 116, 104, 111, 100, 58, 32] ++ b.data.toList))) ∧ Below w.heap.size w w' := by
  have hR := fun w => rune_any c w
  have hv := vB_size c
  obtain ⟨W1, hW1⟩ : ∃ W1, W1 = w.alloc (.cells #[.string ⟨#[80, 65, 78, 73, 67, 61]⟩, .string a, .string ⟨#[32, 109, 101, 116, 104, 111, 100, 58, 32]⟩, .string b] 9) := ⟨_, rfl⟩
  have hb1 : Below w.heap.size w W1 := by rw [hW1]; exact (Below.refl _ _).alloc (Nat.le_refl _) _
  have hT : BtC (Utf8.encode c) W1 w.heap.size 4 4 ([80, 65, 78, 73, 67, 61] ++ a.data.toList ++ [32, 109, 101, 116, 104, 111, 100, 58, 32] ++ b.data.toList) := btext_any (xs := [(⟨#[80, 65, 78, 73, 67, 61]⟩ : ByteArray), (a : ByteArray), (⟨#[32, 109, 101, 116, 104, 111, 100, 58, 32]⟩ : ByteArray), (b : ByteArray)]) (by omega) (fun j x hj => by
      have hblk : W1.heap[w.heap.size]? = some (.cells #[.string ⟨#[80, 65, 78, 73, 67, 61]⟩, .string a, .string ⟨#[32, 109, 101, 116, 104, 111, 100, 58, 32]⟩, .string b] 9) := by rw [hW1]; exact heap_alloc_new w _
      rw [cell_of_row W1 w.heap.size j _ _ (0, 0) hblk]
      show (([(⟨#[80, 65, 78, 73, 67, 61]⟩ : ByteArray), (a : ByteArray), (⟨#[32, 109, 101, 116, 104, 111, 100, 58, 32]⟩ : ByteArray), (b : ByteArray)].map Value.string).toArray)[j]? = _
      rw [List.getElem?_toArray, List.getElem?_map, hj]
      rfl) (by rw [hW1]; simp) (by simp) (by simp) (by simp) (by have := list_len a; have := list_len b;  first | (simp; done) | (simp; omega))
  unfold BtC at hT
  change Calls Tryz.prog 12 #[.string (Utf8.encode c), .slice (some ⟨w.heap.size, 0, none⟩) 4 4] W1 fun e w' => e = .returned (.string (bT (vB c) ([80, 65, 78, 73, 67, 61] ++ a.data.toList ++ [32, 109, 101, 116, 104, 111, 100, 58, 32] ++ b.data.toList))) ∧ Below W1.heap.size W1 w' at hT
  generalize Utf8.encode c = E at *
  generalize bT (vB c) ([80, 65, 78, 73, 67, 61] ++ a.data.toList ++ [32, 109, 101, 116, 104, 111, 100, 58, 32] ++ b.data.toList) = RR at *
  go_enter Tryz.func150, Tryz.ntmps150
  go_wp2_with (first
    | (go_at_call 36; refine (hR _).mono ?_; rintro e w2 ⟨rfl, hw2⟩; subst w2)
    | (go_at_call 12; rw [← hW1]; refine hT.mono ?_; rintro e w3 ⟨rfl, hb3⟩))
  go_ret
  exact ⟨rfl, hb1.trans (hb3.mono hb1.size)⟩
end Go.Proofs.YtjfmhghpkefihaaGreatDoor
