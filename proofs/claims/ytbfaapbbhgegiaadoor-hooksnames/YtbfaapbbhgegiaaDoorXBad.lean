/- Package bad: Panic, and the document's, of longer texts. -/
import Derived.Test.YtbfaapbbhgegiaaDoorABad
namespace Go.Proofs.YtbfaapbbhgegiaaDoor
open Go.RowKit
set_option linter.unusedVariables false
set_option linter.unusedSimpArgs false

/-- What Panic tells. -/
def pnT (c : Int) (m t : ByteArray) : ByteArray := bT (vB c) ([80, 65, 78, 73, 67, 61] ++ m.data.toList ++ [32, 109, 101, 116, 104, 111, 100, 58, 32] ++ t.data.toList)
set_option maxRecDepth 1000000 in
set_option maxHeartbeats 2000000 in
theorem bpanic_big (c : Int) (a : ByteArray) (ha : a.size ≤ 1000) (b : ByteArray) (hb : b.size ≤ 9000) (w : World) : Calls Tryd.prog 34 #[.int .i32 c, .string a, .string b] w fun e w' => e = .returned (.string (bT (vB c) ([80, 65, 78, 73, 67, 61] ++ a.data.toList ++ [32, 109, 101, 116, 104, 111, 100, 58, 32] ++ b.data.toList))) ∧ Below w.heap.size w w' := by
  have hR := fun w => rune_any c w
  have hv := vB_size c
  obtain ⟨W1, hW1⟩ : ∃ W1, W1 = w.alloc (.cells #[.string ⟨#[80, 65, 78, 73, 67, 61]⟩, .string a, .string ⟨#[32, 109, 101, 116, 104, 111, 100, 58, 32]⟩, .string b] 9) := ⟨_, rfl⟩
  have hb1 : Below w.heap.size w W1 := by rw [hW1]; exact (Below.refl _ _).alloc (Nat.le_refl _) _
  have hT : BtC (Utf8.encode c) W1 w.heap.size 4 4 ([80, 65, 78, 73, 67, 61] ++ a.data.toList ++ [32, 109, 101, 116, 104, 111, 100, 58, 32] ++ b.data.toList) := btext_any (xs := [(⟨#[80, 65, 78, 73, 67, 61]⟩ : ByteArray), (a : ByteArray), (⟨#[32, 109, 101, 116, 104, 111, 100, 58, 32]⟩ : ByteArray), (b : ByteArray)]) (by omega) (fun j x hj => by
      have hblk : W1.heap[w.heap.size]? = some (.cells #[.string ⟨#[80, 65, 78, 73, 67, 61]⟩, .string a, .string ⟨#[32, 109, 101, 116, 104, 111, 100, 58, 32]⟩, .string b] 9) := by rw [hW1]; exact heap_alloc_new w _
      rw [cell_of_row W1 w.heap.size j _ _ (0, 0) hblk]
      show (([(⟨#[80, 65, 78, 73, 67, 61]⟩ : ByteArray), (a : ByteArray), (⟨#[32, 109, 101, 116, 104, 111, 100, 58, 32]⟩ : ByteArray), (b : ByteArray)].map Value.string).toArray)[j]? = _
      rw [List.getElem?_toArray, List.getElem?_map, hj]
      rfl) (by rw [hW1]; simp) (by simp) (by simp) (by simp) (by have := list_len a; have := list_len b;  first | (simp; done) | (simp; omega))
  unfold BtC at hT
  change Calls Tryd.prog 47 #[.string (Utf8.encode c), .slice (some ⟨w.heap.size, 0, none⟩) 4 4] W1 fun e w' => e = .returned (.string (bT (vB c) ([80, 65, 78, 73, 67, 61] ++ a.data.toList ++ [32, 109, 101, 116, 104, 111, 100, 58, 32] ++ b.data.toList))) ∧ Below W1.heap.size W1 w' at hT
  generalize Utf8.encode c = E at *
  generalize bT (vB c) ([80, 65, 78, 73, 67, 61] ++ a.data.toList ++ [32, 109, 101, 116, 104, 111, 100, 58, 32] ++ b.data.toList) = RR at *
  go_enter Tryd.func34, Tryd.ntmps34
  go_wp2_with (first
    | (go_at_call 48; refine (hR _).mono ?_; rintro e w2 ⟨rfl, hw2⟩; subst w2)
    | (go_at_call 47; rw [← hW1]; refine hT.mono ?_; rintro e w3 ⟨rfl, hb3⟩))
  go_ret
  exact ⟨rfl, hb1.trans (hb3.mono hb1.size)⟩
set_option maxRecDepth 1000000 in
set_option maxHeartbeats 2000000 in
theorem upanic_big (c : Int) (a : ByteArray) (ha : a.size ≤ 1000) (b : ByteArray) (hb : b.size ≤ 9000) (w : World) : Calls Tryd.prog 37 #[.int .i32 c, .string a, .string b] w fun e w' => e = .returned (.string (bT (vB c) ([80, 65, 78, 73, 67, 61] ++ a.data.toList ++ [32, 109, 101, 116, 104, 111, 100, 58, 32] ++ b.data.toList))) ∧ Below w.heap.size w w' := by
  have hR := fun w => rrune_any c w
  have hv := vB_size c
  have hE : (Utf8.encode c).data.toList = vB c := rfl
  generalize vB c = V at *
  generalize Utf8.encode c = E at *
  have HF : Hid ((((((⟨#[37, 33]⟩ ++ E) ++ ⟨#[40, 80, 65, 78, 73, 67, 61]⟩) ++ a) ++ ⟨#[32, 109, 101, 116, 104, 111, 100, 58, 32]⟩) ++ b) ++ ⟨#[41]⟩ = bT V ([80, 65, 78, 73, 67, 61] ++ a.data.toList ++ [32, 109, 101, 116, 104, 111, 100, 58, 32] ++ b.data.toList)) := by
    refine ba_extB ?_
    rw [bT_list, ← hE]
    simp only [app_list]
    simp
  have hEI : (E.size : Int) ≤ 4 := by omega
  have haI : (a.size : Int) ≤ 1000 := by omega
  have hbI : (b.size : Int) ≤ 9000 := by omega
  clear hE hv
  go_enter Tryd.func37, Tryd.ntmps37
  go_wp2_with (go_at_call 52; refine (hR _).mono ?_; rintro e w2 ⟨rfl, hb2⟩)
  go_ret
  rw [HF.out]
  exact ⟨rfl, hb2⟩
end Go.Proofs.YtbfaapbbhgegiaaDoor
