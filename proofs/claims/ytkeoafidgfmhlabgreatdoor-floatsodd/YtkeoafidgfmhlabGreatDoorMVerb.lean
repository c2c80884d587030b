/- The document's Verb. -/
import Derived.Test.YtkeoafidgfmhlabGreatDoorFText
import Derived.Test.YtkeoafidgfmhlabGreatDoorPlain6
namespace Go.Proofs.YtkeoafidgfmhlabGreatDoor
open Go.RowKit
set_option linter.unusedVariables false
set_option linter.unusedSimpArgs false

/-- The text of the verbs. -/
abbrev vbS : ByteArray := ⟨#[118, 101, 69, 102, 70, 103, 71, 98, 120, 88]⟩
def vbL : List Int := [118, 101, 69, 102, 70, 103, 71, 98, 120, 88]
theorem vb_dec (k : Nat) (h : k < 10) : Utf8.decode vbS k = ((vbL.getD k 0).toNat, 1) := by
  have : ∀ k : Fin 10, Utf8.decode vbS k.val = ((vbL.getD k.val 0).toNat, 1) := by decide
  exact this ⟨k, h⟩
theorem vb_step (k : Nat) (h : k < 10) (verb : Int) : decide (verb ∈ vbL.take (k + 1)) = (decide (verb ∈ vbL.take k) || decide (vbL.getD k 0 = verb)) := by
  have hl : k < vbL.length := h
  rw [List.take_succ_eq_append_getElem hl]
  have e : vbL.getD k 0 = vbL[k] := by rw [List.getD_eq_getElem?_getD, List.getElem?_eq_getElem hl, Option.getD_some]
  rw [e]
  have e2 : (verb ∈ vbL.take k ++ [vbL[k]]) ↔ (verb ∈ vbL.take k ∨ vbL[k] = verb) := by
    rw [List.mem_append, List.mem_singleton, eq_comm (a := verb) (b := vbL[k])]
  by_cases h1 : verb ∈ vbL.take k
  · rw [decide_eq_true h1, decide_eq_true (e2.2 (.inl h1))]; rfl
  · by_cases h2 : vbL[k] = verb
    · rw [decide_eq_true (e2.2 (.inr h2)), decide_eq_true h2]; simp
    · have h3 : ¬ (verb ∈ vbL.take k ++ [vbL[k]]) := fun h => (e2.1 h).elim h1 h2
      rw [decide_eq_false h1, decide_eq_false h2, decide_eq_false h3]; rfl
theorem vb_all (verb : Int) : decide (verb ∈ vbL.take 10) = fVerb verb := by
  have e : vbL.take 10 = vbL := rfl
  rw [e]
  unfold fVerb vbL
  apply decide_eq_decide.2
  simp only [List.mem_cons, List.not_mem_nil, or_false]
  omega
theorem vb_pos (k : Nat) (h : k < 10) : (((vbL.getD k 0).toNat : Nat) : Int) = vbL.getD k 0 := by
  have : ∀ k : Fin 10, (((vbL.getD k.val 0).toNat : Nat) : Int) = vbL.getD k.val 0 := by decide
  exact this ⟨k, h⟩
set_option maxRecDepth 1000000 in
set_option maxHeartbeats 800000 in
theorem mverb_any (verb : Int) (w : World) : Calls Tryz.prog 13 #[.int .i32 verb] w fun e w' => e = .returned (.bool (fVerb verb)) ∧ Below w.heap.size w w' := by
  have HD : Hid (∀ k, k < 10 → Utf8.decode vbS k = ((vbL.getD k 0).toNat, 1)) := vb_dec
  have HP : Hid (∀ k, k < 10 → (((vbL.getD k 0).toNat : Nat) : Int) = vbL.getD k 0) := vb_pos
  have HS : Hid (∀ k, k < 10 → decide (verb ∈ vbL.take (k + 1)) = (decide (verb ∈ vbL.take k) || decide (vbL.getD k 0 = verb))) := fun k h => vb_step k h verb
  have HT : Hid (∀ k, k ≤ 10 → decide (verb ∈ vbL.take k) = true → fVerb verb = true) := fun k hk h => by
    rw [← vb_all]
    have := of_decide_eq_true h
    exact decide_eq_true ((List.take_prefix_take_left hk).subset this)
  have HA : Hid (decide (verb ∈ vbL.take 10) = fVerb verb) := vb_all verb
  have hz : vbS.size = 10 := rfl
  go_enter Tryz.func13, Tryz.ntmps13
  go_wp2
  go_loopw [4] (fun n w' => ∃ pos : Nat, w' = w.iter vbS pos ∧ pos ≤ 10 ∧ Hid (decide (verb ∈ vbL.take pos) = false)) (fun _ w' => 10 - w'.iterPos w.heap.size)
  case atStart => exact ⟨0, rfl, by omega, rfl⟩
  case round =>
    obtain ⟨pos, rfl, hpos, HM⟩ := hrel
    by_cases hp : pos < 10
    · have hd := HD.out pos hp
      have hpp := HP.out pos hp
      have hst := HS.out pos hp
      rw [HM.out, Bool.false_or] at hst
      have hnx : ∀ ty, (Instr.next (.pointer (some ⟨w.heap.size, 0, none⟩)) true ty).run Tryz.prog (w.iter vbS pos) = _ := fun ty => run_next_any w vbS pos ty (by rw [hz]; exact hp)
      rw [hd] at hnx
      simp only [hpp] at hnx
      by_cases hv : vbL.getD pos 0 = verb
      · have HF : Hid (fVerb verb = true) := HT.out (pos + 1) (by omega) (by rw [hst]; exact decide_eq_true hv)
        have b1 : (vbL.getD pos 0 == verb) = true := beq_iff_eq.2 hv
        clear HD HP HS HT HA HM hst hd hpp hv
        generalize vbL.getD pos 0 = c at *
        go_wp2
        go_ret
        rw [HF.out]
        exact ⟨rfl, iter_below _ _ _⟩
      · have b1 : (vbL.getD pos 0 == verb) = false := beq_eq_false_iff_ne.2 hv
        have HM2 : Hid (decide (verb ∈ vbL.take (pos + 1)) = false) := by show _ = _; rw [hst]; exact decide_eq_false hv
        clear HD HP HS HT HA HM hst hd hpp hv
        generalize vbL.getD pos 0 = c at *
        go_wp2
        go_roundw
        case rel => exact ⟨pos + 1, rfl, by omega, HM2⟩
        case measure =>
          simp
          omega
    · have hnx : ∀ ty, (Instr.next (.pointer (some ⟨w.heap.size, 0, none⟩)) true ty).run Tryz.prog (w.iter vbS pos) = _ := fun ty => run_next_end w vbS pos ty (by rw [hz]; exact hp)
      have HF : Hid (fVerb verb = false) := by
        show _ = _
        rw [← HA.out, ← HM.out, show pos = 10 by omega]
      clear HD HP HS HT HA HM
      go_wp2
      go_ret
      rw [HF.out]
      exact ⟨rfl, iter_below _ _ _⟩
abbrev MvC (verb : Int) (b : Bool) : Prop := ∀ w, Calls Tryz.prog 13 #[.int .i32 verb] w fun e w' => e = .returned (.bool b) ∧ Below w.heap.size w w'
end Go.Proofs.YtkeoafidgfmhlabGreatDoor
