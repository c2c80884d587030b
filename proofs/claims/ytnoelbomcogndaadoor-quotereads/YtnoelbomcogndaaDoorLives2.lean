/- The walk of lives: the document's examples of layer 2 are as it says. -/
import Derived.Test.YtnoelbomcogndaaDoorTextA
import Derived.Test.YtnoelbomcogndaaDoorUnq
namespace Go.Proofs.YtnoelbomcogndaaDoor
open Go.RowKit
set_option linter.unusedVariables false

theorem lv2_text : padS (quotedS (cutS ⟨#[195, 169]⟩ (min (-1) 1000)) false true) false false (-1) = ⟨#[34, 92, 117, 48, 48, 101, 57, 34]⟩ := by decide +kernel
theorem lv2_quote : quoS ⟨#[255]⟩ false = ⟨#[34, 92, 120, 102, 102, 34]⟩ := by decide +kernel
theorem lv2_hex : padS (hexS ⟨#[97, 98]⟩ true true (decide ((120 : Int) = 88)) (-1)) false false (-1) = ⟨#[48, 120, 54, 49, 32, 48, 120, 54, 50]⟩ := by decide +kernel
theorem lv2_in (a : Bool) : inL 97 34 a = [97] := by cases a <;> decide +kernel
theorem lv2_no : ¬ ∃ u a, (ByteArray.mk #[34, 92, 120, 54, 49, 34]) = quoS u a := by
  rintro ⟨u, a, h⟩
  have h1 := ba_inj (a := [34, 92, 120, 54, 49, 34]) h
  have h2 : [92, 120, 54, 49] ++ [34] = quoI a u.data.toList ++ [34] := (List.cons.inj h1).2
  have h3 : [92, 120, 54, 49] = quoI a u.data.toList := List.append_cancel_right h2
  generalize u.data.toList = l at *
  have hl : l ≠ [] := by
    intro h4
    rw [h4, quoI_nil] at h3
    exact absurd h3 (by simp)
  rw [quoI_step a l hl] at h3
  have hK := item_kind a l hl
  rcases kind_second _ _ _ _ _ hK h3 with ⟨h4, -⟩ | ⟨k, hk, h4, -⟩ | ⟨-, v, hv, hm, ht, hL⟩ | ⟨h4, -⟩ | ⟨h4, -⟩
  · exact absurd h4 (by decide)
  · match k, hk with
    | 0, _ => exact absurd h4 (by decide)
    | 1, _ => exact absurd h4 (by decide)
    | 2, _ => exact absurd h4 (by decide)
    | 3, _ => exact absurd h4 (by decide)
    | 4, _ => exact absurd h4 (by decide)
    | 5, _ => exact absurd h4 (by decide)
    | 6, _ => exact absurd h4 (by decide)
    | k + 7, hk => omega
  · have hv2 : v = 97 := by
      have hd : ∀ v, v < 256 → hexL v 2 = [54, 49] → v = 97 := by decide +kernel
      have hr : (quoI a (l.drop (Lib.decodeL l).2)) = [] := by
        have := congrArg List.length ht
        rw [List.length_append, hexL_len] at this
        simp at this
        exact this
      rw [hr, List.append_nil] at ht
      exact hd v hv ht.symm
    subst hv2
    have hhead : ∃ t, l = 97 :: t := by
      match l, hl, hm with
      | x :: t, _, hm =>
        match hn : (Lib.decodeL (x :: t)).2 with
        | 0 => rw [hn] at hm; exact absurd hm (by simp)
        | n + 1 =>
          rw [hn] at hm
          have := (List.cons.inj hm).1
          exact ⟨t, by rw [this]; rfl⟩
    obtain ⟨t, rfl⟩ := hhead
    have hd : Lib.decodeL (97 :: t) = (97, 1) := decL_enc 97 (by decide) t
    have hi : itemL a (97 :: t) = [97] := by
      unfold itemL
      rw [hd, if_neg (by decide)]
      exact lv2_in a
    rw [hi] at hL
    exact absurd hL (by simp)
  · exact absurd h4 (by decide)
  · exact absurd h4 (by decide)

set_option maxRecDepth 1000000 in
set_option maxHeartbeats 400000 in
theorem lives2_any (w : World) (hE : Esc w) :
    Calls Tryd.prog 12 #[] w fun e w' => e = .returned (.bool true) ∧ Below w.heap.size w w' := by
  have hT : ∀ w, Esc w → Calls Tryd.prog 15 #[.string ⟨#[195, 169]⟩, .agg #[.bool true, .bool false, .bool false, .bool false, .bool false, .int .i64 (-1), .int .i64 (-1), .int .i32 113]] w fun e w' => e = .returned (.tuple #[.string ⟨#[34, 92, 117, 48, 48, 101, 57, 34]⟩, .bool true]) ∧ Below w.heap.size w w' := by
    intro w hE
    have := text_q ⟨#[195, 169]⟩ true false false false false (-1) (-1) w hE (by decide) (by decide)
    rw [lv2_text] at this
    exact this
  have hU : ∀ w, Esc w → Calls Tryd.prog 10 #[.string ⟨#[34, 92, 120, 54, 49, 34]⟩] w fun e w' => e = .returned (.tuple #[.string ⟨#[]⟩, .bool false]) ∧ Below w.heap.size w w' := fun w hE => unquote_no _ w hE (by decide) lv2_no
  have hQ : ∀ w, Esc w → Calls Tryd.prog 17 #[.string ⟨#[255]⟩, .bool false] w fun e w' => e = .returned (.string ⟨#[34, 92, 120, 102, 102, 34]⟩) ∧ Below w.heap.size w w' := fun w hE => quo_is _ _ _ lv2_quote w hE (by decide)
  have hH : ∀ w, Calls Tryd.prog 13 #[.string ⟨#[97, 98]⟩, .agg #[.bool false, .bool false, .bool true, .bool true, .bool false, .int .i64 (-1), .int .i64 (-1), .int .i32 120]] w fun e w' => e = .returned (.string ⟨#[48, 120, 54, 49, 32, 48, 120, 54, 50]⟩) ∧ Below w.heap.size w w' := by
    intro w
    have := hex_any ⟨#[97, 98]⟩ false false true true false (-1) (-1) 120 w (by decide)
    rw [lv2_hex] at this
    exact this
  go_enter Tryd.func12, Tryd.ntmps12
  go_wp2_with (first | (go_at_call 15; refine (hT _ hE).mono ?_; rintro e w1 ⟨rfl, hb1⟩) | (go_at_call 10; refine (hU _ (hE.below hb1)).mono ?_; rintro e w2 ⟨rfl, hb2⟩; have hb12 := hb1.trans (hb2.mono hb1.size)) | (go_at_call 17; refine (hQ _ (hE.below hb12)).mono ?_; rintro e w3 ⟨rfl, hb3⟩; have hb13 := hb12.trans (hb3.mono hb12.size)) | (go_at_call 13; refine (hH _).mono ?_; rintro e w4 ⟨rfl, hb4⟩))
  go_ret
  exact ⟨rfl, hb13.trans (hb4.mono hb13.size)⟩
end Go.Proofs.YtnoelbomcogndaaDoor
