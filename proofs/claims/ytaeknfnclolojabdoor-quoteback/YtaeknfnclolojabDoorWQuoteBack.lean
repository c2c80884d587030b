/- The walk of the law QuoteBack. -/
import Derived.Test.YtaeknfnclolojabDoorLives2
import Derived.Test.YtaeknfnclolojabDoorLawCut
namespace Go.Proofs.YtaeknfnclolojabDoor
open Go.RowKit
set_option linter.unusedVariables false

theorem kind_len (L m : List UInt8) (h : Kind L m) : m.length ≤ L.length := by
  rcases h with ⟨c, hv, hp, h92, h34, hm, hL⟩ | ⟨b', hb, hm, hL⟩ | ⟨k, hk, hm, hL⟩ | ⟨v, hv, hm, hL⟩ | ⟨v, hv, hle, hm, hL⟩ | ⟨v, hv, hm, hL⟩
  · rw [hL]; exact Nat.le_refl _
  · rw [hL, hm]; simp
  · rw [hL, hm]; simp
  · rw [hL, hm]; simp
  · have := enc_len v
    rw [hL, hm, List.length_append, hexL_len]; omega
  · have := enc_len v
    rw [hL, hm, List.length_append, hexL_len]; omega
theorem quoI_ge (a : Bool) : ∀ (n : Nat) (l : List UInt8), l.length ≤ n → l.length ≤ (quoI a l).length
  | 0, l, h => by omega
  | n + 1, l, h => by
    by_cases hl : l = []
    · subst hl; simp
    · have hw := Lib.decodeL_width l
      have hle := Lib.decodeL_le l hl
      rw [quoI_step a l hl, List.length_append]
      have h1 := kind_len _ _ (item_kind a l hl)
      have h2 := quoI_ge a n (l.drop (Lib.decodeL l).2) (by rw [List.length_drop]; omega)
      rw [List.length_take] at h1
      rw [List.length_drop] at h2
      omega
theorem quoS_ge (s : ByteArray) (a : Bool) : s.size + 2 ≤ (quoS s a).size := by
  have h := quoI_ge a s.size s.data.toList (by rw [list_len]; exact Nat.le_refl _)
  rw [list_len] at h
  have h3 : (34 :: (quoI a s.data.toList ++ [34])).length = (quoI a s.data.toList).length + 2 := by
    rw [List.length_cons, List.length_append]; rfl
  have h4 : (quoS s a).size = (34 :: (quoI a s.data.toList ++ [34])).length := rfl
  rw [h4, h3]
  omega

set_option maxRecDepth 1000000 in
set_option maxHeartbeats 400000 in
theorem quoteBack_walk (s : ByteArray) (_ : s.size ≤ maxLen) (a : Bool) (w : World) (hE : Esc w) :
    Calls Tryd.prog 4 #[.string s, .bool a] w fun e w' => e = .returned (.bool true) ∧ Below w.heap.size w w' := by
  obtain ⟨u, hu, hC⟩ := lawCut_any s
  have hsz := quoS_size u a
  have hge := quoS_ge u a
  have h1 := fun w hE => quote_any u a w hE (by omega)
  have h2 := fun w hE => unquote_yes u a w hE (by omega)
  have hL := fun w hE => lives2_any w hE
  generalize quoS u a = r at *
  have hge' : (u.size : Int) + 2 ≤ r.size := by omega
  clear hsz
  go_enter Tryd.func4, Tryd.ntmps4
  go_wp2_with (first | (go_at_call 8; refine (hC _).mono ?_; rintro e w0 ⟨rfl, rfl⟩) | (go_at_call 12; refine (h1 _ hE).mono ?_; rintro e w1 ⟨rfl, hb1⟩) | (go_at_call 13; refine (h2 _ (hE.below hb1)).mono ?_; rintro e w2 ⟨rfl, hb2⟩; have hb12 := hb1.trans (hb2.mono hb1.size)) | (go_at_call 11; refine (hL _ (hE.below hb12)).mono ?_; rintro e w3 ⟨rfl, hb3⟩))
  go_ret
  exact ⟨rfl, hb12.trans (hb3.mono hb12.size)⟩
end Go.Proofs.YtaeknfnclolojabDoor
