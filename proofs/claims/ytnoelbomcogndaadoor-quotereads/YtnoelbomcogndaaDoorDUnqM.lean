/- Plain mathematics: the document's way of reading a text in quotes, byte by byte. -/
import Derived.Test.YtnoelbomcogndaaDoorUnes2
namespace Go.Proofs.YtnoelbomcogndaaDoor
open Go.RowKit
set_option linter.unusedVariables false

/-- The bytes behind a rune's first one are no backslash. -/
theorem enc_tail92 (c : Nat) (hv : Utf8.valid (c : Int) = true) : ∃ x t, (Utf8.encode (c : Int)).data.toList = x :: t ∧ (∀ y ∈ t, y ≠ 92) := by
  have big : ∀ n : Nat, n % 64 < 64 → UInt8.ofNat (128 + n % 64) ≠ 92 := by
    intro n hn h
    have := congrArg UInt8.toNat h
    simp at this
    omega
  by_cases h1 : c < 128
  · rw [enc1 c h1]
    exact ⟨_, [], rfl, fun y hy => by cases hy⟩
  by_cases h2 : c < 2048
  · rw [enc2 c (by omega) h2]
    refine ⟨_, [_], rfl, fun y hy => ?_⟩
    rw [List.mem_singleton.1 hy]
    exact big c (Nat.mod_lt _ (by omega))
  by_cases h3 : c < 65536
  · rw [enc3 c hv (by omega) h3]
    refine ⟨_, [_, _], rfl, fun y hy => ?_⟩
    rcases List.mem_cons.1 hy with e | e
    · rw [e]; exact big (c / 64) (Nat.mod_lt _ (by omega))
    · rw [List.mem_singleton.1 e]; exact big c (Nat.mod_lt _ (by omega))
  · rw [enc4 c hv (by omega)]
    refine ⟨_, [_, _, _], rfl, fun y hy => ?_⟩
    rcases List.mem_cons.1 hy with e | e
    · rw [e]; exact big (c / 4096) (Nat.mod_lt _ (by omega))
    · rcases List.mem_cons.1 e with e | e
      · rw [e]; exact big (c / 64) (Nat.mod_lt _ (by omega))
      · rw [List.mem_singleton.1 e]; exact big c (Nat.mod_lt _ (by omega))
/-- What has been read of a text in quotes, and what is left. -/
def UInv (s rest t : ByteArray) : Prop := ∀ a l, s = quoS ⟨l.toArray⟩ a → ∃ m l1, (∀ x ∈ m, x ≠ 92) ∧ rest.data.toList = m ++ quoI a l1 ∧ l = t.data.toList ++ (m ++ l1)
theorem uinv_start (s : ByteArray) : UInv s (s.extract 1 (s.size - 1)) ⟨#[]⟩ := by
  intro a l hs
  refine ⟨[], l, (fun x hx => by cases hx), ?_, rfl⟩
  have hz : s.size = (quoI a l).length + 2 := by
    rw [hs]
    show (34 :: (quoI a l ++ [34])).toArray.size = _
    simp
  have hl : s.data.toList = 34 :: (quoI a l ++ [34]) := by rw [hs]; rfl
  rw [Lib.extract_data, hl, hz]
  show (quoI a l ++ [34]).take ((quoI a l).length + 2 - 1 - 1) = _
  rw [show (quoI a l).length + 2 - 1 - 1 = (quoI a l).length by omega, List.take_left]
  rfl
theorem head_list (rest : ByteArray) (h0 : 0 < rest.size) : ∃ tl, rest.data.toList = (rest[0]'h0) :: tl := by
  have e : rest.data.toList.drop 0 = (rest[0]'h0) :: rest.data.toList.drop 1 := by
    rw [List.drop_eq_getElem_cons (show 0 < rest.data.toList.length by rw [list_len]; exact h0)]; rfl
  exact ⟨_, e⟩
theorem uinv_plain (s rest t : ByteArray) (hI : UInv s rest t) (h0 : 0 < rest.size) (h : ¬ (rest[0]'h0).toNat = 92 ∨ rest.size < 2) : UInv s (rest.extract 1 rest.size) (t ++ rest.extract 0 1) := by
  obtain ⟨tl, htl⟩ := head_list rest h0
  have e1 : (rest.extract 1 rest.size).data.toList = tl := by rw [tail_list, htl]; rfl
  have e2 : (t ++ rest.extract 0 1).data.toList = t.data.toList ++ [rest[0]'h0] := by
    rw [app_list, ext_list, htl]; rfl
  intro a l hs
  obtain ⟨m, l1, hm, hr, hl⟩ := hI a l hs
  rw [e1, e2]
  cases m with
  | cons x m' =>
    rw [htl] at hr
    obtain ⟨hx, htl2⟩ := List.cons.inj hr
    refine ⟨m', l1, fun y hy => hm y (List.mem_cons_of_mem _ hy), htl2, ?_⟩
    rw [hl, hx]
    simp
  | nil =>
    have hne : l1 ≠ [] := by
      intro h1
      rw [h1, quoI_nil] at hr
      rw [htl] at hr
      exact absurd hr (by simp)
    have hr2 : rest.data.toList = quoI a l1 := hr
    rw [quoI_step a l1 hne] at hr2
    have bad : ∀ (b : UInt8) (tt : List UInt8), itemL a l1 = 92 :: b :: tt → False := by
      intro b tt he
      rw [he] at hr2
      rw [htl] at hr2
      have hx : rest[0]'h0 = 92 := (List.cons.inj hr2).1
      have hsz : 2 ≤ rest.size := by
        rw [← list_len, htl, hr2]
        simp
      rcases h with h | h
      · exact h (by rw [hx]; rfl)
      · omega
    rcases item_kind a l1 hne with ⟨c, hv, hp, h92, h34, hm0, hL⟩ | ⟨b', hb, hm0, hL⟩ | ⟨k, hk, hm0, hL⟩ | ⟨v, hv, hm0, hL⟩ | ⟨v, hv, hle, hm0, hL⟩ | ⟨v, hv, hm0, hL⟩
    · obtain ⟨x, tt, he, ht⟩ := enc_tail92 c hv
      rw [hL, hm0, he, htl] at hr2
      obtain ⟨hx, htl2⟩ := List.cons.inj hr2
      refine ⟨tt, l1.drop (Lib.decodeL l1).2, ht, htl2, ?_⟩
      have h5 : l1 = x :: tt ++ l1.drop (Lib.decodeL l1).2 := by
        conv => lhs; rw [← List.take_append_drop (Lib.decodeL l1).2 l1]
        rw [hm0, he]
      rw [hl]
      show t.data.toList ++ l1 = _
      rw [hx]
      conv => lhs; rw [h5]
      simp
    · exact (bad _ _ hL).elim
    · exact (bad _ _ hL).elim
    · exact (bad _ _ hL).elim
    · exact (bad _ _ hL).elim
    · exact (bad _ _ hL).elim
theorem uinv_none (s rest t : ByteArray) (hI : UInv s rest t) (b : UInt8) (tl : List UInt8) (hr : rest.data.toList = 92 :: b :: tl) (a : Bool) (l : List UInt8) (hs : s = quoS ⟨l.toArray⟩ a) :
    ∃ l1, l1 ≠ [] ∧ rest.data.toList = itemL a l1 ++ quoI a (l1.drop (Lib.decodeL l1).2) ∧ l = t.data.toList ++ l1 := by
  obtain ⟨m, l1, hm, hr1, hl⟩ := hI a l hs
  cases m with
  | cons x m' =>
    exfalso
    rw [hr] at hr1
    exact hm x (List.mem_cons_self ..) ((List.cons.inj hr1).1).symm
  | nil =>
    have hne : l1 ≠ [] := by
      intro h1
      rw [h1, quoI_nil, hr] at hr1
      exact absurd hr1 (by simp)
    refine ⟨l1, hne, ?_, hl⟩
    rw [← quoI_step a l1 hne]; exact hr1
theorem uinv_esc (s rest t tt : ByteArray) (n : Nat) (hI : UInv s rest t) (HL : ∃ b tl, rest.data.toList = 92 :: b :: tl) (hR : Reads rest tt n) : UInv s (rest.extract n rest.size) (t ++ tt) := by
  obtain ⟨b, tl, hr⟩ := HL
  intro a l hs
  obtain ⟨l1, hne, h1, hl⟩ := uinv_none s rest t hI b tl hr a l hs
  obtain ⟨e1, e2⟩ := hR _ _ _ (item_kind a l1 hne) h1
  refine ⟨[], l1.drop (Lib.decodeL l1).2, (fun x hx => by cases hx), ?_, ?_⟩
  · rw [tail_list, h1, e2, List.drop_left' rfl]; rfl
  · rw [hl, app_list, e1]
    simp
theorem uinv_no (s rest t : ByteArray) (hI : UInv s rest t) (b : UInt8) (tl : List UInt8) (hr : rest.data.toList = 92 :: b :: tl) (k : Nat)
    (hb : (b = 120 ∧ k = 2) ∨ (b = 117 ∧ k = 4) ∨ (b = 85 ∧ k = 8)) (hno : ∀ x r, x ≤ 1114111 → x < 16 ^ k → tl = hexL x k ++ r → False) : ¬ ∃ u a, s = quoS u a := by
  rintro ⟨u, a, hs⟩
  rw [← ba_list u] at hs
  obtain ⟨l1, hne, h1, hl⟩ := uinv_none s rest t hI b tl hr a _ hs
  rw [hr] at h1
  have esc : ∀ j, j < 7 → b = UInt8.ofNat (escT j) → False := by
    intro j hj h
    match j, hj with
    | 0, _ => rcases hb with ⟨h3, -⟩ | ⟨h3, -⟩ | ⟨h3, -⟩ <;> (rw [h3] at h; exact absurd h (by decide))
    | 1, _ => rcases hb with ⟨h3, -⟩ | ⟨h3, -⟩ | ⟨h3, -⟩ <;> (rw [h3] at h; exact absurd h (by decide))
    | 2, _ => rcases hb with ⟨h3, -⟩ | ⟨h3, -⟩ | ⟨h3, -⟩ <;> (rw [h3] at h; exact absurd h (by decide))
    | 3, _ => rcases hb with ⟨h3, -⟩ | ⟨h3, -⟩ | ⟨h3, -⟩ <;> (rw [h3] at h; exact absurd h (by decide))
    | 4, _ => rcases hb with ⟨h3, -⟩ | ⟨h3, -⟩ | ⟨h3, -⟩ <;> (rw [h3] at h; exact absurd h (by decide))
    | 5, _ => rcases hb with ⟨h3, -⟩ | ⟨h3, -⟩ | ⟨h3, -⟩ <;> (rw [h3] at h; exact absurd h (by decide))
    | 6, _ => rcases hb with ⟨h3, -⟩ | ⟨h3, -⟩ | ⟨h3, -⟩ <;> (rw [h3] at h; exact absurd h (by decide))
    | j + 7, hj => omega
  rcases kind_second _ _ _ _ _ (item_kind a l1 hne) h1 with ⟨h3, -⟩ | ⟨j, hj, h3, -⟩ | ⟨h3, v, hv, -, ht, -⟩ | ⟨h3, v, hv, hle, -, ht, -⟩ | ⟨h3, v, hv, -, ht, -⟩
  · rcases hb with ⟨h4, -⟩ | ⟨h4, -⟩ | ⟨h4, -⟩ <;> (rw [h4] at h3; exact absurd h3 (by decide))
  · exact esc j hj h3
  · rcases hb with ⟨h4, rfl⟩ | ⟨h4, -⟩ | ⟨h4, -⟩
    · exact hno v _ (by omega) (by omega) ht
    · rw [h4] at h3; exact absurd h3 (by decide)
    · rw [h4] at h3; exact absurd h3 (by decide)
  · rcases hb with ⟨h4, -⟩ | ⟨h4, rfl⟩ | ⟨h4, -⟩
    · rw [h4] at h3; exact absurd h3 (by decide)
    · exact hno v _ (by omega) (by omega) ht
    · rw [h4] at h3; exact absurd h3 (by decide)
  · rcases hb with ⟨h4, -⟩ | ⟨h4, -⟩ | ⟨h4, rfl⟩
    · rw [h4] at h3; exact absurd h3 (by decide)
    · rw [h4] at h3; exact absurd h3 (by decide)
    · have := (valid_iff _).1 hv
      exact hno v _ (by omega) (by omega) ht
theorem uinv_end (s t : ByteArray) (rest : ByteArray) (hI : UInv s rest t) (h0 : rest.size = 0) (u : ByteArray) (a : Bool) (hs : s = quoS u a) : t = u := by
  rw [← ba_list u] at hs
  obtain ⟨m, l1, hm, hr, hl⟩ := hI a _ hs
  have hn : rest.data.toList = [] := List.eq_nil_of_length_eq_zero (by rw [list_len]; exact h0)
  rw [hn] at hr
  have h1 := List.append_eq_nil_iff.1 hr.symm
  have h2 := quoI_eq_nil a l1 h1.2
  rw [h1.1, h2] at hl
  rw [← ba_list t, ← ba_list u]
  simp at hl
  rw [hl]
end Go.Proofs.YtnoelbomcogndaaDoor
