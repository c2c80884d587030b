/- Package bad: what is read of a text that has a verb. -/
import Derived.Test.YtbgejkodgcgpdaaBRead
namespace Go.Proofs.Ytbgejkodgcgpdaa
open Go.RowKit
set_option linter.unusedVariables false
set_option linter.unusedSimpArgs false

def mk (l : List UInt8) : ByteArray := ⟨l.toArray⟩
theorem mk_list (l : List UInt8) : (mk l).data.toList = l := rfl
theorem restK_bT (V L : List UInt8) : Lib.hasPrefix (bT V L).data.toList [37, 33] = true ∧ restK (bT V L) = mk (V ++ [40] ++ L ++ [41]) := by
  have h : Lib.hasPrefix (bT V L).data.toList [37, 33] = true := by rw [bT_list]; simp [Lib.hasPrefix]
  refine ⟨h, ?_⟩
  apply ba_extB
  unfold restK Lib.trimPrefix
  rw [if_pos h, bT_list, mk_list]
  simp
theorem bodyK_bT (V L : List UInt8) : Lib.hasSuffix (restK (bT V L)).data.toList [41] = true ∧ bodyK (bT V L) = mk (V ++ [40] ++ L) := by
  have e := (restK_bT V L).2
  have h : Lib.hasSuffix (restK (bT V L)).data.toList [41] = true := by
    rw [e, mk_list]
    unfold Lib.hasSuffix
    rw [List.isSuffixOf_iff_suffix]
    exact ⟨_, rfl⟩
  refine ⟨h, ?_⟩
  apply ba_extB
  unfold bodyK Lib.trimSuffix
  rw [if_pos h, e, mk_list, mk_list]
  show List.take _ _ = _
  rw [List.length_append, List.length_singleton, Nat.add_sub_cancel, List.take_left']
  rfl
/-- What is read of a text with that verb and that inside. -/
theorem reK_bT (V L : List UInt8) (k : Int) (c : Int) (hp : paK (mk (V ++ [40] ++ L)) = (k, c, mk L)) (hk : k ≠ 0) : reK (bT V L) = (k, c, mk L) := by
  unfold reK
  rw [(bodyK_bT V L).2, if_pos ⟨(restK_bT V L).1, (bodyK_bT V L).1, by rw [hp]; exact hk⟩, hp]
theorem opK_cons {s : ByteArray} (h : opK s = true) : ∃ r, s.data.toList = 40 :: r := by
  unfold opK Lib.hasPrefix at h
  rw [List.isPrefixOf_iff_prefix] at h
  obtain ⟨r, hr⟩ := h
  exact ⟨r, hr.symm⟩
theorem opK_of {s : ByteArray} {r : List UInt8} (h : s.data.toList = 40 :: r) : opK s = true ∧ inK s = mk r := by
  have h1 : Lib.hasPrefix s.data.toList [40] = true := by rw [h]; simp [Lib.hasPrefix]
  refine ⟨h1, ?_⟩
  apply ba_extB
  unfold inK Lib.trimPrefix
  rw [if_pos h1, h]
  rfl
theorem ext_listB (s : ByteArray) (k : Nat) : (s.extract k s.size).data.toList = s.data.toList.drop k := by
  simp [List.extract_eq_take_drop, ByteArray.data_extract]
  rw [List.take_of_length_le]
  rw [List.length_drop, list_len]
  omega
theorem enc_fffd (n : Nat) (h : n = 65533) : (Utf8.encode (n : Int)).size = 3 := by
  subst h
  have e : Utf8.encode ((65533 : Nat) : Int) = ⟨#[239, 191, 189]⟩ := by decide +kernel
  rw [e]
  rfl
set_option maxRecDepth 1000000 in
theorem paK_verb (n : Nat) (hv : Utf8.valid (n : Int) = true) (L : List UInt8) : paK (mk (vB n ++ [40] ++ L)) = (wiK (mk L), (n : Int), mk L) := by
  obtain ⟨s, hs⟩ : ∃ s, s = mk (vB n ++ [40] ++ L) := ⟨_, rfl⟩
  rw [← hs]
  have hl : s.data.toList = (Utf8.encode (n : Int)).data.toList ++ (40 :: L) := by rw [hs, mk_list, List.append_assoc]; rfl
  have hd := dec_begins s n hv _ hl
  have hE := enc_fffd n
  clear hs hv
  generalize Utf8.encode (n : Int) = E at *
  have h0 : 0 < s.size := by rw [← list_len, hl]; simp; omega
  have hD : dec s = (n, E.size) := by rw [dec_ne s h0, hd]
  have hx : (s.extract E.size s.size).data.toList = 40 :: L := by
    rw [ext_listB, hl, ← list_len, List.drop_left]
  obtain ⟨o1, o2⟩ := opK_of hx
  unfold paK
  rw [hD]
  rw [if_neg, if_neg, o2]
  · rintro (h | ⟨h, h'⟩)
    · rw [o1] at h; cases h
    · have := hE h
      omega
  · rintro ⟨h1, h2⟩
    obtain ⟨r, hr⟩ := opK_cons h1
    have hb : bt s 0 = 40 := by
      rw [← bt_at s 0 h0]
      have h5 : s.data.toList[0]? = some (s[0]'h0) := by
        rw [Array.getElem?_toList, Array.getElem?_eq_getElem h0]; rfl
      rw [hr] at h5
      rw [← Option.some.inj h5]
      rfl
    have he := dec_ascii s 0 (by rw [hb]; omega)
    rw [hd, hb] at he
    have hz : E.size = 1 := (Prod.mk.inj he).2
    have hr2 : r = 40 :: L := by
      have h5 : (s.data.toList).drop 1 = 40 :: L := by
        rw [hl, ← hz, ← list_len, List.drop_left]
      rw [hr] at h5
      exact h5
    rw [(opK_of hr).2, hr2] at h2
    rw [(opK_of (mk_list (40 :: L))).1] at h2
    cases h2
end Go.Proofs.Ytbgejkodgcgpdaa
