/- The document's Read of package bad, as a function; it is the program's. -/
import Derived.Test.YtbgejkodgcgpdaaBBack
import Derived.Test.YtbgejkodgcgpdaaBBackM
import Derived.Test.YtbgejkodgcgpdaaRDecodeB
import Derived.Lib.IndexMore
namespace Go.Proofs.Ytbgejkodgcgpdaa
open Go.RowKit
set_option linter.unusedVariables false
set_option linter.unusedSimpArgs false

/-- None of them, or that one. -/
def z0 (k c : Int) (i : ByteArray) : Int × Int × ByteArray := if k = 0 then (0, 0, ⟨#[]⟩) else (k, c, i)
theorem ext_mk (l : List UInt8) (i j : Nat) : (mk l).extract i j = mk ((l.drop i).take (j - i)) := by
  apply ba_extB
  rw [ByteArray.data_extract, Array.toList_extract, List.extract_eq_take_drop]
  rfl
theorem mk_size (l : List UInt8) : (mk l).size = l.length := by rw [← list_len]; rfl
theorem opK_mk (l : List UInt8) : opK (mk l) = true ↔ ∃ r, l = 40 :: r := by
  constructor
  · intro h; exact opK_cons h
  · rintro ⟨r, rfl⟩; exact (opK_of (s := mk (40 :: r)) (r := r) rfl).1
theorem inK_mk (r : List UInt8) : inK (mk (40 :: r)) = mk r := (opK_of (s := mk (40 :: r)) (r := r) rfl).2
theorem dec_close (L : List UInt8) (h : L ≠ []) : dec (mk (L ++ [41])) = dec (mk L) := by
  have h1 : 0 < (mk L).size := by rw [mk_size]; exact List.length_pos_iff.2 h
  have e : mk (L ++ [41]) = mk L ++ run 41 1 := by
    apply ba_extB
    rw [app_list, run_list]
    rfl
  rw [dec_ne _ h1, dec_ne _ (by rw [mk_size]; simp), e, dec_app_run _ 41 1 0 (by omega) h1]
theorem has_byte (l : List UInt8) : Lib.contains l [61] = decide (0 ≤ Lib.indexByte l 61) := by
  have key : ∀ l : List UInt8, Lib.index l [61] = Lib.indexByte l 61 := by
    intro l
    induction l with
    | nil => rfl
    | cons b l ih =>
      have e : ([61] : List UInt8).isPrefixOf (b :: l) = (b == 61) := by
        simp [List.isPrefixOf, eq_comm, BEq.comm]
      simp only [Lib.index, Lib.indexByte, ih, e]
  unfold Lib.contains
  rw [key]
/-- What the document reads. -/
def udK (L : List UInt8) : Int × Int × ByteArray :=
  if L[0]? = some 40 ∧ ¬ L[1]? = some 40 then z0 (woK (mk (L.drop 1))) 0 (mk (L.drop 1))
  else if brk (dec (mk L)) = true ∨ ¬ L[(dec (mk L)).2]? = some 40 then (0, 0, ⟨#[]⟩)
  else z0 (wiK (mk (L.drop ((dec (mk L)).2 + 1)))) (dec (mk L)).1 (mk (L.drop ((dec (mk L)).2 + 1)))
theorem head_drop {L : List UInt8} {k : Nat} : (∃ r, L.drop k = 40 :: r) ↔ L[k]? = some 40 := by
  constructor
  · rintro ⟨r, hr⟩
    have := congrArg List.head? hr
    rw [List.head?_drop] at this
    simpa using this
  · intro h
    obtain ⟨hk, he⟩ := List.getElem?_eq_some_iff.1 h
    exact ⟨L.drop (k + 1), by rw [List.drop_eq_getElem_cons hk, he]⟩
theorem reK_body (L : List UInt8) : reK (mk (37 :: 33 :: (L ++ [41]))) = udK L := by
  have hrest : restK (mk (37 :: 33 :: (L ++ [41]))) = mk (L ++ [41]) := by
    unfold restK Lib.trimPrefix Lib.hasPrefix
    rw [if_pos (by simp [mk, List.isPrefixOf])]
    rfl
  have hbody : bodyK (mk (37 :: 33 :: (L ++ [41]))) = mk L := by
    unfold bodyK
    rw [hrest]
    unfold Lib.trimSuffix Lib.hasSuffix
    rw [if_pos (by simp [mk, List.isSuffixOf_iff_suffix])]
    apply ba_extB
    simp [mk]
  have h1 : Lib.hasPrefix (mk (37 :: 33 :: (L ++ [41]))).data.toList [37, 33] = true := by simp [Lib.hasPrefix, mk, List.isPrefixOf]
  have h2 : Lib.hasSuffix (restK (mk (37 :: 33 :: (L ++ [41])))).data.toList [41] = true := by rw [hrest]; simp [Lib.hasSuffix, mk, List.isSuffixOf_iff_suffix]
  unfold reK
  rw [hbody]
  have e3 : (if Lib.hasPrefix (mk (37 :: 33 :: (L ++ [41]))).data.toList [37, 33] = true ∧ Lib.hasSuffix (restK (mk (37 :: 33 :: (L ++ [41])))).data.toList [41] = true ∧ (paK (mk L)).1 ≠ 0 then paK (mk L) else (0, 0, ⟨#[]⟩)) = z0 (paK (mk L)).1 (paK (mk L)).2.1 (paK (mk L)).2.2 := by
    unfold z0
    by_cases h : (paK (mk L)).1 = 0
    · rw [if_neg (fun hh => hh.2.2 h), if_pos h]
    · rw [if_pos ⟨h1, h2, h⟩, if_neg h]
  rw [e3]
  unfold udK paK
  have c0 : ∀ {l : List UInt8}, l[0]? = some 40 → ∃ r, l = 40 :: r := by
    intro l h
    cases l with
    | nil => simp at h
    | cons x r => simp at h; subst h; exact ⟨r, rfl⟩
  by_cases hA : L[0]? = some 40 ∧ ¬ L[1]? = some 40
  · obtain ⟨h0, hn⟩ := hA
    obtain ⟨r, rfl⟩ := c0 h0
    have hop : opK (inK (mk (40 :: r))) = false := by
      rw [inK_mk, Bool.eq_false_iff]
      intro h
      obtain ⟨r', rfl⟩ := (opK_mk r).1 h
      exact hn rfl
    rw [if_pos ⟨(opK_mk _).2 ⟨r, rfl⟩, hop⟩, if_pos ⟨h0, hn⟩, inK_mk]
    rfl
  · have hB : ¬ (opK (mk L) = true ∧ opK (inK (mk L)) = false) := by
      rintro ⟨h1, h2⟩
      obtain ⟨r, rfl⟩ := (opK_mk L).1 h1
      rw [inK_mk] at h2
      refine hA ⟨rfl, ?_⟩
      intro hr
      obtain ⟨r', rfl⟩ := c0 (l := r) (by simpa using hr)
      rw [(opK_mk (40 :: r')).2 ⟨r', rfl⟩] at h2
      cases h2
    rw [if_neg hB, if_neg hA]
    have hex : (mk L).extract (dec (mk L)).2 (mk L).size = mk (L.drop (dec (mk L)).2) := by
      rw [ext_mk, mk_size, List.take_of_length_le (by simp)]
    rw [hex]
    have hiff : (opK (mk (L.drop (dec (mk L)).2)) = false ∨ ((dec (mk L)).1 = 65533 ∧ (dec (mk L)).2 = 1)) ↔ (brk (dec (mk L)) = true ∨ ¬ L[(dec (mk L)).2]? = some 40) := by
      rw [← head_drop, ← opK_mk]
      unfold brk
      simp only [Bool.and_eq_true, decide_eq_true_eq, beq_iff_eq, Bool.not_eq_true]
      exact or_comm
    by_cases hC : opK (mk (L.drop (dec (mk L)).2)) = false ∨ ((dec (mk L)).1 = 65533 ∧ (dec (mk L)).2 = 1)
    · rw [if_pos hC, if_pos (hiff.1 hC)]
      rfl
    · rw [if_neg hC, if_neg (fun h => hC (hiff.2 h))]
      have hop : opK (mk (L.drop (dec (mk L)).2)) = true := by
        rcases hb : opK (mk (L.drop (dec (mk L)).2)) with _ | _
        · exact absurd (Or.inl hb) hC
        · rfl
      obtain ⟨r, hr⟩ := (opK_mk _).1 hop
      have hd : L.drop ((dec (mk L)).2 + 1) = r := by
        rw [← List.drop_drop, hr]; rfl
      rw [hr, inK_mk, hd]
theorem reK_no (s : ByteArray) (h : ¬ ∃ L, s.data.toList = 37 :: 33 :: (L ++ [41])) : reK s = (0, 0, ⟨#[]⟩) := by
  unfold reK
  rw [if_neg]
  rintro ⟨h1, h2, -⟩
  obtain ⟨t, ht⟩ := List.isPrefixOf_iff_prefix.1 h1
  have hrest : (restK s).data.toList = t := by
    unfold restK Lib.trimPrefix
    rw [if_pos h1, ← ht]
    rfl
  rw [hrest] at h2
  obtain ⟨L, hL⟩ := List.isSuffixOf_iff_suffix.1 h2
  exact h ⟨L, by rw [← ht, ← hL]; rfl⟩
theorem udK_nil : udK [] = (0, 0, ⟨#[]⟩) := by
  unfold udK
  rw [if_neg (by rintro ⟨hr, -⟩; cases hr), if_pos (.inr (by simp))]
end Go.Proofs.Ytbgejkodgcgpdaa
