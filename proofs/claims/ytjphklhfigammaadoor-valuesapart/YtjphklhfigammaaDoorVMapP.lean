/- A map's entries in their order: no program is met here. -/
import Derived.Test.YtjphklhfigammaaDoorVDocK
import Derived.Test.YtjphklhfigammaaDoorVPure
import Derived.Test.YtjphklhfigammaaDoorVStruct
namespace Go.Proofs.YtjphklhfigammaaDoor
open Go.RowKit
set_option linter.unusedVariables false
set_option linter.unusedSimpArgs false

/-- Keys and values by turns, as pairs. -/
def prs2 : List D → List (D × D)
  | a :: b :: t => (a, b) :: prs2 t
  | _ => []
theorem prs2_len : ∀ l : List D, (prs2 l).length = l.length / 2
  | [] => rfl
  | [_] => by simp [prs2]
  | a :: b :: t => by
    rw [prs2, List.length_cons, prs2_len t, List.length_cons, List.length_cons]
    omega
theorem prs2_get : ∀ (l : List D) (i : Nat) (p : D × D), (prs2 l)[i]? = some p → l[2 * i]? = some p.1 ∧ l[2 * i + 1]? = some p.2
  | [], i, p, h => by simp [prs2] at h
  | [_], i, p, h => by simp [prs2] at h
  | a :: b :: t, 0, p, h => by
    simp [prs2] at h
    subst h
    exact ⟨rfl, rfl⟩
  | a :: b :: t, i + 1, p, h => by
    simp only [prs2, List.getElem?_cons_succ] at h
    have := prs2_get t i p h
    rw [show 2 * (i + 1) = 2 * i + 1 + 1 by omega]
    simpa using this
theorem prs2_of (l : List D) (i : Nat) (a b : D) (ha : l[2 * i]? = some a) (hb : l[2 * i + 1]? = some b) : (prs2 l)[i]? = some (a, b) := by
  have hl : i < (prs2 l).length := by
    have := (List.getElem?_eq_some_iff.1 hb).1
    rw [prs2_len]
    omega
  obtain ⟨p, hp⟩ : ∃ p, (prs2 l)[i]? = some p := ⟨_, List.getElem?_eq_getElem hl⟩
  obtain ⟨h1, h2⟩ := prs2_get l i p hp
  rw [hp]
  rw [ha] at h1
  rw [hb] at h2
  cases p
  simp at h1 h2
  rw [h1, h2]
theorem prs2_mem {l : List D} {p : D × D} (h : p ∈ prs2 l) : p.1 ∈ l ∧ p.2 ∈ l := by
  obtain ⟨i, hi⟩ := List.mem_iff_getElem?.1 h
  obtain ⟨h1, h2⟩ := prs2_get l i p hi
  exact ⟨List.mem_of_getElem? h1, List.mem_of_getElem? h2⟩
/-- How two entries stand. -/
def cmpP (p q : D × D) : Int := cmpR (rkF p.1) (rkF q.1)
theorem cmpP_anti (p q : D × D) : cmpP q p = - cmpP p q := TO.rk.anti _ _
theorem cmpP_trans (p q r : D × D) (h1 : cmpP p q ≤ 0) (h2 : cmpP q r ≤ 0) : cmpP p r ≤ 0 := by
  unfold cmpP at *
  by_cases e1 : cmpR (rkF p.1) (rkF q.1) = 0
  · rw [(TO.rk.zero _ _).1 e1]; exact h2
  by_cases e2 : cmpR (rkF q.1) (rkF r.1) = 0
  · rw [← (TO.rk.zero _ _).1 e2]; exact h1
  have := TO.rk.trans _ _ _ (show cmpR (rkF p.1) (rkF q.1) < 0 by omega) (show cmpR (rkF q.1) (rkF r.1) < 0 by omega)
  omega
theorem cmpP_ltr (p q r : D × D) (h1 : cmpP p q < 0) (h2 : cmpP q r ≤ 0) : cmpP p r < 0 := by
  by_cases e2 : cmpP q r = 0
  · unfold cmpP at *
    rw [← (TO.rk.zero _ _).1 e2]; exact h1
  · exact TO.rk.trans _ _ _ h1 (show cmpP q r < 0 by omega)
def leP (p q : D × D) : Bool := decide (cmpP p q ≤ 0)
/-- A map's entries by rising keys. -/
def srt (l : List D) : List (D × D) := (prs2 l).mergeSort leP
/-- Is a key there twice? -/
def dupL : List (D × D) → Bool
  | [] => false
  | p :: t => t.any (fun q => decide (cmpP p q = 0)) || dupL t
def dupM (l : List D) : Bool := dupL (prs2 l)
theorem dupL_pw : ∀ l : List (D × D), dupL l = false ↔ l.Pairwise (fun p q => cmpP p q ≠ 0)
  | [] => by simp [dupL]
  | p :: t => by
    rw [dupL, List.pairwise_cons, Bool.or_eq_false_iff, dupL_pw t]
    simp [List.any_eq_false]
theorem dupL_perm {l m : List (D × D)} (h : l.Perm m) : dupL l = dupL m := by
  have key : dupL l = false ↔ dupL m = false := by
    rw [dupL_pw, dupL_pw]
    exact h.pairwise_iff fun {p q} hne hq => hne (by have := cmpP_anti p q; omega)
  cases h1 : dupL l <;> cases h2 : dupL m <;> simp_all
theorem srt_perm (l : List D) : (srt l).Perm (prs2 l) := List.mergeSort_perm _ _
theorem srt_len (l : List D) : (srt l).length = l.length / 2 := by rw [(srt_perm l).length_eq, prs2_len]
theorem leP_total (p q : D × D) : (leP p q || leP q p) = true := by
  have := cmpP_anti p q
  unfold leP
  by_cases h : cmpP p q ≤ 0
  · simp [h]
  · simp [show cmpP q p ≤ 0 by omega]
theorem srt_sorted (l : List D) : (srt l).Pairwise (fun p q => cmpP p q ≤ 0) := by
  have := List.pairwise_mergeSort (le := leP) (fun a b c h1 h2 => by
    unfold leP at *
    exact decide_eq_true (cmpP_trans a b c (of_decide_eq_true h1) (of_decide_eq_true h2))) leP_total (prs2 l)
  exact this.imp fun h => of_decide_eq_true h
/-- Two that are strictly sorted and have the same in them are one. -/
theorem sorted_one : ∀ {l m : List (D × D)}, l.Perm m → l.Pairwise (fun p q => cmpP p q < 0) → m.Pairwise (fun p q => cmpP p q < 0) → l = m
  | [], m, h, _, _ => (List.Perm.nil_eq h)
  | p :: l, [], h, _, _ => by have := h.length_eq; simp at this
  | p :: l, q :: m, h, hl, hm => by
    have hp : p = q := by
      have h1 : p ∈ q :: m := h.subset (List.mem_cons_self ..)
      have h2 : q ∈ p :: l := h.symm.subset (List.mem_cons_self ..)
      rcases List.mem_cons.1 h1 with e | h1
      · exact e
      rcases List.mem_cons.1 h2 with e | h2
      · exact e.symm
      have a := (List.pairwise_cons.1 hm).1 p h1
      have b := (List.pairwise_cons.1 hl).1 q h2
      have := cmpP_anti p q
      omega
    subst hp
    rw [sorted_one (List.Perm.cons_inv h) (List.pairwise_cons.1 hl).2 (List.pairwise_cons.1 hm).2]
theorem strict_of {l : List (D × D)} (h : l.Pairwise (fun p q => cmpP p q ≤ 0)) (hd : dupL l = false) : l.Pairwise (fun p q => cmpP p q < 0) := by
  have := (dupL_pw l).1 hd
  exact (List.pairwise_and_iff.2 ⟨h, this⟩).imp fun ⟨a, b⟩ => by omega
/-- What is sorted, and has no key twice, is srt. -/
theorem srt_one {l : List D} {m : List (D × D)} (h : m.Perm (prs2 l)) (hs : m.Pairwise (fun p q => cmpP p q ≤ 0)) (hd : dupM l = false) : m = srt l := by
  have hdm : dupL m = false := by rw [dupL_perm h]; exact hd
  exact sorted_one (h.trans (srt_perm l).symm) (strict_of hs hdm) (strict_of (srt_sorted l) (by rw [dupL_perm (srt_perm l)]; exact hd))
/-- Neighbours that are the same, in one that is sorted. -/
theorem dup_next {l : List (D × D)} {i : Nat} {p q : D × D} (hp : l[i]? = some p) (hq : l[i + 1]? = some q) (h0 : cmpP p q = 0) : dupL l = true := by
  cases h : dupL l with
  | true => rfl
  | false =>
    have hw := (dupL_pw l).1 h
    have hi := (List.getElem?_eq_some_iff.1 hq)
    have hj := (List.getElem?_eq_some_iff.1 hp)
    have := List.pairwise_iff_getElem.1 hw i (i + 1) hj.1 hi.1 (by omega)
    rw [hj.2, hi.2] at this
    exact absurd h0 this
theorem dup_none {l : List (D × D)} (hs : l.Pairwise (fun p q => cmpP p q ≤ 0)) (hn : ∀ (i : Nat) (p q : D × D), l[i]? = some p → l[i + 1]? = some q → cmpP p q ≠ 0) : dupL l = false := by
  rw [dupL_pw, List.pairwise_iff_getElem]
  intro i j hi hj hij
  have h1 : cmpP l[i] (l[i + 1]'(by omega)) < 0 := by
    have a := List.pairwise_iff_getElem.1 hs i (i + 1) hi (by omega) (by omega)
    have b := hn i _ _ (List.getElem?_eq_getElem hi) (List.getElem?_eq_getElem (show i + 1 < l.length by omega))
    omega
  by_cases he : j = i + 1
  · subst he; omega
  · have h2 := List.pairwise_iff_getElem.1 hs (i + 1) j (by omega) hj (by omega)
    have := cmpP_ltr _ _ _ h1 h2
    omega
/-- Has a descriptor's own part a name, or a key, there twice? -/
def dup1 (d : D) : Bool := (decide (d.kind = 18) && dupN d.names) || (decide (d.kind = 21) && dupM d.parts)
/-- .. and all that are looked at? -/
def dupA (d : D) : Bool := (nodes d).any dup1
theorem dupA_eq (d : D) : dupA d = (dup1 d || (great d.kind && d.parts.any dupA)) := by
  unfold dupA
  rw [nodes_eq, List.any_cons]
  congr 1
  by_cases h : great d.kind = true
  · rw [if_pos h, h, Bool.true_and]
    induction d.parts with
    | nil => rfl
    | cons x t ih => rw [List.flatMap_cons, List.any_append, ih, List.any_cons]
  · rw [if_neg h]
    simp [h]
end Go.Proofs.YtjphklhfigammaaDoor
