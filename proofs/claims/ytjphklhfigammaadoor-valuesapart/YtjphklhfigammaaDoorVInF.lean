/- A descriptor in form: no program is met here. -/
import Derived.Test.YtjphklhfigammaaDoorVMadeM
namespace Go.Proofs.YtjphklhfigammaaDoor
open Go.RowKit
set_option linter.unusedVariables false
set_option linter.unusedSimpArgs false

/-- Keys and values by turns. -/
def flat2 (l : List (D × D)) : List D := l.flatMap fun p => [p.1, p.2]
theorem flat2_len : ∀ l : List (D × D), (flat2 l).length = 2 * l.length
  | [] => rfl
  | p :: t => by
    have := flat2_len t
    unfold flat2 at *
    rw [List.flatMap_cons, List.length_append, this, List.length_cons]
    simp
    omega
theorem flat2_get : ∀ (l : List (D × D)) (i : Nat) (p : D × D), l[i]? = some p → (flat2 l)[2 * i]? = some p.1 ∧ (flat2 l)[2 * i + 1]? = some p.2
  | [], i, p, h => by simp at h
  | q :: t, 0, p, h => by
    simp at h
    subst h
    exact ⟨rfl, rfl⟩
  | q :: t, i + 1, p, h => by
    have := flat2_get t i p (by simpa using h)
    rw [show 2 * (i + 1) = 2 * i + 2 by omega]
    exact this
theorem flat2_map (f : D → D) : ∀ l : List (D × D), flat2 (l.map (Prod.map f f)) = (flat2 l).map f
  | [] => rfl
  | p :: t => by
    have := flat2_map f t
    unfold flat2 at *
    rw [List.map_cons, List.flatMap_cons, this, List.flatMap_cons, List.map_append]
    rfl
theorem prs2_flat2 : ∀ l : List (D × D), prs2 (flat2 l) = l
  | [] => rfl
  | p :: t => by
    have := prs2_flat2 t
    unfold flat2 at *
    rw [List.flatMap_cons]
    show (p.1, p.2) :: prs2 (t.flatMap fun p => [p.1, p.2]) = _
    rw [this]
theorem flat2_prs2 : ∀ l : List D, l.length % 2 = 0 → flat2 (prs2 l) = l
  | [], _ => rfl
  | [_], h => by simp at h
  | a :: b :: t, h => by
    have := flat2_prs2 t (by simp at h; omega)
    unfold flat2 at *
    rw [prs2, List.flatMap_cons, this]
    rfl
theorem flat2_mem {l : List (D × D)} {x : D} (h : x ∈ flat2 l) : ∃ p ∈ l, x = p.1 ∨ x = p.2 := by
  obtain ⟨p, hp, hx⟩ := List.mem_flatMap.1 h
  refine ⟨p, hp, ?_⟩
  simpa using hx
theorem prs2_map (f : D → D) : ∀ l : List D, prs2 (l.map f) = (prs2 l).map (Prod.map f f)
  | [] => rfl
  | [_] => rfl
  | a :: b :: t => by
    rw [List.map_cons, List.map_cons, prs2, prs2, prs2_map f t, List.map_cons]
    rfl
theorem srt_map (f : D → D) (l : List D) (h : ∀ p ∈ prs2 l, rkF (f p.1) = rkF p.1) : srt (l.map f) = (srt l).map (Prod.map f f) := by
  unfold srt
  rw [prs2_map]
  symm
  refine List.map_mergeSort (fun a ha b hb => ?_)
  unfold leP cmpP
  show decide (cmpR (rkF a.1) (rkF b.1) ≤ 0) = decide (cmpR (rkF (f a.1)) (rkF (f b.1)) ≤ 0)
  rw [h a ha, h b hb]
/-- The parts of a value, in its order. -/
def vp (d : D) : List D := if d.kind = 21 then flat2 (srt d.parts) else if great d.kind then d.parts else []
theorem vp_mem {d x : D} (h : x ∈ vp d) : great d.kind = true ∧ x ∈ d.parts := by
  unfold vp at h
  split at h
  · rename_i hk
    obtain ⟨p, hp, hx⟩ := flat2_mem h
    have := prs2_mem ((srt_perm d.parts).subset hp)
    refine ⟨by simp [great]; omega, ?_⟩
    rcases hx with rfl | rfl
    · exact this.1
    · exact this.2
  · split at h
    · exact ⟨by assumption, h⟩
    · cases h
/-- The descriptor in form. -/
def inF : D → D
  | ⟨kind, ty, bits, imag, text, names, parts, hook⟩ => if kind = 0 then ⟨0, ⟨#[]⟩, 0, 0, ⟨#[]⟩, [], [], 0⟩ else ⟨kind, ty, inBits kind bits, inImag kind imag, inText kind text, if kind = 18 then names else [], if kind = 21 then flat2 (srt (parts.map fun x => inF x)) else if great kind then parts.map (fun x => inF x) else [], hook⟩
theorem inF_eq (d : D) : inF d = if d.kind = 0 then d00 else ⟨d.kind, d.ty, inBits d.kind d.bits, inImag d.kind d.imag, inText d.kind d.text, if d.kind = 18 then d.names else [], if d.kind = 21 then flat2 (srt (d.parts.map inF)) else if great d.kind then d.parts.map inF else [], d.hook⟩ := by
  obtain ⟨kind, ty, bits, imag, text, names, parts, hook⟩ := d
  rw [inF]
  rfl
theorem inF_kind (d : D) : (inF d).kind = d.kind := by
  rw [inF_eq]
  split
  · rename_i h; exact h.symm
  · rfl
theorem inF_flat (d : D) (h1 : d.kind ≤ 17) : inF d = inFlat d := by
  rw [inF_eq]
  unfold inFlat
  have hg : great d.kind = false := by simp [great]; omega
  split
  · rfl
  · rw [if_neg (by omega), if_neg (by omega), hg]
    rfl
theorem sgN_in (k b : Int) (h : 2 ≤ k ∧ k ≤ 6) : sgN k (inBits k b) = sgN k b := by
  have h2 : sgnB k = true := by simp [sgnB]; omega
  unfold inBits numF
  rw [if_neg (by omega), if_pos (by omega), if_pos h2]
  unfold sgN swr
  (repeat' split) <;> omega
theorem unN_in (k b : Int) (h : 7 ≤ k ∧ k ≤ 11) : unN k (inBits k b) = unN k b := by
  have h2 : sgnB k = false := by simp [sgnB]; omega
  unfold inBits numF
  rw [if_neg (by omega), if_pos (by omega), h2]
  unfold unN
  (repeat' split) <;> first | omega | simp_all
theorem rkF_in (a : D) (hk : keyB a.kind = true) : rkF (inF a) = rkF a := by
  have h : a.kind = 1 ∨ (2 ≤ a.kind ∧ a.kind ≤ 6) ∨ (7 ≤ a.kind ∧ a.kind ≤ 11) ∨ a.kind = 16 := by simp [keyB] at hk; omega
  rw [inF_flat a (key_le hk)]
  unfold rkF
  rw [inFlat_kind]
  have hf : inFlat a = ⟨a.kind, a.ty, inBits a.kind a.bits, inImag a.kind a.imag, inText a.kind a.text, [], [], a.hook⟩ := by unfold inFlat; rw [if_neg (by omega)]
  rw [hf]
  dsimp only
  rcases h with h | h | h | h
  · rw [if_pos h, if_pos h]
    have : inBits a.kind a.bits % 2 = a.bits % 2 := by unfold inBits; rw [if_pos h]; omega
    rw [this]
  · rw [if_neg (by omega), if_pos h, if_neg (by omega), if_pos h, sgN_in _ _ h]
  · rw [if_neg (by omega), if_neg (by omega), if_pos h, if_neg (by omega), if_neg (by omega), if_pos h, unN_in _ _ h]
  · rw [if_neg (by omega), if_neg (by omega), if_neg (by omega), if_neg (by omega), if_neg (by omega), if_neg (by omega)]
    unfold inText
    rw [if_pos (.inl h)]
theorem prs2_key {l : List D} (h : ∀ (i : Nat) (a : D), l[2 * i]? = some a → keyB a.kind = true) {p : D × D} (hp : p ∈ prs2 l) : keyB p.1.kind = true := by
  obtain ⟨i, hi⟩ := List.mem_iff_getElem?.1 hp
  exact h i p.1 (prs2_get l i p hi).1
/-- The keys of a map are keys. -/
def KeyD (d : D) : Prop := d.kind = 21 → ∀ (i : Nat) (a : D), d.parts[2 * i]? = some a → keyB a.kind = true
theorem inF_parts (d : D) (h : KeyD d) : (inF d).parts = (vp d).map inF := by
  rw [inF_eq]
  unfold vp
  by_cases h0 : d.kind = 0
  · have hg : great d.kind = false := by simp [great]; omega
    rw [if_pos h0, if_neg (by omega), hg]
    rfl
  · rw [if_neg h0]
    dsimp only
    by_cases h21 : d.kind = 21
    · rw [if_pos h21, if_pos h21, srt_map inF d.parts (fun p hp => rkF_in p.1 (prs2_key (h h21) hp)), flat2_map]
    · rw [if_neg h21, if_neg h21]
      split
      · rfl
      · rfl
theorem key_of {d : D} (h : frmB d = true) : KeyD d := by
  intro h21 i a ha
  unfold frmB at h
  rw [if_neg (by omega), if_neg (by omega), if_pos h21] at h
  simp at h
  have := h.2
  unfold entB at this
  exact evB_key (Bool.and_eq_true_iff.1 this).1 ha
end Go.Proofs.YtjphklhfigammaaDoor
