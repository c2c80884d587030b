/- Layer 9: what is true of the pieces of every format; no program is met here. -/
import Derived.Test.YtbgejkodgcgpdaaPText
namespace Go.Proofs.Ytbgejkodgcgpdaa
open Go.RowKit
set_option linter.unusedVariables false
set_option linter.unusedSimpArgs false

theorem suf_take {r l : Bs} (h : r <:+ l) : l.take (l.length - r.length) ++ r = l := by
  obtain ⟨t, rfl⟩ := h
  simp
/-- The piece at the head. -/
theorem pce_kind {l t : Bs} (h : hd l = 37) : (pce l t).kind = 1 ∨ ((pce l t).kind = 2 ∧ prest l = []) := by
  unfold pce prest
  rw [if_pos h, if_pos h]
  unfold dir
  dsimp only
  by_cases h0 : (nxt (ahd l.tail)).2 = 0
  · right
    rw [if_pos h0]
    refine ⟨rfl, ?_⟩
    unfold drest
    rw [(nxt_none _).1 h0]
    rfl
  · left
    rw [if_neg h0]
theorem pce_lit {l t : Bs} (h : hd l ≠ 37) : (pce l t).kind = 0 := by
  unfold pce
  rw [if_neg h]
  rfl
theorem dw_hd : ∀ l : Bs, l.dropWhile noPc = [] ∨ hd (l.dropWhile noPc) = 37
  | [] => .inl rfl
  | x :: t => by
    rw [List.dropWhile_cons]
    by_cases h : noPc x = true
    · rw [if_pos h]; exact dw_hd t
    · rw [if_neg h]
      right
      unfold noPc at h
      show x.toNat = 37
      simpa using h
/-- What is asked of a piece among others. -/
def okAt (ps : List Pc) : Prop := ∀ (i : Nat) (p : Pc), ps[i]? = some p → p.text ≠ [] ∧ (p.kind = 2 → i + 1 = ps.length) ∧ (p.kind ≠ 0 → hd p.text = 37) ∧ (∀ j, i = j + 1 → p.kind = 0 → ∃ q, ps[j]? = some q ∧ q.kind ≠ 0) ∧ p.kind ≤ 2
theorem prs_ok : ∀ (n : Nat) (l : Bs), l.length ≤ n → okAt (prs l) ∧ txt (prs l) = l ∧ (hd l = 37 → ∀ p, (prs l)[0]? = some p → p.kind ≠ 0)
  | 0, l, h => by
    have : l = [] := List.eq_nil_of_length_eq_zero (by omega)
    subst this
    rw [prs_nil]
    exact ⟨fun i p hp => by simp at hp, rfl, fun _ p hp => by simp at hp⟩
  | n + 1, l, h => by
    by_cases hl : l = []
    · subst hl
      rw [prs_nil]
      exact ⟨fun i p hp => by simp at hp, rfl, fun _ p hp => by simp at hp⟩
    · have hlt := prest_lt hl
      obtain ⟨i1, i2, i3⟩ := prs_ok n (prest l) (by omega)
      have hsuf := prest_suf l
      have htk := suf_take hsuf
      have htx := pce_text l (l.take (l.length - (prest l).length))
      have hne : l.take (l.length - (prest l).length) ≠ [] := fun e => by
        have := congrArg List.length htk
        rw [e] at this
        simp at this
        omega
      have hh : (pce l (l.take (l.length - (prest l).length))).kind ≠ 0 → hd l = 37 := fun hk => by
        by_cases h37 : hd l = 37
        · exact h37
        · exact absurd (pce_lit h37) hk
      rw [prs_step hl]
      refine ⟨?_, ?_, ?_⟩
      · intro i p hp
        cases i with
        | zero =>
          simp at hp
          subst hp
          rw [htx]
          refine ⟨hne, fun hk => ?_, fun hk => ?_, fun j hj => by omega, ?_⟩
          · rcases pce_kind (t := l.take (l.length - (prest l).length)) (hh (by omega)) with e | ⟨-, e⟩
            · omega
            · rw [e, prs_nil]; rfl
          · have h37 := hh hk
            obtain ⟨x, e, hx⟩ := hd_lt h37 (by omega)
            have : 0 < l.length - (prest l).length := by omega
            obtain ⟨k, hk'⟩ : ∃ k, l.length - (prest l).length = k + 1 := ⟨l.length - (prest l).length - 1, by omega⟩
            rw [hk', e]
            exact hx
          · by_cases h37 : hd l = 37
            · rcases pce_kind (t := l.take (l.length - (prest l).length)) h37 with e | ⟨e, -⟩ <;> omega
            · rw [pce_lit h37]; omega
        | succ i =>
          rw [List.getElem?_cons_succ] at hp
          obtain ⟨a1, a2, a3, a4, a5⟩ := i1 i p hp
          refine ⟨a1, fun hk => by rw [List.length_cons, ← a2 hk], a3, fun j hj hk => ?_, a5⟩
          obtain rfl : i = j := by omega
          cases i with
          | zero =>
            refine ⟨_, rfl, ?_⟩
            intro hk0
            have h37 : hd l ≠ 37 := fun e => by
              rcases pce_kind (t := l.take (l.length - (prest l).length)) e with e2 | ⟨e2, -⟩ <;> omega
            have hpr : prest l = l.dropWhile noPc := by unfold prest; rw [if_neg h37]
            rcases dw_hd l with e | e
            · rw [hpr, e, prs_nil] at hp; simp at hp
            · rw [← hpr] at e
              exact i3 e p hp hk
          | succ i =>
            obtain ⟨q, hq1, hq2⟩ := a4 i rfl hk
            exact ⟨q, by rw [List.getElem?_cons_succ]; exact hq1, hq2⟩
      · show (pce l _).text ++ txt (prs (prest l)) = l
        rw [htx, i2]
        exact htk
      · intro h37 p hp
        simp at hp
        subst hp
        rcases pce_kind (t := l.take (l.length - (prest l).length)) h37 with e | ⟨e, -⟩ <;> omega
end Go.Proofs.Ytbgejkodgcgpdaa
