/- Behind a letter d a format may be cut: as functions. -/
import Derived.Test.YtbgejkodgcgpdaaPPure
namespace Go.Proofs.Ytbgejkodgcgpdaa
open Go.RowKit
set_option linter.unusedVariables false
set_option linter.unusedSimpArgs false

/-- It ends in the letter d. -/
def En (l : Bs) : Prop := ∃ t : Bs, l = t ++ [100]
theorem En.ne {l : Bs} (h : En l) : l ≠ [] := by obtain ⟨t, rfl⟩ := h; simp
theorem En.suf {l r : Bs} (h : En l) (hs : r <:+ l) (hr : r ≠ []) : En r := by
  obtain ⟨t, rfl⟩ := h
  obtain ⟨u, hu⟩ := hs
  rcases List.eq_nil_or_concat r with rfl | ⟨v, x, rfl⟩
  · exact absurd rfl hr
  · rw [List.concat_eq_append] at hu ⊢
    rw [← List.append_assoc] at hu
    have := List.append_inj' hu rfl
    have h2 := this.2
    simp at h2
    exact ⟨v, by rw [h2]⟩
theorem hd_app {l : Bs} (h : l ≠ []) (b : Bs) : hd (l ++ b) = hd l := by
  cases l with
  | nil => exact absurd rfl h
  | cons x t => rfl
theorem tail_app {l : Bs} (h : l ≠ []) (b : Bs) : (l ++ b).tail = l.tail ++ b := by
  cases l with
  | nil => exact absurd rfl h
  | cons x t => rfl
theorem aft_ne {l : Bs} (h : En l) : aft l ≠ [] := by
  obtain ⟨t, rfl⟩ := h
  induction t with
  | nil => decide
  | cons x t ih =>
    unfold aft at *
    rw [List.cons_append, List.dropWhile_cons]
    split
    · exact ih
    · simp
theorem dgs_app {l : Bs} (h : aft l ≠ []) (b : Bs) : dgs (l ++ b) = dgs l ∧ aft (l ++ b) = aft l ++ b := by
  induction l with
  | nil => exact absurd rfl h
  | cons x t ih =>
    unfold dgs aft at *
    rw [List.cons_append, List.takeWhile_cons, List.dropWhile_cons, List.takeWhile_cons, List.dropWhile_cons]
    rw [List.dropWhile_cons] at h
    by_cases hx : isDg x = true
    · rw [if_pos hx] at h
      rw [if_pos hx, if_pos hx, if_pos hx, if_pos hx, (ih h).1, (ih h).2]
      exact ⟨rfl, rfl⟩
    · rw [if_neg hx, if_neg hx, if_neg hx, if_neg hx]
      exact ⟨rfl, rfl⟩
/-- A byte that is none of d's: behind it something stands. -/
theorem tail_ne {l : Bs} (h : En l) (h1 : hd l ≠ 100) : l.tail ≠ [] := by
  obtain ⟨t, rfl⟩ := h
  cases t with
  | nil => exact absurd rfl h1
  | cons x t => simp
theorem En.tail {l : Bs} (h : En l) (h1 : hd l ≠ 100) : En l.tail := h.suf suf_tail (tail_ne h h1)
theorem En.aft {l : Bs} (h : En l) : En (aft l) := h.suf (suf_aft l) (aft_ne h)
theorem idx_app {l : Bs} (h : En l) (b : Bs) : idx (l ++ b) = ((idx l).1, (idx l).2 ++ b) ∧ En (idx l).2 := by
  unfold idx
  rw [hd_app h.ne, tail_app h.ne]
  by_cases h91 : hd l = 91
  · have ht := h.tail (by omega)
    have ha := ht.aft
    rw [if_pos h91, if_pos h91, (dgs_app (aft_ne ht) b).1, (dgs_app (aft_ne ht) b).2, hd_app ha.ne, tail_app ha.ne]
    by_cases hc : dgs l.tail ≠ [] ∧ hd (Proofs.Ytbgejkodgcgpdaa.aft l.tail) = 93
    · rw [if_pos hc, if_pos hc]
      exact ⟨rfl, ha.tail (by omega)⟩
    · rw [if_neg hc, if_neg hc]
      exact ⟨rfl, ht⟩
  · rw [if_neg h91, if_neg h91]
    exact ⟨rfl, h⟩
theorem flg_app {l : Bs} (h : En l) (b : Bs) : ∀ f, flg (l ++ b) f = ((flg l f).1, (flg l f).2 ++ b) ∧ En (flg l f).2 := by
  obtain ⟨t, rfl⟩ := h
  induction t with
  | nil =>
    intro f
    constructor
    · simp [flg]
    · exact ⟨[], by simp [flg]⟩
  | cons x t ih =>
    intro f
    rw [List.cons_append, List.cons_append]
    unfold flg
    repeat' split
    all_goals first | exact ih _ | exact ⟨rfl, ⟨x :: t, rfl⟩⟩
theorem wdh_app {l : Bs} (h : En l) (b : Bs) : wdh (l ++ b) = ((wdh l).1, (wdh l).2.1, (wdh l).2.2 ++ b) ∧ En (wdh l).2.2 := by
  obtain ⟨e1, e2⟩ := idx_app h b
  unfold wdh
  rw [e1]
  dsimp only
  rw [hd_app e2.ne, tail_app e2.ne, (dgs_app (aft_ne e2) b).1, (dgs_app (aft_ne e2) b).2]
  by_cases h1 : hd (idx l).2 = 42
  · rw [if_pos h1, if_pos h1]
    exact ⟨rfl, e2.tail (by omega)⟩
  rw [if_neg h1, if_neg h1]
  by_cases h2 : 49 ≤ hd (idx l).2 ∧ hd (idx l).2 ≤ 57
  · rw [if_pos h2, if_pos h2]
    exact ⟨rfl, e2.aft⟩
  · rw [if_neg h2, if_neg h2]
    exact ⟨rfl, e2⟩
theorem prc_app {l : Bs} (h : En l) (b : Bs) : prc (l ++ b) = ((prc l).1, (prc l).2.1, (prc l).2.2 ++ b) ∧ En (prc l).2.2 := by
  obtain ⟨e1, e2⟩ := idx_app h b
  unfold prc
  rw [e1]
  dsimp only
  rw [hd_app e2.ne, tail_app e2.ne, (dgs_app (aft_ne e2) b).1, (dgs_app (aft_ne e2) b).2]
  by_cases h1 : hd (idx l).2 = 42
  · rw [if_pos h1, if_pos h1]
    exact ⟨rfl, e2.tail (by omega)⟩
  rw [if_neg h1, if_neg h1]
  exact ⟨rfl, e2.aft⟩
theorem mid_app {l : Bs} (h : En l) (b : Bs) : mid (l ++ b) = ((mid l).1, (mid l).2.1, (mid l).2.2.1, (mid l).2.2.2.1, (mid l).2.2.2.2 ++ b) ∧ En (mid l).2.2.2.2 := by
  obtain ⟨e1, e2⟩ := wdh_app h b
  unfold mid
  rw [e1]
  dsimp only
  rw [hd_app e2.ne, tail_app e2.ne]
  by_cases h1 : hd (wdh l).2.2 = 46
  · obtain ⟨f1, f2⟩ := prc_app (e2.tail (by omega)) b
    rw [if_pos h1, if_pos h1, f1]
    exact ⟨rfl, f2⟩
  · rw [if_neg h1, if_neg h1]
    exact ⟨rfl, e2⟩
theorem getD_app (l b : Bs) (i : Nat) (h : i < l.length) : (l ++ b).getD i 0 = l.getD i 0 := by
  simp [List.getD, List.getElem?_append_left h]
theorem nxt_app {l : Bs} (h : En l) (b : Bs) : nxt (l ++ b) = nxt l := by
  obtain ⟨t, rfl⟩ := h
  have hlast : ((t ++ [100]).getD t.length 0).toNat = 100 := by simp
  cases hl : t ++ [100] with
  | nil => simp at hl
  | cons x r =>
    show Lib.decodeL (x :: r ++ b) = Lib.decodeL (x :: r)
    rw [← hl, Lib.decodeL_N, Lib.decodeL_N]
    have hn : (t ++ [100]).length = t.length + 1 := by simp
    have hm : (t ++ [100] ++ b).length = t.length + 1 + b.length := by simp; omega
    have e0 : (t ++ [100] ++ b).getD 0 0 = (t ++ [100]).getD 0 0 := getD_app _ b 0 (by omega)
    rw [e0]
    have key : ∀ i, i ≤ t.length → ((t ++ [100] ++ b).getD i 0).toNat = ((t ++ [100]).getD i 0).toNat := fun i hi => by rw [getD_app _ b i (by omega)]
    by_cases h0 : t.length = 0
    · -- the letter alone
      have : ((t ++ [100]).getD 0 0).toNat = 100 := by rw [h0] at hlast; exact hlast
      unfold Lib.decodeN
      rw [this]
      simp
    · rcases (by omega : t.length = 1 ∨ t.length = 2 ∨ 3 ≤ t.length) with h1 | h1 | h1
      · unfold Lib.decodeN
        have a1 := key 1 (by omega)
        have a2 : ((t ++ [100]).getD 1 0).toNat = 100 := by rw [h1] at hlast; exact hlast
        rw [a1, a2, hn, hm]
        simp
      · unfold Lib.decodeN
        have a1 := key 1 (by omega)
        have a2 := key 2 (by omega)
        have a3 : ((t ++ [100]).getD 2 0).toNat = 100 := by rw [h1] at hlast; exact hlast
        rw [a1, a2, a3, hn, hm, h1]
        have g1 : 1 < 2 + 1 + b.length := by omega
        have g2 : 2 < 2 + 1 + b.length := by omega
        simp [g1, g2]
      · have a1 := key 1 (by omega)
        have a2 := key 2 (by omega)
        have a3 := key 3 (by omega)
        rw [a1, a2, a3, hn, hm]
        unfold Lib.decodeN
        have g1 : 1 < t.length + 1 + b.length := by omega
        have g2 : 2 < t.length + 1 + b.length := by omega
        have g3 : 3 < t.length + 1 + b.length := by omega
        have g4 : 1 < t.length + 1 := by omega
        have g5 : 2 < t.length + 1 := by omega
        have g6 : 3 < t.length + 1 := by omega
        simp only [g1, g2, g3, g4, g5, g6]
theorem ahd_app {l : Bs} (h : En l) (b : Bs) : ahd (l ++ b) = ahd l ++ b ∧ En (ahd l) := by
  obtain ⟨e1, e2⟩ := flg_app h b fl0
  obtain ⟨f1, f2⟩ := mid_app e2 b
  obtain ⟨g1, g2⟩ := idx_app f2 b
  unfold ahd
  rw [e1]
  dsimp only
  rw [f1]
  dsimp only
  rw [g1]
  exact ⟨rfl, g2⟩
theorem drest_app {l : Bs} (h : En l) (b : Bs) : drest (l ++ b) = drest l ++ b := by
  obtain ⟨e1, e2⟩ := ahd_app h b
  unfold drest
  rw [e1, nxt_app e2, List.drop_append_of_le_length (nxt_le _)]
theorem dir_app {l : Bs} (h : En l) (b t : Bs) : dir (l ++ b) t = dir l t := by
  obtain ⟨a1, a2⟩ := ahd_app h b
  obtain ⟨e1, e2⟩ := flg_app h b fl0
  obtain ⟨f1, f2⟩ := mid_app e2 b
  obtain ⟨g1, g2⟩ := idx_app f2 b
  unfold dir
  rw [a1, nxt_app a2, e1]
  dsimp only
  rw [f1]
  dsimp only
  rw [g1]
/-- One more piece: two literals are one. -/
def stp (n : List Pc) (p : Pc) : List Pc :=
  match n.getLast? with
  | some q => if q.kind = 0 ∧ p.kind = 0 then n.dropLast ++ [{ q with text := q.text ++ p.text }] else n ++ [p]
  | none => n ++ [p]
theorem stp_snoc (n : List Pc) (q p : Pc) : stp (n ++ [q]) p = if q.kind = 0 ∧ p.kind = 0 then n ++ [{ q with text := q.text ++ p.text }] else n ++ [q, p] := by
  unfold stp
  simp
theorem stp_nil (p : Pc) : stp [] p = [p] := rfl
theorem stp_dir (n : List Pc) (p : Pc) (h : p.kind ≠ 0) : stp n p = n ++ [p] := by
  unfold stp
  cases n.getLast? with
  | none => rfl
  | some q => simp [h]
theorem dir_kind (l t : Bs) : (dir l t).kind ≠ 0 := by
  unfold dir
  dsimp only
  split <;> omega
theorem stp_lit2 (n : List Pc) (a t : Bs) : stp (stp n (lit a)) (lit t) = stp n (lit (a ++ t)) := by
  rcases List.eq_nil_or_concat n with rfl | ⟨m, q, rfl⟩
  · rw [stp_nil, stp_nil]
    rw [show [lit a] = [] ++ [lit a] from rfl, stp_snoc, if_pos ⟨rfl, rfl⟩]
    rfl
  · rw [List.concat_eq_append, stp_snoc, stp_snoc]
    by_cases h : q.kind = 0
    · rw [if_pos ⟨h, rfl⟩, if_pos ⟨h, rfl⟩, stp_snoc, if_pos ⟨h, rfl⟩]
      simp [lit, List.append_assoc]
    · rw [if_neg (fun hh => h hh.1), if_neg (fun hh => h hh.1)]
      rw [show m ++ [q, lit a] = (m ++ [q]) ++ [lit a] by simp, stp_snoc, if_pos ⟨rfl, rfl⟩]
      simp [lit]
theorem take_text {l b r : Bs} (h : r.length ≤ l.length) : (l ++ b).take ((l ++ b).length - (r ++ b).length) = l.take (l.length - r.length) := by
  rw [List.length_append, List.length_append, show l.length + b.length - (r.length + b.length) = l.length - r.length by omega]
  exact List.take_append_of_le_length (by omega)
theorem prest_dir {l : Bs} (h : En l) (h37 : hd l = 37) (b : Bs) : prest (l ++ b) = prest l ++ b ∧ ∀ t, pce (l ++ b) t = pce l t := by
  have ht := h.tail (by omega)
  unfold prest pce
  rw [hd_app h.ne, if_pos h37, if_pos h37, tail_app h.ne]
  refine ⟨drest_app ht b, fun t => ?_⟩
  rw [if_pos h37, if_pos h37]
  exact dir_app ht b t
theorem dwj_app {l : Bs} (h : l.dropWhile noPc ≠ []) (b : Bs) : (l ++ b).dropWhile noPc = l.dropWhile noPc ++ b := by
  induction l with
  | nil => exact absurd rfl h
  | cons x t ih =>
    rw [List.cons_append, List.dropWhile_cons, List.dropWhile_cons]
    rw [List.dropWhile_cons] at h
    by_cases hx : noPc x = true
    · rw [if_pos hx] at h ⊢
      rw [if_pos hx]
      exact ih h
    · rw [if_neg hx, if_neg hx]
      rfl
theorem dwj_all {l : Bs} (h : l.dropWhile noPc = []) (b : Bs) : (l ++ b).dropWhile noPc = b.dropWhile noPc := by
  induction l with
  | nil => rfl
  | cons x t ih =>
    rw [List.dropWhile_cons] at h
    by_cases hx : noPc x = true
    · rw [if_pos hx] at h
      rw [List.cons_append, List.dropWhile_cons, if_pos hx]
      exact ih h
    · rw [if_neg hx] at h
      cases h
theorem hdj_dw (b : Bs) : b.dropWhile noPc = [] ∨ hd (b.dropWhile noPc) = 37 := by
  induction b with
  | nil => exact .inl rfl
  | cons x t ih =>
    rw [List.dropWhile_cons]
    by_cases hx : noPc x = true
    · rw [if_pos hx]; exact ih
    · rw [if_neg hx]
      right
      unfold noPc at hx
      simp at hx
      exact hx
theorem twj_len (b : Bs) : b.take (b.length - (b.dropWhile noPc).length) = b.takeWhile noPc := by
  have h := List.takeWhile_append_dropWhile (p := noPc) (l := b)
  have hl := congrArg List.length h
  rw [List.length_append] at hl
  rw [show b.length - (b.dropWhile noPc).length = (b.takeWhile noPc).length by omega]
  have h2 := List.take_left (l₁ := b.takeWhile noPc) (l₂ := b.dropWhile noPc)
  rw [h] at h2
  exact h2
/-- The pieces of two formats, one behind the other. -/
theorem join_fold (b : Bs) : ∀ (k : Nat) (a : Bs), a.length ≤ k → En a → ∀ n, (prs a ++ prs b).foldl stp n = (prs (a ++ b)).foldl stp n
  | 0, a, hk, h, n => absurd (List.eq_nil_of_length_eq_zero (by omega)) h.ne
  | k + 1, a, hk, h, n => by
    have hab : a ++ b ≠ [] := by have := h.ne; intro hh; exact this (List.append_eq_nil_iff.1 hh).1
    have hlt := prest_lt h.ne
    rw [prs_step h.ne, prs_step hab]
    have step : prest (a ++ b) = prest a ++ b → (∀ t, pce (a ++ b) t = pce a t) →
        (pce a (a.take (a.length - (prest a).length)) :: prs (prest a) ++ prs b).foldl stp n = (pce (a ++ b) ((a ++ b).take ((a ++ b).length - (prest (a ++ b)).length)) :: prs (prest (a ++ b))).foldl stp n := by
      intro h1 h2
      rw [h1, h2, take_text (by omega), List.cons_append, List.foldl_cons, List.foldl_cons]
      by_cases hr : prest a = []
      · rw [hr, prs_nil, List.nil_append, List.nil_append]
      · exact join_fold b k (prest a) (by omega) (h.suf (prest_suf a) hr) _
    by_cases h37 : hd a = 37
    · obtain ⟨h1, h2⟩ := prest_dir h h37 b
      exact step h1 h2
    · by_cases hr : a.dropWhile noPc = []
      · have p1 : prest a = [] := by unfold prest; rw [if_neg h37, hr]
        have p2 : prest (a ++ b) = b.dropWhile noPc := by unfold prest; rw [hd_app h.ne, if_neg h37, dwj_all hr]
        have q1 : ∀ t, pce a t = lit t := fun t => by unfold pce; rw [if_neg h37]
        have q2 : ∀ t, pce (a ++ b) t = lit t := fun t => by unfold pce; rw [hd_app h.ne, if_neg h37]
        rw [p1, p2, q1, q2, prs_nil, List.length_nil, Nat.sub_zero, List.take_length]
        have ht : (a ++ b).take ((a ++ b).length - (b.dropWhile noPc).length) = a ++ b.takeWhile noPc := by
          have hl := congrArg List.length (List.takeWhile_append_dropWhile (p := noPc) (l := b))
          rw [List.length_append] at hl
          rw [List.length_append, show a.length + b.length - (b.dropWhile noPc).length = a.length + (b.length - (b.dropWhile noPc).length) by omega]
          rw [List.take_append, List.take_of_length_le (by omega)]
          rw [show a.length + (b.length - (b.dropWhile noPc).length) - a.length = b.length - (b.dropWhile noPc).length by omega, twj_len]
        rw [ht]
        rw [List.cons_append, List.nil_append, List.foldl_cons, List.foldl_cons]
        by_cases hb : b = []
        · subst hb
          rw [List.takeWhile_nil, List.dropWhile_nil, List.append_nil]
        · by_cases hb37 : hd b = 37
          · have e1 : b.takeWhile noPc = [] ∧ b.dropWhile noPc = b := by
              obtain ⟨x, hx, hx37⟩ := hd_lt hb37 (by omega)
              rw [hx]
              have : noPc x = false := by unfold noPc; simp [hx37]
              rw [List.takeWhile_cons, List.dropWhile_cons, this]
              exact ⟨rfl, rfl⟩
            rw [e1.1, e1.2, List.append_nil]
          · rw [prs_step hb]
            have p3 : prest b = b.dropWhile noPc := by unfold prest; rw [if_neg hb37]
            have q3 : ∀ t, pce b t = lit t := fun t => by unfold pce; rw [if_neg hb37]
            rw [p3, q3, twj_len, List.foldl_cons, stp_lit2]
      · refine step ?_ ?_
        · unfold prest
          rw [hd_app h.ne, if_neg h37, if_neg h37, dwj_app hr]
        · intro t
          unfold pce
          rw [hd_app h.ne, if_neg h37, if_neg h37]
theorem fold_id : ∀ (k : Nat) (l : Bs) (n : List Pc), l.length ≤ k → (∀ q, n.getLast? = some q → q.kind = 0 → l = [] ∨ hd l = 37) → (prs l).foldl stp n = n ++ prs l
  | 0, l, n, hk, _ => by
    obtain rfl := List.eq_nil_of_length_eq_zero (show l.length = 0 by omega)
    rw [prs_nil]; simp
  | k + 1, l, n, hk, hq => by
    by_cases hl : l = []
    · subst hl; rw [prs_nil]; simp
    have hlt := prest_lt hl
    rw [prs_step hl, List.foldl_cons]
    by_cases h37 : hd l = 37
    · have e : ∀ t, pce l t = dir l.tail t := fun t => by unfold pce; rw [if_pos h37]
      rw [e, stp_dir _ _ (dir_kind _ _), fold_id k (prest l) _ (by omega)]
      · simp
      · intro q hq' hk0
        simp at hq'
        rw [← hq'] at hk0
        exact absurd hk0 (dir_kind _ _)
    · have e : ∀ t, pce l t = lit t := fun t => by unfold pce; rw [if_neg h37]
      have hs : ∀ t, stp n (lit t) = n ++ [lit t] := by
        intro t
        unfold stp
        cases hg : n.getLast? with
        | none => rfl
        | some q =>
          dsimp only
          rw [if_neg]
          rintro ⟨h1, -⟩
          rcases hq q hg h1 with h2 | h2
          · exact hl h2
          · exact h37 h2
      have p3 : prest l = l.dropWhile noPc := by unfold prest; rw [if_neg h37]
      rw [e, hs, fold_id k (prest l) _ (by omega)]
      · simp
      · intro q _ _
        rw [p3]
        exact hdj_dw l
theorem join_prs (a b : Bs) (h : En a) : (prs a ++ prs b).foldl stp [] = prs (a ++ b) := by
  rw [join_fold b _ a (Nat.le_refl _) h, fold_id _ (a ++ b) [] (Nat.le_refl _) (by simp)]
  rfl
end Go.Proofs.Ytbgejkodgcgpdaa
