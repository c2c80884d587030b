/- The walk of the law ParsePieces. -/
import Derived.Test.YtpknjcdodnoibaaLTold
import Derived.Test.YtpknjcdodnoibaaTPar
import Derived.Test.YtpknjcdodnoibaaTWalkD
namespace Go.Proofs.Ytpknjcdodnoibaa
open Go.RowKit
set_option linter.unusedVariables false
set_option linter.unusedSimpArgs false

/-- A row of pieces lies there. -/
def RowAt (w : World) (g : Nat) (ps : List Pc) : Prop := ∀ (j : Nat) (p : Pc), ps[j]? = some p → w.rangeAt g (j * 20) (pcV p (ba p.text))
theorem rowP_at : ∀ (ps : List Pc) (j : Nat) (p : Pc), ps[j]? = some p → ∀ i v, (pcV p (ba p.text))[i]? = some v → (rowP ps)[j * 20 + i]? = some v
  | [], _, _, h, _, _, _ => by simp at h
  | q :: t, 0, p, h, i, v, hv => by
    simp at h
    subst h
    have hi : i < (pcV q (ba q.text)).length := (List.getElem?_eq_some_iff.1 hv).1
    rw [rowP, Nat.zero_mul, Nat.zero_add, List.getElem?_append_left hi]
    exact hv
  | q :: t, j + 1, p, h, i, v, hv => by
    have hl : (pcV q (ba q.text)).length = 20 := rfl
    rw [rowP, List.getElem?_append_right (by rw [hl]; omega), hl, show (j + 1) * 20 + i - 20 = j * 20 + i by omega]
    exact rowP_at t j p (by simpa using h) i v hv
theorem own_rowT {w : World} {b : Nat} {T : TypeId} {a : Option Addr} {c : Nat} {ps : List Pc} (h : w.ownsRow b T 20 (.slice a ps.length c) ps.length (rowP ps)) (hn : 0 < ps.length) : ∃ g, a = some ⟨g, 0, none⟩ ∧ b ≤ g ∧ g < w.heap.size ∧ RowAt w g ps := by
  obtain ⟨g, rfl, h1, h2, h3⟩ := own_cell9 h hn
  exact ⟨g, rfl, h1, h2, fun j p hj i v hv => h3 _ _ (rowP_at ps j p hj i v hv)⟩
theorem RowAt.up {w w' : World} {g : Nat} {ps : List Pc} (h : RowAt w g ps) (hg : g < w.heap.size) (hb : Below w.heap.size w w') : RowAt w' g ps := fun j p hj i v hv => (hb.cell (p := ⟨g, j * 20 + i, none⟩) hg).trans (h j p hj i v hv)
set_option maxRecDepth 100000 in
set_option maxHeartbeats 1000000 in
theorem neq20d (k : Nat) (t : ByteArray) (f : Fl) (sz : Int) (v : Nat) (a b : Nb) (x : Ix) (w : World) :
    (binOp .neq 34 (.agg (pieceV k t f sz v a b x).toArray) (.agg (pieceV k t f sz v a b x).toArray)).run Try.prog w = .ok (.bool false) w := by
  simp [go_sem, pieceV]
set_option maxRecDepth 1000000 in
set_option maxHeartbeats 4000000 in
theorem parsePieces_walk (a0 : ByteArray) (ha0 : a0.size ≤ 9223372036854775807) (w : World) :
    Calls Try.prog 3 #[.string a0] w fun e w' => e = .returned (.bool true) ∧ Below w.heap.size w w' := by
  obtain ⟨A, hA, hCa⟩ := cut9_any a0
  have hP := fun w => parse_any A (by omega) w
  have hT := fun w => tparse_any (fun s hs w => tdir_any hs w) A (by omega) w
  unfold PsC at hP
  have lA := prs_len A.data.toList
  rw [list_len] at lA
  generalize prs A.data.toList = ps at *
  have lA' : ps.length ≤ 2000 := by omega
  have hLI : (ps.length : Int) ≤ 2000 := by omega
  clear lA ha0
  go_enter Try.func3, Try.ntmps3
  go_wp2_with fail
  refine (hCa _).mono ?_
  rintro e w1 ⟨rfl, hw1⟩
  subst w1
  go_wp2_with fail
  refine (hP _).mono ?_
  rintro e W1 ⟨v1, rfl, o1, b1⟩
  obtain ⟨a1, c1, rfl, -, -⟩ := own_slice9 o1
  go_wp2_with fail
  refine (hT _).mono ?_
  rintro e W2 ⟨v2, rfl, o2, b2⟩
  obtain ⟨a2, c2, rfl, -, -⟩ := own_slice9 o2
  have hR1 : ∀ h : 0 < ps.length, ∃ g, a1 = some ⟨g, 0, none⟩ ∧ g < W2.heap.size ∧ RowAt W2 g ps := fun h => by
    obtain ⟨g, e, -, h2, h3⟩ := own_rowT o1 h
    exact ⟨g, e, Nat.lt_of_lt_of_le h2 b2.size, h3.up h2 b2⟩
  have hR2 : ∀ h : 0 < ps.length, ∃ g, a2 = some ⟨g, 0, none⟩ ∧ g < W2.heap.size ∧ RowAt W2 g ps := fun h => by
    obtain ⟨g, e, -, h2, h3⟩ := own_rowT o2 h
    exact ⟨g, e, h2, h3⟩
  have b12 : Below w.heap.size w W2 := b1.trans (b2.mono b1.size)
  clear hCa hP hT o1 o2 b1 b2 hA
  go_wp2_with fail
  go_loopg [5, 19] ps.length (fun g _ iv wx => ∃ k : Nat, iv = .int .i64 (k : Nat) ∧ k + g = ps.length ∧ Below W2.heap.size W2 wx)
  case atStart => exact ⟨0, rfl, by omega, Below.refl _ _⟩
  case round =>
    obtain ⟨k, rfl, hk, bx⟩ := hrel
    by_cases hlt2 : k < ps.length
    · have hltI2 : (k : Int) < ps.length := by omega
      obtain ⟨p, hp⟩ : ∃ p, ps[k]? = some p := ⟨_, List.getElem?_eq_getElem hlt2⟩
      obtain ⟨gN, rfl, hgN, hRo⟩ := hR1 (by omega)
      obtain ⟨gC, rfl, hgC, hRp⟩ := hR2 (by omega)
      have r1 : wr.rangeAt gN (k * 20) (pcV p (ba p.text)) := (hRo.up hgN bx) k p hp
      have r2 : wr.rangeAt gC (k * 20) (pcV p (ba p.text)) := (hRp.up hgC bx) k p hp
      have hne : ∀ w, (binOp .neq 34 (.agg (pcV p (ba p.text)).toArray) (.agg (pcV p (ba p.text)).toArray)).run Try.prog w = .ok (.bool false) w := fun w => neq20d _ _ _ _ _ _ _ _ w
      have kT := fun w => told9_any p w
      have hvl : (pcV p (ba p.text)).length = 20 := rfl
      have hgN2 : gN < wr.heap.size := Nat.lt_of_lt_of_le hgN bx.size
      have hgC2 : gC < wr.heap.size := Nat.lt_of_lt_of_le hgC bx.size
      have rU : ∀ V, Below wr.heap.size wr V → V.rangeAt gN (k * 20) (pcV p (ba p.text)) ∧ V.rangeAt gC (k * 20) (pcV p (ba p.text)) := fun V hV => ⟨fun i v hv => (hV.cell (p := ⟨gN, k * 20 + i, none⟩) hgN2).trans (r1 i v hv), fun i v hv => (hV.cell (p := ⟨gC, k * 20 + i, none⟩) hgC2).trans (r2 i v hv)⟩
      clear hR1 hR2 hRo hRp hp r1 r2
      generalize pcV p (ba p.text) = vs at *
      go_upto_region 8 with fail
      have d0 : Below wr.heap.size wr wr.drew := (Below.refl _ _).drew
      refine wp_region_held_drew (S := fun w' => w'.rangeAt gN (k * 20) vs ∧ w'.rangeAt gC (k * 20) vs) (by kernel_rfl) (rU _ d0) ?_
      intro hS
      refine wpAnyH_take (i := 0) (v := .slice (some ⟨gN, 0, none⟩) ps.length c1) rfl (by kernel_rfl) (by kernel_rfl) (by kernel_rfl) (fun _ _ _ h => h) (Or.inl ⟨by rfl, ?_⟩) (by assumption) ?_
      · intro w5 s0
        go_simp
        try decide
      try simp only [Act.put, List.getElem_toArray, List.getElem_cons_zero, List.getElem_cons_succ, List.setIfInBounds_toArray, List.set_cons_zero, List.set_cons_succ]
      refine wpAnyH_take (i := 1) (v := .int .i64 (k : Nat)) rfl (by kernel_rfl) (by kernel_rfl) (by kernel_rfl) (fun _ _ _ h => h) (Or.inl ⟨by rfl, ?_⟩) (by assumption) ?_
      · intro w5 s0
        go_simp
        try decide
      try simp only [Act.put, List.getElem_toArray, List.getElem_cons_zero, List.getElem_cons_succ, List.setIfInBounds_toArray, List.set_cons_zero, List.set_cons_succ]
      refine wpAnyH_take (i := 2) (v := .pointer (some ⟨gN, k * 20, none⟩)) rfl (by kernel_rfl) (by kernel_rfl) (by kernel_rfl) (fun _ _ _ h => h) (Or.inl ⟨by rfl, ?_⟩) (by assumption) ?_
      · intro w5 s0
        go_simp
        try decide
      try simp only [Act.put, List.getElem_toArray, List.getElem_cons_zero, List.getElem_cons_succ, List.setIfInBounds_toArray, List.set_cons_zero, List.set_cons_succ]
      refine wpAnyH_take (i := 3) (v := .agg vs.toArray) rfl (by kernel_rfl) (by kernel_rfl) (by kernel_rfl) (fun _ _ _ h => h) ?_ (by assumption) ?_
      · obtain ⟨dd, r1, r2⟩ := isrow20
        exact yieldsIf_load_mid rfl 40 (.tmp 24) rfl gN (k * 20) rfl vs dd (fun _ h => h.1) r1 r2 (by rw [hvl]; exact info20)
      try simp only [Act.put, List.getElem_toArray, List.getElem_cons_zero, List.getElem_cons_succ, List.setIfInBounds_toArray, List.set_cons_zero, List.set_cons_succ]
      refine wpAnyH_take (i := 5) (v := .slice (some ⟨gC, 0, none⟩) ps.length c2) rfl (by kernel_rfl) (by kernel_rfl) (by kernel_rfl) (fun _ _ _ h => h) (Or.inl ⟨by rfl, ?_⟩) (by assumption) ?_
      · intro w5 s0
        go_simp
        try decide
      try simp only [Act.put, List.getElem_toArray, List.getElem_cons_zero, List.getElem_cons_succ, List.setIfInBounds_toArray, List.set_cons_zero, List.set_cons_succ]
      refine wpAnyH_take (i := 6) (v := .int .i64 (k : Nat)) rfl (by kernel_rfl) (by kernel_rfl) (by kernel_rfl) (fun _ _ _ h => h) (Or.inl ⟨by rfl, ?_⟩) (by assumption) ?_
      · intro w5 s0
        go_simp
        try decide
      try simp only [Act.put, List.getElem_toArray, List.getElem_cons_zero, List.getElem_cons_succ, List.setIfInBounds_toArray, List.set_cons_zero, List.set_cons_succ]
      refine wpAnyH_take (i := 7) (v := .pointer (some ⟨gC, k * 20, none⟩)) rfl (by kernel_rfl) (by kernel_rfl) (by kernel_rfl) (fun _ _ _ h => h) (Or.inl ⟨by rfl, ?_⟩) (by assumption) ?_
      · intro w5 s0
        go_simp
        try decide
      try simp only [Act.put, List.getElem_toArray, List.getElem_cons_zero, List.getElem_cons_succ, List.setIfInBounds_toArray, List.set_cons_zero, List.set_cons_succ]
      refine wpAnyH_take (i := 8) (v := .agg vs.toArray) rfl (by kernel_rfl) (by kernel_rfl) (by kernel_rfl) (fun _ _ _ h => h) ?_ (by assumption) ?_
      · obtain ⟨dd, r1, r2⟩ := isrow20d
        exact yieldsIf_load_mid rfl 34 (.tmp 29) rfl gC (k * 20) rfl vs dd (fun _ h => h.2) r1 r2 (by rw [hvl]; exact info20d)
      try simp only [Act.put, List.getElem_toArray, List.getElem_cons_zero, List.getElem_cons_succ, List.setIfInBounds_toArray, List.set_cons_zero, List.set_cons_succ]
      refine wpAnyH_ready (rs := [4]) (by kernel_rfl) (by simp) ?_
      refine AllReadyH.cons rfl (fun K hK => ?_) AllReadyH.nil
      go_simp
      refine (kT _).mono ?_
      rintro e Z ⟨rfl, z1⟩
      have dZ := d0.trans (z1.mono d0.size)
      refine hK.out _ _ (rU _ dZ) (fun s1 => ?_)
      clear hK
      try simp only [Act.put, List.getElem_toArray, List.getElem_cons_zero, List.getElem_cons_succ, List.setIfInBounds_toArray, List.set_cons_zero, List.set_cons_succ]
      refine wpAnyH_ready (rs := [9]) (by kernel_rfl) (by simp) ?_
      refine AllReadyH.cons rfl (fun K hK => ?_) AllReadyH.nil
      go_simp
      refine hK.out _ _ s1 (fun _ => ?_)
      clear hK
      try simp only [Act.put, List.getElem_toArray, List.getElem_cons_zero, List.getElem_cons_succ, List.setIfInBounds_toArray, List.set_cons_zero, List.set_cons_succ]
      refine wpAnyH_done (by kernel_rfl) ?_ _
      have bx2 : Below W2.heap.size W2 Z := bx.trans (dZ.mono bx.size)
      clear hS s1 rU
      go_wp2
      go_roundg (gk - 1)
      case measure => omega
      case rel => exact ⟨k + 1, by go_num, by omega, bx2⟩
    · have hltI2 : ¬ (k : Int) < ps.length := by omega
      have hlv := lives9_any wr
      go_wp2_with (go_at_call 8; refine hlv.mono ?_; rintro e w9 ⟨rfl, hb9⟩)
      go_ret
      exact ⟨rfl, b12.trans ((bx.trans (hb9.mono bx.size)).mono b12.size)⟩
end Go.Proofs.Ytpknjcdodnoibaa
