/- The walk of HooksOthers. -/
import Derived.Test.YtbfaapbbhgegiaaDoorXLiveB
import Derived.Test.YtbfaapbbhgegiaaDoorXPut
namespace Go.Proofs.YtbfaapbbhgegiaaDoor
open Go.RowKit
set_option linter.unusedVariables false
set_option linter.unusedSimpArgs false

set_option maxRecDepth 1000000 in
set_option maxHeartbeats 20000000 in
theorem hooksOthers_walk (h0 : Hk) (v : Int) (hv : (Lit.int .i32 v).wf = true) (w : World) (hE : Esc w) : Calls Tryd.prog 8 #[.agg h0.v.toArray, .int .i32 v] w fun e w' => e = .returned (.bool true) ∧ Below w.heap.size w w' := by
  obtain ⟨W1, hW1⟩ : ∃ W1, W1 = w.alloc (.cells h0.v.toArray 30) := ⟨_, rfl⟩
  have b1 : Blk W1 w.heap.size h0.v := by rw [hW1]; exact Blk.new _ _ _
  have w1 : Below w.heap.size w W1 := by rw [hW1]; exact (Below.refl _ _).alloc (Nat.le_refl _) _
  have th : W1.there w.heap.size 0 12 := Blk.thereMid (p := []) (cs := h0.a.v) (q := h0.b.v ++ (h0.c.v ++ h0.d.v)) b1
  obtain ⟨h, hh⟩ : ∃ h : Hk, h = ⟨.no, h0.b, h0.c, h0.d⟩ := ⟨_, rfl⟩
  obtain ⟨W2, hW2⟩ : ∃ W2, W2 = W1.setCells w.heap.size 0 Ac.no.v := ⟨_, rfl⟩
  have b2 : Blk W2 w.heap.size h.v := by rw [hW2, hh]; exact Blk.put (p := []) (cs := h0.a.v) (q := h0.b.v ++ (h0.c.v ++ h0.d.v)) b1 Ac.no.v rfl
  have w2 : Below w.heap.size w W2 := by rw [hW2]; exact xbelow_sc w1 (Nat.le_refl _) _ _
  have hE2 : ∀ y : Cl W2, Esc y.w := fun y => (hE.below w2).below y.below
  have fH : ∀ y : Cl W2, y.w.rangeAt w.heap.size 0 h.v := Cl.rng b2.range
  have gH := b2.range
  have fB : ∀ y : Cl W2, y.w.rangeAt w.heap.size 12 h.b.v := Cl.rng (hk_b b2)
  have fC : ∀ y : Cl W2, y.w.rangeAt w.heap.size 24 h.c.v := Cl.rng (hk_c b2)
  have fD : ∀ y : Cl W2, y.w.rangeAt w.heap.size 36 h.d.v := Cl.rng (hk_d b2)
  have ha : thB h.a = false := by rw [hh]; rfl
  have hN1 : whN h 118 true = if thB h.b then 2 else 0 := by unfold whN fst2; rw [ha]; rfl
  have hN2 : ∀ sh, v ≠ 118 ∨ sh = false → whN h v sh = if nmB v then (if thB h.c then 3 else if thB h.d then 4 else 0) else 0 := fun sh hs => by
    unfold whN fst34
    rw [ha, if_neg (by simp), if_neg (fun k => by rcases hs with hs | hs <;> simp_all)]
  have p1 := fun w => which_any h 118 true w
  have p2 := fun w => which_any h v false w
  have p3 := fun w => which_any h v true w
  rw [hN1] at p1
  rw [hN2 false (.inr rfl)] at p2
  have qb := fun w => there_any h.b w
  have qc := fun w => there_any h.c w
  have qd := fun w => there_any h.d w
  have hL := fun y : Cl W2 => lives11_any y.w (hE2 y)
  have hl := h.len
  have hlb := h.b.len
  have hlc := h.c.len
  have hld := h.d.len
  have hb0 := fun w => bld_act0 w
  have hoN := Ac.no.one
  have hlN : Ac.no.v.length = 12 := rfl
  have hn3 := hN2 true
  generalize whN h v true = n3 at *
  generalize thB h.b = bb at *
  generalize thB h.c = bc at *
  generalize thB h.d = bd at *
  generalize h.v = H at *
  generalize h.b.v = Lb at *
  generalize h.c.v = Lc at *
  generalize h.d.v = Ld at *
  generalize h0.v = H0 at *
  generalize Ac.no.v = Z at *
  clear hE hE2 b1 b2 ha hN1 hN2 hh
  generalize hnm : nmB v = nm at *
  obtain ⟨n1, HB⟩ : ∃ n1 : Int, Hid (n1 = if bb = true then 2 else 0) := ⟨_, rfl⟩
  rw [← HB.out] at p1
  obtain ⟨m, HM⟩ : ∃ m : Int, Hid (m = if nm = true then if bc = true then 3 else if bd = true then 4 else 0 else 0) := ⟨_, rfl⟩
  rw [← HM.out] at p2 hn3
  go_enter Tryd.func8, Tryd.ntmps8
  go_upto_region 1 with fail
  rw [← hW1]
  clear hW1
  go_upto_region 2 with (first
    | (refine wpl_bld rfl _ _ rfl [] rfl (hb0 _) ?_)
    | (refine wpl_stm row_Act rfl (.tmp 9) (.tmp 8) rfl (us := Z) rfl rfl th hlN hoN ?_; rw [← hW2]; clear hW2))
  go_upto_region 3 with (first
    | (refine wpl_ld row_Hook rfl (.tmp 2) rfl (vs := H) rfl gH hl ?_)
    | (go_at_call 9; (first | (with_reducible refine (Cl.go (p1 _)).mono ?_) | (with_reducible refine (Cl.go0 (p1 _)).mono ?_)); rintro e w9 ⟨y, rfl, rfl⟩))
  go_cut [25] (fun t wx => (∃ z : Cl W2, wx = z.w) ∧ t = .bool false)
  case first =>
    as_aux_lemma =>
    cases bb
    all_goals
      first | obtain rfl : n1 = 2 := HB.out | obtain rfl : n1 = 0 := HB.out
      go_wp2_with (first
        | (refine wpl_ldg row_Act rfl (.tmp 21) rfl (vs := Lb) rfl (fB _) hlb ?_)
        | (go_at_call 11; refine (Cl.go (qb _)).mono ?_; rintro e w9 ⟨y, rfl, rfl⟩))
      go_meet
      exact ⟨⟨_, rfl⟩, rfl⟩
  case rest =>
  obtain ⟨⟨z, rfl⟩, hcb⟩ := hcut
  subst hcb
  clear y
  go_upto_region 6 with (first
    | (refine wpl_ld row_Hook rfl (.tmp 2) rfl (vs := H) rfl (fH _) hl ?_)
    | (go_at_call 9; refine (Cl.go (p2 _)).mono ?_; rintro e w9 ⟨y, rfl, rfl⟩))
  go_cut [7] (fun t wx => wx = y.w ∧ t = .bool nm)
  case first =>
    as_aux_lemma =>
    by_cases e118 : v = 118
    · subst e118
      go_wp2
      go_meet
      exact ⟨rfl, by rw [← hnm]; rfl⟩
    by_cases e115 : v = 115
    · subst e115
      go_wp2
      go_meet
      exact ⟨rfl, by rw [← hnm]; rfl⟩
    by_cases e120 : v = 120
    · subst e120
      go_wp2
      go_meet
      exact ⟨rfl, by rw [← hnm]; rfl⟩
    by_cases e88 : v = 88
    · subst e88
      go_wp2
      go_meet
      exact ⟨rfl, by rw [← hnm]; rfl⟩
    by_cases e113 : v = 113
    · subst e113
      go_wp2
      go_meet
      exact ⟨rfl, by rw [← hnm]; rfl⟩
    go_wp2
    go_meet
    exact ⟨rfl, by rw [← hnm]; rfl⟩
  case rest =>
  obtain ⟨rfl, hcb⟩ := hcut
  subst hcb
  cases nm
  · have e118 : v ≠ 118 := fun e => by subst e; cases hnm
    obtain rfl := hn3 (.inl e118)
    obtain rfl : n3 = 0 := HM.out
    clear hnm hn3 e118
    go_wp2_with (first
      | (refine wpl_ldg row_Hook rfl (.tmp 2) rfl (vs := H) rfl (fH _) hl ?_)
      | (go_at_call 9; refine (Cl.go (p3 _)).mono ?_; rintro e w9 ⟨y, rfl, rfl⟩)
      | (go_at_call 13; refine (Cl.go (hL _)).mono ?_; rintro e w9 ⟨y, rfl, rfl⟩))
    go_ret
    exact ⟨rfl, w2.trans (y.below.mono w2.size)⟩
  · clear hnm hn3 p3
    have cs : (bc = true) ∨ (bc = false ∧ bd = true) ∨ (bc = false ∧ bd = false) := by cases bc <;> cases bd <;> simp
    rcases cs with rfl | ⟨rfl, rfl⟩ | ⟨rfl, rfl⟩
    all_goals
      first | obtain rfl : m = 3 := HM.out | obtain rfl : m = 4 := HM.out | obtain rfl : m = 0 := HM.out
      go_wp2_with (first
        | (refine wpl_ldg row_Act rfl (.tmp 69) rfl (vs := Lc) rfl (fC _) hlc ?_)
        | (refine wpl_ldg row_Act rfl (.tmp 77) rfl (vs := Lc) rfl (fC _) hlc ?_)
        | (refine wpl_ldg row_Act rfl (.tmp 82) rfl (vs := Ld) rfl (fD _) hld ?_)
        | (go_at_call 11; (first | (with_reducible refine (Cl.go (qc _)).mono ?_) | (with_reducible refine (Cl.go (qd _)).mono ?_)); rintro e w9 ⟨y, rfl, rfl⟩)
        | (go_at_call 13; refine (Cl.go (hL _)).mono ?_; rintro e w9 ⟨y, rfl, rfl⟩))
      go_ret
      exact ⟨rfl, w2.trans (y.below.mono w2.size)⟩
end Go.Proofs.YtbfaapbbhgegiaaDoor
