/- The walk of the law QuoteWide. -/
import Derived.Test.YtnoelbomcogndaaDoorLives2
import Derived.Test.YtnoelbomcogndaaDoorLawCut
import Derived.Test.YtnoelbomcogndaaDoorTextA
import Derived.Test.YtnoelbomcogndaaDoorPlain6
namespace Go.Proofs.YtnoelbomcogndaaDoor
open Go.RowKit
set_option linter.unusedVariables false

/-- Text, whatever the width: a text that is filled, or refused. -/
theorem text_core (s : ByteArray) (p mi sh sp z : Bool) (prec verb : Int) (hs : s.size ≤ 1000) (hpr : prec ≤ 9223372036854775807) :
    (∃ r : ByteArray, r.size ≤ 20000 ∧ ∀ (wid : Int) w, Esc w → Calls Tryd.prog 15 #[.string s, .agg #[.bool p, .bool mi, .bool sh, .bool sp, .bool z, .int .i64 wid, .int .i64 prec, .int .i32 verb]] w fun e w' => e = .returned (.tuple #[.string (padS r mi z wid), .bool true]) ∧ Below w.heap.size w w') ∨
    (∀ (wid : Int) w, Esc w → Calls Tryd.prog 15 #[.string s, .agg #[.bool p, .bool mi, .bool sh, .bool sp, .bool z, .int .i64 wid, .int .i64 prec, .int .i32 verb]] w fun e w' => e = .returned (.tuple #[.string ⟨#[]⟩, .bool false]) ∧ Below w.heap.size w w') := by
  have hcs := (cut_facts s (min prec 1000)).1
  have hqs := quoS_size s false
  have hq2 := quotedS_size (cutS s (min prec 1000)) sh p
  have hx : ∀ g, (hexS s sh sp g prec).size ≤ 20000 := by
    intro g
    have h1 := hexGo_len sh sp g (cutB s prec).data.toList 0
    have h2 := cutB_size s prec
    rw [list_len] at h1
    show (hexGo sh sp g 0 (cutB s prec).data.toList).toArray.size ≤ _
    simp
    omega
  by_cases h1 : verb = 118
  · subst h1
    cases sh with
    | true => exact .inl ⟨_, by omega, fun wid w hE => text_v1 s p mi sp z wid prec w hE (by omega) hpr⟩
    | false => exact .inl ⟨_, by omega, fun wid w hE => text_v0 s p mi sp z wid prec w hE (by omega) hpr⟩
  by_cases h2 : verb = 115
  · subst h2
    cases sh with
    | true => exact .inl ⟨_, by omega, fun wid w hE => text_s1 s p mi sp z wid prec w hE (by omega) hpr⟩
    | false => exact .inl ⟨_, by omega, fun wid w hE => text_s0 s p mi sp z wid prec w hE (by omega) hpr⟩
  by_cases h3 : verb = 113
  · subst h3
    exact .inl ⟨_, by omega, fun wid w hE => text_q s p mi sh sp z wid prec w hE (by omega) hpr⟩
  by_cases h4 : verb = 120
  · subst h4
    exact .inl ⟨_, hx _, fun wid w hE => text_x s p mi sh sp z wid prec w hE (by omega) hpr⟩
  by_cases h5 : verb = 88
  · subst h5
    exact .inl ⟨_, hx _, fun wid w hE => text_X s p mi sh sp z wid prec w hE (by omega) hpr⟩
  exact .inr fun wid w hE => text_no s p mi sh sp z wid prec verb w h1 h2 h3 h4 h5
theorem ba_nil' (T : ByteArray) : T ++ run 32 0 = T := by
  apply ByteArray.ext
  rw [ByteArray.data_append]
  simp [run]
theorem nil_ba' {c : Nat} (T : ByteArray) : run c 0 ++ T = T := by
  apply ByteArray.ext
  rw [ByteArray.data_append]
  simp [run]
theorem wf_le5 (n : Int) (h : (Lit.int .i64 n).wf = true) : n ≤ 9223372036854775807 := by
  simp [Lit.wf] at h
  first | omega | exact h.2 | exact h


set_option maxRecDepth 1000000 in
set_option maxHeartbeats 1000000 in
theorem quoteWide_no (s u : ByteArray) (p mi sh sp z : Bool) (wid prec verb : Int) (w : World) (hE : Esc w) (hc : ∀ w, Calls Tryd.prog 9 #[.string s] w fun e w' => e = .returned (.string u) ∧ w' = w)
    (hT : ∀ (wid : Int) w, Esc w → Calls Tryd.prog 15 #[.string u, .agg #[.bool p, .bool mi, .bool sh, .bool sp, .bool z, .int .i64 wid, .int .i64 prec, .int .i32 verb]] w fun e w' => e = .returned (.tuple #[.string ⟨#[]⟩, .bool false]) ∧ Below w.heap.size w w') :
    Calls Tryd.prog 8 #[.string s, .agg #[.bool p, .bool mi, .bool sh, .bool sp, .bool z, .int .i64 wid, .int .i64 prec, .int .i32 verb]] w fun e w' => e = .returned (.bool true) ∧ Below w.heap.size w w' := by
  have hbA : Below w.heap.size w ((w.alloc (.cells #[.bool p, .bool mi, .bool sh, .bool sp, .bool z, .int .i64 wid, .int .i64 prec, .int .i32 verb] 28)).alloc (.cells #[.bool p, .bool mi, .bool sh, .bool sp, .bool z, .int .i64 (-1), .int .i64 prec, .int .i32 verb] 28)) := ((Below.refl _ _).alloc (Nat.le_refl _) _).alloc (by simp) _
  have f0 : ∀ x : Cl ((w.alloc (.cells #[.bool p, .bool mi, .bool sh, .bool sp, .bool z, .int .i64 wid, .int .i64 prec, .int .i32 verb] 28)).alloc (.cells #[.bool p, .bool mi, .bool sh, .bool sp, .bool z, .int .i64 (-1), .int .i64 prec, .int .i32 verb] 28)), x.w.cell? ⟨w.heap.size, 0, none⟩ = some (.bool p) := fun x => x.cell (by simp)
  have f1 : ∀ x : Cl ((w.alloc (.cells #[.bool p, .bool mi, .bool sh, .bool sp, .bool z, .int .i64 wid, .int .i64 prec, .int .i32 verb] 28)).alloc (.cells #[.bool p, .bool mi, .bool sh, .bool sp, .bool z, .int .i64 (-1), .int .i64 prec, .int .i32 verb] 28)), x.w.cell? ⟨w.heap.size, 1, none⟩ = some (.bool mi) := fun x => x.cell (by simp)
  have f2 : ∀ x : Cl ((w.alloc (.cells #[.bool p, .bool mi, .bool sh, .bool sp, .bool z, .int .i64 wid, .int .i64 prec, .int .i32 verb] 28)).alloc (.cells #[.bool p, .bool mi, .bool sh, .bool sp, .bool z, .int .i64 (-1), .int .i64 prec, .int .i32 verb] 28)), x.w.cell? ⟨w.heap.size, 2, none⟩ = some (.bool sh) := fun x => x.cell (by simp)
  have f3 : ∀ x : Cl ((w.alloc (.cells #[.bool p, .bool mi, .bool sh, .bool sp, .bool z, .int .i64 wid, .int .i64 prec, .int .i32 verb] 28)).alloc (.cells #[.bool p, .bool mi, .bool sh, .bool sp, .bool z, .int .i64 (-1), .int .i64 prec, .int .i32 verb] 28)), x.w.cell? ⟨w.heap.size, 3, none⟩ = some (.bool sp) := fun x => x.cell (by simp)
  have f4 : ∀ x : Cl ((w.alloc (.cells #[.bool p, .bool mi, .bool sh, .bool sp, .bool z, .int .i64 wid, .int .i64 prec, .int .i32 verb] 28)).alloc (.cells #[.bool p, .bool mi, .bool sh, .bool sp, .bool z, .int .i64 (-1), .int .i64 prec, .int .i32 verb] 28)), x.w.cell? ⟨w.heap.size, 4, none⟩ = some (.bool z) := fun x => x.cell (by simp)
  have f5 : ∀ x : Cl ((w.alloc (.cells #[.bool p, .bool mi, .bool sh, .bool sp, .bool z, .int .i64 wid, .int .i64 prec, .int .i32 verb] 28)).alloc (.cells #[.bool p, .bool mi, .bool sh, .bool sp, .bool z, .int .i64 (-1), .int .i64 prec, .int .i32 verb] 28)), x.w.cell? ⟨w.heap.size, 5, none⟩ = some (.int .i64 wid) := fun x => x.cell (by simp)
  have f6 : ∀ x : Cl ((w.alloc (.cells #[.bool p, .bool mi, .bool sh, .bool sp, .bool z, .int .i64 wid, .int .i64 prec, .int .i32 verb] 28)).alloc (.cells #[.bool p, .bool mi, .bool sh, .bool sp, .bool z, .int .i64 (-1), .int .i64 prec, .int .i32 verb] 28)), x.w.cell? ⟨w.heap.size, 6, none⟩ = some (.int .i64 prec) := fun x => x.cell (by simp)
  have f7 : ∀ x : Cl ((w.alloc (.cells #[.bool p, .bool mi, .bool sh, .bool sp, .bool z, .int .i64 wid, .int .i64 prec, .int .i32 verb] 28)).alloc (.cells #[.bool p, .bool mi, .bool sh, .bool sp, .bool z, .int .i64 (-1), .int .i64 prec, .int .i32 verb] 28)), x.w.cell? ⟨w.heap.size, 7, none⟩ = some (.int .i32 verb) := fun x => x.cell (by simp)
  have g0 : ∀ x : Cl ((w.alloc (.cells #[.bool p, .bool mi, .bool sh, .bool sp, .bool z, .int .i64 wid, .int .i64 prec, .int .i32 verb] 28)).alloc (.cells #[.bool p, .bool mi, .bool sh, .bool sp, .bool z, .int .i64 (-1), .int .i64 prec, .int .i32 verb] 28)), x.w.cell? ⟨w.heap.size + 1, 0, none⟩ = some (.bool p) := fun x => x.cell (by simp)
  have g1 : ∀ x : Cl ((w.alloc (.cells #[.bool p, .bool mi, .bool sh, .bool sp, .bool z, .int .i64 wid, .int .i64 prec, .int .i32 verb] 28)).alloc (.cells #[.bool p, .bool mi, .bool sh, .bool sp, .bool z, .int .i64 (-1), .int .i64 prec, .int .i32 verb] 28)), x.w.cell? ⟨w.heap.size + 1, 1, none⟩ = some (.bool mi) := fun x => x.cell (by simp)
  have g2 : ∀ x : Cl ((w.alloc (.cells #[.bool p, .bool mi, .bool sh, .bool sp, .bool z, .int .i64 wid, .int .i64 prec, .int .i32 verb] 28)).alloc (.cells #[.bool p, .bool mi, .bool sh, .bool sp, .bool z, .int .i64 (-1), .int .i64 prec, .int .i32 verb] 28)), x.w.cell? ⟨w.heap.size + 1, 2, none⟩ = some (.bool sh) := fun x => x.cell (by simp)
  have g3 : ∀ x : Cl ((w.alloc (.cells #[.bool p, .bool mi, .bool sh, .bool sp, .bool z, .int .i64 wid, .int .i64 prec, .int .i32 verb] 28)).alloc (.cells #[.bool p, .bool mi, .bool sh, .bool sp, .bool z, .int .i64 (-1), .int .i64 prec, .int .i32 verb] 28)), x.w.cell? ⟨w.heap.size + 1, 3, none⟩ = some (.bool sp) := fun x => x.cell (by simp)
  have g4 : ∀ x : Cl ((w.alloc (.cells #[.bool p, .bool mi, .bool sh, .bool sp, .bool z, .int .i64 wid, .int .i64 prec, .int .i32 verb] 28)).alloc (.cells #[.bool p, .bool mi, .bool sh, .bool sp, .bool z, .int .i64 (-1), .int .i64 prec, .int .i32 verb] 28)), x.w.cell? ⟨w.heap.size + 1, 4, none⟩ = some (.bool z) := fun x => x.cell (by simp)
  have g5 : ∀ x : Cl ((w.alloc (.cells #[.bool p, .bool mi, .bool sh, .bool sp, .bool z, .int .i64 wid, .int .i64 prec, .int .i32 verb] 28)).alloc (.cells #[.bool p, .bool mi, .bool sh, .bool sp, .bool z, .int .i64 (-1), .int .i64 prec, .int .i32 verb] 28)), x.w.cell? ⟨w.heap.size + 1, 5, none⟩ = some (.int .i64 (-1)) := fun x => x.cell (by simp)
  have g6 : ∀ x : Cl ((w.alloc (.cells #[.bool p, .bool mi, .bool sh, .bool sp, .bool z, .int .i64 wid, .int .i64 prec, .int .i32 verb] 28)).alloc (.cells #[.bool p, .bool mi, .bool sh, .bool sp, .bool z, .int .i64 (-1), .int .i64 prec, .int .i32 verb] 28)), x.w.cell? ⟨w.heap.size + 1, 6, none⟩ = some (.int .i64 prec) := fun x => x.cell (by simp)
  have g7 : ∀ x : Cl ((w.alloc (.cells #[.bool p, .bool mi, .bool sh, .bool sp, .bool z, .int .i64 wid, .int .i64 prec, .int .i32 verb] 28)).alloc (.cells #[.bool p, .bool mi, .bool sh, .bool sp, .bool z, .int .i64 (-1), .int .i64 prec, .int .i32 verb] 28)), x.w.cell? ⟨w.heap.size + 1, 7, none⟩ = some (.int .i32 verb) := fun x => x.cell (by simp)
  have hE1 : ∀ x : Cl ((w.alloc (.cells #[.bool p, .bool mi, .bool sh, .bool sp, .bool z, .int .i64 wid, .int .i64 prec, .int .i32 verb] 28)).alloc (.cells #[.bool p, .bool mi, .bool sh, .bool sp, .bool z, .int .i64 (-1), .int .i64 prec, .int .i32 verb] 28)), Esc x.w := fun x => (hE.below hbA).below x.below
  have hE2 := hE.below hbA
  have hT1 := hT wid
  have hT2 := hT (-1)
  clear hT
  go_enter Tryd.func8, Tryd.ntmps8
  go_wp2_with (first | (go_at_call 9; refine (hc _).mono ?_; rintro e w1 ⟨rfl, rfl⟩) | (go_at_call_of 15 wid; refine (Cl.go0 (hT1 _ hE2)).mono ?_; rintro e w9 ⟨y, rfl, rfl⟩) | (go_at_call 15; refine (Cl.go (hT2 _ (hE1 _))).mono ?_; rintro e w9 ⟨y, rfl, rfl⟩) | (go_at_call 12; refine (Cl.go (lives2_any _ (hE1 _))).mono ?_; rintro e w9 ⟨y, rfl, rfl⟩))
  go_ret
  exact ⟨rfl, hbA.trans (y.below.mono hbA.size)⟩

/-- What the law asks of a text that was filled. -/
theorem wide_pack (r : ByteArray) (mi z : Bool) (wid : Int) (hr : r.size ≤ 20000) : ∃ a : ByteArray, padS r mi z wid = a ∧ padS r mi z (-1) = r ∧ r.size ≤ a.size ∧ a.size ≤ 30000 ∧ (mi = true → a.extract 0 r.size = r) ∧ (mi = false → a.extract (a.size - r.size) a.size = r) ∧ max (cntR r : Int) (min wid 1000) = (cntR a : Nat) := by
  have hl := lack_le r wid
  have hm := lack_max r wid
  have h0 : lack r (-1) = 0 := by unfold lack wdt; omega
  have e0 : padS r mi z (-1) = r := by
    unfold padS
    have e : wdt ((wdt (-1) : Nat) - (cntR r : Nat) : Int) = 0 := h0
    rw [e]
    have e1 : r ++ run 32 0 = r := ba_nil' r
    have e2 : ∀ c, run c 0 ++ r = r := fun c => nil_ba' r
    cases mi <;> cases z <;> simp only [if_true, Bool.false_eq_true, if_false, e1, e2]
  refine ⟨_, rfl, e0, ?_⟩
  cases mi with
  | true =>
    have e : padS r true z wid = r ++ run 32 (lack r wid) := by unfold padS; rw [if_pos rfl]; rfl
    rw [e]
    refine ⟨by rw [app_size]; omega, by rw [app_size, run_size]; omega, fun _ => app_head _ _, fun h => absurd h (by simp), ?_⟩
    rw [hm, cnt_app_run r 32 _ (by omega)]
  | false =>
    obtain ⟨c, hc, e⟩ : ∃ c, c < 128 ∧ padS r false z wid = run c (lack r wid) ++ r := by
      cases z
      · exact ⟨32, by omega, by unfold padS; rw [if_neg (by simp), if_neg (by simp)]; rfl⟩
      · exact ⟨48, by omega, by unfold padS; rw [if_neg (by simp), if_pos rfl]; rfl⟩
    rw [e]
    refine ⟨by rw [app_size]; omega, by rw [app_size, run_size]; omega, fun h => absurd h (by simp), fun _ => ?_, ?_⟩
    · have hz : (run c (lack r wid) ++ r).size - r.size = (run c (lack r wid)).size := by rw [app_size]; omega
      rw [hz]; exact app_rest _ _
    · rw [hm, cnt_run_app c _ r hc]; omega

set_option maxRecDepth 1000000 in
set_option maxHeartbeats 2000000 in
theorem quoteWide_yes (s u r : ByteArray) (p mi sh sp z : Bool) (wid prec verb : Int) (w : World) (hE : Esc w) (hc : ∀ w, Calls Tryd.prog 9 #[.string s] w fun e w' => e = .returned (.string u) ∧ w' = w) (hr : r.size ≤ 20000)
    (hT : ∀ (wid : Int) w, Esc w → Calls Tryd.prog 15 #[.string u, .agg #[.bool p, .bool mi, .bool sh, .bool sp, .bool z, .int .i64 wid, .int .i64 prec, .int .i32 verb]] w fun e w' => e = .returned (.tuple #[.string (padS r mi z wid), .bool true]) ∧ Below w.heap.size w w') :
    Calls Tryd.prog 8 #[.string s, .agg #[.bool p, .bool mi, .bool sh, .bool sp, .bool z, .int .i64 wid, .int .i64 prec, .int .i32 verb]] w fun e w' => e = .returned (.bool true) ∧ Below w.heap.size w w' := by
  obtain ⟨a, ha, hb, h1, h2, h3, h4, h5⟩ := wide_pack r mi z wid hr
  have hT1 := hT wid
  have hT2 := hT (-1)
  rw [ha] at hT1
  rw [hb] at hT2
  clear hT ha hb
  have hK1 : ∀ w, Calls Tryd.prog 22 #[.string a] w fun e w' => e = .returned (.int .i64 (cntR a : Nat)) ∧ Below w.heap.size w w' := fun w => count_any a w (by unfold maxLen; omega)
  have hK2 : ∀ w, Calls Tryd.prog 22 #[.string r] w fun e w' => e = .returned (.int .i64 (cntR r : Nat)) ∧ Below w.heap.size w w' := fun w => count_any r w (by unfold maxLen; omega)
  generalize cntR a = na at *
  generalize cntR r = nr at *
  have h1' : ¬ (a.size : Int) < r.size := by omega
  have hbA : Below w.heap.size w ((w.alloc (.cells #[.bool p, .bool mi, .bool sh, .bool sp, .bool z, .int .i64 wid, .int .i64 prec, .int .i32 verb] 28)).alloc (.cells #[.bool p, .bool mi, .bool sh, .bool sp, .bool z, .int .i64 (-1), .int .i64 prec, .int .i32 verb] 28)) := ((Below.refl _ _).alloc (Nat.le_refl _) _).alloc (by simp) _
  have hE2 := hE.below hbA
  cases mi with
  | true =>
    have h3' := h3 rfl
    clear h3 h4
    have f0 : ∀ x : Cl ((w.alloc (.cells #[.bool p, .bool true, .bool sh, .bool sp, .bool z, .int .i64 wid, .int .i64 prec, .int .i32 verb] 28)).alloc (.cells #[.bool p, .bool true, .bool sh, .bool sp, .bool z, .int .i64 (-1), .int .i64 prec, .int .i32 verb] 28)), x.w.cell? ⟨w.heap.size, 0, none⟩ = some (.bool p) := fun x => x.cell (by simp)
    have f1 : ∀ x : Cl ((w.alloc (.cells #[.bool p, .bool true, .bool sh, .bool sp, .bool z, .int .i64 wid, .int .i64 prec, .int .i32 verb] 28)).alloc (.cells #[.bool p, .bool true, .bool sh, .bool sp, .bool z, .int .i64 (-1), .int .i64 prec, .int .i32 verb] 28)), x.w.cell? ⟨w.heap.size, 1, none⟩ = some (.bool true) := fun x => x.cell (by simp)
    have f2 : ∀ x : Cl ((w.alloc (.cells #[.bool p, .bool true, .bool sh, .bool sp, .bool z, .int .i64 wid, .int .i64 prec, .int .i32 verb] 28)).alloc (.cells #[.bool p, .bool true, .bool sh, .bool sp, .bool z, .int .i64 (-1), .int .i64 prec, .int .i32 verb] 28)), x.w.cell? ⟨w.heap.size, 2, none⟩ = some (.bool sh) := fun x => x.cell (by simp)
    have f3 : ∀ x : Cl ((w.alloc (.cells #[.bool p, .bool true, .bool sh, .bool sp, .bool z, .int .i64 wid, .int .i64 prec, .int .i32 verb] 28)).alloc (.cells #[.bool p, .bool true, .bool sh, .bool sp, .bool z, .int .i64 (-1), .int .i64 prec, .int .i32 verb] 28)), x.w.cell? ⟨w.heap.size, 3, none⟩ = some (.bool sp) := fun x => x.cell (by simp)
    have f4 : ∀ x : Cl ((w.alloc (.cells #[.bool p, .bool true, .bool sh, .bool sp, .bool z, .int .i64 wid, .int .i64 prec, .int .i32 verb] 28)).alloc (.cells #[.bool p, .bool true, .bool sh, .bool sp, .bool z, .int .i64 (-1), .int .i64 prec, .int .i32 verb] 28)), x.w.cell? ⟨w.heap.size, 4, none⟩ = some (.bool z) := fun x => x.cell (by simp)
    have f5 : ∀ x : Cl ((w.alloc (.cells #[.bool p, .bool true, .bool sh, .bool sp, .bool z, .int .i64 wid, .int .i64 prec, .int .i32 verb] 28)).alloc (.cells #[.bool p, .bool true, .bool sh, .bool sp, .bool z, .int .i64 (-1), .int .i64 prec, .int .i32 verb] 28)), x.w.cell? ⟨w.heap.size, 5, none⟩ = some (.int .i64 wid) := fun x => x.cell (by simp)
    have f6 : ∀ x : Cl ((w.alloc (.cells #[.bool p, .bool true, .bool sh, .bool sp, .bool z, .int .i64 wid, .int .i64 prec, .int .i32 verb] 28)).alloc (.cells #[.bool p, .bool true, .bool sh, .bool sp, .bool z, .int .i64 (-1), .int .i64 prec, .int .i32 verb] 28)), x.w.cell? ⟨w.heap.size, 6, none⟩ = some (.int .i64 prec) := fun x => x.cell (by simp)
    have f7 : ∀ x : Cl ((w.alloc (.cells #[.bool p, .bool true, .bool sh, .bool sp, .bool z, .int .i64 wid, .int .i64 prec, .int .i32 verb] 28)).alloc (.cells #[.bool p, .bool true, .bool sh, .bool sp, .bool z, .int .i64 (-1), .int .i64 prec, .int .i32 verb] 28)), x.w.cell? ⟨w.heap.size, 7, none⟩ = some (.int .i32 verb) := fun x => x.cell (by simp)
    have g0 : ∀ x : Cl ((w.alloc (.cells #[.bool p, .bool true, .bool sh, .bool sp, .bool z, .int .i64 wid, .int .i64 prec, .int .i32 verb] 28)).alloc (.cells #[.bool p, .bool true, .bool sh, .bool sp, .bool z, .int .i64 (-1), .int .i64 prec, .int .i32 verb] 28)), x.w.cell? ⟨w.heap.size + 1, 0, none⟩ = some (.bool p) := fun x => x.cell (by simp)
    have g1 : ∀ x : Cl ((w.alloc (.cells #[.bool p, .bool true, .bool sh, .bool sp, .bool z, .int .i64 wid, .int .i64 prec, .int .i32 verb] 28)).alloc (.cells #[.bool p, .bool true, .bool sh, .bool sp, .bool z, .int .i64 (-1), .int .i64 prec, .int .i32 verb] 28)), x.w.cell? ⟨w.heap.size + 1, 1, none⟩ = some (.bool true) := fun x => x.cell (by simp)
    have g2 : ∀ x : Cl ((w.alloc (.cells #[.bool p, .bool true, .bool sh, .bool sp, .bool z, .int .i64 wid, .int .i64 prec, .int .i32 verb] 28)).alloc (.cells #[.bool p, .bool true, .bool sh, .bool sp, .bool z, .int .i64 (-1), .int .i64 prec, .int .i32 verb] 28)), x.w.cell? ⟨w.heap.size + 1, 2, none⟩ = some (.bool sh) := fun x => x.cell (by simp)
    have g3 : ∀ x : Cl ((w.alloc (.cells #[.bool p, .bool true, .bool sh, .bool sp, .bool z, .int .i64 wid, .int .i64 prec, .int .i32 verb] 28)).alloc (.cells #[.bool p, .bool true, .bool sh, .bool sp, .bool z, .int .i64 (-1), .int .i64 prec, .int .i32 verb] 28)), x.w.cell? ⟨w.heap.size + 1, 3, none⟩ = some (.bool sp) := fun x => x.cell (by simp)
    have g4 : ∀ x : Cl ((w.alloc (.cells #[.bool p, .bool true, .bool sh, .bool sp, .bool z, .int .i64 wid, .int .i64 prec, .int .i32 verb] 28)).alloc (.cells #[.bool p, .bool true, .bool sh, .bool sp, .bool z, .int .i64 (-1), .int .i64 prec, .int .i32 verb] 28)), x.w.cell? ⟨w.heap.size + 1, 4, none⟩ = some (.bool z) := fun x => x.cell (by simp)
    have g5 : ∀ x : Cl ((w.alloc (.cells #[.bool p, .bool true, .bool sh, .bool sp, .bool z, .int .i64 wid, .int .i64 prec, .int .i32 verb] 28)).alloc (.cells #[.bool p, .bool true, .bool sh, .bool sp, .bool z, .int .i64 (-1), .int .i64 prec, .int .i32 verb] 28)), x.w.cell? ⟨w.heap.size + 1, 5, none⟩ = some (.int .i64 (-1)) := fun x => x.cell (by simp)
    have g6 : ∀ x : Cl ((w.alloc (.cells #[.bool p, .bool true, .bool sh, .bool sp, .bool z, .int .i64 wid, .int .i64 prec, .int .i32 verb] 28)).alloc (.cells #[.bool p, .bool true, .bool sh, .bool sp, .bool z, .int .i64 (-1), .int .i64 prec, .int .i32 verb] 28)), x.w.cell? ⟨w.heap.size + 1, 6, none⟩ = some (.int .i64 prec) := fun x => x.cell (by simp)
    have g7 : ∀ x : Cl ((w.alloc (.cells #[.bool p, .bool true, .bool sh, .bool sp, .bool z, .int .i64 wid, .int .i64 prec, .int .i32 verb] 28)).alloc (.cells #[.bool p, .bool true, .bool sh, .bool sp, .bool z, .int .i64 (-1), .int .i64 prec, .int .i32 verb] 28)), x.w.cell? ⟨w.heap.size + 1, 7, none⟩ = some (.int .i32 verb) := fun x => x.cell (by simp)
    have hE1 : ∀ x : Cl ((w.alloc (.cells #[.bool p, .bool true, .bool sh, .bool sp, .bool z, .int .i64 wid, .int .i64 prec, .int .i32 verb] 28)).alloc (.cells #[.bool p, .bool true, .bool sh, .bool sp, .bool z, .int .i64 (-1), .int .i64 prec, .int .i32 verb] 28)), Esc x.w := fun x => (hE.below (((Below.refl _ w).alloc (Nat.le_refl _) _).alloc (by simp) _)).below x.below
    go_enter Tryd.func8, Tryd.ntmps8
    go_wp2_with (first | (go_at_call 9; refine (hc _).mono ?_; rintro e w1 ⟨rfl, rfl⟩) | (go_at_call_of 15 wid; refine (Cl.go0 (hT1 _ hE2)).mono ?_; rintro e w9 ⟨y, rfl, rfl⟩) | (go_at_call 15; refine (Cl.go (hT2 _ (hE1 _))).mono ?_; rintro e w9 ⟨y, rfl, rfl⟩))
    refine wp_region_above ((w.alloc (.cells #[.bool p, .bool true, .bool sh, .bool sp, .bool z, .int .i64 wid, .int .i64 prec, .int .i32 verb] 28)).alloc (.cells #[.bool p, .bool true, .bool sh, .bool sp, .bool z, .int .i64 (-1), .int .i64 prec, .int .i32 verb] 28)) y.below (by kernel_rfl) (by kernel_rfl) ?_
    intro hCl
    repeat (go_big_quiet_step ((first | (go_at_call_of 22 a; exact Cl.call (hK1 _)) | (go_at_call_of 22 r; exact Cl.call (hK2 _)) | (go_at_call 12; exact Cl.call (lives2_any _ (hE1 _))))))
    refine wpQuiet_nil ?_
    intro _ hw'
    obtain ⟨y, hx⟩ := hw'
    subst hx
    go_wp2
    go_ret
    exact ⟨rfl, hbA.trans (y.below.mono hbA.size)⟩
  | false =>
    have h4' := h4 rfl
    have hsub : (a.size : Int) - r.size = ((a.size - r.size : Nat) : Int) := by omega
    clear h3 h4
    have f0 : ∀ x : Cl ((w.alloc (.cells #[.bool p, .bool false, .bool sh, .bool sp, .bool z, .int .i64 wid, .int .i64 prec, .int .i32 verb] 28)).alloc (.cells #[.bool p, .bool false, .bool sh, .bool sp, .bool z, .int .i64 (-1), .int .i64 prec, .int .i32 verb] 28)), x.w.cell? ⟨w.heap.size, 0, none⟩ = some (.bool p) := fun x => x.cell (by simp)
    have f1 : ∀ x : Cl ((w.alloc (.cells #[.bool p, .bool false, .bool sh, .bool sp, .bool z, .int .i64 wid, .int .i64 prec, .int .i32 verb] 28)).alloc (.cells #[.bool p, .bool false, .bool sh, .bool sp, .bool z, .int .i64 (-1), .int .i64 prec, .int .i32 verb] 28)), x.w.cell? ⟨w.heap.size, 1, none⟩ = some (.bool false) := fun x => x.cell (by simp)
    have f2 : ∀ x : Cl ((w.alloc (.cells #[.bool p, .bool false, .bool sh, .bool sp, .bool z, .int .i64 wid, .int .i64 prec, .int .i32 verb] 28)).alloc (.cells #[.bool p, .bool false, .bool sh, .bool sp, .bool z, .int .i64 (-1), .int .i64 prec, .int .i32 verb] 28)), x.w.cell? ⟨w.heap.size, 2, none⟩ = some (.bool sh) := fun x => x.cell (by simp)
    have f3 : ∀ x : Cl ((w.alloc (.cells #[.bool p, .bool false, .bool sh, .bool sp, .bool z, .int .i64 wid, .int .i64 prec, .int .i32 verb] 28)).alloc (.cells #[.bool p, .bool false, .bool sh, .bool sp, .bool z, .int .i64 (-1), .int .i64 prec, .int .i32 verb] 28)), x.w.cell? ⟨w.heap.size, 3, none⟩ = some (.bool sp) := fun x => x.cell (by simp)
    have f4 : ∀ x : Cl ((w.alloc (.cells #[.bool p, .bool false, .bool sh, .bool sp, .bool z, .int .i64 wid, .int .i64 prec, .int .i32 verb] 28)).alloc (.cells #[.bool p, .bool false, .bool sh, .bool sp, .bool z, .int .i64 (-1), .int .i64 prec, .int .i32 verb] 28)), x.w.cell? ⟨w.heap.size, 4, none⟩ = some (.bool z) := fun x => x.cell (by simp)
    have f5 : ∀ x : Cl ((w.alloc (.cells #[.bool p, .bool false, .bool sh, .bool sp, .bool z, .int .i64 wid, .int .i64 prec, .int .i32 verb] 28)).alloc (.cells #[.bool p, .bool false, .bool sh, .bool sp, .bool z, .int .i64 (-1), .int .i64 prec, .int .i32 verb] 28)), x.w.cell? ⟨w.heap.size, 5, none⟩ = some (.int .i64 wid) := fun x => x.cell (by simp)
    have f6 : ∀ x : Cl ((w.alloc (.cells #[.bool p, .bool false, .bool sh, .bool sp, .bool z, .int .i64 wid, .int .i64 prec, .int .i32 verb] 28)).alloc (.cells #[.bool p, .bool false, .bool sh, .bool sp, .bool z, .int .i64 (-1), .int .i64 prec, .int .i32 verb] 28)), x.w.cell? ⟨w.heap.size, 6, none⟩ = some (.int .i64 prec) := fun x => x.cell (by simp)
    have f7 : ∀ x : Cl ((w.alloc (.cells #[.bool p, .bool false, .bool sh, .bool sp, .bool z, .int .i64 wid, .int .i64 prec, .int .i32 verb] 28)).alloc (.cells #[.bool p, .bool false, .bool sh, .bool sp, .bool z, .int .i64 (-1), .int .i64 prec, .int .i32 verb] 28)), x.w.cell? ⟨w.heap.size, 7, none⟩ = some (.int .i32 verb) := fun x => x.cell (by simp)
    have g0 : ∀ x : Cl ((w.alloc (.cells #[.bool p, .bool false, .bool sh, .bool sp, .bool z, .int .i64 wid, .int .i64 prec, .int .i32 verb] 28)).alloc (.cells #[.bool p, .bool false, .bool sh, .bool sp, .bool z, .int .i64 (-1), .int .i64 prec, .int .i32 verb] 28)), x.w.cell? ⟨w.heap.size + 1, 0, none⟩ = some (.bool p) := fun x => x.cell (by simp)
    have g1 : ∀ x : Cl ((w.alloc (.cells #[.bool p, .bool false, .bool sh, .bool sp, .bool z, .int .i64 wid, .int .i64 prec, .int .i32 verb] 28)).alloc (.cells #[.bool p, .bool false, .bool sh, .bool sp, .bool z, .int .i64 (-1), .int .i64 prec, .int .i32 verb] 28)), x.w.cell? ⟨w.heap.size + 1, 1, none⟩ = some (.bool false) := fun x => x.cell (by simp)
    have g2 : ∀ x : Cl ((w.alloc (.cells #[.bool p, .bool false, .bool sh, .bool sp, .bool z, .int .i64 wid, .int .i64 prec, .int .i32 verb] 28)).alloc (.cells #[.bool p, .bool false, .bool sh, .bool sp, .bool z, .int .i64 (-1), .int .i64 prec, .int .i32 verb] 28)), x.w.cell? ⟨w.heap.size + 1, 2, none⟩ = some (.bool sh) := fun x => x.cell (by simp)
    have g3 : ∀ x : Cl ((w.alloc (.cells #[.bool p, .bool false, .bool sh, .bool sp, .bool z, .int .i64 wid, .int .i64 prec, .int .i32 verb] 28)).alloc (.cells #[.bool p, .bool false, .bool sh, .bool sp, .bool z, .int .i64 (-1), .int .i64 prec, .int .i32 verb] 28)), x.w.cell? ⟨w.heap.size + 1, 3, none⟩ = some (.bool sp) := fun x => x.cell (by simp)
    have g4 : ∀ x : Cl ((w.alloc (.cells #[.bool p, .bool false, .bool sh, .bool sp, .bool z, .int .i64 wid, .int .i64 prec, .int .i32 verb] 28)).alloc (.cells #[.bool p, .bool false, .bool sh, .bool sp, .bool z, .int .i64 (-1), .int .i64 prec, .int .i32 verb] 28)), x.w.cell? ⟨w.heap.size + 1, 4, none⟩ = some (.bool z) := fun x => x.cell (by simp)
    have g5 : ∀ x : Cl ((w.alloc (.cells #[.bool p, .bool false, .bool sh, .bool sp, .bool z, .int .i64 wid, .int .i64 prec, .int .i32 verb] 28)).alloc (.cells #[.bool p, .bool false, .bool sh, .bool sp, .bool z, .int .i64 (-1), .int .i64 prec, .int .i32 verb] 28)), x.w.cell? ⟨w.heap.size + 1, 5, none⟩ = some (.int .i64 (-1)) := fun x => x.cell (by simp)
    have g6 : ∀ x : Cl ((w.alloc (.cells #[.bool p, .bool false, .bool sh, .bool sp, .bool z, .int .i64 wid, .int .i64 prec, .int .i32 verb] 28)).alloc (.cells #[.bool p, .bool false, .bool sh, .bool sp, .bool z, .int .i64 (-1), .int .i64 prec, .int .i32 verb] 28)), x.w.cell? ⟨w.heap.size + 1, 6, none⟩ = some (.int .i64 prec) := fun x => x.cell (by simp)
    have g7 : ∀ x : Cl ((w.alloc (.cells #[.bool p, .bool false, .bool sh, .bool sp, .bool z, .int .i64 wid, .int .i64 prec, .int .i32 verb] 28)).alloc (.cells #[.bool p, .bool false, .bool sh, .bool sp, .bool z, .int .i64 (-1), .int .i64 prec, .int .i32 verb] 28)), x.w.cell? ⟨w.heap.size + 1, 7, none⟩ = some (.int .i32 verb) := fun x => x.cell (by simp)
    have hE1 : ∀ x : Cl ((w.alloc (.cells #[.bool p, .bool false, .bool sh, .bool sp, .bool z, .int .i64 wid, .int .i64 prec, .int .i32 verb] 28)).alloc (.cells #[.bool p, .bool false, .bool sh, .bool sp, .bool z, .int .i64 (-1), .int .i64 prec, .int .i32 verb] 28)), Esc x.w := fun x => (hE.below (((Below.refl _ w).alloc (Nat.le_refl _) _).alloc (by simp) _)).below x.below
    go_enter Tryd.func8, Tryd.ntmps8
    go_wp2_with (first | (go_at_call 9; refine (hc _).mono ?_; rintro e w1 ⟨rfl, rfl⟩) | (go_at_call_of 15 wid; refine (Cl.go0 (hT1 _ hE2)).mono ?_; rintro e w9 ⟨y, rfl, rfl⟩) | (go_at_call 15; refine (Cl.go (hT2 _ (hE1 _))).mono ?_; rintro e w9 ⟨y, rfl, rfl⟩))
    refine wp_region_above ((w.alloc (.cells #[.bool p, .bool false, .bool sh, .bool sp, .bool z, .int .i64 wid, .int .i64 prec, .int .i32 verb] 28)).alloc (.cells #[.bool p, .bool false, .bool sh, .bool sp, .bool z, .int .i64 (-1), .int .i64 prec, .int .i32 verb] 28)) y.below (by kernel_rfl) (by kernel_rfl) ?_
    intro hCl
    repeat (go_big_quiet_step ((first | (go_at_call_of 22 a; exact Cl.call (hK1 _)) | (go_at_call_of 22 r; exact Cl.call (hK2 _)) | (go_at_call 12; exact Cl.call (lives2_any _ (hE1 _))))))
    refine wpQuiet_nil ?_
    intro _ hw'
    obtain ⟨y, hx⟩ := hw'
    subst hx
    go_wp2
    go_ret
    exact ⟨rfl, hbA.trans (y.below.mono hbA.size)⟩

theorem quoteWide_walk (s : ByteArray) (_hs : s.size ≤ maxLen) (p mi sh sp z : Bool) (wid prec verb : Int) (_h5 : (Lit.int .i64 wid).wf = true) (h6 : (Lit.int .i64 prec).wf = true) (w : World) (hE : Esc w) :
    Calls Tryd.prog 8 #[.string s, .agg #[.bool p, .bool mi, .bool sh, .bool sp, .bool z, .int .i64 wid, .int .i64 prec, .int .i32 verb]] w fun e w' => e = .returned (.bool true) ∧ Below w.heap.size w w' := by
  obtain ⟨u, hu, hc⟩ := lawCut_any s
  rcases text_core u p mi sh sp z prec verb hu (wf_le5 prec h6) with ⟨r, hr, hT⟩ | hT
  · exact quoteWide_yes s u r p mi sh sp z wid prec verb w hE hc hr hT
  · exact quoteWide_no s u p mi sh sp z wid prec verb w hE hc hT
end Go.Proofs.YtnoelbomcogndaaDoor
