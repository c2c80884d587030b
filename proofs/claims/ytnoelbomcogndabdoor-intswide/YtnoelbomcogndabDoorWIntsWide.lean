/- The walk of the law IntsWide. -/
import Derived.Test.YtnoelbomcogndabDoorLives3
namespace Go.Proofs.YtnoelbomcogndabDoor
open Go.RowKit
set_option linter.unusedVariables false

theorem pad_wide (r : ByteArray) (mi z : Bool) (wid : Int) : min wid 1000 ≤ (cntR (padS r mi z wid) : Nat) ∧ (padS r mi z wid).size ≤ r.size + 1000 := by
  have hl := lack_le r wid
  have hm := lack_max r wid
  cases mi with
  | true =>
    have e : padS r true z wid = r ++ run 32 (lack r wid) := by unfold padS; rw [if_pos rfl]; rfl
    rw [e, cnt_app_run r 32 _ (by omega), app_size, run_size]
    omega
  | false =>
    obtain ⟨c, hc, e⟩ : ∃ c, c < 128 ∧ padS r false z wid = run c (lack r wid) ++ r := by
      cases z
      · exact ⟨32, by omega, by unfold padS; rw [if_neg (by simp), if_neg (by simp)]; rfl⟩
      · exact ⟨48, by omega, by unfold padS; rw [if_neg (by simp), if_pos rfl]; rfl⟩
    rw [e, cnt_run_app c _ r hc, app_size, run_size]
    omega
/-- What is written has the width. -/
theorem num_wide (bits size : Nat) (sign : ByteArray) (p mi sh z : Bool) (wid prec verb : Int) (hs : sign.size ≤ 1) :
    (numK verb = true ∧ min wid 1000 ≤ (cntR (numS bits size sign p mi sh z wid prec verb) : Nat) ∨ numK verb = false ∧ numS bits size sign p mi sh z wid prec verb = ⟨#[]⟩) ∧ (numS bits size sign p mi sh z wid prec verb).size ≤ 5000 := by
  cases hk : numK verb with
  | false =>
    have e : numS bits size sign p mi sh z wid prec verb = ⟨#[]⟩ := by unfold numS; rw [numO_none _ _ _ _ _ _ _ _ _ _ hk]
    rw [e]
    exact ⟨.inr ⟨rfl, rfl⟩, by decide⟩
  | true =>
    cases ho : numO bits size sign p mi sh z wid prec verb with
    | none =>
      exfalso
      unfold numO at ho
      simp only [numK, decide_eq_true_eq] at hk
      repeat' split at ho
      all_goals simp_all
    | some x =>
      obtain ⟨r, z'⟩ := x
      have hz := numO_size bits size sign p mi sh z wid prec verb hs r z' ho
      have e : numS bits size sign p mi sh z wid prec verb = padS r mi z' wid := by unfold numS; rw [ho]
      have h := pad_wide r mi z' wid
      rw [e]
      exact ⟨.inl ⟨rfl, h.1⟩, by omega⟩
theorem numK_u (sh : Bool) (verb : Int) : numK (uVerb sh verb) = numK verb := by
  unfold uVerb
  split
  · rename_i h
    rw [h.1]; decide
  · rfl
theorem wf64 (n : Int) (h : (Lit.int .i64 n).wf = true) : -9223372036854775808 ≤ n ∧ n ≤ 9223372036854775807 := by
  simp [Lit.wf] at h
  first | exact h | omega | exact ⟨by omega, by omega⟩

set_option maxRecDepth 1000000 in
set_option maxHeartbeats 1000000 in
theorem intsWide_walk (v : Int) (hv : (Lit.int .i64 v).wf = true) (p mi sh sp z : Bool) (wid prec verb : Int) (_h5 : (Lit.int .i64 wid).wf = true) (_h6 : (Lit.int .i64 prec).wf = true) (w : World) (hE : Esc w) :
    Calls Tryd.prog 7 #[.int .i64 v, .agg #[.bool p, .bool mi, .bool sh, .bool sp, .bool z, .int .i64 wid, .int .i64 prec, .int .i32 verb]] w fun e w' => e = .returned (.bool true) ∧ Below w.heap.size w w' := by
  have hv' := wf64 v hv
  have hbA : Below w.heap.size w (w.alloc (.cells #[.bool p, .bool mi, .bool sh, .bool sp, .bool z, .int .i64 wid, .int .i64 prec, .int .i32 verb] 27)) := (Below.refl _ _).alloc (Nat.le_refl _) _
  have f0 : ∀ x : Cl (w.alloc (.cells #[.bool p, .bool mi, .bool sh, .bool sp, .bool z, .int .i64 wid, .int .i64 prec, .int .i32 verb] 27)), x.w.cell? ⟨w.heap.size, 0, none⟩ = some (.bool p) := fun x => x.cell (by simp)
  have f1 : ∀ x : Cl (w.alloc (.cells #[.bool p, .bool mi, .bool sh, .bool sp, .bool z, .int .i64 wid, .int .i64 prec, .int .i32 verb] 27)), x.w.cell? ⟨w.heap.size, 1, none⟩ = some (.bool mi) := fun x => x.cell (by simp)
  have f2 : ∀ x : Cl (w.alloc (.cells #[.bool p, .bool mi, .bool sh, .bool sp, .bool z, .int .i64 wid, .int .i64 prec, .int .i32 verb] 27)), x.w.cell? ⟨w.heap.size, 2, none⟩ = some (.bool sh) := fun x => x.cell (by simp)
  have f3 : ∀ x : Cl (w.alloc (.cells #[.bool p, .bool mi, .bool sh, .bool sp, .bool z, .int .i64 wid, .int .i64 prec, .int .i32 verb] 27)), x.w.cell? ⟨w.heap.size, 3, none⟩ = some (.bool sp) := fun x => x.cell (by simp)
  have f4 : ∀ x : Cl (w.alloc (.cells #[.bool p, .bool mi, .bool sh, .bool sp, .bool z, .int .i64 wid, .int .i64 prec, .int .i32 verb] 27)), x.w.cell? ⟨w.heap.size, 4, none⟩ = some (.bool z) := fun x => x.cell (by simp)
  have f5 : ∀ x : Cl (w.alloc (.cells #[.bool p, .bool mi, .bool sh, .bool sp, .bool z, .int .i64 wid, .int .i64 prec, .int .i32 verb] 27)), x.w.cell? ⟨w.heap.size, 5, none⟩ = some (.int .i64 wid) := fun x => x.cell (by simp)
  have f6 : ∀ x : Cl (w.alloc (.cells #[.bool p, .bool mi, .bool sh, .bool sp, .bool z, .int .i64 wid, .int .i64 prec, .int .i32 verb] 27)), x.w.cell? ⟨w.heap.size, 6, none⟩ = some (.int .i64 prec) := fun x => x.cell (by simp)
  have f7 : ∀ x : Cl (w.alloc (.cells #[.bool p, .bool mi, .bool sh, .bool sp, .bool z, .int .i64 wid, .int .i64 prec, .int .i32 verb] 27)), x.w.cell? ⟨w.heap.size, 7, none⟩ = some (.int .i32 verb) := fun x => x.cell (by simp)
  have hE1 : ∀ x : Cl (w.alloc (.cells #[.bool p, .bool mi, .bool sh, .bool sp, .bool z, .int .i64 wid, .int .i64 prec, .int .i32 verb] 27)), Esc x.w := fun x => (hE.below hbA).below x.below
  have hE2 := hE.below hbA
  have hA : ∀ w, Esc w → _ := fun w hE => isigned_any v p mi sh sp z wid prec verb w hE hv'.1 hv'.2
  have hB : ∀ w, Esc w → _ := fun w hE => iunsigned_any (uN v) p mi sh sp z wid prec verb w hE (uN_lt v)
  rw [numK_u] at hB
  have hW := wrap_uN v
  obtain ⟨ha, haz⟩ := num_wide (uN v) v.natAbs (sgS v p sp) p mi sh z wid prec verb (sgS_size v p sp)
  obtain ⟨hb, hbz⟩ := num_wide (uN v) (uN v) (signA p sp) p mi sh z wid prec (uVerb sh verb) (signA_size p sp)
  rw [numK_u] at hb
  clear hv hv' _h5 _h6
  generalize numS (uN v) v.natAbs (sgS v p sp) p mi sh z wid prec verb = a at *
  generalize numS (uN v) (uN v) (signA p sp) p mi sh z wid prec (uVerb sh verb) = b at *
  generalize uN v = u at *
  cases hk : numK verb with
  | false =>
    rw [hk] at ha hb hA hB
    have ha' : a = ⟨#[]⟩ := by rcases ha with ⟨h, -⟩ | ⟨-, h⟩; exact absurd h (by simp); exact h
    have hb' : b = ⟨#[]⟩ := by rcases hb with ⟨h, -⟩ | ⟨-, h⟩; exact absurd h (by simp); exact h
    subst ha' hb'
    clear ha hb hk
    go_enter Tryd.func7, Tryd.ntmps7
    go_wp2_with (first | (go_at_call 12; refine (Cl.go0 (hA _ hE2)).mono ?_; rintro e w9 ⟨y, rfl, rfl⟩) | (go_at_call 14; refine (Cl.go (hB _ (hE1 _))).mono ?_; rintro e w9 ⟨y, rfl, rfl⟩) | (go_at_call 11; refine (Cl.go (lives3_any _ (hE1 _))).mono ?_; rintro e w9 ⟨y, rfl, rfl⟩))
    go_ret
    exact ⟨rfl, hbA.trans (y.below.mono hbA.size)⟩
  | true =>
    rw [hk] at ha hb hA hB
    have ha' : min wid 1000 ≤ (cntR a : Nat) := by rcases ha with ⟨-, h⟩ | ⟨h, -⟩; exact h; exact absurd h (by simp)
    have hb' : min wid 1000 ≤ (cntR b : Nat) := by rcases hb with ⟨-, h⟩ | ⟨h, -⟩; exact h; exact absurd h (by simp)
    clear ha hb hk
    have hK1 : ∀ w, Calls Tryd.prog 17 #[.string a] w fun e w' => e = .returned (.int .i64 (cntR a : Nat)) ∧ Below w.heap.size w w' := fun w => count_any a w (by unfold maxLen; omega)
    have hK2 : ∀ w, Calls Tryd.prog 17 #[.string b] w fun e w' => e = .returned (.int .i64 (cntR b : Nat)) ∧ Below w.heap.size w w' := fun w => count_any b w (by unfold maxLen; omega)
    generalize cntR a = na at *
    generalize cntR b = nb at *
    go_enter Tryd.func7, Tryd.ntmps7
    go_wp2_with (first | (go_at_call 12; refine (Cl.go0 (hA _ hE2)).mono ?_; rintro e w9 ⟨y, rfl, rfl⟩) | (go_at_call 14; refine (Cl.go (hB _ (hE1 _))).mono ?_; rintro e w9 ⟨y, rfl, rfl⟩) | (go_at_call_of 17 a; refine (Cl.go (hK1 _)).mono ?_; rintro e w9 ⟨y, rfl, rfl⟩) | (go_at_call_of 17 b; refine (Cl.go (hK2 _)).mono ?_; rintro e w9 ⟨y, rfl, rfl⟩) | (go_at_call 11; refine (Cl.go (lives3_any _ (hE1 _))).mono ?_; rintro e w9 ⟨y, rfl, rfl⟩))
    go_ret
    exact ⟨rfl, hbA.trans (y.below.mono hbA.size)⟩
end Go.Proofs.YtnoelbomcogndabDoor
