/- The walk of the law FloatsRefuses. -/
import Derived.Test.YtkeoafidgfmhlacGreatDoorPkF26
namespace Go.Proofs.YtkeoafidgfmhlacGreatDoor
open Go.RowKit
set_option linter.unusedVariables false
set_option linter.unusedSimpArgs false

set_option maxRecDepth 1000000 in
set_option maxHeartbeats 8000000 in
theorem refuses_walk {bits : Nat} {size : Int} {S : ByteArray} {ok want is : Bool} (p mi sh sp z : Bool) (wid prec verb : Int) (hF : FlC bits size p mi sh sp z wid prec verb S ok) (hw : want = (decide (size = 32) || decide (size = 64))) (hv : fVerb verb = is) (hok : ok = (want && is)) (hS : ok = true ∧ 0 < S.size ∨ ok = false ∧ S.size = 0) (w : World) :
    Calls Tryz.prog 3 #[.int .u64 bits, .int .i64 size, .agg #[.bool p, .bool mi, .bool sh, .bool sp, .bool z, .int .i64 wid, .int .i64 prec, .int .i32 verb]] w fun e w' => e = .returned (.bool true) ∧ Below w.heap.size w w' := by
  have hL := lives6_any
  have hbA : Below w.heap.size w (w.alloc (.cells #[.bool p, .bool mi, .bool sh, .bool sp, .bool z, .int .i64 wid, .int .i64 prec, .int .i32 verb] 24)) := (Below.refl _ _).alloc (Nat.le_refl _) _
  have f0 : ∀ x : Cl (w.alloc (.cells #[.bool p, .bool mi, .bool sh, .bool sp, .bool z, .int .i64 wid, .int .i64 prec, .int .i32 verb] 24)), x.w.cell? ⟨w.heap.size, 0, none⟩ = some (.bool p) := fun x => x.cell (by simp)
  have f1 : ∀ x : Cl (w.alloc (.cells #[.bool p, .bool mi, .bool sh, .bool sp, .bool z, .int .i64 wid, .int .i64 prec, .int .i32 verb] 24)), x.w.cell? ⟨w.heap.size, 1, none⟩ = some (.bool mi) := fun x => x.cell (by simp)
  have f2 : ∀ x : Cl (w.alloc (.cells #[.bool p, .bool mi, .bool sh, .bool sp, .bool z, .int .i64 wid, .int .i64 prec, .int .i32 verb] 24)), x.w.cell? ⟨w.heap.size, 2, none⟩ = some (.bool sh) := fun x => x.cell (by simp)
  have f3 : ∀ x : Cl (w.alloc (.cells #[.bool p, .bool mi, .bool sh, .bool sp, .bool z, .int .i64 wid, .int .i64 prec, .int .i32 verb] 24)), x.w.cell? ⟨w.heap.size, 3, none⟩ = some (.bool sp) := fun x => x.cell (by simp)
  have f4 : ∀ x : Cl (w.alloc (.cells #[.bool p, .bool mi, .bool sh, .bool sp, .bool z, .int .i64 wid, .int .i64 prec, .int .i32 verb] 24)), x.w.cell? ⟨w.heap.size, 4, none⟩ = some (.bool z) := fun x => x.cell (by simp)
  have f5 : ∀ x : Cl (w.alloc (.cells #[.bool p, .bool mi, .bool sh, .bool sp, .bool z, .int .i64 wid, .int .i64 prec, .int .i32 verb] 24)), x.w.cell? ⟨w.heap.size, 5, none⟩ = some (.int .i64 wid) := fun x => x.cell (by simp)
  have f6 : ∀ x : Cl (w.alloc (.cells #[.bool p, .bool mi, .bool sh, .bool sp, .bool z, .int .i64 wid, .int .i64 prec, .int .i32 verb] 24)), x.w.cell? ⟨w.heap.size, 6, none⟩ = some (.int .i64 prec) := fun x => x.cell (by simp)
  have f7 : ∀ x : Cl (w.alloc (.cells #[.bool p, .bool mi, .bool sh, .bool sp, .bool z, .int .i64 wid, .int .i64 prec, .int .i32 verb] 24)), x.w.cell? ⟨w.heap.size, 7, none⟩ = some (.int .i32 verb) := fun x => x.cell (by simp)
  have HD : Hid (∀ k, k < 10 → Utf8.decode vbS k = ((vbL.getD k 0).toNat, 1)) := vb_dec
  have HP : Hid (∀ k, k < 10 → (((vbL.getD k 0).toNat : Nat) : Int) = vbL.getD k 0) := vb_pos
  have HS : Hid (∀ k, k < 10 → decide (verb ∈ vbL.take (k + 1)) = (decide (verb ∈ vbL.take k) || decide (vbL.getD k 0 = verb))) := fun k h => vb_step k h verb
  have HA : Hid (decide (verb ∈ vbL.take 10) = is) := (vb_all verb).trans hv
  have hz : vbS.size = 10 := rfl
  have HE : Hid (ok = (want && is)) := hok
  clear hok hv
  have hwc : want = true ∧ size = 32 ∨ want = true ∧ size = 64 ∨ want = false ∧ ¬ size = 32 ∧ ¬ size = 64 := by
    by_cases h1 : size = 32
    · exact .inl ⟨by rw [hw, decide_eq_true h1]; rfl, h1⟩
    · by_cases h2 : size = 64
      · exact .inr (.inl ⟨by rw [hw, decide_eq_true h2]; simp, h2⟩)
      · exact .inr (.inr ⟨by rw [hw, decide_eq_false h1, decide_eq_false h2]; rfl, h1, h2⟩)
  clear hw
  have hue : S.toList.isEmpty = !ok := by
    rcases hS with ⟨h1, h2⟩ | ⟨h1, h2⟩
    · rw [h1, empty_no S h2]; rfl
    · rw [h1, empty_yes S h2]; rfl
  clear hS
  rcases hwc with ⟨rfl, rfl⟩ | ⟨rfl, rfl⟩ | ⟨rfl, h1, h2⟩
  all_goals
    try have b1 : (size == 32) = false := beq_eq_false_iff_ne.2 h1
    try have b2 : (size == 64) = false := beq_eq_false_iff_ne.2 h2
    go_enter Tryz.func3, Tryz.ntmps3
    go_wp2_with (go_at_call 4; (with_reducible refine (hF _).mono ?_); rintro x w2 ⟨rfl, hb2⟩; obtain ⟨y2, rfl⟩ := Cl.start hb2)
    have hit : ∀ pos, Below (w.alloc (.cells #[.bool p, .bool mi, .bool sh, .bool sp, .bool z, .int .i64 wid, .int .i64 prec, .int .i32 verb] 24)).heap.size (w.alloc (.cells #[.bool p, .bool mi, .bool sh, .bool sp, .bool z, .int .i64 wid, .int .i64 prec, .int .i32 verb] 24)) (y2.w.iter vbS pos) := fun pos => bel_call y2.below (iter_below _ _ _) (Nat.le_refl _)
    have hc7 : ∀ pos, (y2.w.iter vbS pos).cell? ⟨w.heap.size, 7, none⟩ = some (.int .i32 verb) := fun pos => f7 ⟨_, hit pos⟩
    go_loopw [10, 12] (fun iv n w' => ∃ pos : Nat, ∃ b : Bool, w' = y2.w.iter vbS pos ∧ iv = .bool b ∧ pos ≤ 10 ∧ Hid (decide (verb ∈ vbL.take pos) = b)) (fun _ _ w' => 10 - w'.iterPos y2.w.heap.size)
    case atStart => exact ⟨0, false, rfl, rfl, by omega, rfl⟩
    case round =>
      obtain ⟨pos, b, rfl, rfl, hpos, HM⟩ := hrel
      have hc := hc7 pos
      by_cases hp : pos < 10
      · have hd := HD.out pos hp
        have hpp := HP.out pos hp
        have hst := HS.out pos hp
        rw [HM.out] at hst
        have hnx : ∀ ty, (Instr.next (.pointer (some ⟨y2.w.heap.size, 0, none⟩)) true ty).run Tryz.prog (y2.w.iter vbS pos) = _ := fun ty => run_next_any y2.w vbS pos ty (by rw [hz]; exact hp)
        rw [hd] at hnx
        simp only [hpp] at hnx
        have HM2 : Hid (decide (verb ∈ vbL.take (pos + 1)) = (b || decide (vbL.getD pos 0 = verb))) := hst
        clear HD HP HS HA HM hst hd hpp HE
        generalize vbL.getD pos 0 = c at *
        cases b with
        | true =>
          have HM3 : Hid (decide (verb ∈ vbL.take (pos + 1)) = true) := by show _ = _; rw [HM2.out]; rfl
          go_wp2
          go_roundw
          case rel => exact ⟨pos + 1, true, rfl, rfl, by omega, HM3⟩
          case measure =>
            simp
            omega
        | false =>
          by_cases hcv : c = verb
          · have b3 : (c == verb) = true := beq_iff_eq.2 hcv
            have HM3 : Hid (decide (verb ∈ vbL.take (pos + 1)) = true) := by show _ = _; rw [HM2.out, decide_eq_true hcv]; rfl
            clear hcv
            go_wp2
            go_roundw
            case rel => exact ⟨pos + 1, true, rfl, rfl, by omega, HM3⟩
            case measure =>
              simp
              omega
          · have b3 : (c == verb) = false := beq_eq_false_iff_ne.2 hcv
            have HM3 : Hid (decide (verb ∈ vbL.take (pos + 1)) = false) := by show _ = _; rw [HM2.out, decide_eq_false hcv]; rfl
            clear hcv
            go_wp2
            go_roundw
            case rel => exact ⟨pos + 1, false, rfl, rfl, by omega, HM3⟩
            case measure =>
              simp
              omega
      · have hnx : ∀ ty, (Instr.next (.pointer (some ⟨y2.w.heap.size, 0, none⟩)) true ty).run Tryz.prog (y2.w.iter vbS pos) = _ := fun ty => run_next_end y2.w vbS pos ty (by rw [hz]; exact hp)
        have e1 : b = is := by rw [← HM.out, ← HA.out, show pos = 10 by omega]
        have e2 := HE.out
        have hbl := hit pos
        clear HD HP HS HA HM HE
        rw [← e1] at e2
        clear e1
        cases b <;> cases ok
        all_goals first
          | (exfalso; exact absurd e2 (by decide))
          | (clear e2
             simp only [Bool.not_true, Bool.not_false] at hue
             go_wp2_with (go_at_call 5; refine (hL _).mono ?_; rintro x w6 ⟨rfl, hb6⟩)
             go_ret
             exact ⟨rfl, bel_call (bel_call hbA hbl (Nat.le_refl _)) hb6 (Nat.le_refl _)⟩)
theorem padS_ge (s : ByteArray) (mi z : Bool) (wid : Int) : s.size ≤ (padS s mi z wid).size := by
  unfold padS
  repeat' split
  all_goals rw [app_size]; omega
theorem filT_pos {s t : ByteArray} (mi z : Bool) (wid : Int) (h : 1 ≤ t.size) : 0 < (filT s t mi z wid).size := by
  have h1 := padS_ge (s ++ (if z = true ∧ mi = false then lnA t ((wdt wid : Nat) - (s.size : Nat)) else t)) mi false wid
  rw [app_size] at h1
  have h2 : t.size ≤ (if z = true ∧ mi = false then lnA t ((wdt wid : Nat) - (s.size : Nat)) else t).size := by
    split
    · rw [lnA_size]; omega
    · exact Nat.le_refl _
  unfold filT
  omega
theorem floatsRefuses_walk (m0 : Int) (hm0 : (Lit.int .u64 m0).wf = true) (size : Int) (_hs : (Lit.int .i64 size).wf = true) (p mi sh sp z : Bool) (wid prec verb : Int) (_h5 : (Lit.int .i64 wid).wf = true) (_h6 : (Lit.int .i64 prec).wf = true) (w : World) :
    Calls Tryz.prog 3 #[.int .u64 m0, .int .i64 size, .agg #[.bool p, .bool mi, .bool sh, .bool sp, .bool z, .int .i64 wid, .int .i64 prec, .int .i32 verb]] w fun e w' => e = .returned (.bool true) ∧ Below w.heap.size w w' := by
  obtain ⟨h0, h1⟩ := wfu64 m0 hm0
  obtain ⟨bits, rfl⟩ := Int.eq_ofNat_of_zero_le h0
  have hb : bits < 18446744073709551616 := by omega
  by_cases hs : size = 32 ∨ size = 64
  · have hw : (decide (size = 32) || decide (size = 64)) = true := by
      rcases hs with h | h
      · rw [decide_eq_true h]; rfl
      · rw [decide_eq_true h]; simp
    cases hv : fVerb verb with
    | false => exact refuses_walk p mi sh sp z wid prec verb (float_none hb p mi sh sp z wid prec verb (.inl hv)) hw.symm hv rfl (.inr ⟨rfl, rfl⟩) w
    | true =>
      obtain ⟨f, ww, least, I, hly⟩ : ∃ (f ww : Nat) (least : Int) (I : Nat), Ly size f ww least I := by
        rcases hs with rfl | rfl
        · exact ⟨_, _, _, _, lyA⟩
        · exact ⟨_, _, _, _, lyB⟩
      obtain ⟨o1, o2⟩ := float_odd hly hb p mi sh sp z wid prec verb hv
      rcases Nat.lt_trichotomy (bare f ww bits) I with hp | hp | hp
      · obtain ⟨d, hd, gd, hF⟩ := fin_of hly hb hp
        have hz := (fin_size (sh := sh) (prec := prec) (e := least + pk f (bare f ww bits)) (verb := verb) hF.fv hF.dl hF.dp hF.m53).1
        exact refuses_walk p mi sh sp z wid prec verb (float_fin hF p mi sh sp z wid prec verb hv) hw.symm hv rfl (.inl ⟨rfl, filT_pos mi z wid hz⟩) w
      · refine refuses_walk p mi sh sp z wid prec verb (o1 hp) hw.symm hv rfl (.inl ⟨rfl, ?_⟩) w
        have := padS_ge (sgI (sgn f ww bits) p sp ++ ⟨#[73, 110, 102]⟩) mi false wid
        rw [app_size, show (⟨#[73, 110, 102]⟩ : ByteArray).size = 3 from rfl] at this
        omega
      · refine refuses_walk p mi sh sp z wid prec verb (o2 hp) hw.symm hv rfl (.inl ⟨rfl, ?_⟩) w
        have := padS_ge (sgF false p sp ++ ⟨#[78, 97, 78]⟩) mi false wid
        rw [app_size, show (⟨#[78, 97, 78]⟩ : ByteArray).size = 3 from rfl] at this
        omega
  · have hw : (decide (size = 32) || decide (size = 64)) = false := by rw [decide_eq_false (by omega), decide_eq_false (by omega)]; rfl
    exact refuses_walk p mi sh sp z wid prec verb (float_none hb p mi sh sp z wid prec verb (.inr ⟨by omega, by omega⟩)) hw.symm rfl rfl (.inr ⟨rfl, rfl⟩) w
end Go.Proofs.YtkeoafidgfmhlacGreatDoor
