/- The walk of the law BufPadded. -/
import Derived.Test.YtnbbjfajcolpkaaLives
import Derived.Test.YtnbbjfajcolpkaaPlain5
import Derived.Test.YtnbbjfajcolpkaaPlain6
import Derived.OpenShut
import Derived.Deep.RegionWith
import Derived.Deep.LoopGhost
import Derived.Deep.DeepCutAuto
import Derived.Deep.CutBlock
namespace Go.Proofs.Ytnbbjfajcolpkaa
open Go.RowKit
set_option linter.unusedVariables false

set_option maxRecDepth 1000000 in
set_option maxHeartbeats 1600000 in
theorem bufPadded_minus (s : ByteArray) (p sh sp : Bool) (z : Bool) (wid prec verb : Int) (w : World) :
    Calls Try.prog 8 #[.string s, .agg #[.bool p, .bool true, .bool sh, .bool sp, .bool z, .int .i64 wid, .int .i64 prec, .int .i32 verb]] w fun e w' => e = .returned (.bool true) ∧ Below w.heap.size w w' := by
  go_enter Try.func8, Try.ntmps8
  go_upto_if 12 with fail
  go_cut [0] (fun v wx => wx = w.alloc (.cells #[.bool p, .bool true, .bool sh, .bool sp, .bool z, .int .i64 wid, .int .i64 prec, .int .i32 verb] 36) ∧ ∃ u : ByteArray, v = .string u ∧ u.size ≤ 2000)
  case first =>
    go_wp2
    all_goals go_meet
    · exact ⟨rfl, _, rfl, by rw [ByteArray.size_extract]; omega⟩
    · exact ⟨rfl, _, rfl, by omega⟩
  case rest =>
    obtain ⟨rfl, u, rfl, hu⟩ := hcut
    have hum : u.size ≤ maxLen := by unfold maxLen; omega
    obtain ⟨K, hK⟩ : ∃ K, lack u wid = K := ⟨_, rfl⟩
    have hKl : K ≤ 1000 := by rw [← hK]; exact lack_le u wid
    obtain ⟨T, hT⟩ : ∃ T, u ++ run 32 K = T := ⟨_, rfl⟩
    have hTs : T.size = u.size + K := by rw [← hT, app_size, run_size]
    have hTc : cntR T = cntR u + K := by rw [← hT]; exact cnt_app_run u 32 K (by omega)
    have hTh : T.extract 0 u.size = u := by rw [← hT]; exact app_head _ _
    have hTr : T.extract u.size T.size = run 32 K := by rw [← hT]; exact app_rest _ _
    have hmx := lack_max u wid
    have hcall : ∀ w', Calls Try.prog 20 #[.string u, .agg #[.bool p, .bool true, .bool sh, .bool sp, .bool z, .int .i64 wid, .int .i64 prec, .int .i32 verb]] w' fun e w'' => e = .returned (.string T) ∧ Below w'.heap.size w' w'' := by
      intro w'
      refine (pad_any u p true sh sp z wid prec verb w' (by omega)).mono ?_
      rintro e w'' ⟨rfl, hb⟩
      refine ⟨ret_str ?_, hb⟩
      rw [← hT, ← hK]; rfl
    rw [hK, ← hTc] at hmx
    have hTm : T.size ≤ maxLen := by rw [hTs]; unfold maxLen; omega
    have HM : Hid (max (cntR u : Int) (min wid 1000) = ((cntR T : Nat) : Int)) := hmx
    have HR : Hid (T.extract u.size T.size = run 32 K) := hTr
    have hTge : u.size ≤ T.size := by omega
    have hTle : T.size ≤ 3000 := by omega
    clear hT hTc hK hmx hTr hTs
    go_upto_region 4 with (go_at_call 20; refine (hcall _).mono ?_; rintro e w1 ⟨rfl, hb1⟩; have d1 : w1.cell? ⟨w.heap.size, 1, none⟩ = some (.bool true) := (by rw [hb1.cell (by simp)]; simp); have d4 : w1.cell? ⟨w.heap.size, 4, none⟩ = some (.bool z) := (by rw [hb1.cell (by simp)]; simp); have d5 : w1.cell? ⟨w.heap.size, 5, none⟩ = some (.int .i64 wid) := (by rw [hb1.cell (by simp)]; simp); have hz1 : w.heap.size < w1.heap.size := (by have := hb1.size; simp at this; omega))
    go_cut [6] (fun v wx => v = .int .i64 (cntR T : Nat) ∧ Below w1.heap.size w1 wx)
    case first =>
      go_region_with (go_at_call 14; refine (count_any u _ hum).mono ?_; rintro e w2 ⟨rfl, hb2⟩; have e5 : w2.cell? ⟨w.heap.size, 5, none⟩ = some (.int .i64 wid) := (by rw [hb2.cell (by exact hz1)]; exact d5))
      all_goals go_wp2_with fail
      all_goals go_meet
      all_goals exact ⟨val_int HM.out, ((Below.refl _ w1).drew).trans hb2⟩
    case rest =>
      obtain ⟨rfl, hb2⟩ := hcut
      have f1 : wc.cell? ⟨w.heap.size, 1, none⟩ = some (.bool true) := by rw [hb2.cell (by exact hz1)]; exact d1
      have f4 : wc.cell? ⟨w.heap.size, 4, none⟩ = some (.bool z) := by rw [hb2.cell (by exact hz1)]; exact d4
      have hzc : w.heap.size < wc.heap.size := Nat.lt_of_lt_of_le hz1 hb2.size
      obtain ⟨F, hF⟩ : ∃ F, T.extract u.size T.size = F := ⟨_, rfl⟩
      have hFr : F = run 32 K := by rw [← hF]; exact HR.out
      have hFb : ∀ i (h : i < F.size), (F[i]'h).toNat = 32 := by
        intro i h
        subst hFr
        exact run_get 32 K i (by omega) h
      have hFl : F.size ≤ 1000 := by rw [hFr, run_size]; exact hKl
      have hFT : F.size ≤ T.size := by rw [← hF, ByteArray.size_extract]; omega
      have HB : Hid (∀ i (h : i < F.size), (F[i]'h).toNat = 32) := hFb
      clear d1 d4 d5 hcall hFb hFr HR HM
      go_wp2_with (go_at_call 14; refine (count_any T _ hTm).mono ?_; rintro e w3 ⟨rfl, hb3⟩; have g1 : w3.cell? ⟨w.heap.size, 1, none⟩ = some (.bool true) := (by rw [hb3.cell (by exact hzc)]; exact f1); have g4 : w3.cell? ⟨w.heap.size, 4, none⟩ = some (.bool z) := (by rw [hb3.cell (by exact hzc)]; exact f4))
      all_goals
        go_loopw [9] (fun i wr => ∃ k : Nat, i = .int .i64 k ∧ k ≤ F.size ∧ wr = w3) (fun i _ => F.size - (intOf i).toNat)
        case atStart => exact ⟨0, rfl, Nat.zero_le _, rfl⟩
        case round =>
          obtain ⟨k, rfl, hk, rfl⟩ := hrel
          by_cases hlt : k < F.size
          · have hbk := HB.out k hlt
            go_wp2
            go_roundw
            case rel => exact ⟨k + 1, by go_num, by omega, by first | rfl | trivial⟩
            case measure => simp [intOf]; omega
          · go_wp2_with (go_at_call 11; refine (lives_any _).mono ?_; rintro e w5 ⟨rfl, hb5⟩)
            go_ret
            exact ⟨rfl, ((Below.refl _ _).alloc (Nat.le_refl _) _).trans ((hb1.trans ((hb2.trans ((hb3.trans (hb5.mono hb3.size)).mono hb2.size)).mono hb1.size)).mono (by simp))⟩

set_option maxRecDepth 1000000 in
set_option maxHeartbeats 1600000 in
theorem bufPadded_zero (s : ByteArray) (p sh sp : Bool)  (wid prec verb : Int) (w : World) :
    Calls Try.prog 8 #[.string s, .agg #[.bool p, .bool false, .bool sh, .bool sp, .bool true, .int .i64 wid, .int .i64 prec, .int .i32 verb]] w fun e w' => e = .returned (.bool true) ∧ Below w.heap.size w w' := by
  go_enter Try.func8, Try.ntmps8
  go_upto_if 12 with fail
  go_cut [0] (fun v wx => wx = w.alloc (.cells #[.bool p, .bool false, .bool sh, .bool sp, .bool true, .int .i64 wid, .int .i64 prec, .int .i32 verb] 36) ∧ ∃ u : ByteArray, v = .string u ∧ u.size ≤ 2000)
  case first =>
    go_wp2
    all_goals go_meet
    · exact ⟨rfl, _, rfl, by rw [ByteArray.size_extract]; omega⟩
    · exact ⟨rfl, _, rfl, by omega⟩
  case rest =>
    obtain ⟨rfl, u, rfl, hu⟩ := hcut
    have hum : u.size ≤ maxLen := by unfold maxLen; omega
    obtain ⟨K, hK⟩ : ∃ K, lack u wid = K := ⟨_, rfl⟩
    have hKl : K ≤ 1000 := by rw [← hK]; exact lack_le u wid
    obtain ⟨T, hT⟩ : ∃ T, run 48 K ++ u = T := ⟨_, rfl⟩
    have hTs : T.size = u.size + K := by rw [← hT, app_size, run_size]; omega
    have hTc : cntR T = cntR u + K := by rw [← hT, cnt_run_app 48 K u (by omega)]; omega
    have hTh : T.extract K T.size = u := by rw [← hT]; exact run_app_tail _ _ _
    have hTr : T.extract 0 (T.size - u.size) = run 48 K := by
      have e : T.size - u.size = (run 48 K).size := by rw [hTs, run_size]; omega
      rw [e, ← hT]; exact app_head _ _
    have hmx := lack_max u wid
    have hcall : ∀ w', Calls Try.prog 20 #[.string u, .agg #[.bool p, .bool false, .bool sh, .bool sp, .bool true, .int .i64 wid, .int .i64 prec, .int .i32 verb]] w' fun e w'' => e = .returned (.string T) ∧ Below w'.heap.size w' w'' := by
      intro w'
      refine (pad_any u p false sh sp true wid prec verb w' (by omega)).mono ?_
      rintro e w'' ⟨rfl, hb⟩
      refine ⟨ret_str ?_, hb⟩
      rw [← hT, ← hK]; rfl
    rw [hK, ← hTc] at hmx
    have hTm : T.size ≤ maxLen := by rw [hTs]; unfold maxLen; omega
    have HM : Hid (max (cntR u : Int) (min wid 1000) = ((cntR T : Nat) : Int)) := hmx
    have HR : Hid (T.extract 0 (T.size - u.size) = run 48 K) := hTr
    have hTge : u.size ≤ T.size := by omega
    have hTle : T.size ≤ 3000 := by omega
    clear hT hTc hK hmx hTr hTs
    go_upto_region 4 with (go_at_call 20; refine (hcall _).mono ?_; rintro e w1 ⟨rfl, hb1⟩; have d1 : w1.cell? ⟨w.heap.size, 1, none⟩ = some (.bool false) := (by rw [hb1.cell (by simp)]; simp); have d4 : w1.cell? ⟨w.heap.size, 4, none⟩ = some (.bool true) := (by rw [hb1.cell (by simp)]; simp); have d5 : w1.cell? ⟨w.heap.size, 5, none⟩ = some (.int .i64 wid) := (by rw [hb1.cell (by simp)]; simp); have hz1 : w.heap.size < w1.heap.size := (by have := hb1.size; simp at this; omega))
    go_cut [6] (fun v wx => v = .int .i64 (cntR T : Nat) ∧ Below w1.heap.size w1 wx)
    case first =>
      go_region_with (go_at_call 14; refine (count_any u _ hum).mono ?_; rintro e w2 ⟨rfl, hb2⟩; have e5 : w2.cell? ⟨w.heap.size, 5, none⟩ = some (.int .i64 wid) := (by rw [hb2.cell (by exact hz1)]; exact d5))
      all_goals go_wp2_with fail
      all_goals go_meet
      all_goals exact ⟨val_int HM.out, ((Below.refl _ w1).drew).trans hb2⟩
    case rest =>
      obtain ⟨rfl, hb2⟩ := hcut
      have f1 : wc.cell? ⟨w.heap.size, 1, none⟩ = some (.bool false) := by rw [hb2.cell (by exact hz1)]; exact d1
      have f4 : wc.cell? ⟨w.heap.size, 4, none⟩ = some (.bool true) := by rw [hb2.cell (by exact hz1)]; exact d4
      have hzc : w.heap.size < wc.heap.size := Nat.lt_of_lt_of_le hz1 hb2.size
      obtain ⟨F, hF⟩ : ∃ F, T.extract 0 (T.size - u.size) = F := ⟨_, rfl⟩
      have hFr : F = run 48 K := by rw [← hF]; exact HR.out
      have hFb : ∀ i (h : i < F.size), (F[i]'h).toNat = 48 := by
        intro i h
        subst hFr
        exact run_get 48 K i (by omega) h
      have hFl : F.size ≤ 1000 := by rw [hFr, run_size]; exact hKl
      have hFT : F.size ≤ T.size := by rw [← hF, ByteArray.size_extract]; omega
      have HB : Hid (∀ i (h : i < F.size), (F[i]'h).toNat = 48) := hFb
      have HTH : Hid (T.extract K T.size = u) := hTh
      have hTh2 : T.extract F.size T.size = u := by rw [hFr, run_size]; exact HTH.out
      clear hTh
      clear d1 d4 d5 hcall hFb hFr HR HM
      go_wp2_with (go_at_call 14; refine (count_any T _ hTm).mono ?_; rintro e w3 ⟨rfl, hb3⟩; have g1 : w3.cell? ⟨w.heap.size, 1, none⟩ = some (.bool false) := (by rw [hb3.cell (by exact hzc)]; exact f1); have g4 : w3.cell? ⟨w.heap.size, 4, none⟩ = some (.bool true) := (by rw [hb3.cell (by exact hzc)]; exact f4))
      all_goals
        go_loopw [9] (fun i wr => ∃ k : Nat, i = .int .i64 k ∧ k ≤ F.size ∧ wr = w3) (fun i _ => F.size - (intOf i).toNat)
        case atStart => exact ⟨0, rfl, Nat.zero_le _, rfl⟩
        case round =>
          obtain ⟨k, rfl, hk, rfl⟩ := hrel
          by_cases hlt : k < F.size
          · have hbk := HB.out k hlt
            go_wp2
            go_roundw
            case rel => exact ⟨k + 1, by go_num, by omega, by first | rfl | trivial⟩
            case measure => simp [intOf]; omega
          · go_wp2_with (go_at_call 11; refine (lives_any _).mono ?_; rintro e w5 ⟨rfl, hb5⟩)
            go_ret
            exact ⟨rfl, ((Below.refl _ _).alloc (Nat.le_refl _) _).trans ((hb1.trans ((hb2.trans ((hb3.trans (hb5.mono hb3.size)).mono hb2.size)).mono hb1.size)).mono (by simp))⟩

set_option maxRecDepth 1000000 in
set_option maxHeartbeats 1600000 in
theorem bufPadded_blank (s : ByteArray) (p sh sp : Bool)  (wid prec verb : Int) (w : World) :
    Calls Try.prog 8 #[.string s, .agg #[.bool p, .bool false, .bool sh, .bool sp, .bool false, .int .i64 wid, .int .i64 prec, .int .i32 verb]] w fun e w' => e = .returned (.bool true) ∧ Below w.heap.size w w' := by
  go_enter Try.func8, Try.ntmps8
  go_upto_if 12 with fail
  go_cut [0] (fun v wx => wx = w.alloc (.cells #[.bool p, .bool false, .bool sh, .bool sp, .bool false, .int .i64 wid, .int .i64 prec, .int .i32 verb] 36) ∧ ∃ u : ByteArray, v = .string u ∧ u.size ≤ 2000)
  case first =>
    go_wp2
    all_goals go_meet
    · exact ⟨rfl, _, rfl, by rw [ByteArray.size_extract]; omega⟩
    · exact ⟨rfl, _, rfl, by omega⟩
  case rest =>
    obtain ⟨rfl, u, rfl, hu⟩ := hcut
    have hum : u.size ≤ maxLen := by unfold maxLen; omega
    obtain ⟨K, hK⟩ : ∃ K, lack u wid = K := ⟨_, rfl⟩
    have hKl : K ≤ 1000 := by rw [← hK]; exact lack_le u wid
    obtain ⟨T, hT⟩ : ∃ T, run 32 K ++ u = T := ⟨_, rfl⟩
    have hTs : T.size = u.size + K := by rw [← hT, app_size, run_size]; omega
    have hTc : cntR T = cntR u + K := by rw [← hT, cnt_run_app 32 K u (by omega)]; omega
    have hTh : T.extract K T.size = u := by rw [← hT]; exact run_app_tail _ _ _
    have hTr : T.extract 0 (T.size - u.size) = run 32 K := by
      have e : T.size - u.size = (run 32 K).size := by rw [hTs, run_size]; omega
      rw [e, ← hT]; exact app_head _ _
    have hmx := lack_max u wid
    have hcall : ∀ w', Calls Try.prog 20 #[.string u, .agg #[.bool p, .bool false, .bool sh, .bool sp, .bool false, .int .i64 wid, .int .i64 prec, .int .i32 verb]] w' fun e w'' => e = .returned (.string T) ∧ Below w'.heap.size w' w'' := by
      intro w'
      refine (pad_any u p false sh sp false wid prec verb w' (by omega)).mono ?_
      rintro e w'' ⟨rfl, hb⟩
      refine ⟨ret_str ?_, hb⟩
      rw [← hT, ← hK]; rfl
    rw [hK, ← hTc] at hmx
    have hTm : T.size ≤ maxLen := by rw [hTs]; unfold maxLen; omega
    have HM : Hid (max (cntR u : Int) (min wid 1000) = ((cntR T : Nat) : Int)) := hmx
    have HR : Hid (T.extract 0 (T.size - u.size) = run 32 K) := hTr
    have hTge : u.size ≤ T.size := by omega
    have hTle : T.size ≤ 3000 := by omega
    clear hT hTc hK hmx hTr hTs
    go_upto_region 4 with (go_at_call 20; refine (hcall _).mono ?_; rintro e w1 ⟨rfl, hb1⟩; have d1 : w1.cell? ⟨w.heap.size, 1, none⟩ = some (.bool false) := (by rw [hb1.cell (by simp)]; simp); have d4 : w1.cell? ⟨w.heap.size, 4, none⟩ = some (.bool false) := (by rw [hb1.cell (by simp)]; simp); have d5 : w1.cell? ⟨w.heap.size, 5, none⟩ = some (.int .i64 wid) := (by rw [hb1.cell (by simp)]; simp); have hz1 : w.heap.size < w1.heap.size := (by have := hb1.size; simp at this; omega))
    go_cut [6] (fun v wx => v = .int .i64 (cntR T : Nat) ∧ Below w1.heap.size w1 wx)
    case first =>
      go_region_with (go_at_call 14; refine (count_any u _ hum).mono ?_; rintro e w2 ⟨rfl, hb2⟩; have e5 : w2.cell? ⟨w.heap.size, 5, none⟩ = some (.int .i64 wid) := (by rw [hb2.cell (by exact hz1)]; exact d5))
      all_goals go_wp2_with fail
      all_goals go_meet
      all_goals exact ⟨val_int HM.out, ((Below.refl _ w1).drew).trans hb2⟩
    case rest =>
      obtain ⟨rfl, hb2⟩ := hcut
      have f1 : wc.cell? ⟨w.heap.size, 1, none⟩ = some (.bool false) := by rw [hb2.cell (by exact hz1)]; exact d1
      have f4 : wc.cell? ⟨w.heap.size, 4, none⟩ = some (.bool false) := by rw [hb2.cell (by exact hz1)]; exact d4
      have hzc : w.heap.size < wc.heap.size := Nat.lt_of_lt_of_le hz1 hb2.size
      obtain ⟨F, hF⟩ : ∃ F, T.extract 0 (T.size - u.size) = F := ⟨_, rfl⟩
      have hFr : F = run 32 K := by rw [← hF]; exact HR.out
      have hFb : ∀ i (h : i < F.size), (F[i]'h).toNat = 32 := by
        intro i h
        subst hFr
        exact run_get 32 K i (by omega) h
      have hFl : F.size ≤ 1000 := by rw [hFr, run_size]; exact hKl
      have hFT : F.size ≤ T.size := by rw [← hF, ByteArray.size_extract]; omega
      have HB : Hid (∀ i (h : i < F.size), (F[i]'h).toNat = 32) := hFb
      have HTH : Hid (T.extract K T.size = u) := hTh
      have hTh2 : T.extract F.size T.size = u := by rw [hFr, run_size]; exact HTH.out
      clear hTh
      clear d1 d4 d5 hcall hFb hFr HR HM
      go_wp2_with (go_at_call 14; refine (count_any T _ hTm).mono ?_; rintro e w3 ⟨rfl, hb3⟩; have g1 : w3.cell? ⟨w.heap.size, 1, none⟩ = some (.bool false) := (by rw [hb3.cell (by exact hzc)]; exact f1); have g4 : w3.cell? ⟨w.heap.size, 4, none⟩ = some (.bool false) := (by rw [hb3.cell (by exact hzc)]; exact f4))
      all_goals
        go_loopw [9] (fun i wr => ∃ k : Nat, i = .int .i64 k ∧ k ≤ F.size ∧ wr = w3) (fun i _ => F.size - (intOf i).toNat)
        case atStart => exact ⟨0, rfl, Nat.zero_le _, rfl⟩
        case round =>
          obtain ⟨k, rfl, hk, rfl⟩ := hrel
          by_cases hlt : k < F.size
          · have hbk := HB.out k hlt
            go_wp2
            go_roundw
            case rel => exact ⟨k + 1, by go_num, by omega, by first | rfl | trivial⟩
            case measure => simp [intOf]; omega
          · go_wp2_with (go_at_call 11; refine (lives_any _).mono ?_; rintro e w5 ⟨rfl, hb5⟩)
            go_ret
            exact ⟨rfl, ((Below.refl _ _).alloc (Nat.le_refl _) _).trans ((hb1.trans ((hb2.trans ((hb3.trans (hb5.mono hb3.size)).mono hb2.size)).mono hb1.size)).mono (by simp))⟩

theorem bufPadded_walk (s : ByteArray) (_ : s.size ≤ maxLen) (p mi sh sp z : Bool) (wid prec verb : Int) (_ : (Lit.int .i64 wid).wf = true) (w : World) :
    Calls Try.prog 8 #[.string s, .agg #[.bool p, .bool mi, .bool sh, .bool sp, .bool z, .int .i64 wid, .int .i64 prec, .int .i32 verb]] w fun e w' => e = .returned (.bool true) ∧ Below w.heap.size w w' := by
  cases mi with
  | true => exact bufPadded_minus s p sh sp z wid prec verb w
  | false =>
    cases z with
    | true => exact bufPadded_zero s p sh sp wid prec verb w
    | false => exact bufPadded_blank s p sh sp wid prec verb w
end Go.Proofs.Ytnbbjfajcolpkaa
