/- The walk of the law ParseIndexes. -/
import Derived.Test.YtilgemppbiibkaaPIdx
namespace Go.Proofs.Ytilgemppbiibkaa
open Go.RowKit
set_option linter.unusedVariables false
set_option linter.unusedSimpArgs false

theorem ba_ext9 {a b : ByteArray} (h : a.data.toList = b.data.toList) : a = b := by
  apply ByteArray.ext; apply Array.ext'; exact h
/-- Parse of a text that is one piece. -/
abbrev P1C (t : ByteArray) (p : Pc) : Prop := ∀ w, Calls Try.prog 10 #[.string t] w fun e w' => ∃ g c, e = .returned (.slice (some ⟨g, 0, none⟩) 1 c) ∧ 1 ≤ c ∧ (∀ i v, (pcV p (ba p.text))[i]? = some v → w'.cell? ⟨g, i, none⟩ = some v) ∧ g < w'.heap.size ∧ Below w.heap.size w w'
theorem parse_one {t : ByteArray} {l : Bs} {p : Pc} (ht : t.size ≤ 1000) (hl : t.data.toList = l) (h : prs l = [p]) : P1C t p := fun w => by
  refine (parse_any t (by omega) w).mono ?_
  rintro e w' ⟨v, rfl, o, b⟩
  rw [hl, h] at o
  obtain ⟨a, c, rfl, h1, -⟩ := own_slice9 o
  obtain ⟨g, rfl, h2, h3⟩ := own_bx1 o
  exact ⟨g, c, rfl, h1, h3.c, h3.b, b⟩
theorem index_5 (a b c d e : Value) (w : World) : (Instr.index 48 (.agg #[a, b, c, d, e]) (.int .i64 0)).run Try.prog w = .ok a w ∧ (Instr.index 48 (.agg #[a, b, c, d, e]) (.int .i64 1)).run Try.prog w = .ok b w ∧ (Instr.index 48 (.agg #[a, b, c, d, e]) (.int .i64 2)).run Try.prog w = .ok c w ∧ (Instr.index 48 (.agg #[a, b, c, d, e]) (.int .i64 3)).run Try.prog w = .ok d w ∧ (Instr.index 48 (.agg #[a, b, c, d, e]) (.int .i64 4)).run Try.prog w = .ok e w :=
  ⟨by kernel_rfl, by kernel_rfl, by kernel_rfl, by kernel_rfl, by kernel_rfl⟩
set_option maxRecDepth 1000000 in
set_option maxHeartbeats 8000000 in
theorem parseIndexes_walk (x0 : Int) (wx0 : (Lit.int .i64 x0).wf = true) (x1 : Int) (wx1 : (Lit.int .i64 x1).wf = true) (x2 : Int) (wx2 : (Lit.int .i64 x2).wf = true) (w : World) :
    Calls Try.prog 8 #[.int .i64 x0, .int .i64 x1, .int .i64 x2] w fun e w' => e = .returned (.bool true) ∧ Below w.heap.size w w' := by
  obtain ⟨i, hi, hi1⟩ : ∃ i : Nat, max 1 (min x0 999999999) = (i : Int) ∧ (0 < i ∧ i ≤ 999999999) := ⟨(max 1 (min x0 999999999)).toNat, by omega, by omega⟩
  obtain ⟨j, hj, hj1⟩ : ∃ i : Nat, max 1 (min x1 999999999) = (i : Int) ∧ (0 < i ∧ i ≤ 999999999) := ⟨(max 1 (min x1 999999999)).toNat, by omega, by omega⟩
  obtain ⟨k, hk, hk1⟩ : ∃ i : Nat, max 1 (min x2 999999999) = (i : Int) ∧ (0 < i ∧ i ≤ 999999999) := ⟨(max 1 (min x2 999999999)).toNat, by omega, by omega⟩
  have hL := lives9_any
  have d1 := fun w => digits9_any i hi1.2 w
  have d2 := fun w => digits9_any j hj1.2 w
  have d3 := fun w => digits9_any k hk1.2 w
  have q1 := (dgt_ok i hi1.1 hi1.2).2.2.2.1
  have q2 := (dgt_ok j hj1.1 hj1.2).2.2.2.1
  have q3 := (dgt_ok k hk1.1 hk1.2).2.2.2.1
  have s1 : ((ba (dgt i)).size : Int) ≤ 9 := by rw [ba_size]; omega
  have s2 : ((ba (dgt j)).size : Int) ≤ 9 := by rw [ba_size]; omega
  have s3 : ((ba (dgt k)).size : Int) ≤ 9 := by rw [ba_size]; omega
  have hA : ∀ n, (⟨#[91]⟩ ++ ba (dgt n)) ++ ⟨#[93]⟩ = ba (ixB n) := fun n => by
    refine ba_ext9 ?_
    rw [app_list, app_list]
    simp [ba, ixB]
  have z1 : (ba (ixB i)).size ≤ 11 := by rw [ba_size]; simp [ixB]; omega
  have z2 : (ba (ixB j)).size ≤ 11 := by rw [ba_size]; simp [ixB]; omega
  have z3 : (ba (ixB k)).size ≤ 11 := by rw [ba_size]; simp [ixB]; omega
  have lA : ∀ n, (ba (ixB n)).data.toList = ixB n := fun n => by simp [ba]
  have g1 := f1 hi1 hj1 hk1
  have g2 := f2 hi1
  have g3 := f3 hi1
  have g4 := f4 hi1
  have g5 := f5 hi1 hj1
  have g7 := f7 hk1
  have l1 := lA i
  have l2 := lA j
  have l3 := lA k
  have HA1 : Hid ((⟨#[91]⟩ ++ ba (dgt i)) ++ ⟨#[93]⟩ = ba (ixB i)) := hA i
  have HA2 : Hid ((⟨#[91]⟩ ++ ba (dgt j)) ++ ⟨#[93]⟩ = ba (ixB j)) := hA j
  have HA3 : Hid ((⟨#[91]⟩ ++ ba (dgt k)) ++ ⟨#[93]⟩ = ba (ixB k)) := hA k
  generalize ba (ixB i) = A at *
  generalize ba (ixB j) = B at *
  generalize ba (ixB k) = C at *
  have P1 : P1C ((((((⟨#[37]⟩ ++ A) ++ ⟨#[42, 46]⟩) ++ B) ++ ⟨#[42]⟩) ++ C) ++ ⟨#[100]⟩) _ := parse_one (by simp only [app_size, show (⟨#[37]⟩ : ByteArray).size = 1 from rfl, show (⟨#[42, 46]⟩ : ByteArray).size = 2 from rfl, show (⟨#[42]⟩ : ByteArray).size = 1 from rfl, show (⟨#[100]⟩ : ByteArray).size = 1 from rfl, show (⟨#[53, 100]⟩ : ByteArray).size = 2 from rfl, show (⟨#[46, 51, 100]⟩ : ByteArray).size = 3 from rfl, show (⟨#[51, 100]⟩ : ByteArray).size = 2 from rfl, show (⟨#[37, 46]⟩ : ByteArray).size = 2 from rfl, show (⟨#[37, 42, 46]⟩ : ByteArray).size = 3 from rfl, show (⟨#[42, 100]⟩ : ByteArray).size = 2 from rfl]; omega) (by simp only [app_list, l1, l2, l3]; simp) g1
  have P2 : P1C ((⟨#[37]⟩ ++ A) ++ ⟨#[53, 100]⟩) _ := parse_one (by simp only [app_size, show (⟨#[37]⟩ : ByteArray).size = 1 from rfl, show (⟨#[42, 46]⟩ : ByteArray).size = 2 from rfl, show (⟨#[42]⟩ : ByteArray).size = 1 from rfl, show (⟨#[100]⟩ : ByteArray).size = 1 from rfl, show (⟨#[53, 100]⟩ : ByteArray).size = 2 from rfl, show (⟨#[46, 51, 100]⟩ : ByteArray).size = 3 from rfl, show (⟨#[51, 100]⟩ : ByteArray).size = 2 from rfl, show (⟨#[37, 46]⟩ : ByteArray).size = 2 from rfl, show (⟨#[37, 42, 46]⟩ : ByteArray).size = 3 from rfl, show (⟨#[42, 100]⟩ : ByteArray).size = 2 from rfl]; omega) (by simp only [app_list, l1, l2, l3]; simp) g2
  have P3 : P1C ((⟨#[37]⟩ ++ A) ++ ⟨#[46, 51, 100]⟩) _ := parse_one (by simp only [app_size, show (⟨#[37]⟩ : ByteArray).size = 1 from rfl, show (⟨#[42, 46]⟩ : ByteArray).size = 2 from rfl, show (⟨#[42]⟩ : ByteArray).size = 1 from rfl, show (⟨#[100]⟩ : ByteArray).size = 1 from rfl, show (⟨#[53, 100]⟩ : ByteArray).size = 2 from rfl, show (⟨#[46, 51, 100]⟩ : ByteArray).size = 3 from rfl, show (⟨#[51, 100]⟩ : ByteArray).size = 2 from rfl, show (⟨#[37, 46]⟩ : ByteArray).size = 2 from rfl, show (⟨#[37, 42, 46]⟩ : ByteArray).size = 3 from rfl, show (⟨#[42, 100]⟩ : ByteArray).size = 2 from rfl]; omega) (by simp only [app_list, l1, l2, l3]; simp) g3
  have P4 : P1C ((⟨#[37, 46]⟩ ++ A) ++ ⟨#[51, 100]⟩) _ := parse_one (by simp only [app_size, show (⟨#[37]⟩ : ByteArray).size = 1 from rfl, show (⟨#[42, 46]⟩ : ByteArray).size = 2 from rfl, show (⟨#[42]⟩ : ByteArray).size = 1 from rfl, show (⟨#[100]⟩ : ByteArray).size = 1 from rfl, show (⟨#[53, 100]⟩ : ByteArray).size = 2 from rfl, show (⟨#[46, 51, 100]⟩ : ByteArray).size = 3 from rfl, show (⟨#[51, 100]⟩ : ByteArray).size = 2 from rfl, show (⟨#[37, 46]⟩ : ByteArray).size = 2 from rfl, show (⟨#[37, 42, 46]⟩ : ByteArray).size = 3 from rfl, show (⟨#[42, 100]⟩ : ByteArray).size = 2 from rfl]; omega) (by simp only [app_list, l1, l2, l3]; simp) g4
  have P5 : P1C (((⟨#[37]⟩ ++ A) ++ B) ++ ⟨#[100]⟩) _ := parse_one (by simp only [app_size, show (⟨#[37]⟩ : ByteArray).size = 1 from rfl, show (⟨#[42, 46]⟩ : ByteArray).size = 2 from rfl, show (⟨#[42]⟩ : ByteArray).size = 1 from rfl, show (⟨#[100]⟩ : ByteArray).size = 1 from rfl, show (⟨#[53, 100]⟩ : ByteArray).size = 2 from rfl, show (⟨#[46, 51, 100]⟩ : ByteArray).size = 3 from rfl, show (⟨#[51, 100]⟩ : ByteArray).size = 2 from rfl, show (⟨#[37, 46]⟩ : ByteArray).size = 2 from rfl, show (⟨#[37, 42, 46]⟩ : ByteArray).size = 3 from rfl, show (⟨#[42, 100]⟩ : ByteArray).size = 2 from rfl]; omega) (by simp only [app_list, l1, l2, l3]; simp) g5
  have P6 : P1C ⟨#[37, 91, 48, 93, 100]⟩ _ := parse_one (by decide) rfl f6
  have P7 : P1C ((⟨#[37, 42, 46]⟩ ++ C) ++ ⟨#[42, 100]⟩) _ := parse_one (by simp only [app_size, show (⟨#[37]⟩ : ByteArray).size = 1 from rfl, show (⟨#[42, 46]⟩ : ByteArray).size = 2 from rfl, show (⟨#[42]⟩ : ByteArray).size = 1 from rfl, show (⟨#[100]⟩ : ByteArray).size = 1 from rfl, show (⟨#[53, 100]⟩ : ByteArray).size = 2 from rfl, show (⟨#[46, 51, 100]⟩ : ByteArray).size = 3 from rfl, show (⟨#[51, 100]⟩ : ByteArray).size = 2 from rfl, show (⟨#[37, 46]⟩ : ByteArray).size = 2 from rfl, show (⟨#[37, 42, 46]⟩ : ByteArray).size = 3 from rfl, show (⟨#[42, 100]⟩ : ByteArray).size = 2 from rfl]; omega) (by simp only [app_list, l1, l2, l3]; simp) g7
  have y1 : (A.size : Int) ≤ 11 := by omega
  have y2 : (B.size : Int) ≤ 11 := by omega
  have y3 : (C.size : Int) ≤ 11 := by omega
  clear g1 g2 g3 g4 g5 g7 l1 l2 l3 hA lA z1 z2 z3 q1 q2 q3 wx0 wx1 wx2
  have HI : Hid (max 1 (min x0 999999999) = (i : Int) ∧ max 1 (min x1 999999999) = (j : Int) ∧ max 1 (min x2 999999999) = (k : Int)) := ⟨hi, hj, hk⟩
  clear hi hj hk hi1 hj1 hk1
  go_enter Try.func8, Try.ntmps8
  go_upto_region 1 with fail
  go_cut [0, 1, 2] (fun x y z wx => x = .int .i64 (i : Nat) ∧ y = .int .i64 (j : Nat) ∧ z = .int .i64 (k : Nat) ∧ wx = w)
  case first =>
    generalize hJ : (999999999 : Int) = J at *
    have HJ : Hid (J = 999999999) := hJ.symm
    clear hJ P1 P2 P3 P4 P5 P6 P7 d1 d2 d3
    go_wp2
    all_goals
      go_meet
      obtain ⟨h1, h2, h3⟩ := HI.out
      refine ⟨?_, ?_, ?_, rfl⟩
    all_goals (congr 1; omega)
  case rest =>
    obtain ⟨rfl, rfl, rfl, hw⟩ := hcut
    have hw2 : w = wc := hw.symm
    subst hw2
    clear hw HI
    go_upto_region 2 with fail
    go_cut [7, 8, 9] (fun x y z wx => x = .string A ∧ y = .string B ∧ z = .string C ∧ Below w.heap.size w wx)
    case first =>
      clear P1 P2 P3 P4 P5 P6 P7
      go_wp2_with (first
        | (go_at_call_of 15 i; refine (d1 _).mono ?_; rintro e w1 ⟨rfl, b1⟩)
        | (go_at_call_of 15 j; refine (d2 _).mono ?_; rintro e w2 ⟨rfl, b2⟩)
        | (go_at_call_of 15 k; refine (d3 _).mono ?_; rintro e w3 ⟨rfl, b3⟩))
      go_meet
      rw [HA1.out, HA2.out, HA3.out]
      exact ⟨rfl, rfl, rfl, (b1.trans (b2.mono b1.size)).trans (b3.mono (Nat.le_trans b1.size b2.size))⟩
    case rest =>
      obtain ⟨rfl, rfl, rfl, hb0⟩ := hcut
      clear d1 d2 d3 s1 s2 s3 HA1 HA2 HA3
      go_upto_region 6 with (go_at_call 10; refine (P1 _).mono ?_; rintro e w4 ⟨g, c, rfl, c1, mc, mg, b4⟩; have m10 := mc 10 _ rfl; have m11 := mc 11 _ rfl; have m12 := mc 12 _ rfl; have m13 := mc 13 _ rfl; have m14 := mc 14 _ rfl; have m15 := mc 15 _ rfl; have m16 := mc 16 _ rfl; have m17 := mc 17 _ rfl; have m18 := mc 18 _ rfl; have m19 := mc 19 _ rfl)
      clear P1 m10 m11 m12 m13 m14 m15 m16 m17 m18 m19 mc
      obtain ⟨T2, hT2⟩ : ∃ T2, T2 = (⟨#[37]⟩ ++ A) ++ ⟨#[53, 100]⟩ := ⟨_, rfl⟩
      obtain ⟨T3, hT3⟩ : ∃ T3, T3 = (⟨#[37]⟩ ++ A) ++ ⟨#[46, 51, 100]⟩ := ⟨_, rfl⟩
      obtain ⟨T4, hT4⟩ : ∃ T4, T4 = (⟨#[37, 46]⟩ ++ A) ++ ⟨#[51, 100]⟩ := ⟨_, rfl⟩
      obtain ⟨T5, hT5⟩ : ∃ T5, T5 = ((⟨#[37]⟩ ++ A) ++ B) ++ ⟨#[100]⟩ := ⟨_, rfl⟩
      rw [← hT2] at P2
      rw [← hT3] at P3
      rw [← hT4] at P4
      rw [← hT5] at P5
      go_cut [92, 93] (fun x y wx => x = .agg #[.string T2, .string T3, .string T4, .string T5, .string ⟨#[37, 91, 48, 93, 100]⟩] ∧ y = .int .i64 0 ∧ wx = w4)
      case first =>
        have HT : Hid (T2 = (⟨#[37]⟩ ++ A) ++ ⟨#[53, 100]⟩ ∧ T3 = (⟨#[37]⟩ ++ A) ++ ⟨#[46, 51, 100]⟩ ∧ T4 = (⟨#[37, 46]⟩ ++ A) ++ ⟨#[51, 100]⟩ ∧ T5 = ((⟨#[37]⟩ ++ A) ++ B) ++ ⟨#[100]⟩) := ⟨hT2, hT3, hT4, hT5⟩
        clear hT2 hT3 hT4 hT5 P2 P3 P4 P5 P6 P7
        go_wp2
        go_meet
        obtain ⟨t2, t3, t4, t5⟩ := HT.out
        rw [t2, t3, t4, t5]
        exact ⟨rfl, rfl, rfl⟩
      case rest =>
        obtain ⟨rfl, rfl, hw⟩ := hcut
        have hw2 : w4 = wc := hw.symm
        subst hw2
        clear hw hT2 hT3 hT4 hT5
        have hb4 : Below w.heap.size w w4 := hb0.trans (b4.mono hb0.size)
        have ixa := fun W => (index_5 (.string T2) (.string T3) (.string T4) (.string T5) (.string ⟨#[37, 91, 48, 93, 100]⟩) W).1
        have ixb := fun W => (index_5 (.string T2) (.string T3) (.string T4) (.string T5) (.string ⟨#[37, 91, 48, 93, 100]⟩) W).2.1
        have ixc := fun W => (index_5 (.string T2) (.string T3) (.string T4) (.string T5) (.string ⟨#[37, 91, 48, 93, 100]⟩) W).2.2.1
        have ixd := fun W => (index_5 (.string T2) (.string T3) (.string T4) (.string T5) (.string ⟨#[37, 91, 48, 93, 100]⟩) W).2.2.2.1
        have ixe := fun W => (index_5 (.string T2) (.string T3) (.string T4) (.string T5) (.string ⟨#[37, 91, 48, 93, 100]⟩) W).2.2.2.2
        go_wp2_with fail
        go_loopg [12, 13, 93] 5 (fun gg xv yv iv wr => ∃ n : Nat, iv = .int .i64 (n : Nat) ∧ n + gg = 5 ∧ Below w.heap.size w wr)
        case atStart => exact ⟨0, rfl, rfl, hb4⟩
        case round =>
          obtain ⟨n, rfl, hng, hb⟩ := hrel
          clear hb4
          by_cases hn : n < 5
          · have hp : ∀ (t : ByteArray) (p : Pc), P1C t p → p.verb = 100 → p.arg = ix2 → ∀ W, Calls Try.prog 10 #[.string t] W fun e w' => ∃ g c, e = .returned (.slice (some ⟨g, 0, none⟩) 1 c) ∧ w'.cell? ⟨g, 9, none⟩ = some (.int .i32 100) ∧ w'.cell? ⟨g, 18, none⟩ = some (.int .i64 2) ∧ w'.cell? ⟨g, 19, none⟩ = some (.int .i64 0) ∧ Below W.heap.size W w' := fun t p hP h1 h2 W => (hP W).mono fun e w' ⟨g, c, e1, e2, e3, e4, e5⟩ => ⟨g, c, e1, by have := e3 9 _ rfl; rw [h1] at this; exact this, by have := e3 18 _ rfl; rw [h2] at this; exact this, by have := e3 19 _ rfl; rw [h2] at this; exact this, e5⟩
            have Q2 := hp _ _ P2 rfl rfl
            have Q3 := hp _ _ P3 rfl rfl
            have Q4 := hp _ _ P4 rfl rfl
            have Q5 := hp _ _ P5 rfl rfl
            have Q6 := hp _ _ P6 rfl rfl
            clear hp P2 P3 P4 P5 P6 P7
            rcases (by omega : n = 0 ∨ n = 1 ∨ n = 2 ∨ n = 3 ∨ n = 4) with rfl | rfl | rfl | rfl | rfl
            · go_wp2_with (go_at_call 10; refine (Q2 _).mono ?_; rintro e w5 ⟨g5, c5, rfl, m9, m18, m19, b5⟩)
              go_roundg (gk - 1)
              case measure => omega
              case rel => exact ⟨1, by go_num, by omega, hb.trans (b5.mono hb.size)⟩
            · go_wp2_with (go_at_call 10; refine (Q3 _).mono ?_; rintro e w5 ⟨g5, c5, rfl, m9, m18, m19, b5⟩)
              go_roundg (gk - 1)
              case measure => omega
              case rel => exact ⟨2, by go_num, by omega, hb.trans (b5.mono hb.size)⟩
            · go_wp2_with (go_at_call 10; refine (Q4 _).mono ?_; rintro e w5 ⟨g5, c5, rfl, m9, m18, m19, b5⟩)
              go_roundg (gk - 1)
              case measure => omega
              case rel => exact ⟨3, by go_num, by omega, hb.trans (b5.mono hb.size)⟩
            · go_wp2_with (go_at_call 10; refine (Q5 _).mono ?_; rintro e w5 ⟨g5, c5, rfl, m9, m18, m19, b5⟩)
              go_roundg (gk - 1)
              case measure => omega
              case rel => exact ⟨4, by go_num, by omega, hb.trans (b5.mono hb.size)⟩
            · go_wp2_with (go_at_call 10; refine (Q6 _).mono ?_; rintro e w5 ⟨g5, c5, rfl, m9, m18, m19, b5⟩)
              go_roundg (gk - 1)
              case measure => omega
              case rel => exact ⟨5, by go_num, by omega, hb.trans (b5.mono hb.size)⟩
          · obtain rfl : n = 5 := by omega
            clear P2 P3 P4 P5 P6 ixa ixb ixc ixd ixe
            go_wp2_with (first
              | (go_at_call 10; refine (P7 _).mono ?_; rintro e w5 ⟨g5, c5, rfl, c6, mc, mg5, b5⟩; have m12 := mc 12 _ rfl; have m13 := mc 13 _ rfl; have m17 := mc 17 _ rfl; have m18 := mc 18 _ rfl; have m19 := mc 19 _ rfl)
              | (go_at_call 13; refine (hL _).mono ?_; rintro e w6 ⟨rfl, b6⟩))
            go_ret
            exact ⟨rfl, (hb.trans (b5.mono hb.size)).trans (b6.mono (Nat.le_trans hb.size b5.size))⟩
end Go.Proofs.Ytilgemppbiibkaa
