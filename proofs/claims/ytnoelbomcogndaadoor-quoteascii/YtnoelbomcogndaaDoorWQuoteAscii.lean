/- The walk of the law QuoteAscii. -/
import Derived.Test.YtnoelbomcogndaaDoorLives2
import Derived.Test.YtnoelbomcogndaaDoorLawCut
import Derived.Test.YtnoelbomcogndaaDoorQAsc
import Derived.Test.YtnoelbomcogndaaDoorQReg
import Derived.Deep.LoopGhost
namespace Go.Proofs.YtnoelbomcogndaaDoor
open Go.RowKit
set_option linter.unusedVariables false

theorem pair_0 (a b : ByteArray) (w : World) : (Instr.index 34 (.agg #[.string a, .string b]) (.int .i64 0)).run Tryd.prog w = .ok (.string a) w := by kernel_rfl
theorem pair_1 (a b : ByteArray) (w : World) : (Instr.index 34 (.agg #[.string a, .string b]) (.int .i64 1)).run Tryd.prog w = .ok (.string b) w := by kernel_rfl

set_option maxRecDepth 1000000 in
set_option maxHeartbeats 2000000 in
theorem quoteAscii_walk (s : ByteArray) (_hs : s.size ≤ maxLen) (c : Int) (_hc : (Lit.int .i32 c).wf = true) (w : World) (hE : Esc w) :
    Calls Tryd.prog 6 #[.string s, .int .i32 c] w fun e w' => e = .returned (.bool true) ∧ Below w.heap.size w w' := by
  obtain ⟨u, hu, hcut⟩ := lawCut_any s
  have hQ1 : ∀ w, Esc w → Calls Tryd.prog 17 #[.string u, .bool true] w fun e w' => e = .returned (.string (quoS u true)) ∧ Below w.heap.size w w' := fun w hE => quote_any u true w hE (by omega)
  have hQ0 : ∀ w, Esc w → Calls Tryd.prog 17 #[.string u, .bool false] w fun e w' => e = .returned (.string (quoS u false)) ∧ Below w.heap.size w w' := fun w hE => quote_any u false w hE (by omega)
  have hCh : ∀ w, Esc w → Calls Tryd.prog 18 #[.int .i32 c, .bool true] w fun e w' => e = .returned (.string (chrS c true)) ∧ Below w.heap.size w w' := fun w hE => char_any c true w hE
  have z1 := quoS_size u true
  have z0 := quoS_size u false
  have z2 : (chrS c true).size ≤ 12 := by
    have h := inL_len (pt c) 39 true
    show (39 :: (inL (pt c) 39 true ++ [39])).toArray.size ≤ 12
    simp; omega
  have A1 : Hid (Asc (quoS u true).data.toList) := quoS_asc u
  have A2 : Hid (Asc (chrS c true).data.toList) := chrS_asc c
  have A0 : Hid (PT (quoS u false).data.toList) := quoS_PT u
  generalize quoS u true = QA at *
  generalize quoS u false = QB at *
  generalize chrS c true = CA at *
  have hE1 : ∀ x : Cl w, Esc x.w := fun x => hE.below x.below
  have i0 := pair_0 QA CA
  have i1 := pair_1 QA CA
  clear _hs _hc
  go_enter Tryd.func6, Tryd.ntmps6
  go_wp2_with (first | (go_at_call 9; refine (hcut _).mono ?_; rintro e w ⟨rfl, rfl⟩) | (go_at_call 17; refine (Cl.go0 (hQ1 _ hE)).mono ?_; rintro e w9 ⟨y, rfl, rfl⟩) | (go_at_call 18; refine (Cl.go (hCh _ (hE1 _))).mono ?_; rintro e w9 ⟨y, rfl, rfl⟩))
  go_loopg [18] 2 (fun g i wr => wr = y.w ∧ ∃ k : Nat, i = .int .i64 k ∧ k + g = 2)
  case atStart => exact ⟨rfl, 0, rfl, rfl⟩
  case round =>
    obtain ⟨rfl, k, rfl, hkg⟩ := hrel
    by_cases hk : k < 2
    · obtain ⟨T, hT, AT, zT⟩ : ∃ T : ByteArray, (∀ w, (Instr.index 34 (.agg #[.string QA, .string CA]) (.int .i64 (k : Int))).run Tryd.prog w = .ok (.string T) w) ∧ Hid (Asc T.data.toList) ∧ T.size ≤ 100000 := by
        rcases (by omega : k = 0 ∨ k = 1) with rfl | rfl
        · exact ⟨QA, i0, A1, by omega⟩
        · exact ⟨CA, i1, A2, by omega⟩
      have hkI : (k : Int) < 2 := by omega
      clear i0 i1
      go_wp2
      go_loopg [7] T.size (fun g i wr => wr = y.w ∧ ∃ n : Nat, i = .int .i64 n ∧ n + g = T.size)
      case atStart => exact ⟨rfl, 0, rfl, Nat.zero_add _⟩
      case round =>
        obtain ⟨rfl, n, rfl, hng⟩ := hrel
        by_cases hn : n < T.size
        · have hnI : (n : Int) < T.size := by omega
          obtain ⟨b1, b2⟩ := asc_at T AT.out n hn
          obtain ⟨x, hx⟩ : ∃ x, (T[n]'hn).toNat = x := ⟨_, rfl⟩
          rw [hx] at b1 b2
          have d1 : decide ((x : Int) < 32) = false := by simp; omega
          have d2 : decide ((126 : Int) < x) = false := by simp; omega
          have d3 : ¬ (x : Int) < 32 := by omega
          have d4 : ¬ (126 : Int) < x := by omega
          go_wp2
          go_roundg (gk - 1)
          case measure => omega
          case rel => exact ⟨rfl, n + 1, by go_num, by omega⟩
        · have hnI : ¬ (n : Int) < T.size := by omega
          go_wp2
          go_roundg (2 - k - 1)
          case measure => omega
          case rel => exact ⟨rfl, k + 1, by go_num, by omega⟩
    · have hkI : ¬ (k : Int) < 2 := by omega
      go_wp2_with (go_at_call 17; refine (Cl.go (hQ0 _ (hE1 _))).mono ?_; rintro e w9 ⟨y, rfl, rfl⟩)
      go_loopg [8] QB.size (fun g t wr => ∃ T : ByteArray, t = .string T ∧ T.size ≤ g ∧ T.size ≤ 100000 ∧ Hid (PT T.data.toList) ∧ ∃ y : Cl w, wr = y.w)
      case atStart => exact ⟨QB, rfl, Nat.le_refl _, by omega, A0, y, rfl⟩
      case round =>
        obtain ⟨T, rfl, hTg, hTz, HP, y, rfl⟩ := hrel
        by_cases h0 : 0 < T.size
        · obtain ⟨d, n, hdec, hn1, hn2, hp, hPT⟩ := PT.first T HP.out h0
          obtain ⟨p1, p2, p3⟩ := plain_big d hp
          have hne : T.toList.isEmpty = false := empty_no T h0
          have hD : ∀ w, Calls Tryd.prog 19 #[.string T] w fun e w' => e = .returned (.tuple #[.int .i32 (d : Nat), .int .i64 (n : Nat)]) ∧ Below w.heap.size w w' := fun w => by
            have := decode_any T w
            rw [hdec] at this
            exact this
          have hPl : ∀ w, Calls Tryd.prog 20 #[.int .i32 (d : Nat)] w fun e w' => e = .returned (.bool true) ∧ w' = w := fun w => by
            have := plain_any (d : Nat) w
            rw [hp] at this
            exact this
          have HN : Hid (PT (T.extract n T.size).data.toList) := hPT
          have hz2 : (T.extract n T.size).size ≤ T.size - 1 := by rw [tail_size]; omega
          have d1 : decide ((n : Int) < 1) = false := by simp; omega
          have d2 : decide ((T.size : Int) < n) = false := by simp; omega
          have d3 : decide ((d : Int) < 32) = false := by simp; omega
          have d4 : ((d : Int) == 65533) = false := by simp; omega
          have e1 : ¬ (n : Int) < 1 := by omega
          have e2 : ¬ (T.size : Int) < n := by omega
          have e3 : ¬ (d : Int) < 32 := by omega
          have e4 : (n : Int) ≤ T.size := by omega
          clear hdec hp hPT
          go_wp2_with (first | (go_at_call 19; refine (Cl.go (hD _)).mono ?_; rintro e w9 ⟨y, rfl, rfl⟩) | (go_at_call 20; refine (hPl _).mono ?_; rintro e w9 ⟨rfl, rfl⟩))
          go_roundg (gk - 1)
          case measure => omega
          case rel => exact ⟨_, rfl, by omega, by omega, HN, y, rfl⟩
        · have hne : T.toList.isEmpty = true := empty_yes T (by omega)
          go_wp2_with (go_at_call 12; refine (Cl.go (lives2_any _ (hE1 _))).mono ?_; rintro e w9 ⟨y, rfl, rfl⟩)
          go_ret
          exact ⟨rfl, y.below⟩
end Go.Proofs.YtnoelbomcogndaaDoor
