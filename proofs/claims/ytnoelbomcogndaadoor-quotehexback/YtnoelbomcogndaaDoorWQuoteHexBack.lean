/- The walk of the law QuoteHexBack. -/
import Derived.Test.YtnoelbomcogndaaDoorLives2
import Derived.Test.YtnoelbomcogndaaDoorLawCut
import Derived.Test.YtnoelbomcogndaaDoorDHexW
import Derived.Test.YtnoelbomcogndaaDoorQReg
namespace Go.Proofs.YtnoelbomcogndaaDoor
open Go.RowKit
set_option linter.unusedVariables false

theorem front1 (x : UInt8) (L : List UInt8) (T : ByteArray) (h : T = ⟨(x :: L).toArray⟩) : T.size = L.length + 1 ∧ (∀ h0 : 0 < T.size, (T[0]'h0).toNat = x.toNat) ∧ T.extract 1 T.size = ⟨L.toArray⟩ := by
  subst h
  refine ⟨by simp [ByteArray.size], fun h0 => rfl, ?_⟩
  apply ByteArray.ext
  apply Array.ext'
  rw [tail_list]
  rfl
theorem front2 (x y : UInt8) (L : List UInt8) (T : ByteArray) (h : T = ⟨(x :: y :: L).toArray⟩) : T.size = L.length + 2 ∧ (∀ h0 : 0 < T.size, (T[0]'h0).toNat = x.toNat) ∧ (∀ h1 : 1 < T.size, (T[1]'h1).toNat = y.toNat) ∧ T.extract 2 T.size = ⟨L.toArray⟩ := by
  subst h
  refine ⟨by simp [ByteArray.size], fun h0 => rfl, fun h1 => rfl, ?_⟩
  apply ByteArray.ext
  apply Array.ext'
  rw [tail_list]
  rfl
theorem hex_shape (g : Bool) (d : Nat) (h : d < 16) : (hexN g d = 48 + d ∧ d < 10) ∨ (hexN g d = 87 + d ∧ 10 ≤ d) ∨ (hexN g d = 55 + d ∧ 10 ≤ d) := by
  unfold hexN
  split
  · exact .inl ⟨rfl, by omega⟩
  · split
    · exact .inr (.inr ⟨rfl, by omega⟩)
    · exact .inr (.inl ⟨rfl, by omega⟩)
set_option maxRecDepth 1000000 in
set_option maxHeartbeats 400000 in
theorem digit2_any (g : Bool) (d : Nat) (h : d < 16) (w : World) :
    Calls Tryd.prog 21 #[.int .u8 (hexN g d : Nat)] w fun e w' => e = .returned (.int .i64 (d : Nat)) ∧ w' = w := by
  rcases hex_shape g d h with ⟨e, e2⟩ | ⟨e, e2⟩ | ⟨e, e2⟩
  · rw [e]
    generalize hx : (48 + d : Nat) = x
    have q1 : (48 : Int) ≤ x := by omega
    have q2 : (x : Int) ≤ 57 := by omega
    have q3 : (x : Int) - 48 = d := by omega
    clear hx e
    go_enter Tryd.func21, Tryd.ntmps21
    go_wp2
    go_ret
    exact ⟨rfl, rfl⟩
  · rw [e]
    generalize hx : (87 + d : Nat) = x
    have q1 : (48 : Int) ≤ x := by omega
    have q2 : ¬ (x : Int) ≤ 57 := by omega
    have q3 : (97 : Int) ≤ x := by omega
    have q4 : (x : Int) ≤ 102 := by omega
    have q5 : (x : Int) - 97 + 10 = d := by omega
    clear hx e
    go_enter Tryd.func21, Tryd.ntmps21
    go_wp2
    go_ret
    exact ⟨rfl, rfl⟩
  · rw [e]
    generalize hx : (55 + d : Nat) = x
    have q1 : (48 : Int) ≤ x := by omega
    have q2 : ¬ (x : Int) ≤ 57 := by omega
    have q3 : ¬ (97 : Int) ≤ x := by omega
    have q4 : (65 : Int) ≤ x := by omega
    have q5 : (x : Int) ≤ 70 := by omega
    have q6 : (x : Int) - 65 + 10 = d := by omega
    clear hx e
    go_enter Tryd.func21, Tryd.ntmps21
    go_wp2
    go_ret
    exact ⟨rfl, rfl⟩
theorem hexback_pack (u : ByteArray) (sh sp g mi z : Bool) (hu : u.size ≤ 1000) : ∃ T : ByteArray, padS (hexS u sh sp g (-1)) mi z (-1) = T ∧ T = ⟨(hexGo sh sp g 0 (u.data.toList.drop 0)).toArray⟩ := by
  refine ⟨_, rfl, ?_⟩
  rw [padS_short _ mi z (-1) (by have : wdt (-1) = 0 := by decide
                                 omega)]
  have e : cutB u (-1) = u := by unfold cutB; rw [if_neg (by omega)]
  show (⟨(hexGo sh sp g 0 (cutB u (-1)).data.toList).toArray⟩ : ByteArray) = _
  rw [e]; rfl
/-- What stands of a byte: a blank, a mark, two digits. -/
theorem hexback_item (sh sp g : Bool) (u : ByteArray) (n hi lo : Nat) (h : n < u.size) (h1 : (u[n]'h).toNat / 16 = hi) (h2 : (u[n]'h).toNat % 16 = lo) :
    hexGo sh sp g n (u.data.toList.drop n) = preA sp n ++ (preB sh sp g n ++ (hexB g hi :: hexB g lo :: hexGo sh sp g (n + 1) (u.data.toList.drop (n + 1)))) := by
  rw [hexGo_at sh sp g u n h, hexItem_parts sh sp g n hi lo _ h1 h2]
  simp

set_option maxRecDepth 1000000 in
set_option maxHeartbeats 4000000 in
theorem quoteHexBack_walk (s : ByteArray) (_hs : s.size ≤ maxLen) (p mi sh sp z : Bool) (wid prec verb : Int) (_h5 : (Lit.int .i64 wid).wf = true) (_h6 : (Lit.int .i64 prec).wf = true) (w : World) (hE : Esc w) :
    Calls Tryd.prog 7 #[.string s, .agg #[.bool p, .bool mi, .bool sh, .bool sp, .bool z, .int .i64 wid, .int .i64 prec, .int .i32 verb]] w fun e w' => e = .returned (.bool true) ∧ Below w.heap.size w w' := by
  obtain ⟨u, hu, hc⟩ := lawCut_any s
  have hbA : Below w.heap.size w (w.alloc (.cells #[.bool p, .bool mi, .bool sh, .bool sp, .bool z, .int .i64 wid, .int .i64 prec, .int .i32 verb] 28)) := (Below.refl _ _).alloc (Nat.le_refl _) _
  have hbB : Below w.heap.size w (w.alloc (.cells #[.bool p, .bool mi, .bool sh, .bool sp, .bool z, .int .i64 (-1), .int .i64 (-1), .int .i32 verb] 28)) := (Below.refl _ _).alloc (Nat.le_refl _) _
  have f0 : ∀ x : Cl (w.alloc (.cells #[.bool p, .bool mi, .bool sh, .bool sp, .bool z, .int .i64 wid, .int .i64 prec, .int .i32 verb] 28)), x.w.cell? ⟨w.heap.size, 0, none⟩ = some (.bool p) := fun x => x.cell (by simp)
  have f1 : ∀ x : Cl (w.alloc (.cells #[.bool p, .bool mi, .bool sh, .bool sp, .bool z, .int .i64 wid, .int .i64 prec, .int .i32 verb] 28)), x.w.cell? ⟨w.heap.size, 1, none⟩ = some (.bool mi) := fun x => x.cell (by simp)
  have f2 : ∀ x : Cl (w.alloc (.cells #[.bool p, .bool mi, .bool sh, .bool sp, .bool z, .int .i64 wid, .int .i64 prec, .int .i32 verb] 28)), x.w.cell? ⟨w.heap.size, 2, none⟩ = some (.bool sh) := fun x => x.cell (by simp)
  have f3 : ∀ x : Cl (w.alloc (.cells #[.bool p, .bool mi, .bool sh, .bool sp, .bool z, .int .i64 wid, .int .i64 prec, .int .i32 verb] 28)), x.w.cell? ⟨w.heap.size, 3, none⟩ = some (.bool sp) := fun x => x.cell (by simp)
  have f4 : ∀ x : Cl (w.alloc (.cells #[.bool p, .bool mi, .bool sh, .bool sp, .bool z, .int .i64 wid, .int .i64 prec, .int .i32 verb] 28)), x.w.cell? ⟨w.heap.size, 4, none⟩ = some (.bool z) := fun x => x.cell (by simp)
  have f5 : ∀ x : Cl (w.alloc (.cells #[.bool p, .bool mi, .bool sh, .bool sp, .bool z, .int .i64 wid, .int .i64 prec, .int .i32 verb] 28)), x.w.cell? ⟨w.heap.size, 5, none⟩ = some (.int .i64 wid) := fun x => x.cell (by simp)
  have f6 : ∀ x : Cl (w.alloc (.cells #[.bool p, .bool mi, .bool sh, .bool sp, .bool z, .int .i64 wid, .int .i64 prec, .int .i32 verb] 28)), x.w.cell? ⟨w.heap.size, 6, none⟩ = some (.int .i64 prec) := fun x => x.cell (by simp)
  have f7 : ∀ x : Cl (w.alloc (.cells #[.bool p, .bool mi, .bool sh, .bool sp, .bool z, .int .i64 wid, .int .i64 prec, .int .i32 verb] 28)), x.w.cell? ⟨w.heap.size, 7, none⟩ = some (.int .i32 verb) := fun x => x.cell (by simp)
  have hH : ∀ w, Calls Tryd.prog 13 #[.string u, .agg #[.bool p, .bool mi, .bool sh, .bool sp, .bool z, .int .i64 (-1), .int .i64 (-1), .int .i32 verb]] w fun e w' => e = .returned (.string (padS (hexS u sh sp (decide (verb = 88)) (-1)) mi z (-1))) ∧ Below w.heap.size w w' := fun w => hex_any u p mi sh sp z (-1) (-1) verb w (by omega)
  obtain ⟨g, hg⟩ : ∃ g, decide (verb = 88) = g := ⟨_, rfl⟩
  have HG1 : Hid (verb = 88 → g = true) := fun h => by rw [← hg]; simp [h]
  have HG0 : Hid (¬ verb = 88 → g = false) := fun h => by rw [← hg]; simp [h]
  rw [hg] at hH
  clear hg _h5 _h6 _hs
  obtain ⟨T0, hT0, HT0⟩ := hexback_pack u sh sp g mi z hu
  rw [hT0] at hH
  have HTT : Hid (T0 = ⟨(hexGo sh sp g 0 (u.data.toList.drop 0)).toArray⟩) := HT0
  clear hT0 HT0
  go_enter Tryd.func7, Tryd.ntmps7
  go_upto_region 2 with (go_at_call 9; refine (hc _).mono ?_; rintro e w1 ⟨rfl, rfl⟩)
  go_cut [5, 6, 7] (fun a b c wx => (∃ x : Cl (w.alloc (.cells #[.bool p, .bool mi, .bool sh, .bool sp, .bool z, .int .i64 wid, .int .i64 prec, .int .i32 verb] 28)), wx = x.w) ∧ a = .bool sp ∧ b = .bool sh ∧ c = .bool g)
  case first =>
    as_aux_lemma =>
    by_cases hv : verb = 88
    · have hg := HG1.out hv
      subst hv
      subst hg
      refine wp_region_above (w.alloc (.cells #[.bool p, .bool mi, .bool sh, .bool sp, .bool z, .int .i64 wid, .int .i64 prec, .int .i32 88] 28)) (Below.refl _ _) (by kernel_rfl) (by kernel_rfl) ?_
      intro hCl
      repeat (go_big_quiet_step (fail))
      refine wpQuiet_nil ?_
      intro _ hw'
      obtain ⟨x, hx⟩ := hw'
      subst hx
      go_wp2
      go_meet
      exact ⟨⟨x, rfl⟩, rfl, rfl, rfl⟩
    · have hg := HG0.out hv
      subst hg
      refine wp_region_above (w.alloc (.cells #[.bool p, .bool mi, .bool sh, .bool sp, .bool z, .int .i64 wid, .int .i64 prec, .int .i32 verb] 28)) (Below.refl _ _) (by kernel_rfl) (by kernel_rfl) ?_
      intro hCl
      repeat (go_big_quiet_step (fail))
      refine wpQuiet_nil ?_
      intro _ hw'
      obtain ⟨x, hx⟩ := hw'
      subst hx
      go_wp2
      go_meet
      exact ⟨⟨x, rfl⟩, rfl, rfl, by simp [hv]⟩
  case rest =>
  obtain ⟨⟨x, rfl⟩, rfl, rfl, rfl⟩ := hcut
  have f8 : ∀ i, x.w.frozen? ⟨w.heap.size, i, none⟩ = false := fun i => (x.below.frozen (p := ⟨w.heap.size, i, none⟩) (by simp)).trans (by simp)
  have hlt0 : w.heap.size < x.w.heap.size := by have := x.below.size; simp at this; omega
  have hbx : Below w.heap.size w x.w := hbA.trans (x.below.mono hbA.size)
  clear HG0 HG1 hc
  go_wp2_with (go_at_call 13; refine (hH _).mono ?_; rintro e w2 ⟨rfl, hb2⟩)
  have hbw : Below w.heap.size w w2 := by
    have h1 := (hbx.setCell (p := ⟨w.heap.size, 5, none⟩) (Nat.le_refl _) (.int .i64 (-1))).setCell (p := ⟨w.heap.size, 6, none⟩) (Nat.le_refl _) (.int .i64 (-1))
    exact h1.trans (hb2.mono h1.size)
  clear hb2 hH f0 f1 f2 f3 f4 f5 f6 f7 f8 hlt0
  have hE2 : Esc w2 := hE.below hbw
  have hEx : ∀ y : Cl w2, Esc y.w := fun y => hE2.below y.below
  go_loopg [8, 9] u.size (fun gg t i wr => ∃ (n : Nat) (T : ByteArray), t = .string T ∧ i = .int .i64 n ∧ n + gg = u.size ∧ (∃ y : Cl w2, wr = y.w) ∧ Hid (T = ⟨(hexGo sh sp g n (u.data.toList.drop n)).toArray⟩))
  case atStart => exact ⟨0, T0, rfl, rfl, Nat.zero_add _, ⟨⟨_, Below.refl _ _⟩, rfl⟩, HTT⟩
  case round =>
    obtain ⟨n, T, rfl, rfl, hng, ⟨y, rfl⟩, HT⟩ := hrel
    by_cases hlt : n < u.size
    · have hltI : (n : Int) < u.size := by omega
      obtain ⟨xb, hi, lo, hx0, hhi, hlo, -, -, -, -, hx256, HX⟩ := byte_div u n hlt
      have hT1 : T = _ := HT.out
      rw [hexback_item sh sp g u n hi lo hlt (by rw [hx0]; exact HX.out.1) (by rw [hx0]; exact HX.out.2)] at hT1
      obtain ⟨RR, hRR⟩ : ∃ RR, hexGo sh sp g (n + 1) (u.data.toList.drop (n + 1)) = RR := ⟨_, rfl⟩
      rw [hRR] at hT1
      obtain ⟨T2, HT2⟩ : ∃ T2 : ByteArray, T2 = ⟨(hexB g hi :: hexB g lo :: RR).toArray⟩ := ⟨_, rfl⟩
      obtain ⟨T1, HT1⟩ : ∃ T1 : ByteArray, T1 = ⟨(preB sh sp g n ++ (hexB g hi :: hexB g lo :: RR)).toArray⟩ := ⟨_, rfl⟩
      have HA1 : Hid (sp = true ∧ 0 < n → T.extract 1 T.size = T1 ∧ 0 < T.size ∧ ∀ h0 : 0 < T.size, (T[0]'h0).toNat = 32) := fun h => by
        have e : preA sp n = [32] := by unfold preA; rw [if_pos h]
        rw [e] at hT1
        obtain ⟨q1, q2, q3⟩ := front1 32 _ T hT1
        exact ⟨by rw [q3, HT1]; rfl, by omega, q2⟩
      have HA0 : Hid (¬ (sp = true ∧ 0 < n) → T = T1) := fun h => by
        have e : preA sp n = [] := by unfold preA; rw [if_neg h]
        rw [e] at hT1
        rw [hT1, HT1]; rfl
      have HB1 : Hid (sh = true ∧ (sp = true ∨ n = 0) → T1.extract 2 T1.size = T2 ∧ 1 < T1.size ∧ (∀ h0 : 0 < T1.size, (T1[0]'h0).toNat = 48) ∧ ∀ h1 : 1 < T1.size, (T1[1]'h1).toNat = if g then 88 else 120) := fun h => by
        have e : preB sh sp g n = [48, if g then 88 else 120] := by unfold preB; rw [if_pos h]
        rw [e] at HT1
        obtain ⟨q1, q2, q3, q4⟩ := front2 48 (if g then 88 else 120) _ T1 HT1
        refine ⟨by rw [q4, HT2]; rfl, by omega, q2, fun h1 => ?_⟩
        rw [q3 h1]
        cases g <;> rfl
      have HB0 : Hid (¬ (sh = true ∧ (sp = true ∨ n = 0)) → T1 = T2) := fun h => by
        have e : preB sh sp g n = [] := by unfold preB; rw [if_neg h]
        rw [e] at HT1
        rw [HT1, HT2]; rfl
      obtain ⟨k1, k2, k3, k4⟩ := front2 (hexB g hi) (hexB g lo) RR T2 HT2
      obtain ⟨T3, HT3⟩ : ∃ T3 : ByteArray, T3 = ⟨RR.toArray⟩ := ⟨_, rfl⟩
      rw [← HT3] at k4
      have HR3 : Hid (T3 = ⟨(hexGo sh sp g (n + 1) (u.data.toList.drop (n + 1))).toArray⟩) := by rw [hRR]; exact HT3
      rw [hexB_nat g hi hhi] at k2
      rw [hexB_nat g lo hlo] at k3
      have hd1 : ∀ w, Calls Tryd.prog 21 #[.int .u8 (hexN g hi : Nat)] w fun e w' => e = .returned (.int .i64 (hi : Nat)) ∧ w' = w := fun w => digit2_any g hi hhi w
      have hd2 : ∀ w, Calls Tryd.prog 21 #[.int .u8 (hexN g lo : Nat)] w fun e w' => e = .returned (.int .i64 (lo : Nat)) ∧ w' = w := fun w => digit2_any g lo hlo w
      have hsum : 16 * (hi : Int) + lo = (xb : Nat) := by have := HX.out; omega
      have hsz : 1 < T2.size := by omega
      clear hT1 HT HT1 HT2 HT3 HX k1 hRR
      generalize hexN g hi = x1 at *
      generalize hexN g lo = x2 at *
      go_upto_region 8 with fail
      go_cut [34] from 24 to 110 (fun t wx => wx = y.w ∧ t = .bool (decide (sp = true ∧ 0 < n)))
      case first =>
        as_aux_lemma =>
        cases sp
        · go_wp2
          go_meet
          exact ⟨rfl, by simp⟩
        · by_cases hn : 0 < n
          · have hnI : 0 < (n : Int) := by omega
            go_wp2
            go_meet
            exact ⟨rfl, by simp [hn]⟩
          · have hnI : ¬ 0 < (n : Int) := by omega
            have hnb : decide (0 < n) = false := by simp; omega
            go_wp2
            go_meet
            exact ⟨rfl, by simp [hn]⟩
      case rest =>
      obtain ⟨rfl, hb34⟩ := hcut
      go_upto_if 34 with fail
      go_cut [8] from 24 to 110 (fun t wx => wx = y.w ∧ t = .string T1)
      case first =>
        as_aux_lemma =>
        by_cases hq : sp = true ∧ 0 < n
        · have hd : decide (sp = true ∧ 0 < n) = true := by simp [hq]
          rw [hd] at hb34
          subst hb34
          obtain ⟨q1, q2, q3⟩ := HA1.out hq
          have q4 : ((T[0]'q2).toNat : Int) = 32 := by rw [q3 q2]; rfl
          have q5 : T.toList.isEmpty = false := empty_no T q2
          have q6 : (1 : Int) ≤ T.size := by omega
          have q7 : 0 < (T.size : Int) := by omega
          clear HA0 HA1 HB0 HB1 hq hd q3
          go_wp2
          go_meet
          exact ⟨rfl, rfl⟩
        · have hd : decide (sp = true ∧ 0 < n) = false := by simp [hq]
          rw [hd] at hb34
          subst hb34
          have q1 := HA0.out hq
          subst q1
          clear HA0 HA1 HB0 HB1 hq hd
          go_wp2
          go_meet
          exact ⟨rfl, rfl⟩
      case rest =>
      obtain ⟨rfl, rfl⟩ := hcut
      clear hb34 HA0 HA1
      go_upto_region 12 with fail
      go_cut [51] from 24 to 110 (fun t wx => wx = y.w ∧ t = .bool (decide (sh = true ∧ (sp = true ∨ n = 0))))
      case first =>
        as_aux_lemma =>
        cases sh
        · go_wp2
          go_meet
          exact ⟨rfl, by simp⟩
        · cases sp
          · by_cases hn : n = 0
            · subst hn
              go_wp2
              go_meet
              exact ⟨rfl, by simp⟩
            · have hnI : ¬ (n : Int) = 0 := by omega
              have hnb : ((n : Int) == 0) = false := by simp; omega
              go_wp2
              go_meet
              exact ⟨rfl, by simp [hn]⟩
          · go_wp2
            go_meet
            exact ⟨rfl, by simp⟩
      case rest =>
      obtain ⟨rfl, hb51⟩ := hcut
      go_upto_if 51 with fail
      go_cut [8] from 24 to 110 (fun t wx => wx = y.w ∧ t = .string T2)
      case first =>
        as_aux_lemma =>
        by_cases hq : sh = true ∧ (sp = true ∨ n = 0)
        · have hd : decide (sh = true ∧ (sp = true ∨ n = 0)) = true := by simp [hq]
          rw [hd] at hb51
          subst hb51
          obtain ⟨q1, q2, q3, q4⟩ := HB1.out hq
          have q0 : 0 < T1.size := by omega
          have q5 : ((T1[0]'q0).toNat : Int) = 48 := by rw [q3 q0]; rfl
          have q6 : ¬ (T1.size : Int) < 2 := by omega
          have q7 : (2 : Int) ≤ T1.size := by omega
          have q8 := q4 q2
          clear HB0 HB1 hq hd q3 q4
          cases g
          · have q9 : ((T1[1]'q2).toNat : Int) = 120 := by rw [q8]; rfl
            clear q8
            go_wp2
            go_meet
            exact ⟨rfl, rfl⟩
          · have q9 : ((T1[1]'q2).toNat : Int) = 88 := by rw [q8]; rfl
            clear q8
            go_wp2
            go_meet
            exact ⟨rfl, rfl⟩
        · have hd : decide (sh = true ∧ (sp = true ∨ n = 0)) = false := by simp [hq]
          rw [hd] at hb51
          subst hb51
          have q1 := HB0.out hq
          subst q1
          clear HB0 HB1 hq hd
          go_wp2
          go_meet
          exact ⟨rfl, rfl⟩
      case rest =>
      obtain ⟨rfl, rfl⟩ := hcut
      clear hb51 HB0 HB1
      have q0 : 0 < T2.size := by omega
      have q5 := k2 q0
      have q6 := k3 hsz
      have q7 : decide ((T2.size : Int) < 2) = false := by simp; omega
      have q7n : decide (T2.size < 2) = false := by simp; omega
      have q8 : (2 : Int) ≤ T2.size := by omega
      have q9 : decide ((hi : Int) < 0) = false := by simp
      have q10 : decide ((lo : Int) < 0) = false := by simp
      have q11 : (0 : Int) < T2.size := by omega
      have q12 : (1 : Int) < T2.size := by omega
      clear k2 k3
      go_wp2
      refine wp_region_above w2 y.below (by kernel_rfl) (by kernel_rfl) ?_
      intro hCl
      repeat (go_big_quiet_step ((first | (go_at_call_of 21 x1; exact Cl.call_same (hd1 _)) | (go_at_call_of 21 x2; exact Cl.call_same (hd2 _)))))
      refine wpQuiet_nil ?_
      intro _ hw'
      obtain ⟨y2, hy⟩ := hw'
      subst hy
      go_wp2
      go_roundg (gk - 1)
      case measure => omega
      case rel => exact ⟨n + 1, T3, rfl, by go_num, by omega, ⟨y2, rfl⟩, HR3⟩
    · have hltI : ¬ (n : Int) < u.size := by omega
      have HF : Hid (T = ⟨#[]⟩) := by
        show T = _
        rw [HT.out, show u.data.toList.drop n = [] from List.drop_eq_nil_of_le (by rw [list_len]; omega)]
        rfl
      have hemp : T.toList.isEmpty = true := empty_yes T (by rw [HF.out]; rfl)
      go_wp2_with (go_at_call 12; refine (Cl.go (lives2_any _ (hEx _))).mono ?_; rintro e w9 ⟨y9, rfl, rfl⟩)
      go_ret
      exact ⟨rfl, hbw.trans (y9.below.mono hbw.size)⟩
end Go.Proofs.YtnoelbomcogndaaDoor
