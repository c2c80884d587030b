/- The walk of the law ParseFlags. -/
import Derived.Test.YtbgejkodgcgpdaaPFlgW
import Derived.Test.YtbgejkodgcgpdaaWParseIndexes
import Derived.Test.YtbgejkodgcgpdaaQReg
import Derived.Deep.RegionHeld
namespace Go.Proofs.Ytbgejkodgcgpdaa
open Go.RowKit
set_option linter.unusedVariables false
set_option linter.unusedSimpArgs false

theorem wpq_ld20 {ops : Array Oper} {rest : List Oper} {op : Oper} {a : Act} {w0 : World} {Q : Act → Prop} (hw : Region.wanted op (yielded ops a.tmps) = true) (x : Operand) (ho : op.op = .load 40 x) {B o : Nat} {vs : List Value}
    (hx : a.eval x = .pointer (some ⟨B, o, none⟩)) (hB : ∀ y : Cl w0, y.w.rangeAt B o vs) (hl : vs.length = 20)
    (h : wpQuiet Try.prog ops (fun w' => ∃ x : Cl w0, w' = x.w) Q rest (a.put op.dst (.agg vs.toArray))) : wpQuiet Try.prog ops (fun w' => ∃ x : Cl w0, w' = x.w) Q (op :: rest) a := by
  obtain ⟨d, h1, h2⟩ := isrow20
  refine BigFrame.wpQuiet_want hw fun K hK => ⟨_, fun w hw' => ?_, hK _ h⟩
  obtain ⟨y, rfl⟩ := hw'
  unfold Oper.quietAt execOp
  simp only [ho, hx, Instr.loadAt, Instr.sureAddr, Sem.run_bind, Sem.run_pure, Result.andThen_ok, run_loadVar_mid y.w B o 40 vs d (hB y) h1 h2 (by rw [hl]; exact info20)]
  exact ⟨rfl, rfl⟩
/-- Parse of a text that is one piece, with its box. -/
abbrev P1B (t : ByteArray) (p : Pc) : Prop := ∀ w, Calls Try.prog 9 #[.string t] w fun e w' => ∃ g c, e = .returned (.slice (some ⟨g, 0, none⟩) 1 c) ∧ 1 ≤ c ∧ w.heap.size ≤ g ∧ Bx w' g (pcV p (ba p.text)) ∧ Below w.heap.size w w'
theorem parse_oneB {t : ByteArray} {l : Bs} {p : Pc} (ht : t.size ≤ 1000) (hl : t.data.toList = l) (h : prs l = [p]) : P1B t p := fun w => by
  refine (parse_any t (by omega) w).mono ?_
  rintro e w' ⟨v, rfl, o, b⟩
  rw [hl, h] at o
  obtain ⟨a, c, rfl, h1, -⟩ := own_slice9 o
  obtain ⟨g, rfl, h2, h3⟩ := own_bx1 o
  exact ⟨g, c, rfl, h1, h2, h3, b⟩
set_option maxRecDepth 1000000 in
set_option maxHeartbeats 8000000 in
theorem parseFlags_walk (p mi sh sp z : Bool) (wid prec verb : Int) (hwid : (Lit.int .i64 wid).wf = true) (x0 : Int) (wx0 : (Lit.int .i64 x0).wf = true) (x1 : Int) (wx1 : (Lit.int .i64 x1).wf = true) (w : World) :
    Calls Try.prog 5 #[.agg #[.bool p, .bool mi, .bool sh, .bool sp, .bool z, .int .i64 wid, .int .i64 prec, .int .i32 verb], .int .i64 x0, .int .i64 x1] w fun e w' => e = .returned (.bool true) ∧ Below w.heap.size w w' := by
  obtain ⟨i, hi, hi1⟩ : ∃ i : Nat, max 1 (min x0 2000) = (i : Int) ∧ (0 < i ∧ i ≤ 2000) := ⟨(max 1 (min x0 2000)).toNat, by omega, by omega⟩
  obtain ⟨j, hj, hj1⟩ : ∃ i : Nat, max 0 (min x1 2000) = (i : Int) ∧ i ≤ 2000 := ⟨(max 0 (min x1 2000)).toNat, by omega, by omega⟩
  have hL := lives9_any
  have d1 := fun w => digits9_any i (by omega) w
  have d2 := fun w => digits9_any j (by omega) w
  have hii : 0 < i ∧ i ≤ 999999999 := ⟨hi1.1, by omega⟩
  have hjj : j ≤ 999999999 := by omega
  obtain ⟨RT, hRT⟩ : ∃ RT : ByteArray, RT = ((ba (dgt i) ++ ⟨#[46]⟩) ++ ba (dgt j)) ++ ⟨#[120]⟩ := ⟨_, rfl⟩
  obtain ⟨FA, hFA⟩ : ∃ F : ByteArray, F = ba (flF p mi sh sp z) := ⟨_, rfl⟩
  obtain ⟨FB, hFB⟩ : ∃ F : ByteArray, F = ba (flB p mi sh sp z) := ⟨_, rfl⟩
  obtain ⟨TA, hTA⟩ : ∃ T : ByteArray, T = (⟨#[37]⟩ ++ FA) ++ RT := ⟨_, rfl⟩
  obtain ⟨TB, hTB⟩ : ∃ T : ByteArray, T = (⟨#[37]⟩ ++ FB) ++ RT := ⟨_, rfl⟩
  have kA := fun w => flags_flF p mi sh sp z wid prec verb w
  have kB := fun w => flags_flB p mi sh sp z wid prec verb w
  rw [← hFA] at kA
  rw [← hFB] at kB
  have lR : RT.data.toList = rstF i j := by rw [hRT, app_list, app_list, app_list]; simp [ba, rstF]
  have lTA : TA.data.toList = 37 :: (flF p mi sh sp z ++ rstF i j) := by rw [hTA, app_list, app_list, lR, hFA]; simp [ba]
  have lTB : TB.data.toList = 37 :: (flB p mi sh sp z ++ rstF i j) := by rw [hTB, app_list, app_list, lR, hFB]; simp [ba]
  have q1 := (dgt_any i (by omega)).2.2.2.1
  have q2 := (dgt_any j (by omega)).2.2.2.1
  have hrl : (rstF i j).length ≤ 20 := by simp [rstF]; omega
  have zFA : FA.size ≤ 5 := by rw [hFA, ba_size]; exact flF_len ..
  have zFB : FB.size ≤ 10 := by rw [hFB, ba_size]; exact flB_len ..
  have zR : RT.size ≤ 20 := by rw [← list_len, lR]; exact hrl
  have zTA : TA.size ≤ 1000 := by rw [hTA, app_size, app_size]; have : (⟨#[37]⟩ : ByteArray).size = 1 := rfl; omega
  have zTB : TB.size ≤ 1000 := by rw [hTB, app_size, app_size]; have : (⟨#[37]⟩ : ByteArray).size = 1 := rfl; omega
  have hhd : 49 ≤ hd (rstF i j) ∧ hd (rstF i j) ≤ 57 := by unfold rstF; rw [hd_appD (dgt_ok i hii.1 hii.2).2.2.2.2]; exact (dgt_ok i hii.1 hii.2).2.2.1
  have hPA := parse_oneB zTA lTA (prs_flags hii hjj (flg_flF p mi sh sp z hhd))
  have hPB := parse_oneB zTB lTB (prs_flags hii hjj (flg_flB p mi sh sp z hhd))
  have eA : ba (37 :: (flF p mi sh sp z ++ rstF i j)) = TA := by rw [← lTA]; exact ba_id TA
  have eB : ba (37 :: (flB p mi sh sp z ++ rstF i j)) = TB := by rw [← lTB]; exact ba_id TB
  unfold P1B at hPA hPB
  dsimp only at hPA hPB
  rw [eA] at hPA
  rw [eB] at hPB
  unfold pcV at hPA hPB
  dsimp only at hPA hPB
  have hN1 := wN_dgt i (by omega)
  have hN2 := wN_dgt j (by omega)
  generalize wN (dgt i) = NI at *
  generalize wN (dgt j) = NJ at *
  have s1 : ((ba (dgt i)).size : Int) ≤ 9 := by rw [ba_size]; omega
  have s2 : ((ba (dgt j)).size : Int) ≤ 9 := by rw [ba_size]; omega
  have s3 : (RT.size : Int) ≤ 20 := by omega
  have s4 : (FA.size : Int) ≤ 5 := by omega
  have s5 : (FB.size : Int) ≤ 10 := by omega
  have hRT2 := hRT.symm
  have hTA2 := hTA.symm
  have hTB2 := hTB.symm
  have HN1 : Hid (NI = if 1000 < i then -1 else (i : Int)) := hN1
  have HN2 : Hid (NJ = if 1000 < j then -1 else (j : Int)) := hN2
  clear hRT hTA hTB lR lTA lTB eA eB hFA hFB hhd hrl q1 q2 hN1 hN2 zFA zFB zR zTA zTB
  generalize ba (dgt i) = DI at *
  generalize ba (dgt j) = DJ at *
  obtain ⟨W1, hW1⟩ : ∃ W1, W1 = (w.alloc (.cells #[.bool p, .bool mi, .bool sh, .bool sp, .bool z, .int .i64 wid, .int .i64 prec, .int .i32 verb] 28)) := ⟨_, rfl⟩
  have b1 : Below w.heap.size w W1 := by rw [hW1]; exact (Below.refl _ _).alloc (Nat.le_refl _) _
  have x1 : Bx W1 w.heap.size [.bool p, .bool mi, .bool sh, .bool sp, .bool z, .int .i64 wid, .int .i64 prec, .int .i32 verb] := by rw [hW1]; exact Bx.new _ [_, _, _, _, _, _, _, _] _
  go_enter Try.func5, Try.ntmps5
  go_upto_region 1 with fail
  rw [← hW1]
  clear hW1
  go_cut [1, 2] (fun a b wx => wx = W1 ∧ a = .int .i64 (i : Nat) ∧ b = .int .i64 (j : Nat))
  case first =>
    go_wp2
    all_goals go_meet
    all_goals exact ⟨rfl, congrArg (Value.int .i64) (by omega), congrArg (Value.int .i64) (by omega)⟩
  case rest =>
  obtain ⟨hwx, rfl, rfl⟩ := hcut
  have hwx' : W1 = wc := hwx.symm
  clear hwx
  subst hwx'
  clear hi hj wx0 wx1 hwid
  go_wp2_with fail
  refine (d1 _).mono ?_
  rintro e W2 ⟨rfl, b2⟩
  go_wp2_with fail
  refine (d2 _).mono ?_
  rintro e W3 ⟨rfl, b3⟩
  have B3 : Below W1.heap.size W1 W3 := b2.trans (b3.mono b2.size)
  have hS8 : ∀ V, Below W1.heap.size W1 V → (fun w' : World => w'.cell? ⟨w.heap.size, 0, none⟩ = some (.bool p) ∧ w'.cell? ⟨w.heap.size, 1, none⟩ = some (.bool mi) ∧ w'.cell? ⟨w.heap.size, 2, none⟩ = some (.bool sh) ∧ w'.cell? ⟨w.heap.size, 3, none⟩ = some (.bool sp) ∧ w'.cell? ⟨w.heap.size, 4, none⟩ = some (.bool z) ∧ w'.cell? ⟨w.heap.size, 5, none⟩ = some (.int .i64 wid) ∧ w'.cell? ⟨w.heap.size, 6, none⟩ = some (.int .i64 prec) ∧ w'.cell? ⟨w.heap.size, 7, none⟩ = some (.int .i32 verb)) V := by
    intro V hV
    have y := x1.up hV
    exact ⟨y.c 0 _ rfl, y.c 1 _ rfl, y.c 2 _ rfl, y.c 3 _ rfl, y.c 4 _ rfl, y.c 5 _ rfl, y.c 6 _ rfl, y.c 7 _ rfl⟩
  clear d1 d2 b2 b3
  go_upto_region 3 with fail
  go_cut [8, 9] (fun ta tb wx => ∃ ga ca gb cb, ta = .slice (some ⟨ga, 0, none⟩) 1 ca ∧ tb = .slice (some ⟨gb, 0, none⟩) 1 cb ∧ 1 ≤ ca ∧ 1 ≤ cb ∧ ga ≠ gb ∧ Bx wx ga (pieceV 1 TA ⟨p, mi, sh, sp, z⟩ (-1) 120 ⟨1, NI, ix0⟩ ⟨1, NJ, ix0⟩ ix0) ∧ Bx wx gb (pieceV 1 TB ⟨p, mi, sh, sp, z⟩ (-1) 120 ⟨1, NI, ix0⟩ ⟨1, NJ, ix0⟩ ix0) ∧ W1.heap.size ≤ ga ∧ W1.heap.size ≤ gb ∧ Below W1.heap.size W1 wx)
  case first =>
    have D3 : Below W1.heap.size W1 W3.drew := B3.drew
    refine wp_region_held_drew (S := fun w' : World => w'.cell? ⟨w.heap.size, 0, none⟩ = some (.bool p) ∧ w'.cell? ⟨w.heap.size, 1, none⟩ = some (.bool mi) ∧ w'.cell? ⟨w.heap.size, 2, none⟩ = some (.bool sh) ∧ w'.cell? ⟨w.heap.size, 3, none⟩ = some (.bool sp) ∧ w'.cell? ⟨w.heap.size, 4, none⟩ = some (.bool z) ∧ w'.cell? ⟨w.heap.size, 5, none⟩ = some (.int .i64 wid) ∧ w'.cell? ⟨w.heap.size, 6, none⟩ = some (.int .i64 prec) ∧ w'.cell? ⟨w.heap.size, 7, none⟩ = some (.int .i32 verb)) (by kernel_rfl) (hS8 _ D3) ?_
    intro hS
    refine wpAnyH_take (i := 0) (v := .agg #[.bool p, .bool mi, .bool sh, .bool sp, .bool z, .int .i64 wid, .int .i64 prec, .int .i32 verb]) rfl (by kernel_rfl) (by kernel_rfl) (by kernel_rfl) (fun _ _ _ h => h) (Or.inl ⟨by rfl, ?_⟩) (by assumption) ?_
    · intro w5 s0
      obtain ⟨s0, s1, s2, s3, s4, s5, s6, s7⟩ := s0
      go_simp
      try decide
      try omega
    try simp only [Act.put, List.getElem_toArray, List.getElem_cons_zero, List.getElem_cons_succ, List.setIfInBounds_toArray, List.set_cons_zero, List.set_cons_succ]
    refine wpAnyH_take (i := 3) (v := .string RT) rfl (by kernel_rfl) (by kernel_rfl) (by kernel_rfl) (fun _ _ _ h => h) (Or.inl ⟨by rfl, ?_⟩) (by assumption) ?_
    · intro w5 s0
      obtain ⟨s0, s1, s2, s3, s4, s5, s6, s7⟩ := s0
      go_simp
      try decide
      try omega
    try simp only [Act.put, List.getElem_toArray, List.getElem_cons_zero, List.getElem_cons_succ, List.setIfInBounds_toArray, List.set_cons_zero, List.set_cons_succ]
    refine wpAnyH_take (i := 6) (v := .agg #[.bool p, .bool mi, .bool sh, .bool sp, .bool z, .int .i64 wid, .int .i64 prec, .int .i32 verb]) rfl (by kernel_rfl) (by kernel_rfl) (by kernel_rfl) (fun _ _ _ h => h) (Or.inl ⟨by rfl, ?_⟩) (by assumption) ?_
    · intro w5 s0
      obtain ⟨s0, s1, s2, s3, s4, s5, s6, s7⟩ := s0
      go_simp
      try decide
      try omega
    try simp only [Act.put, List.getElem_toArray, List.getElem_cons_zero, List.getElem_cons_succ, List.setIfInBounds_toArray, List.set_cons_zero, List.set_cons_succ]
    refine wpAnyH_take (i := 9) (v := .string RT) rfl (by kernel_rfl) (by kernel_rfl) (by kernel_rfl) (fun _ _ _ h => h) (Or.inl ⟨by rfl, ?_⟩) (by assumption) ?_
    · intro w5 s0
      obtain ⟨s0, s1, s2, s3, s4, s5, s6, s7⟩ := s0
      go_simp
      try decide
      try omega
    try simp only [Act.put, List.getElem_toArray, List.getElem_cons_zero, List.getElem_cons_succ, List.setIfInBounds_toArray, List.set_cons_zero, List.set_cons_succ]
    refine wpAnyH_ready (rs := [1]) (by kernel_rfl) (by simp) ?_
    refine AllReadyH.cons rfl (fun K hK => ?_) AllReadyH.nil
    go_simp
    refine (kA _).mono ?_
    rintro e Z1 ⟨rfl, z1⟩
    have Y1 : Below W1.heap.size W1 Z1 := D3.trans (z1.mono D3.size)
    refine hK.out _ _ (hS8 _ Y1) (fun _ => ?_)
    try simp only [Act.put, List.getElem_toArray, List.getElem_cons_zero, List.getElem_cons_succ, List.setIfInBounds_toArray, List.set_cons_zero, List.set_cons_succ]
    refine wpAnyH_take (i := 2) (v := .string (⟨#[37]⟩ ++ FA)) rfl (by kernel_rfl) (by kernel_rfl) (by kernel_rfl) (fun _ _ _ h => h) (Or.inl ⟨by rfl, ?_⟩) (by assumption) ?_
    · intro w5 s0
      obtain ⟨s0, s1, s2, s3, s4, s5, s6, s7⟩ := s0
      go_simp
      try decide
      try omega
    try simp only [Act.put, List.getElem_toArray, List.getElem_cons_zero, List.getElem_cons_succ, List.setIfInBounds_toArray, List.set_cons_zero, List.set_cons_succ]
    refine wpAnyH_take (i := 4) (v := .string TA) rfl (by kernel_rfl) (by kernel_rfl) (by kernel_rfl) (fun _ _ _ h => h) (Or.inl ⟨by rfl, ?_⟩) (by assumption) ?_
    · intro w5 s0
      obtain ⟨s0, s1, s2, s3, s4, s5, s6, s7⟩ := s0
      go_simp
      try decide
      try omega
    try simp only [Act.put, List.getElem_toArray, List.getElem_cons_zero, List.getElem_cons_succ, List.setIfInBounds_toArray, List.set_cons_zero, List.set_cons_succ]
    refine wpAnyH_ready (rs := [5]) (by kernel_rfl) (by simp) ?_
    refine AllReadyH.cons rfl (fun K1 hK1 => ?_) AllReadyH.nil
    go_simp
    refine (hPA _).mono ?_
    rintro e Z2 ⟨ga, ca, rfl, hca, hga, ya, z2⟩
    have Y2 : Below W1.heap.size W1 Z2 := Y1.trans (z2.mono Y1.size)
    refine hK1.out _ _ (hS8 _ Y2) (fun _ => ?_)
    try simp only [Act.put, List.getElem_toArray, List.getElem_cons_zero, List.getElem_cons_succ, List.setIfInBounds_toArray, List.set_cons_zero, List.set_cons_succ]
    refine wpAnyH_ready (rs := [7]) (by kernel_rfl) (by simp) ?_
    refine AllReadyH.cons rfl (fun K2 hK2 => ?_) AllReadyH.nil
    go_simp
    refine (kB _).mono ?_
    rintro e Z3 ⟨rfl, z3⟩
    have Y3 : Below W1.heap.size W1 Z3 := Y2.trans (z3.mono Y2.size)
    refine hK2.out _ _ (hS8 _ Y3) (fun _ => ?_)
    try simp only [Act.put, List.getElem_toArray, List.getElem_cons_zero, List.getElem_cons_succ, List.setIfInBounds_toArray, List.set_cons_zero, List.set_cons_succ]
    refine wpAnyH_take (i := 8) (v := .string (⟨#[37]⟩ ++ FB)) rfl (by kernel_rfl) (by kernel_rfl) (by kernel_rfl) (fun _ _ _ h => h) (Or.inl ⟨by rfl, ?_⟩) (by assumption) ?_
    · intro w5 s0
      obtain ⟨s0, s1, s2, s3, s4, s5, s6, s7⟩ := s0
      go_simp
      try decide
      try omega
    try simp only [Act.put, List.getElem_toArray, List.getElem_cons_zero, List.getElem_cons_succ, List.setIfInBounds_toArray, List.set_cons_zero, List.set_cons_succ]
    refine wpAnyH_take (i := 10) (v := .string TB) rfl (by kernel_rfl) (by kernel_rfl) (by kernel_rfl) (fun _ _ _ h => h) (Or.inl ⟨by rfl, ?_⟩) (by assumption) ?_
    · intro w5 s0
      obtain ⟨s0, s1, s2, s3, s4, s5, s6, s7⟩ := s0
      go_simp
      try decide
      try omega
    try simp only [Act.put, List.getElem_toArray, List.getElem_cons_zero, List.getElem_cons_succ, List.setIfInBounds_toArray, List.set_cons_zero, List.set_cons_succ]
    refine wpAnyH_ready (rs := [11]) (by kernel_rfl) (by simp) ?_
    refine AllReadyH.cons rfl (fun K3 hK3 => ?_) AllReadyH.nil
    go_simp
    refine (hPB _).mono ?_
    rintro e Z4 ⟨gb, cb, rfl, hcb, hgb, yb, z4⟩
    have Y4 : Below W1.heap.size W1 Z4 := Y3.trans (z4.mono Y3.size)
    refine hK3.out _ _ (hS8 _ Y4) (fun _ => ?_)
    clear hK hK1 hK2 hK3
    try simp only [Act.put, List.getElem_toArray, List.getElem_cons_zero, List.getElem_cons_succ, List.setIfInBounds_toArray, List.set_cons_zero, List.set_cons_succ]
    refine wpAnyH_take (i := 12) (v := .slice (some ⟨ga, 0, none⟩) 1 ca) rfl (by kernel_rfl) (by kernel_rfl) (by kernel_rfl) (fun _ _ _ h => h) (Or.inl ⟨by rfl, ?_⟩) (by assumption) ?_
    · intro w5 s0
      obtain ⟨s0, s1, s2, s3, s4, s5, s6, s7⟩ := s0
      go_simp
      try decide
      try omega
    try simp only [Act.put, List.getElem_toArray, List.getElem_cons_zero, List.getElem_cons_succ, List.setIfInBounds_toArray, List.set_cons_zero, List.set_cons_succ]
    refine wpAnyH_take (i := 13) (v := .slice (some ⟨gb, 0, none⟩) 1 cb) rfl (by kernel_rfl) (by kernel_rfl) (by kernel_rfl) (fun _ _ _ h => h) (Or.inl ⟨by rfl, ?_⟩) (by assumption) ?_
    · intro w5 s0
      obtain ⟨s0, s1, s2, s3, s4, s5, s6, s7⟩ := s0
      go_simp
      try decide
      try omega
    try simp only [Act.put, List.getElem_toArray, List.getElem_cons_zero, List.getElem_cons_succ, List.setIfInBounds_toArray, List.set_cons_zero, List.set_cons_succ]
    refine wpAnyH_done (by kernel_rfl) ?_ _
    have hza := ya.b
    have y3 := ya.up z3
    have y4 := y3.up z4
    have hzz := z3.size
    have hne : ga ≠ gb := by omega
    have g1 := D3.size
    have g2 := z1.size
    have g3 := Y3.size
    clear hS kA kB hPA hPB
    go_wp2
    go_meet
    exact ⟨ga, ca, gb, cb, rfl, rfl, hca, hcb, hne, y4, yb, by omega, by omega, Y4⟩
  case rest =>
  obtain ⟨ga, ca, gb, cb, rfl, rfl, hca, hcb, hne, ya, yb, hga, hgb, Yc⟩ := hcut
  clear kA kB hPA hPB hS8 B3
  have hcaI : (1 : Int) ≤ ca := by omega
  have hcbI : (1 : Int) ≤ cb := by omega
  obtain ⟨V, hV⟩ : ∃ V, V = wc := ⟨_, rfl⟩
  subst hV
  have xs := x1.up Yc
  have e0 := xs.c 0 _ rfl
  have e1 := xs.c 1 _ rfl
  have e2 := xs.c 2 _ rfl
  have e3 := xs.c 3 _ rfl
  have e4 := xs.c 4 _ rfl
  obtain ⟨W5, hW5⟩ : ∃ W5, W5 = V.alloc (.cells #[.bool p, .bool mi, .bool sh, .bool sp, .bool z, .int .i64 (-1), .int .i64 (-1), .int .i32 120] 28) := ⟨_, rfl⟩
  have c5 : Below V.heap.size V W5 := by rw [hW5]; exact (Below.refl _ _).alloc (Nat.le_refl _) _
  have s5b : Bx W5 V.heap.size [.bool p, .bool mi, .bool sh, .bool sp, .bool z, .int .i64 (-1), .int .i64 (-1), .int .i32 120] := by rw [hW5]; exact Bx.new _ [_, _, _, _, _, _, _, _] _
  have ya5 := ya.up c5
  have yb5 := yb.up c5
  have hVa := ya.b
  have hVb := yb.b
  have hW5z : V.heap.size < W5.heap.size := s5b.b
  have Y5 : Below W1.heap.size W1 W5 := Yc.trans (c5.mono Yc.size)
  go_upto_region 7 with fail
  rw [← hW5]
  clear hW5 e0 e1 e2 e3 e4 xs ya yb c5
  go_upto_if 56 with fail
  go_cut [1] (fun t wx => wx = W5 ∧ t = .int .i64 NI)
  case first =>
    by_cases h : 1000 < i
    · have hI : (1000 : Int) < i := by omega
      have e : Hid ((-1 : Int) = NI) := by show _ = _; rw [HN1.out, if_pos h]
      go_wp2
      go_meet
      exact ⟨rfl, congrArg (Value.int .i64) e.out⟩
    · have hI : ¬ (1000 : Int) < i := by omega
      have e : Hid ((i : Int) = NI) := by show _ = _; rw [HN1.out, if_neg h]
      go_wp2
      go_meet
      exact ⟨rfl, congrArg (Value.int .i64) e.out⟩
  case rest =>
  obtain ⟨hwx, rfl⟩ := hcut
  have hwx' : W5 = wc := hwx.symm
  clear hwx
  subst hwx'
  go_upto_if 58 with fail
  go_cut [2] (fun t wx => wx = W5 ∧ t = .int .i64 NJ)
  case first =>
    by_cases h : 1000 < j
    · have hI : (1000 : Int) < j := by omega
      have e : Hid ((-1 : Int) = NJ) := by show _ = _; rw [HN2.out, if_pos h]
      go_wp2
      go_meet
      exact ⟨rfl, congrArg (Value.int .i64) e.out⟩
    · have hI : ¬ (1000 : Int) < j := by omega
      have e : Hid ((j : Int) = NJ) := by show _ = _; rw [HN2.out, if_neg h]
      go_wp2
      go_meet
      exact ⟨rfl, congrArg (Value.int .i64) e.out⟩
  case rest =>
  obtain ⟨hwx, rfl⟩ := hcut
  have hwx' : W5 = wc := hwx.symm
  clear hwx
  subst hwx'
  clear HN1 HN2
  have a1 := ya5.c 1 _ rfl
  have b1c := yb5.c 1 _ rfl
  have b1z := yb5.z 1
  obtain ⟨W6, hW6⟩ : ∃ W6, W6 = W5.setCell ⟨gb, 1, none⟩ (.string TA) := ⟨_, rfl⟩
  have Y6 : Below W1.heap.size W1 W6 := by rw [hW6]; exact Y5.setCell hgb _
  have yb6 : Bx W6 gb (pieceV 1 TA ⟨p, mi, sh, sp, z⟩ (-1) 120 ⟨1, NI, ix0⟩ ⟨1, NJ, ix0⟩ ix0) := by rw [hW6]; exact yb5.set 1 (by simp [pieceV]) (.string TA)
  have ya6 : Bx W6 ga (pieceV 1 TA ⟨p, mi, sh, sp, z⟩ (-1) 120 ⟨1, NI, ix0⟩ ⟨1, NJ, ix0⟩ ix0) := by rw [hW6]; exact ya5.other hne.symm _
  have s6b : Bx W6 V.heap.size [.bool p, .bool mi, .bool sh, .bool sp, .bool z, .int .i64 (-1), .int .i64 (-1), .int .i32 120] := by rw [hW6]; exact s5b.other (by omega) _
  go_upto_region 12 with fail
  rw [← hW6]
  clear hW6 a1 b1c b1z ya5 yb5 s5b Y5
  generalize V.heap.size = SB at *
  have f0 : ∀ y : Cl W6, y.w.cell? ⟨ga, 0, none⟩ = some (.int .i64 1) := fun y => y.cell (ya6.c 0 _ rfl)
  have f2 : ∀ y : Cl W6, y.w.cell? ⟨ga, 2, none⟩ = some (.bool p) := fun y => y.cell (ya6.c 2 _ rfl)
  have f3 : ∀ y : Cl W6, y.w.cell? ⟨ga, 3, none⟩ = some (.bool mi) := fun y => y.cell (ya6.c 3 _ rfl)
  have f4 : ∀ y : Cl W6, y.w.cell? ⟨ga, 4, none⟩ = some (.bool sh) := fun y => y.cell (ya6.c 4 _ rfl)
  have f5 : ∀ y : Cl W6, y.w.cell? ⟨ga, 5, none⟩ = some (.bool sp) := fun y => y.cell (ya6.c 5 _ rfl)
  have f6 : ∀ y : Cl W6, y.w.cell? ⟨ga, 6, none⟩ = some (.bool z) := fun y => y.cell (ya6.c 6 _ rfl)
  have f7 : ∀ y : Cl W6, y.w.cell? ⟨ga, 7, none⟩ = some (.int .i64 (-1)) := fun y => y.cell (ya6.c 7 _ rfl)
  have f8 : ∀ y : Cl W6, y.w.cell? ⟨ga, 8, none⟩ = some (.int .i64 (-1)) := fun y => y.cell (ya6.c 8 _ rfl)
  have f9 : ∀ y : Cl W6, y.w.cell? ⟨ga, 9, none⟩ = some (.int .i32 120) := fun y => y.cell (ya6.c 9 _ rfl)
  have f10 : ∀ y : Cl W6, y.w.cell? ⟨ga, 10, none⟩ = some (.int .i64 1) := fun y => y.cell (ya6.c 10 _ rfl)
  have f11 : ∀ y : Cl W6, y.w.cell? ⟨ga, 11, none⟩ = some (.int .i64 NI) := fun y => y.cell (ya6.c 11 _ rfl)
  have f12 : ∀ y : Cl W6, y.w.cell? ⟨ga, 12, none⟩ = some (.int .i64 0) := fun y => y.cell (ya6.c 12 _ rfl)
  have f13 : ∀ y : Cl W6, y.w.cell? ⟨ga, 13, none⟩ = some (.int .i64 0) := fun y => y.cell (ya6.c 13 _ rfl)
  have f14 : ∀ y : Cl W6, y.w.cell? ⟨ga, 14, none⟩ = some (.int .i64 1) := fun y => y.cell (ya6.c 14 _ rfl)
  have f15 : ∀ y : Cl W6, y.w.cell? ⟨ga, 15, none⟩ = some (.int .i64 NJ) := fun y => y.cell (ya6.c 15 _ rfl)
  have f16 : ∀ y : Cl W6, y.w.cell? ⟨ga, 16, none⟩ = some (.int .i64 0) := fun y => y.cell (ya6.c 16 _ rfl)
  have f17 : ∀ y : Cl W6, y.w.cell? ⟨ga, 17, none⟩ = some (.int .i64 0) := fun y => y.cell (ya6.c 17 _ rfl)
  have f18 : ∀ y : Cl W6, y.w.cell? ⟨ga, 18, none⟩ = some (.int .i64 0) := fun y => y.cell (ya6.c 18 _ rfl)
  have f19 : ∀ y : Cl W6, y.w.cell? ⟨ga, 19, none⟩ = some (.int .i64 0) := fun y => y.cell (ya6.c 19 _ rfl)
  have t0 : ∀ y : Cl W6, y.w.cell? ⟨SB, 0, none⟩ = some (.bool p) := fun y => y.cell (s6b.c 0 _ rfl)
  have t1 : ∀ y : Cl W6, y.w.cell? ⟨SB, 1, none⟩ = some (.bool mi) := fun y => y.cell (s6b.c 1 _ rfl)
  have t2 : ∀ y : Cl W6, y.w.cell? ⟨SB, 2, none⟩ = some (.bool sh) := fun y => y.cell (s6b.c 2 _ rfl)
  have t3 : ∀ y : Cl W6, y.w.cell? ⟨SB, 3, none⟩ = some (.bool sp) := fun y => y.cell (s6b.c 3 _ rfl)
  have t4 : ∀ y : Cl W6, y.w.cell? ⟨SB, 4, none⟩ = some (.bool z) := fun y => y.cell (s6b.c 4 _ rfl)
  have t5 : ∀ y : Cl W6, y.w.cell? ⟨SB, 5, none⟩ = some (.int .i64 (-1)) := fun y => y.cell (s6b.c 5 _ rfl)
  have t6 : ∀ y : Cl W6, y.w.cell? ⟨SB, 6, none⟩ = some (.int .i64 (-1)) := fun y => y.cell (s6b.c 6 _ rfl)
  have t7 : ∀ y : Cl W6, y.w.cell? ⟨SB, 7, none⟩ = some (.int .i32 120) := fun y => y.cell (s6b.c 7 _ rfl)
  have hLy : ∀ y : Cl W6, Calls Try.prog 12 #[] y.w fun e w' => e = .returned (.bool true) ∧ Below y.w.heap.size y.w w' := fun y => hL y.w
  obtain ⟨L, hLe⟩ : ∃ L, L = pieceV 1 TA ⟨p, mi, sh, sp, z⟩ (-1) 120 ⟨1, NI, ix0⟩ ⟨1, NJ, ix0⟩ ix0 := ⟨_, rfl⟩
  have hll : L.length = 20 := by rw [hLe]; rfl
  have rA : ∀ y : Cl W6, y.w.rangeAt ga 0 L := fun y k v hk => by rw [Nat.zero_add]; rw [hLe] at hk; exact y.cell (ya6.c k v hk)
  have rB : ∀ y : Cl W6, y.w.rangeAt gb 0 L := fun y k v hk => by rw [Nat.zero_add]; rw [hLe] at hk; exact y.cell (yb6.c k v hk)
  have heq : ∀ w, (binOp .eql 40 (.agg L.toArray) (.agg L.toArray)).run Try.prog w = .ok (.bool true) w := fun w => by rw [hLe]; exact eq20 _ _ _ _ _ _ _ _ w
  clear hLe ya6 yb6 s6b hL
  refine wp_region_above W6 (Below.refl _ _) (by kernel_rfl) (by kernel_rfl) ?_
  intro hCl
  repeat (first
    | (refine wpq_ld20 rfl (.tmp 67) rfl (B := ga) (o := 0) (vs := L) rfl rA hll ?_; simp only [Act.put, List.setIfInBounds_toArray, List.set_cons_zero, List.set_cons_succ])
    | (refine wpq_ld20 rfl (.tmp 70) rfl (B := gb) (o := 0) (vs := L) rfl rB hll ?_; simp only [Act.put, List.setIfInBounds_toArray, List.set_cons_zero, List.set_cons_succ])
    | (go_big_quiet_step ((go_at_call 12; exact Cl.call (hLy _)))))
  refine wpQuiet_nil ?_
  intro _ hw'
  obtain ⟨y, hx⟩ := hw'
  subst hx
  have hfin : Below w.heap.size w y.w := b1.trans ((Y6.mono b1.size).trans (y.below.mono (Nat.le_trans b1.size Y6.size)))
  clear heq rA rB hLy
  go_wp2
  go_ret
  exact ⟨rfl, hfin⟩
end Go.Proofs.Ytbgejkodgcgpdaa
