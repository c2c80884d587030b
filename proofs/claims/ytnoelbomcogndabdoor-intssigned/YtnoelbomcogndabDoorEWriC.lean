/- The walk of the document's write by a base, and of its Signed and Unsigned. -/
import Derived.Test.YtnoelbomcogndabDoorEWriB
namespace Go.Proofs.YtnoelbomcogndabDoor
open Go.RowKit
set_option linter.unusedVariables false

/-- The mark as the document first has it. -/
def markE (sh : Bool) (verb : Int) : ByteArray := if verb = 79 ∨ sh = true then mark0 verb else ⟨#[]⟩
theorem markE_yes (sh : Bool) (verb : Int) (h : verb = 79 ∨ sh = true) : markE sh verb = mark0 verb := by unfold markE; rw [if_pos h]
theorem markE_no (sh : Bool) (verb : Int) (h : ¬ (verb = 79 ∨ sh = true)) : markE sh verb = ⟨#[]⟩ := by unfold markE; rw [if_neg h]
theorem mark0_size (verb : Int) : (mark0 verb).size ≤ 2 := by
  unfold mark0
  repeat' split
  all_goals decide
theorem markE_size (sh : Bool) (verb : Int) : (markE sh verb).size ≤ 2 := by
  unfold markE
  split
  · exact mark0_size verb
  · decide
/-- The mark that stays. -/
theorem mark_stays (d : ByteArray) (sh : Bool) (verb : Int) : markB d sh verb = if markE sh verb = ⟨#[48]⟩ ∧ bt d 0 = 48 then ⟨#[]⟩ else markE sh verb := by
  by_cases h79 : verb = 79
  · subst h79
    have e : markE sh 79 = ⟨#[48, 111]⟩ := by unfold markE; rw [if_pos (.inl rfl)]; decide
    rw [e, if_neg (fun h => absurd h.1 (by decide))]
    simp [markB]
  cases sh with
  | false =>
    have e : markE false verb = ⟨#[]⟩ := by unfold markE; rw [if_neg (by simp [h79])]
    rw [e, if_neg (fun h => absurd h.1 (by decide))]
    simp [markB, h79]
  | true =>
    have e : markE true verb = mark0 verb := by unfold markE; rw [if_pos (.inr rfl)]
    rw [e]
    by_cases h1 : verb = 98
    · subst h1
      rw [if_neg (fun h => absurd h.1 (by decide))]
      simp [markB, mark0]
    by_cases h2 : verb = 111
    · subst h2
      have e0 : mark0 111 = ⟨#[48]⟩ := by decide
      rw [e0]
      unfold markB
      rw [if_neg (by omega), if_neg (by simp), if_neg (by omega), if_pos rfl]
      by_cases hb : bt d 0 = 48
      · rw [if_pos hb, if_pos ⟨rfl, hb⟩]
      · rw [if_neg hb, if_neg (fun h => hb h.2)]
    by_cases h3 : verb = 120
    · subst h3
      rw [if_neg (fun h => absurd h.1 (by decide))]
      simp [markB, mark0]
    by_cases h4 : verb = 88
    · subst h4
      rw [if_neg (fun h => absurd h.1 (by decide))]
      simp [markB, mark0]
    have e0 : mark0 verb = ⟨#[]⟩ := by simp [mark0, h1, h2, h3, h4, h79]
    rw [e0, if_neg (fun h => absurd h.1 (by decide))]
    simp [markB, h79, h1, h2, h3, h4]
theorem beq_n2 (a b : ByteArray) (h : ¬ a = b) : (a.toList == b.toList) = false := by
  have := beq_no a b h
  injection this
/-- The sign, step by step. -/
def sg1 (sp : Bool) : ByteArray := if sp = true then ⟨#[32]⟩ else ⟨#[]⟩
def sgE (neg p sp : Bool) : ByteArray := if neg = true then ⟨#[45]⟩ else signA p sp
theorem sgE_size (neg p sp : Bool) : (sgE neg p sp).size ≤ 1 := by cases neg <;> cases p <;> cases sp <;> decide
theorem widE (d : ByteArray) (a b : Nat) (mi z : Bool) (wid prec : Int) (hz : z = true) (hm : mi = false) (hp : prec < 0) : lenS d (wdE wid - (a : Nat) - (b : Nat)) = widD d (a + b) mi z wid prec := by
  unfold widD
  rw [if_pos ⟨hz, hm, hp⟩]
  have e : wdt (wdE wid - (a : Nat) - (b : Nat) - (d.size : Nat)) = wdt ((wdt wid : Nat) - ((a + b : Nat) : Int) - (d.size : Nat)) := by unfold wdE wdt; split <;> omega
  unfold lenS
  rw [e]
theorem widE_no (d : ByteArray) (a : Nat) (mi z : Bool) (wid prec : Int) (h : ¬ (z = true ∧ mi = false ∧ prec < 0)) : widD d a mi z wid prec = d := by unfold widD; rw [if_neg h]
theorem core_pack (sign m d : ByteArray) (hs : sign.size ≤ 1) (hm : m.size ≤ 2) (hd : d.size ≤ 5000) : ∃ A R : ByteArray, sign ++ m = A ∧ A ++ d = R ∧ ¬ 9223372036854775807 < sign.size + m.size ∧ ¬ 9223372036854775807 < A.size + d.size ∧ R = (sign ++ m) ++ d ∧ R.size ≤ 6000 := by
  refine ⟨_, _, rfl, rfl, by omega, ?_, rfl, ?_⟩
  · rw [app_size]; omega
  · rw [app_size, app_size]; omega

set_option maxRecDepth 1000000 in
set_option maxHeartbeats 4000000 in
theorem ewr_b (neg : Bool) (size bits : Nat) (p mi sh sp z : Bool) (wid prec verb : Int) (w : World) (hn2 : size < 18446744073709551616) (h1 : ¬ verb = 99) (h2 : ¬ verb = 113) (h3 : ¬ verb = 85) (hb : ¬ baseV verb = 0) :
    Calls Tryd.prog 24 #[.bool neg, .int .u64 size, .int .u64 bits, .agg #[.bool p, .bool mi, .bool sh, .bool sp, .bool z, .int .i64 wid, .int .i64 prec, .int .i32 verb]] w fun e w' => e = .returned (.tuple #[.string (padS (coreB size (baseV verb) (sgE neg p sp) mi sh z wid prec verb) mi false wid), .bool true]) ∧ Below w.heap.size w w' := by
  have hbA : Below w.heap.size w (w.alloc (.cells #[.bool p, .bool mi, .bool sh, .bool sp, .bool z, .int .i64 wid, .int .i64 prec, .int .i32 verb] 27)) := (Below.refl _ _).alloc (Nat.le_refl _) _
  have f0 : ∀ x : Cl (w.alloc (.cells #[.bool p, .bool mi, .bool sh, .bool sp, .bool z, .int .i64 wid, .int .i64 prec, .int .i32 verb] 27)), x.w.cell? ⟨w.heap.size, 0, none⟩ = some (.bool p) := fun x => x.cell (by simp)
  have f1 : ∀ x : Cl (w.alloc (.cells #[.bool p, .bool mi, .bool sh, .bool sp, .bool z, .int .i64 wid, .int .i64 prec, .int .i32 verb] 27)), x.w.cell? ⟨w.heap.size, 1, none⟩ = some (.bool mi) := fun x => x.cell (by simp)
  have f2 : ∀ x : Cl (w.alloc (.cells #[.bool p, .bool mi, .bool sh, .bool sp, .bool z, .int .i64 wid, .int .i64 prec, .int .i32 verb] 27)), x.w.cell? ⟨w.heap.size, 2, none⟩ = some (.bool sh) := fun x => x.cell (by simp)
  have f3 : ∀ x : Cl (w.alloc (.cells #[.bool p, .bool mi, .bool sh, .bool sp, .bool z, .int .i64 wid, .int .i64 prec, .int .i32 verb] 27)), x.w.cell? ⟨w.heap.size, 3, none⟩ = some (.bool sp) := fun x => x.cell (by simp)
  have f4 : ∀ x : Cl (w.alloc (.cells #[.bool p, .bool mi, .bool sh, .bool sp, .bool z, .int .i64 wid, .int .i64 prec, .int .i32 verb] 27)), x.w.cell? ⟨w.heap.size, 4, none⟩ = some (.bool z) := fun x => x.cell (by simp)
  have f5 : ∀ x : Cl (w.alloc (.cells #[.bool p, .bool mi, .bool sh, .bool sp, .bool z, .int .i64 wid, .int .i64 prec, .int .i32 verb] 27)), x.w.cell? ⟨w.heap.size, 5, none⟩ = some (.int .i64 wid) := fun x => x.cell (by simp)
  have f6 : ∀ x : Cl (w.alloc (.cells #[.bool p, .bool mi, .bool sh, .bool sp, .bool z, .int .i64 wid, .int .i64 prec, .int .i32 verb] 27)), x.w.cell? ⟨w.heap.size, 6, none⟩ = some (.int .i64 prec) := fun x => x.cell (by simp)
  have f7 : ∀ x : Cl (w.alloc (.cells #[.bool p, .bool mi, .bool sh, .bool sp, .bool z, .int .i64 wid, .int .i64 prec, .int .i32 verb] 27)), x.w.cell? ⟨w.heap.size, 7, none⟩ = some (.int .i32 verb) := fun x => x.cell (by simp)
  have hbi := baseV_is verb hb
  have hBs := ebases_any verb
  have hbz : ¬ ((baseV verb : Nat) : Int) = 0 := by omega
  obtain ⟨al, hal⟩ : ∃ al, decide (verb = 79) = al := ⟨_, rfl⟩
  rw [hal] at hBs
  have HAL1 : Hid (al = true → verb = 79) := fun h => by rw [h] at hal; simpa using hal
  have HAL0 : Hid (al = false → ¬ verb = 79) := fun h => by rw [h] at hal; simpa using hal
  clear hal
  have hD : ∀ w, Calls Tryd.prog 10 #[.int .u64 size, .int .i64 (baseV verb : Nat)] w fun e w' => e = .returned (.string (digT false (baseV verb) size)) ∧ w' = w := fun w => edigits_any size (baseV verb) w hn2 hbi
  have hG : ∀ w, Calls Tryd.prog 40 #[.string (digT false (baseV verb) size)] w fun e w' => e = .returned (.string (digT true (baseV verb) size)) ∧ Below w.heap.size w w' := fun w => egreat_dig (baseV verb) size w (by omega) (by omega)
  have hWp := rwidth_any prec
  have hWw := rwidth_any wid
  have hpf := wdE_facts prec
  have hwf := wdE_facts wid
  have hz0 := digT_size (decide (verb = 88)) (baseV verb) size
  have hN : ∀ w, Calls Tryd.prog 39 #[.string (digT (decide (verb = 88)) (baseV verb) size), .int .i64 (wdE prec)] w fun e w' => e = .returned (.string (lenS (digT (decide (verb = 88)) (baseV verb) size) (wdE prec))) ∧ w' = w := fun w => ezeros_any _ _ w (by omega) (by omega)
  have hE0 : ∀ t : ByteArray, t.size ≤ 6000 → ∀ w, Calls Tryd.prog 42 #[.string t, .agg #[.bool p, .bool mi, .bool sh, .bool sp, .bool z, .int .i64 wid, .int .i64 prec, .int .i32 verb]] w fun e w' => e = .returned (.string (padS t mi false wid)) ∧ Below w.heap.size w w' := fun t ht w => rplain_any t p mi sh sp z wid prec verb w (by omega)
  have HX1 : Hid (verb = 88 → digT (decide (verb = 88)) (baseV verb) size = digT true (baseV verb) size) := fun h => by rw [show decide (verb = 88) = true by simp [h]]
  have HX0 : Hid (¬ verb = 88 → digT (decide (verb = 88)) (baseV verb) size = digT false (baseV verb) size) := fun h => by rw [show decide (verb = 88) = false by simp [h]]
  have HC0 : Hid (size = 0 → prec = 0 → coreB size (baseV verb) (sgE neg p sp) mi sh z wid prec verb = ⟨#[]⟩) := fun e1 e2 => by
    unfold coreB
    rw [e1, e2, digBy_zero]; exact if_pos rfl
  have HC1 : Hid (¬ (size = 0 ∧ prec = 0) → coreB size (baseV verb) (sgE neg p sp) mi sh z wid prec verb = (sgE neg p sp ++ markB (lenS (digT (decide (verb = 88)) (baseV verb) size) (wdE prec)) sh verb) ++ widD (lenS (digT (decide (verb = 88)) (baseV verb) size) (wdE prec)) (sgE neg p sp ++ markB (lenS (digT (decide (verb = 88)) (baseV verb) size) (wdE prec)) sh verb).size mi z wid prec) := fun h => by
    have e1 := digBy_more size (baseV verb) prec verb h
    have e2 := digBy_pos size (baseV verb) prec verb h
    rw [← lenS_wdE] at e1
    unfold coreB
    rw [if_neg (by omega), e1]
  have hl := lenS_size (digT (decide (verb = 88)) (baseV verb) size) (wdE prec)
  have HM := mark_stays (lenS (digT (decide (verb = 88)) (baseV verb) size) (wdE prec)) sh verb
  have hmz := markB_size (lenS (digT (decide (verb = 88)) (baseV verb) size) (wdE prec)) sh verb
  generalize coreB size (baseV verb) (sgE neg p sp) mi sh z wid prec verb = core at *
  generalize markB (lenS (digT (decide (verb = 88)) (baseV verb) size) (wdE prec)) sh verb = M1 at *
  generalize lenS (digT (decide (verb = 88)) (baseV verb) size) (wdE prec) = D1 at *
  generalize digT (decide (verb = 88)) (baseV verb) size = D at *
  generalize digT true (baseV verb) size = DT at *
  generalize digT false (baseV verb) size = DF at *
  have HME1 : Hid (verb = 79 ∨ sh = true → markE sh verb = mark0 verb) := markE_yes sh verb
  have HME0 : Hid (¬ (verb = 79 ∨ sh = true) → markE sh verb = ⟨#[]⟩) := markE_no sh verb
  have hmez := markE_size sh verb
  generalize markE sh verb = ME at *
  generalize mark0 verb = MV at *
  generalize baseV verb = b at *
  have HMM : Hid (M1 = if ME = ⟨#[48]⟩ ∧ bt D1 0 = 48 then ⟨#[]⟩ else ME) := HM
  clear HM hbi hb
  go_enter Tryd.func24, Tryd.ntmps24
  go_upto_region 17 with (first | (go_at_call 43; refine (hBs _).mono ?_; rintro e w9 ⟨rfl, rfl⟩))
  go_cut [87] (fun t wx => wx = (w.alloc (.cells #[.bool p, .bool mi, .bool sh, .bool sp, .bool z, .int .i64 wid, .int .i64 prec, .int .i32 verb] 27)) ∧ t = .bool (decide (¬ (verb = 79 ∨ sh = true))))
  case first =>
    as_aux_lemma =>
    cases al with
    | true =>
      go_wp2
      go_meet
      have h79 : verb = 79 := by first | exact HAL1.out rfl | exact HAL1.out trivial
      exact ⟨rfl, by simp [h79]⟩
    | false =>
      cases sh with
      | true =>
        go_wp2
        go_meet
        exact ⟨rfl, by simp⟩
      | false =>
        go_wp2
        go_meet
        have h79 : ¬ verb = 79 := by first | exact HAL0.out rfl | exact HAL0.out trivial
        exact ⟨rfl, by simp [h79]⟩
  case rest =>
  obtain ⟨rfl, hb87⟩ := hcut
  go_upto_if 87 with fail
  go_cut [13] (fun m wx => wx = (w.alloc (.cells #[.bool p, .bool mi, .bool sh, .bool sp, .bool z, .int .i64 wid, .int .i64 prec, .int .i32 verb] 27)) ∧ m = .string ME)
  case first =>
    as_aux_lemma =>
    by_cases h79 : verb = 79 ∨ sh = true
    · have hd : decide (¬ (verb = 79 ∨ sh = true)) = false := by simp [h79]
      rw [hd] at hb87
      subst hb87
      have hme := HME1.out h79
      subst hme
      go_wp2
      go_meet
      exact ⟨rfl, rfl⟩
    · have hd : decide (¬ (verb = 79 ∨ sh = true)) = true := by simp [h79]
      rw [hd] at hb87
      subst hb87
      have hme := HME0.out h79
      subst hme
      go_wp2
      go_meet
      exact ⟨rfl, rfl⟩
  case rest =>
  obtain ⟨rfl, rfl⟩ := hcut
  clear hb87 HME0 HME1 HAL0 HAL1
  go_upto_if 93 with (first | (go_at_call 10; refine (hD _).mono ?_; rintro e w9 ⟨rfl, rfl⟩))
  go_cut [15] (fun dd wx => (∃ y : Cl (w.alloc (.cells #[.bool p, .bool mi, .bool sh, .bool sp, .bool z, .int .i64 wid, .int .i64 prec, .int .i32 verb] 27)), wx = y.w) ∧ dd = .string D)
  case first =>
    as_aux_lemma =>
    by_cases hv : verb = 88
    · have hx := HX1.out hv
      subst hx
      subst hv
      go_wp2_with (first | (go_at_call 40; (first | refine (Cl.go (hG _)).mono ?_ | refine (Cl.go0 (hG _)).mono ?_); rintro e w9 ⟨y, rfl, rfl⟩))
      go_meet
      exact ⟨⟨y, rfl⟩, rfl⟩
    · have hx := HX0.out hv
      subst hx
      go_wp2
      go_meet
      exact ⟨⟨⟨_, Below.refl _ _⟩, rfl⟩, rfl⟩
  case rest =>
  obtain ⟨⟨y, rfl⟩, rfl⟩ := hcut
  clear HX0 HX1 hD hG
  go_upto_region 23 with (first | (go_at_call 38; refine (hWp _).mono ?_; rintro e w9 ⟨rfl, rfl⟩))
  go_cut [104] (fun t wx => wx = y.w ∧ t = .bool (decide (prec = 0 ∧ size = 0)))
  case first =>
    as_aux_lemma =>
    have hk0 := hpf.2.2.2
    by_cases hp : prec = 0
    · have hk : wdE prec = 0 := hk0.2 hp
      have HK : Hid (prec = 0) := hp
      clear hk0 hp hpf
      by_cases hs : size = 0
      · have hsI : (size : Int) = 0 := by omega
        have HS : Hid (size = 0) := hs
        clear hs
        go_wp2
        go_meet
        exact ⟨rfl, by simp [HK.out, HS.out]⟩
      · have hsI : ¬ (size : Int) = 0 := by omega
        go_wp2
        go_meet
        exact ⟨rfl, by simp [hs]⟩
    · have hk : ¬ wdE prec = 0 := fun h => hp (hk0.1 h)
      generalize wdE prec = kk at *
      go_wp2
      go_meet
      exact ⟨rfl, by simp [hp]⟩
  case rest =>
  obtain ⟨rfl, hb104⟩ := hcut
  by_cases h0 : prec = 0 ∧ size = 0
  · have hd : decide (prec = 0 ∧ size = 0) = true := by simp [h0]
    rw [hd] at hb104
    subst hb104
    have hc := HC0.out h0.2 h0.1
    subst hc
    clear h0 hd
    have hP := hE0 ⟨#[]⟩ (by decide)
    obtain ⟨rr, hrr⟩ : ∃ rr, padS ⟨#[]⟩ mi false wid = rr := ⟨_, rfl⟩
    rw [hrr] at hP
    have HRR : Hid (padS ⟨#[]⟩ mi false wid = rr) := hrr
    clear HC0 HC1 hN hE0 hrr
    go_wp2_with (first | (go_at_call 42; (first | refine (Cl.go (hP _)).mono ?_ | refine (Cl.go0 (hP _)).mono ?_); rintro e w9 ⟨y, rfl, rfl⟩))
    go_ret2
    rw [HRR.out]
    exact ⟨rfl, hbA.trans (y.below.mono hbA.size)⟩
  have hd : decide (prec = 0 ∧ size = 0) = false := by simp [h0]
  rw [hd] at hb104
  subst hb104
  have hcore := HC1.out (fun h => h0 ⟨h.2, h.1⟩)
  clear HC0 HC1 hd h0
  generalize wdE prec = kp at *
  go_upto_region 26 with (first | (go_at_call 39; refine (hN _).mono ?_; rintro e w9 ⟨rfl, rfl⟩))
  clear hN
  have hD1 : 0 < D1.size := by omega
  go_cut [116] (fun t wx => wx = y.w ∧ t = .bool (decide (ME = ⟨#[48]⟩ ∧ bt D1 0 = 48)))
  case first =>
    as_aux_lemma =>
    by_cases hm : ME = ⟨#[48]⟩
    · subst hm
      have hbt := bt_at D1 0 hD1
      by_cases hb0 : bt D1 0 = 48
      · have hb1 : ((D1[0]'hD1).toNat : Int) = 48 := by rw [hbt]; omega
        have HB : Hid (bt D1 0 = 48) := hb0
        clear hb0 hbt
        go_wp2
        go_meet
        exact ⟨rfl, by simp [HB.out]⟩
      · have hb1 : (((D1[0]'hD1).toNat : Int) == 48) = false := by rw [hbt]; simp; omega
        have HB : Hid (¬ bt D1 0 = 48) := hb0
        clear hb0 hbt
        go_wp2
        go_meet
        exact ⟨rfl, by simp [HB.out]⟩
    · have hq : (ME.toList == [48]) = false := by simpa using beq_n2 ME ⟨#[48]⟩ hm
      go_wp2
      go_meet
      exact ⟨rfl, by simp [hm]⟩
  case rest =>
  obtain ⟨rfl, hb116⟩ := hcut
  go_upto_if 116 with fail
  go_cut [13] (fun m wx => wx = y.w ∧ m = .string M1)
  case first =>
    as_aux_lemma =>
    by_cases hm : ME = ⟨#[48]⟩ ∧ bt D1 0 = 48
    · have hd : decide (ME = ⟨#[48]⟩ ∧ bt D1 0 = 48) = true := by simp [hm]
      rw [hd] at hb116
      subst hb116
      have h9 := HMM.out
      rw [if_pos hm] at h9
      subst h9
      go_wp2
      go_meet
      exact ⟨rfl, rfl⟩
    · have hd : decide (ME = ⟨#[48]⟩ ∧ bt D1 0 = 48) = false := by simp [hm]
      rw [hd] at hb116
      subst hb116
      have h9 := HMM.out
      rw [if_neg hm] at h9
      subst h9
      go_wp2
      go_meet
      exact ⟨rfl, rfl⟩
  case rest =>
  obtain ⟨rfl, rfl⟩ := hcut
  clear hb116 HMM
  go_upto_if 118 with fail
  go_cut [17] (fun m wx => wx = y.w ∧ m = .string (sg1 sp))
  case first =>
    as_aux_lemma =>
    cases sp
    · go_wp2
      go_meet
      exact ⟨rfl, rfl⟩
    · go_wp2
      go_meet
      exact ⟨rfl, rfl⟩
  case rest =>
  obtain ⟨rfl, rfl⟩ := hcut
  go_upto_if 120 with fail
  go_cut [17] (fun m wx => wx = y.w ∧ m = .string (signA p sp))
  case first =>
    as_aux_lemma =>
    cases p
    · have e : signA false sp = sg1 sp := by cases sp <;> rfl
      have E : Hid (signA false sp = sg1 sp) := e
      clear e
      go_wp2
      go_meet
      exact ⟨rfl, by rw [E.out]⟩
    · go_wp2
      go_meet
      exact ⟨rfl, rfl⟩
  case rest =>
  obtain ⟨rfl, rfl⟩ := hcut
  have hsz := sgE_size neg p sp
  go_upto_if 121 with fail
  go_cut [17] (fun m wx => wx = y.w ∧ m = .string (sgE neg p sp))
  case first =>
    as_aux_lemma =>
    cases neg
    · go_wp2
      go_meet
      exact ⟨rfl, rfl⟩
    · go_wp2
      go_meet
      exact ⟨rfl, rfl⟩
  case rest =>
  obtain ⟨rfl, rfl⟩ := hcut
  generalize sgE neg p sp = SG at *
  have hwd := widD_size D1 (SG.size + M1.size) mi z wid prec
  have HW1 : Hid (z = true → mi = false → prec < 0 → lenS D1 (wdE wid - (SG.size : Nat) - (M1.size : Nat)) = widD D1 (SG.size + M1.size) mi z wid prec) := fun a1 a2 a3 => widE D1 SG.size M1.size mi z wid prec a1 a2 a3
  have HW0 : Hid (¬ (z = true ∧ mi = false ∧ prec < 0) → widD D1 (SG.size + M1.size) mi z wid prec = D1) := fun a1 => widE_no D1 _ mi z wid prec a1
  rw [app_size] at hcore
  have hZ : ∀ w, Calls Tryd.prog 39 #[.string D1, .int .i64 (wdE wid - (SG.size : Nat) - (M1.size : Nat))] w fun e w' => e = .returned (.string (lenS D1 (wdE wid - (SG.size : Nat) - (M1.size : Nat)))) ∧ w' = w := fun w => ezeros_any _ _ w (by omega) (by omega)
  generalize widD D1 (SG.size + M1.size) mi z wid prec = D2 at *
  obtain ⟨A, R, hA, hR, hs1, hs2, hRe, hRz⟩ := core_pack SG M1 D2 hsz hmz (by omega)
  rw [← hRe] at hcore
  subst hcore
  have hP := hE0 core hRz
  obtain ⟨rr, hrr⟩ : ∃ rr, padS core mi false wid = rr := ⟨_, rfl⟩
  rw [hrr] at hP
  have HRR : Hid (padS core mi false wid = rr) := hrr
  clear hRe hE0 hrr
  go_upto_region 35 with fail
  go_cut [132] (fun t wx => wx = y.w ∧ t = .bool (decide (z = true ∧ mi = false ∧ prec < 0)))
  case first =>
    as_aux_lemma =>
    have hkp := hpf.2.2.1
    clear HW0 HW1
    cases z
    · go_wp2
      go_meet
      exact ⟨rfl, by simp⟩
    · cases mi
      · by_cases hp : prec < 0
        · have hk : kp < 0 := hkp.2 hp
          go_wp2
          go_meet
          exact ⟨rfl, by simp [hp]⟩
        · have hk : ¬ kp < 0 := fun h => hp (hkp.1 h)
          go_wp2
          go_meet
          exact ⟨rfl, by simp [hp]⟩
      · go_wp2
        go_meet
        exact ⟨rfl, by simp⟩
  case rest =>
  obtain ⟨rfl, hb132⟩ := hcut
  go_upto_if 132 with fail
  go_cut [15] (fun m wx => wx = y.w ∧ m = .string D2)
  case first =>
    as_aux_lemma =>
    by_cases hc : z = true ∧ mi = false ∧ prec < 0
    · have hd : decide (z = true ∧ mi = false ∧ prec < 0) = true := by simp [hc]
      rw [hd] at hb132
      subst hb132
      have h9 := HW1.out hc.1 hc.2.1 hc.2.2
      rw [h9] at hZ
      clear h9 HW0 HW1 hc hd
      generalize wdE wid = kw at *
      go_wp2_with (first | (go_at_call 38; refine (hWw _).mono ?_; rintro e w9 ⟨rfl, rfl⟩) | (go_at_call 39; refine (hZ _).mono ?_; rintro e w9 ⟨rfl, rfl⟩))
      go_meet
      exact ⟨rfl, rfl⟩
    · have hd : decide (z = true ∧ mi = false ∧ prec < 0) = false := by simp [hc]
      rw [hd] at hb132
      subst hb132
      have h9 := HW0.out hc
      subst h9
      go_wp2
      go_meet
      exact ⟨rfl, rfl⟩
  case rest =>
  obtain ⟨rfl, rfl⟩ := hcut
  clear HW0 HW1 hb132 hZ
  go_wp2_with (first | (go_at_call 42; (first | refine (Cl.go (hP _)).mono ?_ | refine (Cl.go0 (hP _)).mono ?_); rintro e w9 ⟨y, rfl, rfl⟩))
  go_ret2
  rw [HRR.out]
  exact ⟨rfl, hbA.trans (y.below.mono hbA.size)⟩
end Go.Proofs.YtnoelbomcogndabDoor
