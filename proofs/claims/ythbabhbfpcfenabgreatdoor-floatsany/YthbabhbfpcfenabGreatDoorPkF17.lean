/- SWalkD, SWalkE: these texts in one. -/
import Derived.Test.YthbabhbfpcfenabGreatDoorPkF16
/- The walks of package short: has, and the closure of Read. -/
namespace Go.Proofs.YthbabhbfpcfenabGreatDoor
open Go.RowKit
set_option linter.unusedVariables false
set_option linter.unusedSimpArgs false

/-- What has answers. -/
def hasB (ev : Bool) (r1 r2 : Int) : Bool := if ev then decide (0 ≤ r1) && decide (r2 ≤ 0) else decide (0 < r1) && decide (r2 < 0)
set_option maxRecDepth 1000000 in
set_option maxHeartbeats 1600000 in
theorem has_walk {s S1 S2 : ByteArray} {p P1 P2 r1 r2 : Int} {ev : Bool} (h1 : CpC s p S1 P1 r1) (h2 : CpC s p S2 P2 r2) (w : World) :
    Calls Tryz.prog 21 #[.agg #[.string S1, .int .i64 P1, .string S2, .int .i64 P2, .bool ev], .agg #[.string s, .int .i64 p]] w fun x w' => x = .returned (.bool (hasB ev r1 r2)) ∧ Below w.heap.size w w' := by
  obtain ⟨W2, hW2⟩ : ∃ W2, (w.alloc (.cells #[.string S1, .int .i64 P1, .string S2, .int .i64 P2, .bool ev] 54)).alloc (.cells #[.string s, .int .i64 p] 24) = W2 := ⟨_, rfl⟩
  have hbW : Below w.heap.size w W2 := by rw [← hW2]; go_grown
  have c0 : ∀ x : Cl W2, x.w.cell? ⟨w.heap.size, 0, none⟩ = some (.string S1) := fun x => x.cell (by rw [← hW2]; simp [go_sem])
  have c1 : ∀ x : Cl W2, x.w.cell? ⟨w.heap.size, 1, none⟩ = some (.int .i64 P1) := fun x => x.cell (by rw [← hW2]; simp [go_sem])
  have c2 : ∀ x : Cl W2, x.w.cell? ⟨w.heap.size, 2, none⟩ = some (.string S2) := fun x => x.cell (by rw [← hW2]; simp [go_sem])
  have c3 : ∀ x : Cl W2, x.w.cell? ⟨w.heap.size, 3, none⟩ = some (.int .i64 P2) := fun x => x.cell (by rw [← hW2]; simp [go_sem])
  have c4 : ∀ x : Cl W2, x.w.cell? ⟨w.heap.size, 4, none⟩ = some (.bool ev) := fun x => x.cell (by rw [← hW2]; simp [go_sem])
  have c5 : ∀ x : Cl W2, x.w.cell? ⟨w.heap.size + 1, 0, none⟩ = some (.string s) := fun x => x.cell (by rw [← hW2]; simp [go_sem])
  have c6 : ∀ x : Cl W2, x.w.cell? ⟨w.heap.size + 1, 1, none⟩ = some (.int .i64 p) := fun x => x.cell (by rw [← hW2]; simp [go_sem])
  go_enter Tryz.func21, Tryz.ntmps21
  go_wp2
  refine wp_region_above W2 (Below.refl _ _) (by kernel_rfl) (by kernel_rfl) ?_
  intro hCl
  repeat (go_big_quiet_step ((first | (go_at_call 39; with_reducible exact Cl.call (h1 _)) | (go_at_call 39; with_reducible exact Cl.call (h2 _)))))
  refine wpQuiet_nil ?_
  intro _ hw'
  obtain ⟨y, hx⟩ := hw'
  subst hx
  have hb := bel_call hbW y.below (Nat.le_refl _)
  cases ev
  · by_cases k1 : 0 < r1
    · go_wp2
      go_ret
      refine ⟨?_, hb⟩
      simp [hasB, k1] <;> omega
    · go_wp2
      go_ret
      refine ⟨?_, hb⟩
      simp [hasB, k1] <;> omega
  · by_cases k1 : 0 ≤ r1
    · go_wp2
      go_ret
      refine ⟨?_, hb⟩
      simp [hasB, k1] <;> omega
    · go_wp2
      go_ret
      refine ⟨?_, hb⟩
      simp [hasB, k1] <;> omega
/-- What the closure answers. -/
def tg (A v p : Nat) : Bool := decide (v < A) || (decide (v = A) && decide (p % 2 = 1))
set_option maxRecDepth 1000000 in
set_option maxHeartbeats 1600000 in
theorem great_walk {s S : ByteArray} {q P least : Int} {f ww p A v Bd Bl : Nat} (h1 : AbC f ww least ((p : Int) - 1) S P) (h2 : CpC s q S P (ordN v A)) (hp0 : 1 ≤ p) (hp : p < 9300000000000000000) (w : World)
    (d0 : w.cell? ⟨Bd, 0, none⟩ = some (.string s)) (d1 : w.cell? ⟨Bd, 1, none⟩ = some (.int .i64 q))
    (l0 : w.cell? ⟨Bl, 0, none⟩ = some (.int .i64 ww)) (l1 : w.cell? ⟨Bl, 1, none⟩ = some (.int .i64 f)) (l2 : w.cell? ⟨Bl, 2, none⟩ = some (.int .i64 least)) :
    Calls Tryz.prog 53 #[.int .u64 p, .pointer (some ⟨Bd, 0, none⟩), .pointer (some ⟨Bl, 0, none⟩)] w fun x w' => x = .returned (.bool (tg A v p)) ∧ Below w.heap.size w w' := by
  have h3 := fun w => iseven_any p w (by omega)
  have hpI : 1 ≤ (p : Int) := by omega
  have hwr : IntKind.u64.wrap ((p : Int) - 1) = (p : Int) - 1 := by rw [IntKind.wrap_u64]; omega
  have h1' : AbC f ww least (IntKind.u64.wrap ((p : Int) - 1)) S P := by rw [hwr]; exact h1
  clear hwr
  have c0 : ∀ x : Cl w, x.w.cell? ⟨Bd, 0, none⟩ = some (.string s) := fun x => x.cell d0
  have c1 : ∀ x : Cl w, x.w.cell? ⟨Bd, 1, none⟩ = some (.int .i64 q) := fun x => x.cell d1
  have c2 : ∀ x : Cl w, x.w.cell? ⟨Bl, 0, none⟩ = some (.int .i64 ww) := fun x => x.cell l0
  have c3 : ∀ x : Cl w, x.w.cell? ⟨Bl, 1, none⟩ = some (.int .i64 f) := fun x => x.cell l1
  have c4 : ∀ x : Cl w, x.w.cell? ⟨Bl, 2, none⟩ = some (.int .i64 least) := fun x => x.cell l2
  have HT : Hid (tg A v p = if v < A then true else if v = A then decide (p % 2 = 1) else false) := by
    show tg A v p = _
    unfold tg
    by_cases k1 : v < A
    · simp [k1]
    · by_cases k2 : v = A
      · simp [k2]
      · simp [k1, k2]
  have HO : Hid ((v < A → ordN v A = -1) ∧ (v = A → ordN v A = 0) ∧ (A < v → ordN v A = 1)) := ⟨ordN_lt, ordN_eq, ordN_gt⟩
  have HP : Hid ((p % 2 = 1 → decide (p % 2 = 0) = false) ∧ (p % 2 = 0 → decide (p % 2 = 0) = true)) := ⟨fun h => by simp [h], fun h => by simp [h]⟩
  generalize tg A v p = T at *
  have hne : decide (p % 2 = 0) = !decide (p % 2 = 1) := by
    rcases Nat.mod_two_eq_zero_or_one p with h | h <;> simp [h]
  generalize decide (p % 2 = 0) = ev at *
  go_enter Tryz.func53, Tryz.ntmps53
  go_wp2
  refine wp_region_above w (Below.refl _ _) (by kernel_rfl) (by kernel_rfl) ?_
  intro hCl
  repeat (go_big_quiet_step ((first | (go_at_call 37; with_reducible exact Cl.call (h1' _)) | (go_at_call 37; with_reducible exact Cl.call (h1 _)) | (go_at_call 39; with_reducible exact Cl.call (h2 _)))))
  refine wpQuiet_nil ?_
  intro _ hw'
  obtain ⟨y, hx⟩ := hw'
  subst hx
  rcases Nat.lt_trichotomy v A with k | k | k
  · have e := HO.out.1 k
    have eT : T = true := by rw [HT.out, if_pos k]
    subst eT
    rw [e]
    clear HT HO HP hne
    go_wp2
    go_ret
    exact ⟨rfl, y.below⟩
  · have e := HO.out.2.1 k
    have eT : T = !ev := by rw [HT.out, if_neg (by omega), if_pos k, hne, Bool.not_not]
    subst eT
    rw [e]
    clear HT HO HP hne
    go_wp2_with (go_at_call 38; refine (h3 _).mono ?_; rintro x w5 ⟨rfl, rfl⟩)
    go_ret
    exact ⟨rfl, y.below⟩
  · have e := HO.out.2.2 k
    have eT : T = false := by rw [HT.out, if_neg (by omega), if_neg (by omega)]
    subst eT
    rw [e]
    clear HT HO HP hne
    go_wp2
    go_ret
    exact ⟨rfl, y.below⟩
end Go.Proofs.YthbabhbfpcfenabGreatDoor

/- The walks of package short: greatest, Read. -/
namespace Go.Proofs.YthbabhbfpcfenabGreatDoor
open Go.RowKit
set_option linter.unusedVariables false
set_option linter.unusedSimpArgs false

theorem tg_iff {f u v p : Nat} : tg (pa f (p - 1) * u) v p = true ↔ TG f u v p := by
  unfold tg TG; simp
/-- The closure's contract, in every world above W: what it captured lies in W. -/
abbrev GrC (W : World) (Bd Bl : Nat) (p : Nat) (b : Bool) : Prop := ∀ x : Cl W, Calls Tryz.prog 53 #[.int .u64 p, .pointer (some ⟨Bd, 0, none⟩), .pointer (some ⟨Bl, 0, none⟩)] x.w fun e w' => e = .returned (.bool b) ∧ Below x.w.heap.size x.w w'
set_option maxRecDepth 1000000 in
set_option maxHeartbeats 1600000 in
theorem greatest_walk {f u v I r Bd Bl : Nat} (W : World) (hu : 0 < u) (hr : RD f I u v r) (hI : I < 9300000000000000000) (hG : ∀ p, 1 ≤ p → p ≤ I → GrC W Bd Bl p (tg (pa f (p - 1) * u) v p)) (w : World) (hw : Below W.heap.size W w) :
    Calls Tryz.prog 54 #[.int .u64 I, .func (.func 53) #[] #[.pointer (some ⟨Bd, 0, none⟩), .pointer (some ⟨Bl, 0, none⟩)]] w fun e w' => e = .returned (.int .u64 r) ∧ Below w.heap.size w w' := by
  have HU : Hid (∀ a b, a < b → b ≤ I + 1 → b - a ≤ 1 → (a = 0 ∨ ¬ TG f u v a) → (b = I + 1 ∨ TG f u v b) → a = r) := by
    intro a b hab hb h1 h2 h3
    have e : b = a + 1 := by omega
    subst e
    refine RD.uniq hu ⟨by omega, h2, ?_⟩ hr
    rcases h3 with h | h
    · exact .inl (by omega)
    · exact .inr h
  have HT : Hid (∀ p, tg (pa f (p - 1) * u) v p = true ↔ TG f u v p) := fun p => tg_iff
  go_enter Tryz.func54, Tryz.ntmps54
  go_wp2
  go_loopg [5, 6, 7] (I + 1) (fun g av bv mv wr => ∃ a b : Nat, av = .int .u64 a ∧ bv = .int .u64 b ∧ a < b ∧ b ≤ I + 1 ∧ b - a ≤ g ∧ Below w.heap.size w wr ∧ Hid (a = 0 ∨ ¬ TG f u v a) ∧ Hid (b = I + 1 ∨ TG f u v b))
  case atStart => exact ⟨0, I + 1, rfl, by go_num, by omega, Nat.le_refl _, by omega, Below.refl _ _, .inl rfl, .inl rfl⟩
  case round =>
    obtain ⟨a, b, rfl, rfl, hab, hb, hg, hbw, H1, H2⟩ := hrel
    have habI : (a : Int) < b := by omega
    have hbI : (b : Int) ≤ I + 1 := by omega
    by_cases hd : b - a ≤ 1
    · have hdI : ¬ 1 < (b : Int) - a := by omega
      have HE : Hid (a = r) := HU.out a b hab hb hd H1.out H2.out
      go_wp2
      go_ret
      have e := HE.out
      subst e
      exact ⟨rfl, hbw⟩
    · have hdI : 1 < (b : Int) - a := by omega
      obtain ⟨m, hm⟩ : ∃ m : Nat, m = a + (b - a) / 2 := ⟨_, rfl⟩
      have hmI : (a : Int) + ((b : Int) - a) / 2 = m := by omega
      have hC : Calls Tryz.prog 53 #[.int .u64 ((a : Int) + ((b : Int) - a) / 2), .pointer (some ⟨Bd, 0, none⟩), .pointer (some ⟨Bl, 0, none⟩)] wr fun e w' => e = .returned (.bool (tg (pa f (m - 1) * u) v m)) ∧ Below wr.heap.size wr w' := by
        rw [hmI]; exact hG m (by omega) (by omega) ⟨wr, bel_call hw hbw (Nat.le_refl _)⟩
      have HTm : Hid (tg (pa f (m - 1) * u) v m = true ↔ TG f u v m) := HT.out m
      generalize tg (pa f (m - 1) * u) v m = t at *
      have HM : Hid (m = a + (b - a) / 2 ∧ (a : Int) + ((b : Int) - a) / 2 = m) := ⟨hm, hmI⟩
      clear hm hmI HT hG
      cases t
      · have H1' : Hid (m = 0 ∨ ¬ TG f u v m) := .inr fun h => by have := HTm.out.2 h; cases this
        go_wp2_with (go_at_call 53; refine hC.mono ?_; rintro e w2 ⟨rfl, hb2⟩)
        go_roundg (gk - 1)
        case measure => omega
        case rel =>
          obtain ⟨hm, hmI⟩ := HM.out
          exact ⟨m, b, by rw [← hmI], rfl, by omega, hb, by omega, bel_call hbw hb2 (Nat.le_refl _), H1', H2⟩
      · have H2' : Hid (m = I + 1 ∨ TG f u v m) := .inr (HTm.out.1 rfl)
        go_wp2_with (go_at_call 53; refine hC.mono ?_; rintro e w2 ⟨rfl, hb2⟩)
        go_roundg (gk - 1)
        case measure => omega
        case rel =>
          obtain ⟨hm, hmI⟩ := HM.out
          exact ⟨a, m, rfl, by rw [← hmI], by omega, by omega, by omega, bel_call hbw hb2 (Nat.le_refl _), H1, H2'⟩

set_option maxRecDepth 1000000 in
set_option maxHeartbeats 800000 in
theorem read_size {s : ByteArray} {q size : Int} (h1 : ¬ size = 32) (h2 : ¬ size = 64) (w : World) :
    Calls Tryz.prog 30 #[.agg #[.string s, .int .i64 q], .int .i64 size] w fun e w' => e = .returned (.tuple #[.int .u64 0, .int .i64 1]) ∧ Below w.heap.size w w' := by
  have hL := fun w => layout_no size w h1 h2
  go_enter Tryz.func30, Tryz.ntmps30
  go_wp2_with (go_at_call 14; refine (hL _).mono ?_; rintro x w2 ⟨rfl, hb2⟩)
  go_ret2
  have h := bel_call (B := w.heap.size) (w := w) (by go_grown) hb2 (Nat.le_refl _)
  exact ⟨rfl, h.alloc h.size _⟩
set_option maxRecDepth 1000000 in
set_option maxHeartbeats 800000 in
theorem read_err {s : ByteArray} {q size : Int} {f ww : Nat} {least : Int} {I : Nat} (h : Ly size f ww least I) (hs : s.size ≤ 9223372036854775807) (hE : ¬ normE s q = 0) (w : World) :
    Calls Tryz.prog 30 #[.agg #[.string s, .int .i64 q], .int .i64 size] w fun e w' => e = .returned (.tuple #[.int .u64 0, .int .i64 (normE s q)]) ∧ Below w.heap.size w w' := by
  have hL := fun w => layout_any h w
  have hN := fun w => norm_any s q w hs
  have hEb : (normE s q != 0) = true := by simp [hE]
  generalize normE s q = E at *
  generalize oS (normV s q) = S at *
  generalize oP (normV s q) = P at *
  go_enter Tryz.func30, Tryz.ntmps30
  go_wp2_with (first
    | (go_at_call 14; refine (hL _).mono ?_; rintro x w2 ⟨rfl, hb2⟩; obtain ⟨a0, a1, a2, a3⟩ := keepb hb2 (B := w.heap.size) (x := .string s) (y := .int .i64 q) (by simp [BoxD, go_sem]); have hlt : w.heap.size < w2.heap.size := World.block_lt_of_cell? w2 _ a0)
    | (go_at_call 52; refine (hN _).mono ?_; rintro x w3 ⟨rfl, hb3⟩))
  go_ret2
  have h := bel_call (B := w.heap.size) (w := w) (by go_grown) hb2 (Nat.le_refl _)
  have h := bel_call (h.alloc h.size _) hb3 (Nat.le_refl _)
  exact ⟨rfl, h.alloc h.size _⟩
set_option maxRecDepth 1000000 in
set_option maxHeartbeats 1600000 in
theorem read_ok {s : ByteArray} {q size : Int} {f ww : Nat} {least : Int} {I r : Nat} (h : Ly size f ww least I) (hs : s.size ≤ 9223372036854775807) (hE : normE s q = 0) (hr : RD f I (un least) (normV s q) r) (w : World) :
    Calls Tryz.prog 30 #[.agg #[.string s, .int .i64 q], .int .i64 size] w fun e w' => e = .returned (.tuple #[.int .u64 r, .int .i64 0]) ∧ Below w.heap.size w w' := by
  have hL := fun w => layout_any h w
  have hN := fun w => norm_any s q w hs
  have hF := fun w => inf_any h w
  obtain ⟨-, -, hI, -⟩ := h.pk
  rw [hE] at hN
  have hC : ∀ p, p < I → CpC s q (oS (mid f least p)) (oP (mid f least p)) (ordN (normV s q) (mid f least p)) := fun p hp w => scompare_any (cmpN hs hE (mid_good h hp)) w
  have hA : ∀ p, p < I → AbC f ww least p (oS (mid f least p)) (oP (mid f least p)) := fun p hp w => above_any h p w hp
  have HG : Hid (∀ (W : World) (Bd Bl : Nat), W.cell? ⟨Bd, 0, none⟩ = some (.string s) → W.cell? ⟨Bd, 1, none⟩ = some (.int .i64 q) → W.cell? ⟨Bl, 0, none⟩ = some (.int .i64 ww) → W.cell? ⟨Bl, 1, none⟩ = some (.int .i64 f) → W.cell? ⟨Bl, 2, none⟩ = some (.int .i64 least) → 
      Calls Tryz.prog 54 #[.int .u64 I, .func (.func 53) #[] #[.pointer (some ⟨Bd, 0, none⟩), .pointer (some ⟨Bl, 0, none⟩)]] W fun e w' => e = .returned (.int .u64 r) ∧ Below W.heap.size W w') := by
    intro W Bd Bl d0 d1 l0 l1 l2
    refine greatest_walk W (un_pos least) hr hI ?_ W (Below.refl _ _)
    intro p hp0 hpI x
    have e : ((p - 1 : Nat) : Int) = (p : Int) - 1 := by omega
    have h1 := hA (p - 1) (by omega)
    rw [e] at h1
    exact great_walk h1 (hC (p - 1) (by omega)) hp0 (by omega) x.w (x.cell d0) (x.cell d1) (x.cell l0) (x.cell l1) (x.cell l2)
  clear hC hA hr
  generalize oS (normV s q) = S at *
  generalize oP (normV s q) = P at *
  clear hE h
  go_enter Tryz.func30, Tryz.ntmps30
  go_wp2_with (first
    | (go_at_call 14; refine (hL _).mono ?_; rintro x w2 ⟨rfl, hb2⟩; obtain ⟨a0, a1, a2, a3⟩ := keepb hb2 (B := w.heap.size) (x := .string s) (y := .int .i64 q) (by simp [BoxD, go_sem]); have hlt : w.heap.size < w2.heap.size := World.block_lt_of_cell? w2 _ a0)
    | (go_at_call 52; refine (hN _).mono ?_; rintro x w3 ⟨rfl, hb3⟩; have b0 := keep hb3 (p := ⟨w.heap.size, 0, none⟩) (v := .string s) (by simp [go_sem, a0, hlt]); have b1 := keep hb3 (p := ⟨w.heap.size, 1, none⟩) (v := .int .i64 q) (by simp [go_sem, a1, hlt]); have k0 := keep hb3 (p := ⟨w2.heap.size, 0, none⟩) (v := .int .i64 ww) (by simp [go_sem]); have k1 := keep hb3 (p := ⟨w2.heap.size, 1, none⟩) (v := .int .i64 f) (by simp [go_sem]); have k2 := keep hb3 (p := ⟨w2.heap.size, 2, none⟩) (v := .int .i64 least) (by simp [go_sem]); have hlt2 : w2.heap.size < w3.heap.size := World.block_lt_of_cell? w3 _ k0; have hlt3 : w.heap.size < w3.heap.size := (by omega))
    | (go_at_call 16; refine (hF _).mono ?_; rintro x w4 ⟨rfl, hb4⟩; have e0 := keep hb4 (p := ⟨w.heap.size, 0, none⟩) (v := .string s) (by simp [go_sem, b0, hlt3]); have e1 := keep hb4 (p := ⟨w.heap.size, 1, none⟩) (v := .int .i64 q) (by simp [go_sem, b1, hlt3]); have g0 := keep hb4 (p := ⟨w2.heap.size, 0, none⟩) (v := .int .i64 ww) (by simp [go_sem, k0, hlt2]); have g1 := keep hb4 (p := ⟨w2.heap.size, 1, none⟩) (v := .int .i64 f) (by simp [go_sem, k1, hlt2]); have g2 := keep hb4 (p := ⟨w2.heap.size, 2, none⟩) (v := .int .i64 least) (by simp [go_sem, k2, hlt2]))
    | (go_at_call 54; refine (HG.out _ _ _ e0 e1 g0 g1 g2).mono ?_; rintro x w5 ⟨rfl, hb5⟩))
  go_ret2
  have h := bel_call (B := w.heap.size) (w := w) (by go_grown) hb2 (Nat.le_refl _)
  have h := bel_call (h.alloc h.size _) hb3 (Nat.le_refl _)
  have h := bel_call (h.alloc h.size _) hb4 (Nat.le_refl _)
  exact ⟨rfl, bel_call h hb5 (Nat.le_refl _)⟩
end Go.Proofs.YthbabhbfpcfenabGreatDoor
