/- SWalkD, SWalkE, SWalkF: these texts in one. -/
import Derived.Test.YtiagjheifblkiaaGreatDoorPt29
namespace Go.Proofs.YtiagjheifblkiaaGreatDoor
open Go.RowKit
set_option linter.unusedVariables false
set_option linter.unusedSimpArgs false
def hasB (ev : Bool) (r1 r2 : Int) : Bool := if ev then decide (0 ≤ r1) && decide (r2 ≤ 0) else decide (0 < r1) && decide (r2 < 0)
set_option maxRecDepth 1000000 in
set_option maxHeartbeats 1600000 in
theorem has_walk {s S1 S2 : ByteArray} {p P1 P2 r1 r2 : Int} {ev : Bool} (h1 : CpC s p S1 P1 r1) (h2 : CpC s p S2 P2 r2) (w : World) :
  Calls Tryz.prog 364 #[.agg #[.string S1, .int .i64 P1, .string S2, .int .i64 P2, .bool ev], .agg #[.string s, .int .i64 p]] w fun x w' => x = .returned (.bool (hasB ev r1 r2)) ∧ Below w.heap.size w w' := by
 obtain ⟨W2, hW2⟩ : ∃ W2, (w.alloc (.cells #[.string S1, .int .i64 P1, .string S2, .int .i64 P2, .bool ev] 438)).alloc (.cells #[.string s, .int .i64 p] 31) = W2 := ⟨_, rfl⟩
 have hbW : Below w.heap.size w W2 := by rw [← hW2]; go_grown
 have c0 : ∀ x : Cl W2, x.w.cell? ⟨w.heap.size, 0, none⟩ = some (.string S1) := fun x => x.cell (by rw [← hW2]; simp [go_sem])
 have c1 : ∀ x : Cl W2, x.w.cell? ⟨w.heap.size, 1, none⟩ = some (.int .i64 P1) := fun x => x.cell (by rw [← hW2]; simp [go_sem])
 have c2 : ∀ x : Cl W2, x.w.cell? ⟨w.heap.size, 2, none⟩ = some (.string S2) := fun x => x.cell (by rw [← hW2]; simp [go_sem])
 have c3 : ∀ x : Cl W2, x.w.cell? ⟨w.heap.size, 3, none⟩ = some (.int .i64 P2) := fun x => x.cell (by rw [← hW2]; simp [go_sem])
 have c4 : ∀ x : Cl W2, x.w.cell? ⟨w.heap.size, 4, none⟩ = some (.bool ev) := fun x => x.cell (by rw [← hW2]; simp [go_sem])
 have c5 : ∀ x : Cl W2, x.w.cell? ⟨w.heap.size + 1, 0, none⟩ = some (.string s) := fun x => x.cell (by rw [← hW2]; simp [go_sem])
 have c6 : ∀ x : Cl W2, x.w.cell? ⟨w.heap.size + 1, 1, none⟩ = some (.int .i64 p) := fun x => x.cell (by rw [← hW2]; simp [go_sem])
 go_enter Tryz.func364, Tryz.ntmps364
 go_wp2
 refine wp_region_above W2 (Below.refl _ _) (by kernel_rfl) (by kernel_rfl) ?_
 intro hCl
 repeat (go_big_quiet_step ((first | (go_at_call 27; with_reducible exact Cl.call (h1 _)) | (go_at_call 27; with_reducible exact Cl.call (h2 _)))))
 refine wpQuiet_nil ?_
 intro _ hw'
 obtain ⟨y, hx⟩ := hw'
 subst hx
 have hb := bel_call hbW y.below (Nat.le_refl _)
 cases ev
 ·by_cases k1 : 0 < r1
  ·go_wp2
   go_ret
   refine ⟨?_, hb⟩
   simp [hasB, k1] <;> omega
  ·go_wp2
   go_ret
   refine ⟨?_, hb⟩
   simp [hasB, k1] <;> omega
 ·by_cases k1 : 0 ≤ r1
  ·go_wp2
   go_ret
   refine ⟨?_, hb⟩
   simp [hasB, k1] <;> omega
  ·go_wp2
   go_ret
   refine ⟨?_, hb⟩
   simp [hasB, k1] <;> omega
def tg (A v p : Nat) : Bool := decide (v < A) || (decide (v = A) && decide (p % 2 = 1))
set_option maxRecDepth 1000000 in
set_option maxHeartbeats 1600000 in
theorem great_walk {s S : ByteArray} {q P least : Int} {f ww p A v Bd Bl : Nat} (h1 : AbC f ww least ((p : Int) - 1) S P) (h2 : CpC s q S P (ordN v A)) (hp0 : 1 ≤ p) (hp : p < 9300000000000000000) (w : World)
  (d0 : w.cell? ⟨Bd, 0, none⟩ = some (.string s)) (d1 : w.cell? ⟨Bd, 1, none⟩ = some (.int .i64 q))
  (l0 : w.cell? ⟨Bl, 0, none⟩ = some (.int .i64 ww)) (l1 : w.cell? ⟨Bl, 1, none⟩ = some (.int .i64 f)) (l2 : w.cell? ⟨Bl, 2, none⟩ = some (.int .i64 least)) :
  Calls Tryz.prog 26 #[.int .u64 p, .pointer (some ⟨Bd, 0, none⟩), .pointer (some ⟨Bl, 0, none⟩)] w fun x w' => x = .returned (.bool (tg A v p)) ∧ Below w.heap.size w w' := by
 have h3 := fun w => iseven_any p w (by omega)
 have hpI : 1 ≤ (p : Int) := by omega
 have hwr : IntKind.u64.wrap ((p : Int) - 1) = (p : Int) - 1 := by rw [IntKind.wrap_u64]; omega
 have h1' : AbC f ww least (IntKind.u64.wrap ((p : Int) - 1)) S P := by rw [hwr]; exact h1
 clear hwr
 have c0 : ∀ x : Cl w, x.w.cell? ⟨Bd, 0, none⟩ = some (.string s) := fun x => x.cell d0
 have c1 : ∀ x : Cl w, x.w.cell? ⟨Bd, 1, none⟩ = some (.int .i64 q) := fun x => x.cell d1
 have c2 : ∀ x : Cl w, x.w.cell? ⟨Bl, 0, none⟩ = some (.int .i64 ww) := fun x => x.cell l0
 have c3 : ∀ x : Cl w, x.w.cell? ⟨Bl, 1, none⟩ = some (.int .i64 f) := fun x => x.cell l1
 have c4 : ∀ x : Cl w, x.w.cell? ⟨Bl, 2, none⟩ = some (.int .i64 least) := fun x => x.cell l2
 have HT : Hid (tg A v p = if v < A then true else if v = A then decide (p % 2 = 1) else false) := by
  show tg A v p = _
  unfold tg
  by_cases k1 : v < A
  ·simp [k1]
  ·by_cases k2 : v = A
   ·simp [k2]
   ·simp [k1, k2]
 have HO : Hid ((v < A → ordN v A = -1) ∧ (v = A → ordN v A = 0) ∧ (A < v → ordN v A = 1)) := ⟨ordN_lt, ordN_eq, ordN_gt⟩
 have HP : Hid ((p % 2 = 1 → decide (p % 2 = 0) = false) ∧ (p % 2 = 0 → decide (p % 2 = 0) = true)) := ⟨fun h => by simp [h], fun h => by simp [h]⟩
 generalize tg A v p = T at *
 have hne : decide (p % 2 = 0) = !decide (p % 2 = 1) := by
  rcases Nat.mod_two_eq_zero_or_one p with h | h <;> simp [h]
 generalize decide (p % 2 = 0) = ev at *
 go_enter Tryz.func26, Tryz.ntmps26
 go_wp2
 refine wp_region_above w (Below.refl _ _) (by kernel_rfl) (by kernel_rfl) ?_
 intro hCl
 repeat (go_big_quiet_step ((first | (go_at_call 28; with_reducible exact Cl.call (h1' _)) | (go_at_call 28; with_reducible exact Cl.call (h1 _)) | (go_at_call 27; with_reducible exact Cl.call (h2 _)))))
 refine wpQuiet_nil ?_
 intro _ hw'
 obtain ⟨y, hx⟩ := hw'
 subst hx
 rcases Nat.lt_trichotomy v A with k | k | k
 ·have e := HO.out.1 k
  have eT : T = true := by rw [HT.out, if_pos k]
  subst eT
  rw [e]
  clear HT HO HP hne
  go_wp2
  go_ret
  exact ⟨rfl, y.below⟩
 ·have e := HO.out.2.1 k
  have eT : T = !ev := by rw [HT.out, if_neg (by omega), if_pos k, hne, Bool.not_not]
  subst eT
  rw [e]
  clear HT HO HP hne
  go_wp2_with (go_at_call 29; refine (h3 _).mono ?_; rintro x w5 ⟨rfl, rfl⟩)
  go_ret
  exact ⟨rfl, y.below⟩
 ·have e := HO.out.2.2 k
  have eT : T = false := by rw [HT.out, if_neg (by omega), if_neg (by omega)]
  subst eT
  rw [e]
  clear HT HO HP hne
  go_wp2
  go_ret
  exact ⟨rfl, y.below⟩
end Go.Proofs.YtiagjheifblkiaaGreatDoor
namespace Go.Proofs.YtiagjheifblkiaaGreatDoor
open Go.RowKit
set_option linter.unusedVariables false
set_option linter.unusedSimpArgs false
theorem tg_iff {f u v p : Nat} : tg (pa f (p - 1) * u) v p = true ↔ TG f u v p := by
 unfold tg TG; simp
abbrev GrC (W : World) (Bd Bl : Nat) (p : Nat) (b : Bool) : Prop := ∀ x : Cl W, Calls Tryz.prog 26 #[.int .u64 p, .pointer (some ⟨Bd, 0, none⟩), .pointer (some ⟨Bl, 0, none⟩)] x.w fun e w' => e = .returned (.bool b) ∧ Below x.w.heap.size x.w w'
set_option maxRecDepth 1000000 in
set_option maxHeartbeats 1600000 in
theorem greatest_walk {f u v I r Bd Bl : Nat} (W : World) (hu : 0 < u) (hr : RD f I u v r) (hI : I < 9300000000000000000) (hG : ∀ p, 1 ≤ p → p ≤ I → GrC W Bd Bl p (tg (pa f (p - 1) * u) v p)) (w : World) (hw : Below W.heap.size W w) :
  Calls Tryz.prog 30 #[.int .u64 I, .func (.func 26) #[] #[.pointer (some ⟨Bd, 0, none⟩), .pointer (some ⟨Bl, 0, none⟩)]] w fun e w' => e = .returned (.int .u64 r) ∧ Below w.heap.size w w' := by
 have HU : Hid (∀ a b, a < b → b ≤ I + 1 → b - a ≤ 1 → (a = 0 ∨ ¬ TG f u v a) → (b = I + 1 ∨ TG f u v b) → a = r) := by
  intro a b hab hb h1 h2 h3
  have e : b = a + 1 := by omega
  subst e
  refine RD.uniq hu ⟨by omega, h2, ?_⟩ hr
  rcases h3 with h | h
  ·exact .inl (by omega)
  ·exact .inr h
 have HT : Hid (∀ p, tg (pa f (p - 1) * u) v p = true ↔ TG f u v p) := fun p => tg_iff
 go_enter Tryz.func30, Tryz.ntmps30
 go_wp2
 go_loopg [5, 6, 7] (I + 1) (fun g av bv mv wr => ∃ a b : Nat, av = .int .u64 a ∧ bv = .int .u64 b ∧ a < b ∧ b ≤ I + 1 ∧ b - a ≤ g ∧ Below w.heap.size w wr ∧ Hid (a = 0 ∨ ¬ TG f u v a) ∧ Hid (b = I + 1 ∨ TG f u v b))
 case atStart => exact ⟨0, I + 1, rfl, by go_num, by omega, Nat.le_refl _, by omega, Below.refl _ _, .inl rfl, .inl rfl⟩
 case round =>
  obtain ⟨a, b, rfl, rfl, hab, hb, hg, hbw, H1, H2⟩ := hrel
  have habI : (a : Int) < b := by omega
  have hbI : (b : Int) ≤ I + 1 := by omega
  by_cases hdB : b - a ≤ 1
  ·have hdI : ¬ 1 < (b : Int) - a := by omega
   have HE : Hid (a = r) := HU.out a b hab hb hdB H1.out H2.out
   go_wp2
   go_ret
   have e := HE.out
   subst e
   exact ⟨rfl, hbw⟩
  ·have hdI : 1 < (b : Int) - a := by omega
   obtain ⟨m, hm⟩ : ∃ m : Nat, m = a + (b - a) / 2 := ⟨_, rfl⟩
   have hmI : (a : Int) + ((b : Int) - a) / 2 = m := by omega
   have hC : Calls Tryz.prog 26 #[.int .u64 ((a : Int) + ((b : Int) - a) / 2), .pointer (some ⟨Bd, 0, none⟩), .pointer (some ⟨Bl, 0, none⟩)] wr fun e w' => e = .returned (.bool (tg (pa f (m - 1) * u) v m)) ∧ Below wr.heap.size wr w' := by
    rw [hmI]; exact hG m (by omega) (by omega) ⟨wr, bel_call hw hbw (Nat.le_refl _)⟩
   have HTm : Hid (tg (pa f (m - 1) * u) v m = true ↔ TG f u v m) := HT.out m
   generalize tg (pa f (m - 1) * u) v m = t at *
   have HM : Hid (m = a + (b - a) / 2 ∧ (a : Int) + ((b : Int) - a) / 2 = m) := ⟨hm, hmI⟩
   clear hm hmI HT hG
   cases t
   ·have H1' : Hid (m = 0 ∨ ¬ TG f u v m) := .inr fun h => by have := HTm.out.2 h; cases this
    go_wp2_with (go_at_call 26; refine hC.mono ?_; rintro e w2 ⟨rfl, hb2⟩)
    go_roundg (gk - 1)
    case measure => omega
    case rel =>
     obtain ⟨hm, hmI⟩ := HM.out
     exact ⟨m, b, by rw [← hmI], rfl, by omega, hb, by omega, bel_call hbw hb2 (Nat.le_refl _), H1', H2⟩
   ·have H2' : Hid (m = I + 1 ∨ TG f u v m) := .inr (HTm.out.1 rfl)
    go_wp2_with (go_at_call 26; refine hC.mono ?_; rintro e w2 ⟨rfl, hb2⟩)
    go_roundg (gk - 1)
    case measure => omega
    case rel =>
     obtain ⟨hm, hmI⟩ := HM.out
     exact ⟨a, m, rfl, by rw [← hmI], by omega, by omega, by omega, bel_call hbw hb2 (Nat.le_refl _), H1, H2'⟩
set_option maxRecDepth 1000000 in
set_option maxHeartbeats 1600000 in
theorem read_ok {s : ByteArray} {q size : Int} {f ww : Nat} {least : Int} {I r : Nat} (h : Ly size f ww least I) (hs : s.size ≤ 9223372036854775807) (hE : normE s q = 0) (hr : RD f I (un least) (normV s q) r) (w : World) :
  Calls Tryz.prog 14 #[.agg #[.string s, .int .i64 q], .int .i64 size] w fun e w' => e = .returned (.tuple #[.int .u64 r, .int .i64 0]) ∧ Below w.heap.size w w' := by
 have hL := fun w => layout_any h w
 have hN := fun w => norm_any s q w hs
 have hF := fun w => inf_any h w
 obtain ⟨-, -, hI, -⟩ := h.pk
 rw [hE] at hN
 have hC : ∀ p, p < I → CpC s q (oS (midS f least p)) (oP (midS f least p)) (ordN (normV s q) (midS f least p)) := fun p hp w => scompare_any (cmpN hs hE (mid_good h hp)) w
 have hA : ∀ p, p < I → AbC f ww least p (oS (midS f least p)) (oP (midS f least p)) := fun p hp w => above_any h p w hp
 have HG : Hid (∀ (W : World) (Bd Bl : Nat), W.cell? ⟨Bd, 0, none⟩ = some (.string s) → W.cell? ⟨Bd, 1, none⟩ = some (.int .i64 q) → W.cell? ⟨Bl, 0, none⟩ = some (.int .i64 ww) → W.cell? ⟨Bl, 1, none⟩ = some (.int .i64 f) → W.cell? ⟨Bl, 2, none⟩ = some (.int .i64 least) →
   Calls Tryz.prog 30 #[.int .u64 I, .func (.func 26) #[] #[.pointer (some ⟨Bd, 0, none⟩), .pointer (some ⟨Bl, 0, none⟩)]] W fun e w' => e = .returned (.int .u64 r) ∧ Below W.heap.size W w') := by
  intro W Bd Bl d0 d1 l0 l1 l2
  refine greatest_walk W (un_pos least) hr hI ?_ W (Below.refl _ _)
  intro p hp0 hpI x
  have e : ((p - 1 : Nat) : Int) = (p : Int) - 1 := by omega
  have h1 := hA (p - 1) (by omega)
  rw [e] at h1
  exact great_walk h1 (hC (p - 1) (by omega)) hp0 (by omega) x.w (x.cell d0) (x.cell d1) (x.cell l0) (x.cell l1) (x.cell l2)
 clear hC hA hr
 generalize oS (normV s q) = S at *
 generalize oP (normV s q) = P at *
 clear hE h
 go_enter Tryz.func14, Tryz.ntmps14
 go_wp2_with (first
  | (go_at_call 25; refine (hL _).mono ?_; rintro x w2 ⟨rfl, hb2⟩; obtain ⟨a0, a1, a2, a3⟩ := keepb hb2 (B := w.heap.size) (x := .string s) (y := .int .i64 q) (by simp [BoxDe, go_sem]); have hlt : w.heap.size < w2.heap.size := World.block_lt_of_cell? w2 _ a0)
  | (go_at_call 20; refine (hN _).mono ?_; rintro x w3 ⟨rfl, hb3⟩; have b0 := keep hb3 (p := ⟨w.heap.size, 0, none⟩) (v := .string s) (by simp [go_sem, a0, hlt]); have b1 := keep hb3 (p := ⟨w.heap.size, 1, none⟩) (v := .int .i64 q) (by simp [go_sem, a1, hlt]); have k0 := keep hb3 (p := ⟨w2.heap.size, 0, none⟩) (v := .int .i64 ww) (by simp [go_sem]); have k1 := keep hb3 (p := ⟨w2.heap.size, 1, none⟩) (v := .int .i64 f) (by simp [go_sem]); have k2 := keep hb3 (p := ⟨w2.heap.size, 2, none⟩) (v := .int .i64 least) (by simp [go_sem]); have hlt2 : w2.heap.size < w3.heap.size := World.block_lt_of_cell? w3 _ k0; have hlt3 : w.heap.size < w3.heap.size := (by omega))
  | (go_at_call 31; refine (hF _).mono ?_; rintro x w4 ⟨rfl, hb4⟩; have e0 := keep hb4 (p := ⟨w.heap.size, 0, none⟩) (v := .string s) (by simp [go_sem, b0, hlt3]); have e1 := keep hb4 (p := ⟨w.heap.size, 1, none⟩) (v := .int .i64 q) (by simp [go_sem, b1, hlt3]); have g0 := keep hb4 (p := ⟨w2.heap.size, 0, none⟩) (v := .int .i64 ww) (by simp [go_sem, k0, hlt2]); have g1 := keep hb4 (p := ⟨w2.heap.size, 1, none⟩) (v := .int .i64 f) (by simp [go_sem, k1, hlt2]); have g2 := keep hb4 (p := ⟨w2.heap.size, 2, none⟩) (v := .int .i64 least) (by simp [go_sem, k2, hlt2]))
  | (go_at_call 30; refine (HG.out _ _ _ e0 e1 g0 g1 g2).mono ?_; rintro x w5 ⟨rfl, hb5⟩))
 go_ret2
 have h := bel_call (B := w.heap.size) (w := w) (by go_grown) hb2 (Nat.le_refl _)
 have h := bel_call (h.alloc h.size _) hb3 (Nat.le_refl _)
 have h := bel_call (h.alloc h.size _) hb4 (Nat.le_refl _)
 exact ⟨rfl, bel_call h hb5 (Nat.le_refl _)⟩
end Go.Proofs.YtiagjheifblkiaaGreatDoor
namespace Go.Proofs.YtiagjheifblkiaaGreatDoor
open Go.RowKit
set_option linter.unusedVariables false
set_option linter.unusedSimpArgs false
theorem cutV {v n : Nat} (h2 : n ≤ (oL v).length) : V ((oS v).extract 0 n).data.toList (oP v) = Bn v n ∧ allD ((oS v).extract 0 n).data.toList = true ∧ ((oS v).extract 0 n).size = n := by
 have hz := oS_size v
 have e : ((oS v).extract 0 n).data.toList = (oL v).take n := by
  rw [ByteArray.data_extract, Array.toList_extract]
  show (oL v).extract 0 n = _
  simp [List.extract]
 have q := Qn_eq h2
 refine ⟨?_, ?_, ext_size0 (oS v) n (by omega)⟩
 ·rw [e]; exact take_V (o_dec v) n h2 (Qn v n) (by omega)
 ·rw [e]; exact allD_of fun x hx => allD_mem (o_dec v).dig (List.mem_of_mem_take hx)
theorem nb_add {v n : Nat} (hv : Fine v) (h1 : 1 ≤ n) (h2 : n < (oL v).length) : AddC ((oS v).extract 0 n) (oP v) ⟨#[49]⟩ (oP v - n + 1) (oS (An v n)) (oP (An v n)) 0 := fun w => by
 obtain ⟨e1, e2, e3⟩ := cutV (Nat.le_of_lt h2)
 have hl := hv.len
 have hp0 := hv.p0
 have hp1 := hv.p1
 obtain ⟨gB, gA, g1, -⟩ := An_good hv h1 (Nat.le_of_lt h2)
 have q := Qn_eq (Nat.le_of_lt h2)
 have := add_any ((oS v).extract 0 n) ⟨#[49]⟩ (oP v) (oP v - n + 1) w (by omega) (by decide)
 have s1 : (⟨#[49]⟩ : ByteArray).size = 1 := rfl
 have n1 : normE ((oS v).extract 0 n) (oP v) = 0 := normE_ok (by omega) e2 (by omega) (by omega)
 have n2 : normE ⟨#[49]⟩ (oP v - n + 1) = 0 := normE_ok (by omega) rfl (by omega) (by omega)
 have v1 : normV ((oS v).extract 0 n) (oP v) = Bn v n := by rw [normV_ok n1, e1]
 have v2 : normV ⟨#[49]⟩ (oP v - n + 1) = 10 ^ Qn v n := by rw [normV_ok n2]; exact one_V _ _ (by omega)
 have e0 : bE 0 0 = 0 := rfl
 rw [n1, n2, v1, v2, e0] at this
 have a1 : aE 0 (Bn v n + 10 ^ Qn v n) = 0 := by unfold aE; rw [if_pos rfl, if_neg (by have := gA.len; unfold An at this; omega)]
 have a2 : aV 0 (Bn v n + 10 ^ Qn v n) = Bn v n + 10 ^ Qn v n := by unfold aV; rw [if_pos a1]
 rw [a1, a2] at this
 exact this
set_option maxRecDepth 1000000 in
set_option maxHeartbeats 1600000 in
theorem neighb_walk {S S1 S2 : ByteArray} {P P1 P2 E1 : Int} {n : Nat} (hR : RoundC S P n S1 P1 E1) (hA : AddC (S.extract 0 n) P ⟨#[49]⟩ (P - n + 1) S2 P2 0) (hn : n ≤ S.size) (hS : S.size ≤ 100000) (hP0 : -100000 ≤ P) (hP1 : P ≤ 100000) (w : World) :
  Calls Tryz.prog 368 #[.agg #[.string S, .int .i64 P], .int .i64 n] w fun x w' => x = .returned (.agg #[.string S1, .int .i64 P1, .string S2, .int .i64 P2]) ∧ Below w.heap.size w w' := by
 have hnI : (n : Int) ≤ S.size := by omega
 have hn2 : (n : Int) ≤ 100000 := by omega
 generalize hT : S.extract 0 n = T at *
 obtain ⟨W2, hW2⟩ : ∃ W2, (w.alloc (.cells #[.string S, .int .i64 P] 31)).alloc (.cells #[.string ⟨#[]⟩, .int .i64 0, .string ⟨#[]⟩, .int .i64 0] 443) = W2 := ⟨_, rfl⟩
 have hbW : Below w.heap.size w W2 := by rw [← hW2]; go_grown
 have d0 : W2.cell? ⟨w.heap.size, 0, none⟩ = some (.string S) := by rw [← hW2]; simp [go_sem]
 have d1 : W2.cell? ⟨w.heap.size, 1, none⟩ = some (.int .i64 P) := by rw [← hW2]; simp [go_sem]
 have d2 : W2.cell? ⟨w.heap.size + 1, 0, none⟩ = some (.string ⟨#[]⟩) := by rw [← hW2]; simp [go_sem]
 have d3 : W2.cell? ⟨w.heap.size + 1, 1, none⟩ = some (.int .i64 0) := by rw [← hW2]; simp [go_sem]
 have d4 : W2.cell? ⟨w.heap.size + 1, 2, none⟩ = some (.string ⟨#[]⟩) := by rw [← hW2]; simp [go_sem]
 have d5 : W2.cell? ⟨w.heap.size + 1, 3, none⟩ = some (.int .i64 0) := by rw [← hW2]; simp [go_sem]
 have hz : w.heap.size + 1 < W2.heap.size := World.block_lt_of_cell? W2 _ d2
 have hz0 : w.heap.size < W2.heap.size := by omega
 have f0 : W2.frozen? ⟨w.heap.size + 1, 0, none⟩ = false := by rw [← hW2]; simp [go_sem]
 have f1 : W2.frozen? ⟨w.heap.size + 1, 1, none⟩ = false := by rw [← hW2]; simp [go_sem]
 have f2 : W2.frozen? ⟨w.heap.size + 1, 2, none⟩ = false := by rw [← hW2]; simp [go_sem]
 have f3 : W2.frozen? ⟨w.heap.size + 1, 3, none⟩ = false := by rw [← hW2]; simp [go_sem]
 have c0 : ∀ x : Cl W2, x.w.cell? ⟨w.heap.size, 0, none⟩ = some (.string S) := fun x => x.cell d0
 have c1 : ∀ x : Cl W2, x.w.cell? ⟨w.heap.size, 1, none⟩ = some (.int .i64 P) := fun x => x.cell d1
 have c2 : ∀ x : Cl W2, x.w.cell? ⟨w.heap.size + 1, 0, none⟩ = some (.string ⟨#[]⟩) := fun x => x.cell d2
 have c3 : ∀ x : Cl W2, x.w.cell? ⟨w.heap.size + 1, 1, none⟩ = some (.int .i64 0) := fun x => x.cell d3
 have c4 : ∀ x : Cl W2, x.w.cell? ⟨w.heap.size + 1, 2, none⟩ = some (.string ⟨#[]⟩) := fun x => x.cell d4
 have c5 : ∀ x : Cl W2, x.w.cell? ⟨w.heap.size + 1, 3, none⟩ = some (.int .i64 0) := fun x => x.cell d5
 have g0 : ∀ x : Cl W2, x.w.frozen? ⟨w.heap.size + 1, 0, none⟩ = false := fun x => x.froz hz f0
 have g1 : ∀ x : Cl W2, x.w.frozen? ⟨w.heap.size + 1, 1, none⟩ = false := fun x => x.froz hz f1
 have g2 : ∀ x : Cl W2, x.w.frozen? ⟨w.heap.size + 1, 2, none⟩ = false := fun x => x.froz hz f2
 have g3 : ∀ x : Cl W2, x.w.frozen? ⟨w.heap.size + 1, 3, none⟩ = false := fun x => x.froz hz f3
 have z0 : ∀ x : Cl W2, w.heap.size < x.w.heap.size := fun x => World.block_lt_of_cell? x.w _ (c0 x)
 have z1 : ∀ x : Cl W2, w.heap.size + 1 < x.w.heap.size := fun x => World.block_lt_of_cell? x.w _ (c2 x)
 have hn4 : ∀ (y : Cl W2) (o1 o2 : Obj) (w4 : World), Below ((y.w.alloc o1).alloc o2).drew.heap.size ((y.w.alloc o1).alloc o2).drew w4 → ∃ y4 : Cl W2, w4 = y4.w := fun y o1 o2 w4 hb => by
  have h1 := y.below.alloc y.below.size o1
  have h2 := h1.alloc h1.size o2
  exact ⟨⟨w4, bel_call h2.drew hb (Nat.le_refl _)⟩, rfl⟩
 go_enter Tryz.func368, Tryz.ntmps368
 go_wp2_with (first
  | (go_at_call 11; (with_reducible refine (Cl.go0 (hR _)).mono ?_); rintro x w9 ⟨y, rfl, rfl⟩))
 go_region
 all_goals go_wp2_with (first
  | (go_at_call 15; (with_reducible refine (hA _).mono ?_); rintro x w4 ⟨rfl, hb4⟩; obtain ⟨m0, m1, m2, m3⟩ := keepb hb4 (B := y.w.heap.size) (x := .string S1) (y := .int .i64 P1) (by simp [BoxDe, go_sem]); obtain ⟨y4, rfl⟩ := hn4 y _ _ _ hb4; have hl5 : y.w.heap.size < y4.w.heap.size := World.block_lt_of_cell? _ _ m0))
 all_goals refine bodyPost_ret (by simp [results, Tryz.results368, go_sem, cs_same, c2 y4, c3 y4, c4 y4, c5 y4, z1 y4]; rfl) rfl ?_
 all_goals
  refine ⟨rfl, ?_⟩
  have hh := bel_call hbW y4.below (Nat.le_refl _)
  have hh := (((hh.setCell (p := ⟨w.heap.size + 1, 0, none⟩) (Nat.le_succ _) (.string S1)).setCell (p := ⟨w.heap.size + 1, 1, none⟩) (Nat.le_succ _) (.int .i64 P1)).setCell (p := ⟨w.heap.size + 1, 2, none⟩) (Nat.le_succ _) (.string S2)).setCell (p := ⟨w.heap.size + 1, 3, none⟩) (Nat.le_succ _) (.int .i64 P2)
  exact hh.alloc hh.size _
theorem neighb_any {v n : Nat} (hv : Fine v) (h1 : 1 ≤ n) (h2 : n < (oL v).length) (w : World) :
  Calls Tryz.prog 368 #[.agg #[.string (oS v), .int .i64 (oP v)], .int .i64 n] w fun x w' => x = .returned (.agg #[.string (oS (near v (Qn v n))), .int .i64 (oP (near v (Qn v n))), .string (oS (An v n)), .int .i64 (oP (An v n))]) ∧ Below w.heap.size w w' := by
 have q := Qn_eq (Nat.le_of_lt h2)
 have hR := roundC (n : Int) hv.good
 rw [rnd_near (Q := Qn v n) (by omega)] at hR
 have := hv.len
 have := hv.p0
 have := hv.p1
 have hz := oS_size v
 exact neighb_walk hR (nb_add hv h1 h2) (by omega) (by omega) (by omega) (by omega) w
abbrev HasC (bv : Array Value) (x : Nat) (b : Bool) : Prop := ∀ w, Calls Tryz.prog 364 #[.agg bv, .agg #[.string (oS x), .int .i64 (oP x)]] w fun e w' => e = .returned (.bool b) ∧ Below w.heap.size w w'
abbrev NbC (S : ByteArray) (P : Int) (n : Nat) (S1 : ByteArray) (P1 : Int) (S2 : ByteArray) (P2 : Int) : Prop := ∀ w, Calls Tryz.prog 368 #[.agg #[.string S, .int .i64 P], .int .i64 n] w fun x w' => x = .returned (.agg #[.string S1, .int .i64 P1, .string S2, .int .i64 P2]) ∧ Below w.heap.size w w'
theorem index_two0 (a b c d : Value) (w : World) : (Instr.index 443 (.agg #[a, b, c, d]) (.int .i64 0)).run Tryz.prog w = .ok (.agg #[a, b]) w := by kernel_rfl
theorem index_two1 (a b c d : Value) (w : World) : (Instr.index 443 (.agg #[a, b, c, d]) (.int .i64 1)).run Tryz.prog w = .ok (.agg #[c, d]) w := by kernel_rfl
set_option maxRecDepth 1000000 in
set_option maxHeartbeats 3200000 in
theorem fewest_walk {R : Nat → Prop} {v d g1 g2 : Nat} {bv : Array Value} (hb : Bd R v g1 g2) (hdB : SH R v d) (hv : Fine v) (hH : ∀ x b, Good x → (R x ↔ b = true) → HasC bv x b) (w : World) :
  Calls Tryz.prog 362 #[.agg #[.string (oS v), .int .i64 (oP v)], .func (.func 364) #[.agg bv] #[]] w fun x w' => x = .returned (.agg #[.string (oS d), .int .i64 (oP d)]) ∧ Below w.heap.size w w' := by
 have hz := oS_size v
 have hlen := hv.len
 generalize hSz : (oS v).size = L at *
 have HN : Hid (∀ n, 1 ≤ n → n < L → NbC (oS v) (oP v) n (oS (near v (Qn v n))) (oP (near v (Qn v n))) (oS (An v n)) (oP (An v n))) := fun n h1 h2 w => neighb_any hv h1 (by omega) w
 have HA : Hid ((∀ j, 1 ≤ j → j < L → failN R v j) → d = v) := fun hf => hdB.all fun j h1 h2 => hf j h1 (by omega)
 have HB : Hid (∀ n, 1 ≤ n → n < L → (∀ j, 1 ≤ j → j < n → failN R v j) → (R (near v (Qn v n)) → d = near v (Qn v n)) ∧ (¬ R (near v (Qn v n)) → R (An v n) → d = An v n) ∧ (¬ R (near v (Qn v n)) → ¬ R (An v n) → failN R v n)) := fun n h1 h2 hf => by
  refine ⟨fun hR => ?_, fun hR hA => ?_, fun hR hA => pick_none hb hR hA⟩
  ·obtain ⟨k1, k2⟩ := pick_near hb hR
   exact pick_uniq (hdB.at h1 (by omega) hf k2) k1
  ·obtain ⟨k1, k2⟩ := pick_above hb hR hA
   exact pick_uniq (hdB.at h1 (by omega) hf k2) k1
 have HG : Hid (∀ n, 1 ≤ n → n < L → Good (near v (Qn v n)) ∧ Good (An v n)) := fun n h1 h2 => by
  obtain ⟨-, gA, -, gN⟩ := An_good hv h1 (show n ≤ (oL v).length by omega)
  exact ⟨gN, gA⟩
 have ix0 := index_two0
 have ix1 := index_two1
 go_enter Tryz.func362, Tryz.ntmps362
 go_wp2
 go_loopg [5, 7] (L + 1) (fun g nv dv wr => ∃ n : Nat, nv = .int .i64 n ∧ 1 ≤ n ∧ n ≤ L + 1 ∧ n + g = L + 2 ∧ BoxDe wr w.heap.size (.string (oS v)) (.int .i64 (oP v)) ∧ BoxDe wr (w.heap.size + 1) (.string ⟨#[]⟩) (.int .i64 0) ∧ Below w.heap.size w wr ∧ Hid (∀ j, 1 ≤ j → j < n → j < L → failN R v j))
 case atStart => exact ⟨1, rfl, Nat.le_refl _, by omega, by omega, by simp [BoxDe, go_sem], by simp [BoxDe, go_sem], by go_grown, fun j h1 h2 => by omega⟩
 case round =>
  obtain ⟨n, rfl, hn1, hn2, hng, bV, bR, hbw, HF⟩ := hrel
  obtain ⟨a0, a1, a2, a3⟩ := id bV
  obtain ⟨r0, r1, r2, r3⟩ := id bR
  have hz0 : w.heap.size < wr.heap.size := World.block_lt_of_cell? wr _ a0
  have hz1 : w.heap.size + 1 < wr.heap.size := World.block_lt_of_cell? wr _ r0
  by_cases hlt : n < L
  ·have hltI : (n : Int) < L := by omega
   have hNb := HN.out n hn1 hlt
   obtain ⟨gN, gA⟩ := HG.out n hn1 hlt
   have HBn : Hid ((R (near v (Qn v n)) → d = near v (Qn v n)) ∧ (¬ R (near v (Qn v n)) → R (An v n) → d = An v n) ∧ (¬ R (near v (Qn v n)) → ¬ R (An v n) → failN R v n)) := HB.out n hn1 hlt fun j h1 h2 => HF.out j h1 h2 (by omega)
   have hHN : ∀ b, (R (near v (Qn v n)) ↔ b = true) → HasC bv (near v (Qn v n)) b := fun b hb => hH _ b gN hb
   have hHA : ∀ b, (R (An v n) ↔ b = true) → HasC bv (An v n) b := fun b hb => hH _ b gA hb
   clear HB HN HG HA hH
   generalize near v (Qn v n) = xN at *
   generalize An v n = xA at *
   by_cases kN : R xN
   ·have hC := hHN true (by simp [kN])
    have e : Hid (d = xN) := HBn.out.1 kN
    clear HBn hHN hHA HF
    have HS : Hid (oS xN = oS xN ∧ True) := ⟨rfl, trivial⟩
    obtain ⟨SN, hSN⟩ : ∃ SN, oS xN = SN := ⟨_, rfl⟩
    obtain ⟨PN, hPN⟩ : ∃ PN, oP xN = PN := ⟨_, rfl⟩
    have e : Hid (oS d = SN ∧ oP d = PN) := ⟨by rw [e.out, hSN], by rw [e.out, hPN]⟩
    unfold HasC at hC
    rw [hSN, hPN] at hC hNb
    clear hSN hPN HS
    go_wp2_with (go_at_call 368; (with_reducible refine (hNb _).mono ?_); rintro x w2 ⟨rfl, hb2⟩; have bV2 := keepb hb2 bV; have bR2 := keepb hb2 bR; have hbw2 := bel_call hbw hb2 (Nat.le_refl _); obtain ⟨p0, p1, p2, p3⟩ := id bV2; obtain ⟨q0, q1, q2, q3⟩ := id bR2; have hy0 : w.heap.size < w2.heap.size := World.block_lt_of_cell? w2 _ p0; have hy1 : w.heap.size + 1 < w2.heap.size := World.block_lt_of_cell? w2 _ q0)
    refine wp_loop_rounds 3 ?_
    rw [rounds_succ]
    go_wp2_with (go_at_call 364; (with_reducible refine (hC _).mono ?_); rintro x w3 ⟨rfl, hb3⟩; have bV3 := keepb hb3 (keepb ((Below.refl _ _).alloc (Nat.le_refl _) _) bV2); have bR3 := keepb hb3 (keepb ((Below.refl _ _).alloc (Nat.le_refl _) _) bR2); have bD3 := keepb hb3 (B := w2.heap.size) (x := .string SN) (y := .int .i64 PN) (by simp [BoxDe, go_sem]); have hbw3 := bel_call (hbw2.alloc hbw2.size _) hb3 (Nat.le_refl _); obtain ⟨v30, v31, v32, v33⟩ := id bV3; obtain ⟨s30, s31, s32, s33⟩ := id bR3; obtain ⟨t30, t31, t32, t33⟩ := id bD3; have hx3 : w.heap.size + 1 < w3.heap.size := World.block_lt_of_cell? w3 _ s30; have hx30 : w.heap.size < w3.heap.size := (by omega))
    refine bodyPost_ret (by simp [results, Tryz.results362, go_sem, cs_same, s30, s31]; rfl) rfl ?_
    rw [e.out.1, e.out.2]
    exact ⟨rfl, (hbw3.setCell (p := ⟨w.heap.size + 1, 0, none⟩) (Nat.le_succ _) _).setCell (p := ⟨w.heap.size + 1, 1, none⟩) (Nat.le_succ _) _⟩
   ·have hC := hHN false (by simp [kN])
    by_cases kA : R xA
    ·have hD := hHA true (by simp [kA])
     have e : Hid (d = xA) := HBn.out.2.1 kN kA
     clear HBn hHN hHA HF
     obtain ⟨SN, hSN⟩ : ∃ SN, oS xN = SN := ⟨_, rfl⟩
     obtain ⟨PN, hPN⟩ : ∃ PN, oP xN = PN := ⟨_, rfl⟩
     obtain ⟨SA, hSA⟩ : ∃ SA, oS xA = SA := ⟨_, rfl⟩
     obtain ⟨PA, hPA⟩ : ∃ PA, oP xA = PA := ⟨_, rfl⟩
     have e : Hid (oS d = SA ∧ oP d = PA) := ⟨by rw [e.out, hSA], by rw [e.out, hPA]⟩
     unfold HasC at hC hD
     rw [hSN, hPN] at hC hNb
     rw [hSA, hPA] at hD hNb
     clear hSN hPN hSA hPA
     go_wp2_with (go_at_call 368; (with_reducible refine (hNb _).mono ?_); rintro x w2 ⟨rfl, hb2⟩; have bV2 := keepb hb2 bV; have bR2 := keepb hb2 bR; have hbw2 := bel_call hbw hb2 (Nat.le_refl _); obtain ⟨p0, p1, p2, p3⟩ := id bV2; obtain ⟨q0, q1, q2, q3⟩ := id bR2; have hy0 : w.heap.size < w2.heap.size := World.block_lt_of_cell? w2 _ p0; have hy1 : w.heap.size + 1 < w2.heap.size := World.block_lt_of_cell? w2 _ q0)
     refine wp_loop_rounds 3 ?_
     rw [rounds_succ]
     go_wp2_with (go_at_call 364; (with_reducible refine (hC _).mono ?_); rintro x w3 ⟨rfl, hb3⟩; have bV3 := keepb hb3 (keepb ((Below.refl _ _).alloc (Nat.le_refl _) _) bV2); have bR3 := keepb hb3 (keepb ((Below.refl _ _).alloc (Nat.le_refl _) _) bR2); have bD3 := keepb hb3 (B := w2.heap.size) (x := .string SN) (y := .int .i64 PN) (by simp [BoxDe, go_sem]); have hbw3 := bel_call (hbw2.alloc hbw2.size _) hb3 (Nat.le_refl _); obtain ⟨v30, v31, v32, v33⟩ := id bV3; obtain ⟨s30, s31, s32, s33⟩ := id bR3; obtain ⟨t30, t31, t32, t33⟩ := id bD3; have hx3 : w.heap.size + 1 < w3.heap.size := World.block_lt_of_cell? w3 _ s30; have hx30 : w.heap.size < w3.heap.size := (by omega))
     rw [rounds_succ]
     go_wp2_with (go_at_call 364; (with_reducible refine (hD _).mono ?_); rintro x w4 ⟨rfl, hb4⟩; have bV4 := keepb hb4 (keepb ((Below.refl _ _).alloc (Nat.le_refl _) _) bV3); have bR4 := keepb hb4 (keepb ((Below.refl _ _).alloc (Nat.le_refl _) _) bR3); have bD4 := keepb hb4 (B := w3.heap.size) (x := .string SA) (y := .int .i64 PA) (by simp [BoxDe, go_sem]); have hbw4 := bel_call (hbw3.alloc hbw3.size _) hb4 (Nat.le_refl _); obtain ⟨v40, v41, v42, v43⟩ := id bV4; obtain ⟨s40, s41, s42, s43⟩ := id bR4; obtain ⟨t40, t41, t42, t43⟩ := id bD4; have hx4 : w.heap.size + 1 < w4.heap.size := World.block_lt_of_cell? w4 _ s40; have hx40 : w.heap.size < w4.heap.size := (by omega))
     refine bodyPost_ret (by simp [results, Tryz.results362, go_sem, cs_same, s40, s41]; rfl) rfl ?_
     rw [e.out.1, e.out.2]
     exact ⟨rfl, (hbw4.setCell (p := ⟨w.heap.size + 1, 0, none⟩) (Nat.le_succ _) _).setCell (p := ⟨w.heap.size + 1, 1, none⟩) (Nat.le_succ _) _⟩
    ·have hD := hHA false (by simp [kA])
     have HK : Hid (failN R v n) := HBn.out.2.2 kN kA
     clear HBn hHN hHA
     unfold HasC at hC hD
     generalize oS xN = SN at *
     generalize oP xN = PN at *
     generalize oS xA = SA at *
     generalize oP xA = PA at *
     go_wp2_with (go_at_call 368; (with_reducible refine (hNb _).mono ?_); rintro x w2 ⟨rfl, hb2⟩; have bV2 := keepb hb2 bV; have bR2 := keepb hb2 bR; have hbw2 := bel_call hbw hb2 (Nat.le_refl _); obtain ⟨p0, p1, p2, p3⟩ := id bV2; obtain ⟨q0, q1, q2, q3⟩ := id bR2; have hy0 : w.heap.size < w2.heap.size := World.block_lt_of_cell? w2 _ p0; have hy1 : w.heap.size + 1 < w2.heap.size := World.block_lt_of_cell? w2 _ q0)
     refine wp_loop_rounds 3 ?_
     rw [rounds_succ]
     go_wp2_with (go_at_call 364; (with_reducible refine (hC _).mono ?_); rintro x w3 ⟨rfl, hb3⟩; have bV3 := keepb hb3 (keepb ((Below.refl _ _).alloc (Nat.le_refl _) _) bV2); have bR3 := keepb hb3 (keepb ((Below.refl _ _).alloc (Nat.le_refl _) _) bR2); have bD3 := keepb hb3 (B := w2.heap.size) (x := .string SN) (y := .int .i64 PN) (by simp [BoxDe, go_sem]); have hbw3 := bel_call (hbw2.alloc hbw2.size _) hb3 (Nat.le_refl _); obtain ⟨v30, v31, v32, v33⟩ := id bV3; obtain ⟨s30, s31, s32, s33⟩ := id bR3; obtain ⟨t30, t31, t32, t33⟩ := id bD3; have hx3 : w.heap.size + 1 < w3.heap.size := World.block_lt_of_cell? w3 _ s30; have hx30 : w.heap.size < w3.heap.size := (by omega))
     rw [rounds_succ]
     go_wp2_with (go_at_call 364; (with_reducible refine (hD _).mono ?_); rintro x w4 ⟨rfl, hb4⟩; have bV4 := keepb hb4 (keepb ((Below.refl _ _).alloc (Nat.le_refl _) _) bV3); have bR4 := keepb hb4 (keepb ((Below.refl _ _).alloc (Nat.le_refl _) _) bR3); have bD4 := keepb hb4 (B := w3.heap.size) (x := .string SA) (y := .int .i64 PA) (by simp [BoxDe, go_sem]); have hbw4 := bel_call (hbw3.alloc hbw3.size _) hb4 (Nat.le_refl _); obtain ⟨v40, v41, v42, v43⟩ := id bV4; obtain ⟨s40, s41, s42, s43⟩ := id bR4; obtain ⟨t40, t41, t42, t43⟩ := id bD4; have hx4 : w.heap.size + 1 < w4.heap.size := World.block_lt_of_cell? w4 _ s40; have hx40 : w.heap.size < w4.heap.size := (by omega))
     rw [rounds_succ]
     go_wp2
     go_roundg (gk - 1)
     case measure => omega
     case rel =>
      refine ⟨n + 1, by go_num, by omega, by omega, by omega, bV4, bR4, hbw4, fun j h1 h2 h3 => ?_⟩
      rcases Nat.lt_or_ge j n with h | h
      ·exact HF.out j h1 h h3
      ·obtain rfl : j = n := by omega
       exact HK.out
  ·have hltI : ¬ (n : Int) < L := by omega
   have e : Hid (d = v) := HA.out fun j h1 h2 => HF.out j h1 (by omega) h2
   clear HB HN HG HA hH HF
   go_wp2
   refine bodyPost_ret (by simp [results, Tryz.results362, go_sem, cs_same, r0, r1]; rfl) rfl ?_
   rw [e.out]
   exact ⟨rfl, (hbw.setCell (p := ⟨w.heap.size + 1, 0, none⟩) (Nat.le_succ _) _).setCell (p := ⟨w.heap.size + 1, 1, none⟩) (Nat.le_succ _) _⟩
end Go.Proofs.YtiagjheifblkiaaGreatDoor
