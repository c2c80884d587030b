/- HSum, HTopA: these texts in one. -/
import Derived.Test.YthbabhbfpcfenaaGreatDoorPkM7
/- The document's Sum. -/
namespace Go.Proofs.YthbabhbfpcfenaaGreatDoor
open Go.RowKit
set_option linter.unusedVariables false
set_option linter.unusedSimpArgs false

set_option maxRecDepth 1000000 in
set_option maxHeartbeats 800000 in
theorem hsum_n1 {S1 S2 : ByteArray} (P1 P2 : Int) (w : World) (h1 : S1.size = 0) :
    Calls Tryz.prog 128 #[.agg #[.string S1, .int .i64 P1], .agg #[.string S2, .int .i64 P2]] w fun e w' => e = .returned (.agg #[.string S2, .int .i64 P2]) ∧ Below w.heap.size w w' := by
  have e1 : S1.toList.isEmpty = true := empty_yes S1 h1
  clear h1
  go_enter Tryz.func128, Tryz.ntmps128
  go_wp2
  go_returns
  exact ⟨rfl, by go_grown⟩
set_option maxRecDepth 1000000 in
set_option maxHeartbeats 800000 in
theorem hsum_n2 {S1 S2 : ByteArray} (P1 P2 : Int) (w : World) (h1 : 0 < S1.size) (h2 : S2.size = 0) :
    Calls Tryz.prog 128 #[.agg #[.string S1, .int .i64 P1], .agg #[.string S2, .int .i64 P2]] w fun e w' => e = .returned (.agg #[.string S1, .int .i64 P1]) ∧ Below w.heap.size w w' := by
  have e1 : S1.toList.isEmpty = false := empty_no S1 h1
  have e2 : S2.toList.isEmpty = true := empty_yes S2 h2
  clear h1 h2
  go_enter Tryz.func128, Tryz.ntmps128
  go_wp2
  go_returns
  exact ⟨rfl, by go_grown⟩
set_option maxRecDepth 1000000 in
set_option maxHeartbeats 3200000 in
theorem hsum_a {S1 S2 : ByteArray} {P1 P2 L1 L2 : Int} {v u T E : Nat} (w : World) (h1 : 0 < S1.size) (h2 : 0 < S2.size) (l1 : HLowC S1 P1 L1) (l2 : HLowC S2 P2 L2)
    (d1 : ∀ Q : Nat, Q ≤ T → HDigC S1 P1 ((Q : Int) - 10000) (v / 10 ^ Q % 10)) (d2 : ∀ Q : Nat, Q ≤ T → HDigC S2 P2 ((Q : Int) - 10000) (u / 10 ^ Q % 10))
    (hv : v < 10 ^ T) (hu : u < 10 ^ T) (ev : v % 10 ^ E = 0) (eu : u % 10 ^ E = 0) (hE : (E : Int) - 10000 = L1) (hT : (T : Int) - 10000 = P1) (hET : E ≤ T) (hT2 : T ≤ 40000) (hP : ¬ P1 < P2) (hL : ¬ L2 < L1) :
    Calls Tryz.prog 128 #[.agg #[.string S1, .int .i64 P1], .agg #[.string S2, .int .i64 P2]] w fun e w' => e = .returned (.agg #[.string (oS (v + u)), .int .i64 (oP (v + u))]) ∧ Below w.heap.size w w' := by
  obtain ⟨i0, hi, hz0, hz1, hz2⟩ := info_parts infoU8
  have e1 : S1.toList.isEmpty = false := empty_no S1 h1
  have e2 : S2.toList.isEmpty = false := empty_no S2 h2
  have HF : Hid (SumAt v u E E [] 0) := sum_start ev eu
  have HM : Hid (∀ ds cy, SumAt v u E (T + 1) ds cy → HInC ⟨(txt ds).toArray⟩ (P1 + 1) (oS (v + u)) (oP (v + u))) := fun ds cy hS w => by
    have hz := mk_size (txt ds)
    have hl := hS.len
    rw [txt_len] at hz
    have := hin_any ⟨(txt ds).toArray⟩ (P1 + 1) w (txt_num ds hS.dig).2 (by omega) (by omega) (by omega)
    have e : V (⟨(txt ds).toArray⟩ : ByteArray).data.toList (P1 + 1) = v + u := sum_dec hS hv hu (by omega)
    rw [e] at this
    exact this
  clear h1 h2 hv hu ev eu
  obtain ⟨W3, hW3⟩ : ∃ W3, ((w.alloc (.cells #[.string S1, .int .i64 P1] 91)).alloc (.cells #[.string S2, .int .i64 P2] 91)).alloc (.cells #[.string ⟨#[]⟩, .int .i64 0] 91) = W3 := ⟨_, rfl⟩
  have bA : BoxD W3 w.heap.size (.string S1) (.int .i64 P1) := by rw [← hW3]; simp [BoxD, go_sem]
  have bB : BoxD W3 (w.heap.size + 1) (.string S2) (.int .i64 P2) := by rw [← hW3]; simp [BoxD, go_sem]
  have bR : BoxD W3 (w.heap.size + 2) (.string ⟨#[]⟩) (.int .i64 0) := by rw [← hW3]; simp [BoxD, go_sem]
  have hbW : Below w.heap.size w W3 := by rw [← hW3]; go_grown
  have hsW : W3.heap.size = w.heap.size + 3 := by rw [← hW3]; simp
  obtain ⟨a0, a1, -, -⟩ := id bA
  obtain ⟨b0, b1, -, -⟩ := id bB
  have c0 : ∀ x : Cl W3, x.w.cell? ⟨w.heap.size, 0, none⟩ = some (.string S1) := fun x => x.cell a0
  have c1 : ∀ x : Cl W3, x.w.cell? ⟨w.heap.size, 1, none⟩ = some (.int .i64 P1) := fun x => x.cell a1
  have c2 : ∀ x : Cl W3, x.w.cell? ⟨w.heap.size + 1, 0, none⟩ = some (.string S2) := fun x => x.cell b0
  have c3 : ∀ x : Cl W3, x.w.cell? ⟨w.heap.size + 1, 1, none⟩ = some (.int .i64 P2) := fun x => x.cell b1
  have HE : Hid ((E : Int) - 10000 = L1) := hE
  have HT : Hid ((T : Int) - 10000 = P1) := hT
  have HSW : Hid (W3.heap.size = w.heap.size + 3) := hsW
  clear hE hT hsW
  go_enter Tryz.func128, Tryz.ntmps128
  go_wp2
  refine wp_region_above W3 (Below.refl _ _) (by kernel_rfl) (by kernel_rfl) ?_
  intro hCl
  repeat (go_big_quiet_step ((go_at_call_of 127 S1; exact Cl.call (l1 _))))
  refine wpQuiet_nil ?_
  intro _ hw'
  obtain ⟨y, hx⟩ := hw'
  subst hx
  go_wp2_with (go_at_call_of 127 S2; refine (Cl.go (l2 _)).mono ?_; rintro e w9 ⟨y, rfl, rfl⟩)
  clear hW3 c0 c1 c2 c3
  go_loopg [7, 8, 9] (T + 1 - E) (fun g lv_ cv pv wr => ∃ (Q n c cy : Nat) (ao : Option Addr) (ds : List Nat), lv_ = .slice ao n c ∧ cv = .int .i64 (cy : Int) ∧ pv = .int .i64 ((Q : Int) - 10000) ∧ Q + g = T + 1 ∧ E ≤ Q ∧ cy ≤ 1 ∧ n ≤ T + 1 ∧ Nm wr (w.heap.size + 3) ao n c ds ∧ Below W3.heap.size W3 wr ∧ Hid (SumAt v u E Q ds cy))
  case atStart => exact ⟨E, 0, 0, 0, none, [], rfl, rfl, by have := HE.out; go_num, by omega, Nat.le_refl _, by omega, by omega, Nm.nil _ _, Cl.below _, HF⟩
  case round =>
    obtain ⟨Q, n, c, cy, ao, ds, rfl, rfl, rfl, hQg, hEQ, hcy, hnT, hN, hbl, HQ⟩ := hrel
    have hszr : w.heap.size + 3 ≤ wr.heap.size := by have := hbl.size; have := HSW.out; omega
    by_cases hgo : Q ≤ T
    · have hgI : (Q : Int) - 10000 ≤ P1 := by have := HT.out; omega
      have hn : n + E = Q := by have := HQ.out.len; have := hN.len; omega
      have hnT2 : n ≤ T := by omega
      have k1 := d1 Q hgo
      have k2 := d2 Q hgo
      have HS : Hid (SumAt v u E (Q + 1) (ds ++ [(cy + (v / 10 ^ Q % 10 + u / 10 ^ Q % 10)) % 10]) ((cy + (v / 10 ^ Q % 10 + u / 10 ^ Q % 10)) / 10)) := sum_step HQ.out
      have hx9 : v / 10 ^ Q % 10 < 10 := Nat.mod_lt _ (by decide)
      have hy9 : u / 10 ^ Q % 10 < 10 := Nat.mod_lt _ (by decide)
      clear HQ hn
      generalize v / 10 ^ Q % 10 = x at *
      generalize u / 10 ^ Q % 10 = y at *
      obtain ⟨t, ht⟩ : ∃ t, cy + (x + y) = t := ⟨_, rfl⟩
      rw [ht] at HS
      have htI : (cy : Int) + ((x : Int) + (y : Int)) = (t : Int) := by omega
      have ht19 : t ≤ 19 := by omega
      clear ht
      have hm1 : (t : Int) % 10 = ((t % 10 : Nat) : Int) := by omega
      have hm2 : (t : Int) / 10 = ((t / 10 : Nat) : Int) := by omega
      have hr : t % 10 < 10 := Nat.mod_lt _ (by decide)
      have hq : t / 10 ≤ 1 := by omega
      generalize t % 10 = r at *
      generalize t / 10 = q at *
      have g0 : ∀ z : Cl wr, z.w.cell? ⟨w.heap.size, 0, none⟩ = some (.string S1) := fun z => z.cell (keep hbl a0)
      have g1 : ∀ z : Cl wr, z.w.cell? ⟨w.heap.size, 1, none⟩ = some (.int .i64 P1) := fun z => z.cell (keep hbl a1)
      have g2 : ∀ z : Cl wr, z.w.cell? ⟨w.heap.size + 1, 0, none⟩ = some (.string S2) := fun z => z.cell (keep hbl b0)
      have g3 : ∀ z : Cl wr, z.w.cell? ⟨w.heap.size + 1, 1, none⟩ = some (.int .i64 P2) := fun z => z.cell (keep hbl b1)
      have hQ1 : (Q : Int) ≤ 100000 := by omega
      have hQ0 : 0 ≤ (Q : Int) := by omega
      go_wp2
      refine wp_region_above wr (Below.refl _ _) (by kernel_rfl) (by kernel_rfl) ?_
      intro hCl2
      repeat (go_big_quiet_step ((first | (go_at_call_of 130 S1; exact Cl.call (k1 _)) | (go_at_call_of 130 S2; exact Cl.call (k2 _)))))
      refine wpQuiet_nil ?_
      intro _ hw'
      obtain ⟨y3, hx⟩ := hw'
      subst hx
      have hN3 := hN.below y3.below
      have hb3 : Below W3.heap.size W3 y3.w := bel_call hbl y3.below (Nat.le_refl _)
      have hsz3 : w.heap.size + 3 ≤ y3.w.heap.size := by have := y3.below.size; omega
      clear g0 g1 g2 g3 hCl2
      generalize y3.w = w3 at *
      clear y3 hbl hN
      go_wp2_with (at_builtin; refine wpList_append_own _ rfl _ _ 122 rfl (w.heap.size + 3) 5 i0 (.int .u8 0) 1 1 Tryz.underlying122 hi hz0 hz1 hz2 rfl (by decide) _ _ _ rfl (hN3.own.alloc _) ⟨_, 0, none⟩ 1 1 [.int .u8 (r : Int)] rfl rfl ?c1 ?c2 ?c3 ?c4 ?c5 ?_)
      case c1 =>
        intro j u hj
        match j, hj with
        | 0, hj => simp at hj; subst hj; simp [Addr.add]
      case c2 => intro u hu; simp at hu; subst hu; rfl
      case c3 => unfold maxLen; omega
      case c4 => omega
      case c5 => simp; omega
      intro v' w4 hown' hgrow _
      obtain ⟨ao', c', rfl, hN4⟩ := hN3.snoc hr hown'
      have hb4 : Below W3.heap.size W3 w4 := (hb3.alloc (by have := HSW.out; omega) _).grown hgrow (by have := HSW.out; simp; omega) (fun k hk => by have := own_ge hN3.own k hk; have := HSW.out; omega)
      clear hown' hgrow hN3
      go_wp2
      go_roundg (gk - 1)
      case measure => omega
      case rel => exact ⟨Q + 1, n + 1, c', q, ao', ds ++ [r], rfl, by go_num, by go_num, by omega, by omega, hq, by omega, hN4, hb4, HS⟩
    · have hgI : ¬ (Q : Int) - 10000 ≤ P1 := by have := HT.out; omega
      have hIn := HM.out ds cy (by have := HQ.out; rw [show Q = T + 1 by omega] at this; exact this)
      obtain ⟨S, hS⟩ : ∃ S, oS (v + u) = S := ⟨_, rfl⟩
      obtain ⟨P, hPP⟩ : ∃ P, oP (v + u) = P := ⟨_, rfl⟩
      rw [hS, hPP] at hIn
      have HS : Hid (oS (v + u) = S ∧ oP (v + u) = P) := ⟨hS, hPP⟩
      have hTx := htext_any _ ao n c ds wr hN (by omega)
      have bR1 := keepb hbl bR
      have hpx : P1 ≤ 30000 := by have := HT.out; omega
      have hpx0 : -10000 ≤ P1 := by have := HT.out; omega
      clear hS hPP HQ HM
      generalize (⟨(txt ds).toArray⟩ : ByteArray) = Tx at *
      go_wp2_with (first | (go_at_call 104; refine hTx.mono ?_; rintro x w5 ⟨rfl, hb5⟩) | (go_at_call 103; refine (hIn _).mono ?_; rintro x w6 ⟨rfl, hb6⟩; obtain ⟨r0, r1, r2, r3⟩ := keepb hb6 (keepb hb5 bR1)))
      refine bodyPost_ret (by simp [results, Tryz.results128, go_sem, cs_same, r0, r1]; rfl) rfl ?_
      rw [HS.out.1, HS.out.2]
      refine ⟨rfl, ?_⟩
      have h4 : Below w.heap.size w wr := bel_call hbW hbl (Nat.le_refl _)
      have h5 := bel_call (bel_call h4 hb5 (Nat.le_refl _)) hb6 (Nat.le_refl _)
      iterate 2 (refine Below.setCell ?_ (by dsimp only; omega) _)
      exact h5
set_option maxRecDepth 1000000 in
set_option maxHeartbeats 3200000 in
theorem hsum_b {S1 S2 : ByteArray} {P1 P2 L1 L2 : Int} {v u T E : Nat} (w : World) (h1 : 0 < S1.size) (h2 : 0 < S2.size) (l1 : HLowC S1 P1 L1) (l2 : HLowC S2 P2 L2)
    (d1 : ∀ Q : Nat, Q ≤ T → HDigC S1 P1 ((Q : Int) - 10000) (v / 10 ^ Q % 10)) (d2 : ∀ Q : Nat, Q ≤ T → HDigC S2 P2 ((Q : Int) - 10000) (u / 10 ^ Q % 10))
    (hv : v < 10 ^ T) (hu : u < 10 ^ T) (ev : v % 10 ^ E = 0) (eu : u % 10 ^ E = 0) (hE : (E : Int) - 10000 = L2) (hT : (T : Int) - 10000 = P1) (hET : E ≤ T) (hT2 : T ≤ 40000) (hP : ¬ P1 < P2) (hL : L2 < L1) :
    Calls Tryz.prog 128 #[.agg #[.string S1, .int .i64 P1], .agg #[.string S2, .int .i64 P2]] w fun e w' => e = .returned (.agg #[.string (oS (v + u)), .int .i64 (oP (v + u))]) ∧ Below w.heap.size w w' := by
  obtain ⟨i0, hi, hz0, hz1, hz2⟩ := info_parts infoU8
  have e1 : S1.toList.isEmpty = false := empty_no S1 h1
  have e2 : S2.toList.isEmpty = false := empty_no S2 h2
  have HF : Hid (SumAt v u E E [] 0) := sum_start ev eu
  have HM : Hid (∀ ds cy, SumAt v u E (T + 1) ds cy → HInC ⟨(txt ds).toArray⟩ (P1 + 1) (oS (v + u)) (oP (v + u))) := fun ds cy hS w => by
    have hz := mk_size (txt ds)
    have hl := hS.len
    rw [txt_len] at hz
    have := hin_any ⟨(txt ds).toArray⟩ (P1 + 1) w (txt_num ds hS.dig).2 (by omega) (by omega) (by omega)
    have e : V (⟨(txt ds).toArray⟩ : ByteArray).data.toList (P1 + 1) = v + u := sum_dec hS hv hu (by omega)
    rw [e] at this
    exact this
  clear h1 h2 hv hu ev eu
  obtain ⟨W3, hW3⟩ : ∃ W3, ((w.alloc (.cells #[.string S1, .int .i64 P1] 91)).alloc (.cells #[.string S2, .int .i64 P2] 91)).alloc (.cells #[.string ⟨#[]⟩, .int .i64 0] 91) = W3 := ⟨_, rfl⟩
  have bA : BoxD W3 w.heap.size (.string S1) (.int .i64 P1) := by rw [← hW3]; simp [BoxD, go_sem]
  have bB : BoxD W3 (w.heap.size + 1) (.string S2) (.int .i64 P2) := by rw [← hW3]; simp [BoxD, go_sem]
  have bR : BoxD W3 (w.heap.size + 2) (.string ⟨#[]⟩) (.int .i64 0) := by rw [← hW3]; simp [BoxD, go_sem]
  have hbW : Below w.heap.size w W3 := by rw [← hW3]; go_grown
  have hsW : W3.heap.size = w.heap.size + 3 := by rw [← hW3]; simp
  obtain ⟨a0, a1, -, -⟩ := id bA
  obtain ⟨b0, b1, -, -⟩ := id bB
  have c0 : ∀ x : Cl W3, x.w.cell? ⟨w.heap.size, 0, none⟩ = some (.string S1) := fun x => x.cell a0
  have c1 : ∀ x : Cl W3, x.w.cell? ⟨w.heap.size, 1, none⟩ = some (.int .i64 P1) := fun x => x.cell a1
  have c2 : ∀ x : Cl W3, x.w.cell? ⟨w.heap.size + 1, 0, none⟩ = some (.string S2) := fun x => x.cell b0
  have c3 : ∀ x : Cl W3, x.w.cell? ⟨w.heap.size + 1, 1, none⟩ = some (.int .i64 P2) := fun x => x.cell b1
  have HE : Hid ((E : Int) - 10000 = L2) := hE
  have HT : Hid ((T : Int) - 10000 = P1) := hT
  have HSW : Hid (W3.heap.size = w.heap.size + 3) := hsW
  clear hE hT hsW
  go_enter Tryz.func128, Tryz.ntmps128
  go_wp2
  refine wp_region_above W3 (Below.refl _ _) (by kernel_rfl) (by kernel_rfl) ?_
  intro hCl
  repeat (go_big_quiet_step ((go_at_call_of 127 S1; exact Cl.call (l1 _))))
  refine wpQuiet_nil ?_
  intro _ hw'
  obtain ⟨y, hx⟩ := hw'
  subst hx
  go_wp2_with (go_at_call_of 127 S2; refine (Cl.go (l2 _)).mono ?_; rintro e w9 ⟨y, rfl, rfl⟩)
  clear hW3 c0 c1 c2 c3
  go_loopg [7, 8, 9] (T + 1 - E) (fun g lv_ cv pv wr => ∃ (Q n c cy : Nat) (ao : Option Addr) (ds : List Nat), lv_ = .slice ao n c ∧ cv = .int .i64 (cy : Int) ∧ pv = .int .i64 ((Q : Int) - 10000) ∧ Q + g = T + 1 ∧ E ≤ Q ∧ cy ≤ 1 ∧ n ≤ T + 1 ∧ Nm wr (w.heap.size + 3) ao n c ds ∧ Below W3.heap.size W3 wr ∧ Hid (SumAt v u E Q ds cy))
  case atStart => exact ⟨E, 0, 0, 0, none, [], rfl, rfl, by have := HE.out; go_num, by omega, Nat.le_refl _, by omega, by omega, Nm.nil _ _, Cl.below _, HF⟩
  case round =>
    obtain ⟨Q, n, c, cy, ao, ds, rfl, rfl, rfl, hQg, hEQ, hcy, hnT, hN, hbl, HQ⟩ := hrel
    have hszr : w.heap.size + 3 ≤ wr.heap.size := by have := hbl.size; have := HSW.out; omega
    by_cases hgo : Q ≤ T
    · have hgI : (Q : Int) - 10000 ≤ P1 := by have := HT.out; omega
      have hn : n + E = Q := by have := HQ.out.len; have := hN.len; omega
      have hnT2 : n ≤ T := by omega
      have k1 := d1 Q hgo
      have k2 := d2 Q hgo
      have HS : Hid (SumAt v u E (Q + 1) (ds ++ [(cy + (v / 10 ^ Q % 10 + u / 10 ^ Q % 10)) % 10]) ((cy + (v / 10 ^ Q % 10 + u / 10 ^ Q % 10)) / 10)) := sum_step HQ.out
      have hx9 : v / 10 ^ Q % 10 < 10 := Nat.mod_lt _ (by decide)
      have hy9 : u / 10 ^ Q % 10 < 10 := Nat.mod_lt _ (by decide)
      clear HQ hn
      generalize v / 10 ^ Q % 10 = x at *
      generalize u / 10 ^ Q % 10 = y at *
      obtain ⟨t, ht⟩ : ∃ t, cy + (x + y) = t := ⟨_, rfl⟩
      rw [ht] at HS
      have htI : (cy : Int) + ((x : Int) + (y : Int)) = (t : Int) := by omega
      have ht19 : t ≤ 19 := by omega
      clear ht
      have hm1 : (t : Int) % 10 = ((t % 10 : Nat) : Int) := by omega
      have hm2 : (t : Int) / 10 = ((t / 10 : Nat) : Int) := by omega
      have hr : t % 10 < 10 := Nat.mod_lt _ (by decide)
      have hq : t / 10 ≤ 1 := by omega
      generalize t % 10 = r at *
      generalize t / 10 = q at *
      have g0 : ∀ z : Cl wr, z.w.cell? ⟨w.heap.size, 0, none⟩ = some (.string S1) := fun z => z.cell (keep hbl a0)
      have g1 : ∀ z : Cl wr, z.w.cell? ⟨w.heap.size, 1, none⟩ = some (.int .i64 P1) := fun z => z.cell (keep hbl a1)
      have g2 : ∀ z : Cl wr, z.w.cell? ⟨w.heap.size + 1, 0, none⟩ = some (.string S2) := fun z => z.cell (keep hbl b0)
      have g3 : ∀ z : Cl wr, z.w.cell? ⟨w.heap.size + 1, 1, none⟩ = some (.int .i64 P2) := fun z => z.cell (keep hbl b1)
      have hQ1 : (Q : Int) ≤ 100000 := by omega
      have hQ0 : 0 ≤ (Q : Int) := by omega
      go_wp2
      refine wp_region_above wr (Below.refl _ _) (by kernel_rfl) (by kernel_rfl) ?_
      intro hCl2
      repeat (go_big_quiet_step ((first | (go_at_call_of 130 S1; exact Cl.call (k1 _)) | (go_at_call_of 130 S2; exact Cl.call (k2 _)))))
      refine wpQuiet_nil ?_
      intro _ hw'
      obtain ⟨y3, hx⟩ := hw'
      subst hx
      have hN3 := hN.below y3.below
      have hb3 : Below W3.heap.size W3 y3.w := bel_call hbl y3.below (Nat.le_refl _)
      have hsz3 : w.heap.size + 3 ≤ y3.w.heap.size := by have := y3.below.size; omega
      clear g0 g1 g2 g3 hCl2
      generalize y3.w = w3 at *
      clear y3 hbl hN
      go_wp2_with (at_builtin; refine wpList_append_own _ rfl _ _ 122 rfl (w.heap.size + 3) 5 i0 (.int .u8 0) 1 1 Tryz.underlying122 hi hz0 hz1 hz2 rfl (by decide) _ _ _ rfl (hN3.own.alloc _) ⟨_, 0, none⟩ 1 1 [.int .u8 (r : Int)] rfl rfl ?c1 ?c2 ?c3 ?c4 ?c5 ?_)
      case c1 =>
        intro j u hj
        match j, hj with
        | 0, hj => simp at hj; subst hj; simp [Addr.add]
      case c2 => intro u hu; simp at hu; subst hu; rfl
      case c3 => unfold maxLen; omega
      case c4 => omega
      case c5 => simp; omega
      intro v' w4 hown' hgrow _
      obtain ⟨ao', c', rfl, hN4⟩ := hN3.snoc hr hown'
      have hb4 : Below W3.heap.size W3 w4 := (hb3.alloc (by have := HSW.out; omega) _).grown hgrow (by have := HSW.out; simp; omega) (fun k hk => by have := own_ge hN3.own k hk; have := HSW.out; omega)
      clear hown' hgrow hN3
      go_wp2
      go_roundg (gk - 1)
      case measure => omega
      case rel => exact ⟨Q + 1, n + 1, c', q, ao', ds ++ [r], rfl, by go_num, by go_num, by omega, by omega, hq, by omega, hN4, hb4, HS⟩
    · have hgI : ¬ (Q : Int) - 10000 ≤ P1 := by have := HT.out; omega
      have hIn := HM.out ds cy (by have := HQ.out; rw [show Q = T + 1 by omega] at this; exact this)
      obtain ⟨S, hS⟩ : ∃ S, oS (v + u) = S := ⟨_, rfl⟩
      obtain ⟨P, hPP⟩ : ∃ P, oP (v + u) = P := ⟨_, rfl⟩
      rw [hS, hPP] at hIn
      have HS : Hid (oS (v + u) = S ∧ oP (v + u) = P) := ⟨hS, hPP⟩
      have hTx := htext_any _ ao n c ds wr hN (by omega)
      have bR1 := keepb hbl bR
      have hpx : P1 ≤ 30000 := by have := HT.out; omega
      have hpx0 : -10000 ≤ P1 := by have := HT.out; omega
      clear hS hPP HQ HM
      generalize (⟨(txt ds).toArray⟩ : ByteArray) = Tx at *
      go_wp2_with (first | (go_at_call 104; refine hTx.mono ?_; rintro x w5 ⟨rfl, hb5⟩) | (go_at_call 103; refine (hIn _).mono ?_; rintro x w6 ⟨rfl, hb6⟩; obtain ⟨r0, r1, r2, r3⟩ := keepb hb6 (keepb hb5 bR1)))
      refine bodyPost_ret (by simp [results, Tryz.results128, go_sem, cs_same, r0, r1]; rfl) rfl ?_
      rw [HS.out.1, HS.out.2]
      refine ⟨rfl, ?_⟩
      have h4 : Below w.heap.size w wr := bel_call hbW hbl (Nat.le_refl _)
      have h5 := bel_call (bel_call h4 hb5 (Nat.le_refl _)) hb6 (Nat.le_refl _)
      iterate 2 (refine Below.setCell ?_ (by dsimp only; omega) _)
      exact h5
set_option maxRecDepth 1000000 in
set_option maxHeartbeats 3200000 in
theorem hsum_c {S1 S2 : ByteArray} {P1 P2 L1 L2 : Int} {v u T E : Nat} (w : World) (h1 : 0 < S1.size) (h2 : 0 < S2.size) (l1 : HLowC S1 P1 L1) (l2 : HLowC S2 P2 L2)
    (d1 : ∀ Q : Nat, Q ≤ T → HDigC S1 P1 ((Q : Int) - 10000) (v / 10 ^ Q % 10)) (d2 : ∀ Q : Nat, Q ≤ T → HDigC S2 P2 ((Q : Int) - 10000) (u / 10 ^ Q % 10))
    (hv : v < 10 ^ T) (hu : u < 10 ^ T) (ev : v % 10 ^ E = 0) (eu : u % 10 ^ E = 0) (hE : (E : Int) - 10000 = L1) (hT : (T : Int) - 10000 = P2) (hET : E ≤ T) (hT2 : T ≤ 40000) (hP : P1 < P2) (hL : ¬ L2 < L1) :
    Calls Tryz.prog 128 #[.agg #[.string S1, .int .i64 P1], .agg #[.string S2, .int .i64 P2]] w fun e w' => e = .returned (.agg #[.string (oS (v + u)), .int .i64 (oP (v + u))]) ∧ Below w.heap.size w w' := by
  obtain ⟨i0, hi, hz0, hz1, hz2⟩ := info_parts infoU8
  have e1 : S1.toList.isEmpty = false := empty_no S1 h1
  have e2 : S2.toList.isEmpty = false := empty_no S2 h2
  have HF : Hid (SumAt v u E E [] 0) := sum_start ev eu
  have HM : Hid (∀ ds cy, SumAt v u E (T + 1) ds cy → HInC ⟨(txt ds).toArray⟩ (P2 + 1) (oS (v + u)) (oP (v + u))) := fun ds cy hS w => by
    have hz := mk_size (txt ds)
    have hl := hS.len
    rw [txt_len] at hz
    have := hin_any ⟨(txt ds).toArray⟩ (P2 + 1) w (txt_num ds hS.dig).2 (by omega) (by omega) (by omega)
    have e : V (⟨(txt ds).toArray⟩ : ByteArray).data.toList (P2 + 1) = v + u := sum_dec hS hv hu (by omega)
    rw [e] at this
    exact this
  clear h1 h2 hv hu ev eu
  obtain ⟨W3, hW3⟩ : ∃ W3, ((w.alloc (.cells #[.string S1, .int .i64 P1] 91)).alloc (.cells #[.string S2, .int .i64 P2] 91)).alloc (.cells #[.string ⟨#[]⟩, .int .i64 0] 91) = W3 := ⟨_, rfl⟩
  have bA : BoxD W3 w.heap.size (.string S1) (.int .i64 P1) := by rw [← hW3]; simp [BoxD, go_sem]
  have bB : BoxD W3 (w.heap.size + 1) (.string S2) (.int .i64 P2) := by rw [← hW3]; simp [BoxD, go_sem]
  have bR : BoxD W3 (w.heap.size + 2) (.string ⟨#[]⟩) (.int .i64 0) := by rw [← hW3]; simp [BoxD, go_sem]
  have hbW : Below w.heap.size w W3 := by rw [← hW3]; go_grown
  have hsW : W3.heap.size = w.heap.size + 3 := by rw [← hW3]; simp
  obtain ⟨a0, a1, -, -⟩ := id bA
  obtain ⟨b0, b1, -, -⟩ := id bB
  have c0 : ∀ x : Cl W3, x.w.cell? ⟨w.heap.size, 0, none⟩ = some (.string S1) := fun x => x.cell a0
  have c1 : ∀ x : Cl W3, x.w.cell? ⟨w.heap.size, 1, none⟩ = some (.int .i64 P1) := fun x => x.cell a1
  have c2 : ∀ x : Cl W3, x.w.cell? ⟨w.heap.size + 1, 0, none⟩ = some (.string S2) := fun x => x.cell b0
  have c3 : ∀ x : Cl W3, x.w.cell? ⟨w.heap.size + 1, 1, none⟩ = some (.int .i64 P2) := fun x => x.cell b1
  have HE : Hid ((E : Int) - 10000 = L1) := hE
  have HT : Hid ((T : Int) - 10000 = P2) := hT
  have HSW : Hid (W3.heap.size = w.heap.size + 3) := hsW
  clear hE hT hsW
  go_enter Tryz.func128, Tryz.ntmps128
  go_wp2
  refine wp_region_above W3 (Below.refl _ _) (by kernel_rfl) (by kernel_rfl) ?_
  intro hCl
  repeat (go_big_quiet_step ((go_at_call_of 127 S1; exact Cl.call (l1 _))))
  refine wpQuiet_nil ?_
  intro _ hw'
  obtain ⟨y, hx⟩ := hw'
  subst hx
  go_wp2_with (go_at_call_of 127 S2; refine (Cl.go (l2 _)).mono ?_; rintro e w9 ⟨y, rfl, rfl⟩)
  clear hW3 c0 c1 c2 c3
  go_loopg [7, 8, 9] (T + 1 - E) (fun g lv_ cv pv wr => ∃ (Q n c cy : Nat) (ao : Option Addr) (ds : List Nat), lv_ = .slice ao n c ∧ cv = .int .i64 (cy : Int) ∧ pv = .int .i64 ((Q : Int) - 10000) ∧ Q + g = T + 1 ∧ E ≤ Q ∧ cy ≤ 1 ∧ n ≤ T + 1 ∧ Nm wr (w.heap.size + 3) ao n c ds ∧ Below W3.heap.size W3 wr ∧ Hid (SumAt v u E Q ds cy))
  case atStart => exact ⟨E, 0, 0, 0, none, [], rfl, rfl, by have := HE.out; go_num, by omega, Nat.le_refl _, by omega, by omega, Nm.nil _ _, Cl.below _, HF⟩
  case round =>
    obtain ⟨Q, n, c, cy, ao, ds, rfl, rfl, rfl, hQg, hEQ, hcy, hnT, hN, hbl, HQ⟩ := hrel
    have hszr : w.heap.size + 3 ≤ wr.heap.size := by have := hbl.size; have := HSW.out; omega
    by_cases hgo : Q ≤ T
    · have hgI : (Q : Int) - 10000 ≤ P2 := by have := HT.out; omega
      have hn : n + E = Q := by have := HQ.out.len; have := hN.len; omega
      have hnT2 : n ≤ T := by omega
      have k1 := d1 Q hgo
      have k2 := d2 Q hgo
      have HS : Hid (SumAt v u E (Q + 1) (ds ++ [(cy + (v / 10 ^ Q % 10 + u / 10 ^ Q % 10)) % 10]) ((cy + (v / 10 ^ Q % 10 + u / 10 ^ Q % 10)) / 10)) := sum_step HQ.out
      have hx9 : v / 10 ^ Q % 10 < 10 := Nat.mod_lt _ (by decide)
      have hy9 : u / 10 ^ Q % 10 < 10 := Nat.mod_lt _ (by decide)
      clear HQ hn
      generalize v / 10 ^ Q % 10 = x at *
      generalize u / 10 ^ Q % 10 = y at *
      obtain ⟨t, ht⟩ : ∃ t, cy + (x + y) = t := ⟨_, rfl⟩
      rw [ht] at HS
      have htI : (cy : Int) + ((x : Int) + (y : Int)) = (t : Int) := by omega
      have ht19 : t ≤ 19 := by omega
      clear ht
      have hm1 : (t : Int) % 10 = ((t % 10 : Nat) : Int) := by omega
      have hm2 : (t : Int) / 10 = ((t / 10 : Nat) : Int) := by omega
      have hr : t % 10 < 10 := Nat.mod_lt _ (by decide)
      have hq : t / 10 ≤ 1 := by omega
      generalize t % 10 = r at *
      generalize t / 10 = q at *
      have g0 : ∀ z : Cl wr, z.w.cell? ⟨w.heap.size, 0, none⟩ = some (.string S1) := fun z => z.cell (keep hbl a0)
      have g1 : ∀ z : Cl wr, z.w.cell? ⟨w.heap.size, 1, none⟩ = some (.int .i64 P1) := fun z => z.cell (keep hbl a1)
      have g2 : ∀ z : Cl wr, z.w.cell? ⟨w.heap.size + 1, 0, none⟩ = some (.string S2) := fun z => z.cell (keep hbl b0)
      have g3 : ∀ z : Cl wr, z.w.cell? ⟨w.heap.size + 1, 1, none⟩ = some (.int .i64 P2) := fun z => z.cell (keep hbl b1)
      have hQ1 : (Q : Int) ≤ 100000 := by omega
      have hQ0 : 0 ≤ (Q : Int) := by omega
      go_wp2
      refine wp_region_above wr (Below.refl _ _) (by kernel_rfl) (by kernel_rfl) ?_
      intro hCl2
      repeat (go_big_quiet_step ((first | (go_at_call_of 130 S1; exact Cl.call (k1 _)) | (go_at_call_of 130 S2; exact Cl.call (k2 _)))))
      refine wpQuiet_nil ?_
      intro _ hw'
      obtain ⟨y3, hx⟩ := hw'
      subst hx
      have hN3 := hN.below y3.below
      have hb3 : Below W3.heap.size W3 y3.w := bel_call hbl y3.below (Nat.le_refl _)
      have hsz3 : w.heap.size + 3 ≤ y3.w.heap.size := by have := y3.below.size; omega
      clear g0 g1 g2 g3 hCl2
      generalize y3.w = w3 at *
      clear y3 hbl hN
      go_wp2_with (at_builtin; refine wpList_append_own _ rfl _ _ 122 rfl (w.heap.size + 3) 5 i0 (.int .u8 0) 1 1 Tryz.underlying122 hi hz0 hz1 hz2 rfl (by decide) _ _ _ rfl (hN3.own.alloc _) ⟨_, 0, none⟩ 1 1 [.int .u8 (r : Int)] rfl rfl ?c1 ?c2 ?c3 ?c4 ?c5 ?_)
      case c1 =>
        intro j u hj
        match j, hj with
        | 0, hj => simp at hj; subst hj; simp [Addr.add]
      case c2 => intro u hu; simp at hu; subst hu; rfl
      case c3 => unfold maxLen; omega
      case c4 => omega
      case c5 => simp; omega
      intro v' w4 hown' hgrow _
      obtain ⟨ao', c', rfl, hN4⟩ := hN3.snoc hr hown'
      have hb4 : Below W3.heap.size W3 w4 := (hb3.alloc (by have := HSW.out; omega) _).grown hgrow (by have := HSW.out; simp; omega) (fun k hk => by have := own_ge hN3.own k hk; have := HSW.out; omega)
      clear hown' hgrow hN3
      go_wp2
      go_roundg (gk - 1)
      case measure => omega
      case rel => exact ⟨Q + 1, n + 1, c', q, ao', ds ++ [r], rfl, by go_num, by go_num, by omega, by omega, hq, by omega, hN4, hb4, HS⟩
    · have hgI : ¬ (Q : Int) - 10000 ≤ P2 := by have := HT.out; omega
      have hIn := HM.out ds cy (by have := HQ.out; rw [show Q = T + 1 by omega] at this; exact this)
      obtain ⟨S, hS⟩ : ∃ S, oS (v + u) = S := ⟨_, rfl⟩
      obtain ⟨P, hPP⟩ : ∃ P, oP (v + u) = P := ⟨_, rfl⟩
      rw [hS, hPP] at hIn
      have HS : Hid (oS (v + u) = S ∧ oP (v + u) = P) := ⟨hS, hPP⟩
      have hTx := htext_any _ ao n c ds wr hN (by omega)
      have bR1 := keepb hbl bR
      have hpx : P2 ≤ 30000 := by have := HT.out; omega
      have hpx0 : -10000 ≤ P2 := by have := HT.out; omega
      clear hS hPP HQ HM
      generalize (⟨(txt ds).toArray⟩ : ByteArray) = Tx at *
      go_wp2_with (first | (go_at_call 104; refine hTx.mono ?_; rintro x w5 ⟨rfl, hb5⟩) | (go_at_call 103; refine (hIn _).mono ?_; rintro x w6 ⟨rfl, hb6⟩; obtain ⟨r0, r1, r2, r3⟩ := keepb hb6 (keepb hb5 bR1)))
      refine bodyPost_ret (by simp [results, Tryz.results128, go_sem, cs_same, r0, r1]; rfl) rfl ?_
      rw [HS.out.1, HS.out.2]
      refine ⟨rfl, ?_⟩
      have h4 : Below w.heap.size w wr := bel_call hbW hbl (Nat.le_refl _)
      have h5 := bel_call (bel_call h4 hb5 (Nat.le_refl _)) hb6 (Nat.le_refl _)
      iterate 2 (refine Below.setCell ?_ (by dsimp only; omega) _)
      exact h5
set_option maxRecDepth 1000000 in
set_option maxHeartbeats 3200000 in
theorem hsum_d {S1 S2 : ByteArray} {P1 P2 L1 L2 : Int} {v u T E : Nat} (w : World) (h1 : 0 < S1.size) (h2 : 0 < S2.size) (l1 : HLowC S1 P1 L1) (l2 : HLowC S2 P2 L2)
    (d1 : ∀ Q : Nat, Q ≤ T → HDigC S1 P1 ((Q : Int) - 10000) (v / 10 ^ Q % 10)) (d2 : ∀ Q : Nat, Q ≤ T → HDigC S2 P2 ((Q : Int) - 10000) (u / 10 ^ Q % 10))
    (hv : v < 10 ^ T) (hu : u < 10 ^ T) (ev : v % 10 ^ E = 0) (eu : u % 10 ^ E = 0) (hE : (E : Int) - 10000 = L2) (hT : (T : Int) - 10000 = P2) (hET : E ≤ T) (hT2 : T ≤ 40000) (hP : P1 < P2) (hL : L2 < L1) :
    Calls Tryz.prog 128 #[.agg #[.string S1, .int .i64 P1], .agg #[.string S2, .int .i64 P2]] w fun e w' => e = .returned (.agg #[.string (oS (v + u)), .int .i64 (oP (v + u))]) ∧ Below w.heap.size w w' := by
  obtain ⟨i0, hi, hz0, hz1, hz2⟩ := info_parts infoU8
  have e1 : S1.toList.isEmpty = false := empty_no S1 h1
  have e2 : S2.toList.isEmpty = false := empty_no S2 h2
  have HF : Hid (SumAt v u E E [] 0) := sum_start ev eu
  have HM : Hid (∀ ds cy, SumAt v u E (T + 1) ds cy → HInC ⟨(txt ds).toArray⟩ (P2 + 1) (oS (v + u)) (oP (v + u))) := fun ds cy hS w => by
    have hz := mk_size (txt ds)
    have hl := hS.len
    rw [txt_len] at hz
    have := hin_any ⟨(txt ds).toArray⟩ (P2 + 1) w (txt_num ds hS.dig).2 (by omega) (by omega) (by omega)
    have e : V (⟨(txt ds).toArray⟩ : ByteArray).data.toList (P2 + 1) = v + u := sum_dec hS hv hu (by omega)
    rw [e] at this
    exact this
  clear h1 h2 hv hu ev eu
  obtain ⟨W3, hW3⟩ : ∃ W3, ((w.alloc (.cells #[.string S1, .int .i64 P1] 91)).alloc (.cells #[.string S2, .int .i64 P2] 91)).alloc (.cells #[.string ⟨#[]⟩, .int .i64 0] 91) = W3 := ⟨_, rfl⟩
  have bA : BoxD W3 w.heap.size (.string S1) (.int .i64 P1) := by rw [← hW3]; simp [BoxD, go_sem]
  have bB : BoxD W3 (w.heap.size + 1) (.string S2) (.int .i64 P2) := by rw [← hW3]; simp [BoxD, go_sem]
  have bR : BoxD W3 (w.heap.size + 2) (.string ⟨#[]⟩) (.int .i64 0) := by rw [← hW3]; simp [BoxD, go_sem]
  have hbW : Below w.heap.size w W3 := by rw [← hW3]; go_grown
  have hsW : W3.heap.size = w.heap.size + 3 := by rw [← hW3]; simp
  obtain ⟨a0, a1, -, -⟩ := id bA
  obtain ⟨b0, b1, -, -⟩ := id bB
  have c0 : ∀ x : Cl W3, x.w.cell? ⟨w.heap.size, 0, none⟩ = some (.string S1) := fun x => x.cell a0
  have c1 : ∀ x : Cl W3, x.w.cell? ⟨w.heap.size, 1, none⟩ = some (.int .i64 P1) := fun x => x.cell a1
  have c2 : ∀ x : Cl W3, x.w.cell? ⟨w.heap.size + 1, 0, none⟩ = some (.string S2) := fun x => x.cell b0
  have c3 : ∀ x : Cl W3, x.w.cell? ⟨w.heap.size + 1, 1, none⟩ = some (.int .i64 P2) := fun x => x.cell b1
  have HE : Hid ((E : Int) - 10000 = L2) := hE
  have HT : Hid ((T : Int) - 10000 = P2) := hT
  have HSW : Hid (W3.heap.size = w.heap.size + 3) := hsW
  clear hE hT hsW
  go_enter Tryz.func128, Tryz.ntmps128
  go_wp2
  refine wp_region_above W3 (Below.refl _ _) (by kernel_rfl) (by kernel_rfl) ?_
  intro hCl
  repeat (go_big_quiet_step ((go_at_call_of 127 S1; exact Cl.call (l1 _))))
  refine wpQuiet_nil ?_
  intro _ hw'
  obtain ⟨y, hx⟩ := hw'
  subst hx
  go_wp2_with (go_at_call_of 127 S2; refine (Cl.go (l2 _)).mono ?_; rintro e w9 ⟨y, rfl, rfl⟩)
  clear hW3 c0 c1 c2 c3
  go_loopg [7, 8, 9] (T + 1 - E) (fun g lv_ cv pv wr => ∃ (Q n c cy : Nat) (ao : Option Addr) (ds : List Nat), lv_ = .slice ao n c ∧ cv = .int .i64 (cy : Int) ∧ pv = .int .i64 ((Q : Int) - 10000) ∧ Q + g = T + 1 ∧ E ≤ Q ∧ cy ≤ 1 ∧ n ≤ T + 1 ∧ Nm wr (w.heap.size + 3) ao n c ds ∧ Below W3.heap.size W3 wr ∧ Hid (SumAt v u E Q ds cy))
  case atStart => exact ⟨E, 0, 0, 0, none, [], rfl, rfl, by have := HE.out; go_num, by omega, Nat.le_refl _, by omega, by omega, Nm.nil _ _, Cl.below _, HF⟩
  case round =>
    obtain ⟨Q, n, c, cy, ao, ds, rfl, rfl, rfl, hQg, hEQ, hcy, hnT, hN, hbl, HQ⟩ := hrel
    have hszr : w.heap.size + 3 ≤ wr.heap.size := by have := hbl.size; have := HSW.out; omega
    by_cases hgo : Q ≤ T
    · have hgI : (Q : Int) - 10000 ≤ P2 := by have := HT.out; omega
      have hn : n + E = Q := by have := HQ.out.len; have := hN.len; omega
      have hnT2 : n ≤ T := by omega
      have k1 := d1 Q hgo
      have k2 := d2 Q hgo
      have HS : Hid (SumAt v u E (Q + 1) (ds ++ [(cy + (v / 10 ^ Q % 10 + u / 10 ^ Q % 10)) % 10]) ((cy + (v / 10 ^ Q % 10 + u / 10 ^ Q % 10)) / 10)) := sum_step HQ.out
      have hx9 : v / 10 ^ Q % 10 < 10 := Nat.mod_lt _ (by decide)
      have hy9 : u / 10 ^ Q % 10 < 10 := Nat.mod_lt _ (by decide)
      clear HQ hn
      generalize v / 10 ^ Q % 10 = x at *
      generalize u / 10 ^ Q % 10 = y at *
      obtain ⟨t, ht⟩ : ∃ t, cy + (x + y) = t := ⟨_, rfl⟩
      rw [ht] at HS
      have htI : (cy : Int) + ((x : Int) + (y : Int)) = (t : Int) := by omega
      have ht19 : t ≤ 19 := by omega
      clear ht
      have hm1 : (t : Int) % 10 = ((t % 10 : Nat) : Int) := by omega
      have hm2 : (t : Int) / 10 = ((t / 10 : Nat) : Int) := by omega
      have hr : t % 10 < 10 := Nat.mod_lt _ (by decide)
      have hq : t / 10 ≤ 1 := by omega
      generalize t % 10 = r at *
      generalize t / 10 = q at *
      have g0 : ∀ z : Cl wr, z.w.cell? ⟨w.heap.size, 0, none⟩ = some (.string S1) := fun z => z.cell (keep hbl a0)
      have g1 : ∀ z : Cl wr, z.w.cell? ⟨w.heap.size, 1, none⟩ = some (.int .i64 P1) := fun z => z.cell (keep hbl a1)
      have g2 : ∀ z : Cl wr, z.w.cell? ⟨w.heap.size + 1, 0, none⟩ = some (.string S2) := fun z => z.cell (keep hbl b0)
      have g3 : ∀ z : Cl wr, z.w.cell? ⟨w.heap.size + 1, 1, none⟩ = some (.int .i64 P2) := fun z => z.cell (keep hbl b1)
      have hQ1 : (Q : Int) ≤ 100000 := by omega
      have hQ0 : 0 ≤ (Q : Int) := by omega
      go_wp2
      refine wp_region_above wr (Below.refl _ _) (by kernel_rfl) (by kernel_rfl) ?_
      intro hCl2
      repeat (go_big_quiet_step ((first | (go_at_call_of 130 S1; exact Cl.call (k1 _)) | (go_at_call_of 130 S2; exact Cl.call (k2 _)))))
      refine wpQuiet_nil ?_
      intro _ hw'
      obtain ⟨y3, hx⟩ := hw'
      subst hx
      have hN3 := hN.below y3.below
      have hb3 : Below W3.heap.size W3 y3.w := bel_call hbl y3.below (Nat.le_refl _)
      have hsz3 : w.heap.size + 3 ≤ y3.w.heap.size := by have := y3.below.size; omega
      clear g0 g1 g2 g3 hCl2
      generalize y3.w = w3 at *
      clear y3 hbl hN
      go_wp2_with (at_builtin; refine wpList_append_own _ rfl _ _ 122 rfl (w.heap.size + 3) 5 i0 (.int .u8 0) 1 1 Tryz.underlying122 hi hz0 hz1 hz2 rfl (by decide) _ _ _ rfl (hN3.own.alloc _) ⟨_, 0, none⟩ 1 1 [.int .u8 (r : Int)] rfl rfl ?c1 ?c2 ?c3 ?c4 ?c5 ?_)
      case c1 =>
        intro j u hj
        match j, hj with
        | 0, hj => simp at hj; subst hj; simp [Addr.add]
      case c2 => intro u hu; simp at hu; subst hu; rfl
      case c3 => unfold maxLen; omega
      case c4 => omega
      case c5 => simp; omega
      intro v' w4 hown' hgrow _
      obtain ⟨ao', c', rfl, hN4⟩ := hN3.snoc hr hown'
      have hb4 : Below W3.heap.size W3 w4 := (hb3.alloc (by have := HSW.out; omega) _).grown hgrow (by have := HSW.out; simp; omega) (fun k hk => by have := own_ge hN3.own k hk; have := HSW.out; omega)
      clear hown' hgrow hN3
      go_wp2
      go_roundg (gk - 1)
      case measure => omega
      case rel => exact ⟨Q + 1, n + 1, c', q, ao', ds ++ [r], rfl, by go_num, by go_num, by omega, by omega, hq, by omega, hN4, hb4, HS⟩
    · have hgI : ¬ (Q : Int) - 10000 ≤ P2 := by have := HT.out; omega
      have hIn := HM.out ds cy (by have := HQ.out; rw [show Q = T + 1 by omega] at this; exact this)
      obtain ⟨S, hS⟩ : ∃ S, oS (v + u) = S := ⟨_, rfl⟩
      obtain ⟨P, hPP⟩ : ∃ P, oP (v + u) = P := ⟨_, rfl⟩
      rw [hS, hPP] at hIn
      have HS : Hid (oS (v + u) = S ∧ oP (v + u) = P) := ⟨hS, hPP⟩
      have hTx := htext_any _ ao n c ds wr hN (by omega)
      have bR1 := keepb hbl bR
      have hpx : P2 ≤ 30000 := by have := HT.out; omega
      have hpx0 : -10000 ≤ P2 := by have := HT.out; omega
      clear hS hPP HQ HM
      generalize (⟨(txt ds).toArray⟩ : ByteArray) = Tx at *
      go_wp2_with (first | (go_at_call 104; refine hTx.mono ?_; rintro x w5 ⟨rfl, hb5⟩) | (go_at_call 103; refine (hIn _).mono ?_; rintro x w6 ⟨rfl, hb6⟩; obtain ⟨r0, r1, r2, r3⟩ := keepb hb6 (keepb hb5 bR1)))
      refine bodyPost_ret (by simp [results, Tryz.results128, go_sem, cs_same, r0, r1]; rfl) rfl ?_
      rw [HS.out.1, HS.out.2]
      refine ⟨rfl, ?_⟩
      have h4 : Below w.heap.size w wr := bel_call hbW hbl (Nat.le_refl _)
      have h5 := bel_call (bel_call h4 hb5 (Nat.le_refl _)) hb6 (Nat.le_refl _)
      iterate 2 (refine Below.setCell ?_ (by dsimp only; omega) _)
      exact h5
/-- What Sum answers. -/
theorem hsum_any (v u : Nat) (w : World) (h1 : (oL v).length ≤ 20000) (h2 : (oL u).length ≤ 20000) (h3 : oP v ≤ 20000) (h4 : oP u ≤ 20000) :
    Calls Tryz.prog 128 #[.agg #[.string (oS v), .int .i64 (oP v)], .agg #[.string (oS u), .int .i64 (oP u)]] w fun e w' => e = .returned (.agg #[.string (oS (v + u)), .int .i64 (oP (v + u))]) ∧ Below w.heap.size w w' := by
  have z1 := oS_size v
  have z2 := oS_size u
  have k1 := o_low v
  have k2 := o_low u
  have n1 : (oS v).size = 0 ↔ v = 0 := by rw [z1, List.length_eq_zero_iff]; exact oL_nil
  have n2 : (oS u).size = 0 ↔ u = 0 := by rw [z2, List.length_eq_zero_iff]; exact oL_nil
  by_cases e1 : (oS v).size = 0
  · have hv := n1.1 e1
    rw [show v + u = u by omega]
    exact hsum_n1 _ _ w e1
  · by_cases e2 : (oS u).size = 0
    · have hu := n2.1 e2
      rw [show v + u = v by omega]
      exact hsum_n2 _ _ w (by omega) e2
    · have l1 : HLowC (oS v) (oP v) (oP v - (oS v).size) := fun w => hlow_any (oS v) (oP v) w (by omega) (by omega) (by omega)
      have l2 : HLowC (oS u) (oP u) (oP u - (oS u).size) := fun w => hlow_any (oS u) (oP u) w (by omega) (by omega) (by omega)
      obtain ⟨T, hT⟩ : ∃ T : Nat, (T : Int) = max (oP v) (oP u) + 10000 := ⟨(max (oP v) (oP u) + 10000).toNat, by omega⟩
      obtain ⟨E, hE⟩ : ∃ E : Nat, (E : Int) = min (oP v - (oS v).size) (oP u - (oS u).size) + 10000 := ⟨(min (oP v - (oS v).size) (oP u - (oS u).size) + 10000).toNat, by omega⟩
      have d1 : ∀ Q : Nat, Q ≤ T → HDigC (oS v) (oP v) ((Q : Int) - 10000) (v / 10 ^ Q % 10) := fun Q hQ w => hdigit_any v _ Q w (by omega) (by omega) (by omega) (by omega)
      have d2 : ∀ Q : Nat, Q ≤ T → HDigC (oS u) (oP u) ((Q : Int) - 10000) (u / 10 ^ Q % 10) := fun Q hQ w => hdigit_any u _ Q w (by omega) (by omega) (by omega) (by omega)
      have hv := (o_dec v).lt (q := T) (by omega)
      have hu := (o_dec u).lt (q := T) (by omega)
      have mv := (o_dec v).mod (E := E) (by omega)
      have mu := (o_dec u).mod (E := E) (by omega)
      by_cases hp : oP v < oP u
      · by_cases hl : oP u - (oS u).size < oP v - (oS v).size
        · exact hsum_d w (by omega) (by omega) l1 l2 d1 d2 hv hu mv mu (by omega) (by omega) (by omega) (by omega) hp hl
        · exact hsum_c w (by omega) (by omega) l1 l2 d1 d2 hv hu mv mu (by omega) (by omega) (by omega) (by omega) hp hl
      · by_cases hl : oP u - (oS u).size < oP v - (oS v).size
        · exact hsum_b w (by omega) (by omega) l1 l2 d1 d2 hv hu mv mu (by omega) (by omega) (by omega) (by omega) hp hl
        · exact hsum_a w (by omega) (by omega) l1 l2 d1 d2 hv hu mv mu (by omega) (by omega) (by omega) (by omega) hp hl
end Go.Proofs.YthbabhbfpcfenaaGreatDoor

/- The document's Cmp and Add. -/
namespace Go.Proofs.YthbabhbfpcfenaaGreatDoor
open Go.RowKit
set_option linter.unusedVariables false
set_option linter.unusedSimpArgs false

def HNormC (s : ByteArray) (p : Int) (S : ByteArray) (P E : Int) : Prop := ∀ w, Calls Tryz.prog 108 #[.agg #[.string s, .int .i64 p]] w fun e w' => e = .returned (.tuple #[.agg #[.string S, .int .i64 P], .int .i64 E]) ∧ Below w.heap.size w w'
theorem hnormC (s : ByteArray) (p : Int) (hs : s.size ≤ 9223372036854775807) : HNormC s p (oS (normV s p)) (oP (normV s p)) (normE s p) := fun w => hnorm_any s p w hs
end Go.Proofs.YthbabhbfpcfenaaGreatDoor
