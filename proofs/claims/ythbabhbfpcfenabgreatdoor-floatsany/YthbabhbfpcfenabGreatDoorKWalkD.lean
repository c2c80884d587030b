/- The document's divide: a quotient bit by bit, and what is left. -/
import Derived.Test.YthbabhbfpcfenabGreatDoorKWalkC
namespace Go.Proofs.YthbabhbfpcfenabGreatDoor
open Go.RowKit
set_option linter.unusedVariables false
set_option linter.unusedSimpArgs false

theorem infoNum : (Tryz.prog.info? 79).map (fun i => (i.zero, i.size, i.bytes)) = some (some (.slice none 0 0), 1, 24) := by kernel_rfl
theorem own_below {w w' : World} {B : Nat} {e : TypeId} {m n : Nat} {v : Value} {xs : List Value} (h : w.ownsRow B e m v n xs) (b : Below w.heap.size w w') : w'.ownsRow B e m v n xs := by
  refine ⟨h.1, ?_⟩
  rcases h.2 with h1 | ⟨g, cap, cur, h1, hB, hg, k⟩
  · exact .inl h1
  · exact .inr ⟨g, cap, cur, h1, hB, (b.block g (Array.getElem?_eq_some_iff.1 hg).1).trans hg, k⟩
/-- A row of digits is no row of rows. -/
theorem own_apart {w : World} {B B2 g g2 n n2 c c2 m m2 : Nat} {xs ys : List Value} (h : w.ownsRow B 5 m (.slice (some ⟨g, 0, none⟩) n c) n xs) (k : w.ownsRow B2 79 m2 (.slice (some ⟨g2, 0, none⟩) n2 c2) n2 ys) : g ≠ g2 := by
  rintro rfl
  rcases h.2 with ⟨h1, -⟩ | ⟨g3, cap, cur, h1, -, hg, -⟩
  · cases h1
  · rcases k.2 with ⟨k1, -⟩ | ⟨g4, cap2, cur2, k1, -, kg, -⟩
    · cases k1
    · cases h1
      cases k1
      rw [hg] at kg
      injection kg with e
      injection e with e1 e2
      exact absurd e2 (by decide)
theorem Nm.grown {w w' : World} {B : Nat} {ao : Option Addr} {n c : Nat} {xs : List Nat} {row : Option Nat} (h : Nm w B ao n c xs) (hg : w.grownBy w' row) (hne : ∀ g, ao = some ⟨g, 0, none⟩ → some g ≠ row) : Nm w' B ao n c xs := by
  refine ⟨⟨h.own.1, ?_⟩, h.lim⟩
  rcases h.own.2 with h1 | ⟨g, cap, cur, h1, hB, hg2, k⟩
  · exact .inl h1
  · have e : ao = some ⟨g, 0, none⟩ := by injection h1
    exact .inr ⟨g, cap, cur, h1, hB, (hg.block g (Array.getElem?_eq_some_iff.1 hg2).1 (hne g e)).trans hg2, k⟩
theorem Nm.below2 {w w' : World} {ao : Option Addr} {n c B : Nat} {xs : List Nat} (h : Nm w B ao n c xs) (b : Below w.heap.size w w') : Nm w' B ao n c xs := h.below b
/-- Rows of so many doublings. -/
def Dbls (w : World) (b M n : Nat) (vs : List Value) : Prop := ∀ j, j < n → ∃ (ao : Option Addr) (m c : Nat) (xs : List Nat), vs[j]? = some (.slice ao m c) ∧ Nm w 0 ao m c xs ∧ le xs = b * 2 ^ j ∧ m ≤ M + j
theorem Dbls.below {w w' : World} {b M n : Nat} {vs : List Value} (h : Dbls w b M n vs) (k : Below w.heap.size w w') : Dbls w' b M n vs := fun j hj => by
  obtain ⟨ao, m, c, xs, h1, h2, h3, h4⟩ := h j hj
  exact ⟨ao, m, c, xs, h1, h2.below k, h3, h4⟩
theorem Dbls.snoc {w w' : World} {b M n g c0 m c : Nat} {vs : List Value} {ao : Option Addr} {xs : List Nat} {B : Nat} (h : Dbls w b M n vs) (hl : vs.length = n) (ho : w.ownsRow B 79 1 (.slice (some ⟨g, 0, none⟩) n c0) n vs) (hg : w.grownBy w' (some g)) (hN : Nm w 0 ao m c xs) (hx : le xs = b * 2 ^ n) (hm : m ≤ M + n) : Dbls w' b M (n + 1) (vs ++ [.slice ao m c]) := fun j hj => by
  have key : ∀ (ao : Option Addr) (m c : Nat) (xs : List Nat), Nm w 0 ao m c xs → Nm w' 0 ao m c xs := fun ao m c xs hN => hN.grown hg (fun g2 e => by
    subst e
    intro e2
    injection e2 with e3
    exact own_apart hN.own ho e3)
  rcases Nat.lt_or_ge j n with h1 | h1
  · obtain ⟨ao, m, c, xs, k1, k2, k3, k4⟩ := h j h1
    exact ⟨ao, m, c, xs, by rw [List.getElem?_append_left (by omega)]; exact k1, key _ _ _ _ k2, k3, k4⟩
  · obtain rfl : j = n := by omega
    exact ⟨ao, m, c, xs, by rw [List.getElem?_append_right (by omega), hl, Nat.sub_self]; rfl, key _ _ _ _ hN, hx, hm⟩
theorem own_cell {w : World} {B g n c : Nat} {vs : List Value} (h : w.ownsRow B 79 1 (.slice (some ⟨g, 0, none⟩) n c) n vs) {j : Nat} {v : Value} (hj : j < n) (hv : vs[j]? = some v) : w.cell? ⟨g, j, none⟩ = some v := by
  rw [h.cellAt j (by omega)]; exact hv
set_option maxRecDepth 1000000 in
set_option maxHeartbeats 4000000 in
theorem kdivide_any {B B2 n c n2 c2 : Nat} {ao ao2 : Option Addr} {xs ys : List Nat} (bits : Nat) (w : World) (h : Nm w B ao n c xs) (k : Nm w B2 ao2 n2 c2 ys) (hb1 : 1 ≤ bits) (hb2 : bits ≤ 60) (hn0 : 0 < n) (hn : n ≤ 50000) (hn2 : n2 ≤ 50000) (hA : le xs < le ys * 2 ^ bits) :
    Calls Tryz.prog 50 #[.slice ao n c, .slice ao2 n2 c2, .int .i64 bits] w fun e w' => (∃ ao' c', e = .returned (.tuple #[.int .u64 (le xs / le ys : Nat), .slice ao' n c']) ∧ ∃ ds, Nm w' 0 ao' n c' ds ∧ le ds = le xs % le ys) ∧ Below w.heap.size w w' := by
  obtain ⟨i0, hi, hz0, hz1, hz2⟩ := info_parts infoNum
  have hwT := htimes_2
  go_enter Tryz.func50, Tryz.ntmps50
  go_wp2
  go_loopg [8, 9] (bits - 1) (fun g v iv wr => ∃ (i c1 g1 : Nat) (vs : List Value), iv = .int .i64 i ∧ v = .slice (some ⟨g1, 0, none⟩) i c1 ∧ i + g = bits ∧ 1 ≤ i ∧ wr.ownsRow w.heap.size 79 1 (.slice (some ⟨g1, 0, none⟩) i c1) i vs ∧ Below w.heap.size w wr ∧ Hid (Dbls wr (le ys) n2 i vs))
  case atStart =>
    refine ⟨1, 1, w.heap.size, [.slice ao2 n2 c2], rfl, rfl, by omega, by omega, ?_, (Below.refl _ _).alloc (Nat.le_refl _) _, fun j hj => ?_⟩
    · exact ⟨rfl, .inr ⟨w.heap.size, 1, #[.slice ao2 n2 c2], rfl, Nat.le_refl _, heap_alloc_new w _, Nat.le_refl _, by decide, rfl, rfl⟩⟩
    · obtain rfl : j = 0 := by omega
      exact ⟨ao2, n2, c2, ys, rfl, (k.mono (Nat.zero_le _)).below ((Below.refl _ _).alloc (Nat.le_refl _) _), by rw [Nat.pow_zero, Nat.mul_one], by omega⟩
  case round =>
    obtain ⟨i, c1, g1, vs, rfl, rfl, hig, hi1, hO, hbl, HB⟩ := hrel
    have hg1 : g1 < wr.heap.size := (hO.lt g1 rfl).2
    by_cases hi2 : i < bits
    · have hiI : (i : Int) < bits := by omega
      obtain ⟨j, rfl⟩ : ∃ j, i = j + 1 := ⟨i - 1, by omega⟩
      have hjI : ((j + 1 : Nat) : Int) - 1 = (j : Int) := by omega
      obtain ⟨ao3, m3, c3, zs, hv, hN, hz, hm3⟩ := HB.out j (by omega)
      have hc := own_cell hO (show j < j + 1 by omega) hv
      have hT := htimes_2 0 ao3 m3 c3 zs wr hN (by omega)
      have hvl : vs.length = j + 1 := by have := hO.1; omega
      have HZ : Hid (le zs = le ys * 2 ^ j) := hz
      clear hz hN hv hwT
      go_wp2_with (first
        | (go_at_call 48; refine hT.mono ?_; rintro e w2 ⟨⟨ao4, m4, c4, rfl, hm4, ds, hN4, hd4⟩, hb4⟩; have hO2 := own_below hO hb4; have HB2 : Hid (Dbls w2 (le ys) n2 (j + 1) vs) := HB.out.below hb4; have HD4 : Hid (le ds = le zs * 2) := hd4; have hsz4 := hb4.size; have hsz0 := hbl.size; have hbl2 := bel_call hbl hb4 (Nat.le_refl _); clear hd4)
        | (at_builtin; refine wpList_append_own _ rfl _ _ 114 rfl w.heap.size 79 i0 (.slice none 0 0) 1 24 Tryz.underlying114 hi hz0 hz1 hz2 rfl (by decide) _ _ _ rfl (own_below hO2 ((Below.refl _ _).alloc (Nat.le_refl _) _)) ⟨w2.heap.size, 0, none⟩ 1 1 [.slice ao4 m4 c4] rfl rfl ?c1 ?c2 ?c3 ?c4 ?c5 ?_))
      case c1 =>
        intro q u hq
        match q, hq with
        | 0, hq => simp at hq; subst hq; simp [Addr.add]
      case c2 => intro u hu; simp at hu; subst hu; rfl
      case c3 => unfold maxLen; omega
      case c4 => omega
      case c5 => simp; omega
      intro v' w3 hown' hgrow _
      have hNa := (hN4.mono (Nat.zero_le _)).below ((Below.refl _ _).alloc (Nat.le_refl w2.heap.size) (.cells #[.slice ao4 m4 c4] 79))
      have hDa := HB2.out.below ((Below.refl _ _).alloc (Nat.le_refl w2.heap.size) (.cells #[.slice ao4 m4 c4] 79))
      have hOa := own_below hO2 ((Below.refl _ _).alloc (Nat.le_refl w2.heap.size) (.cells #[.slice ao4 m4 c4] 79))
      have HB3 : Hid (Dbls w3 (le ys) n2 (j + 1 + 1) (vs ++ [.slice ao4 m4 c4])) := hDa.snoc hvl hOa hgrow hNa (by rw [HD4.out, HZ.out, Nat.pow_succ, Nat.mul_assoc]) (by omega)
      obtain ⟨g2, c5, rfl⟩ : ∃ g2 c5, v' = .slice (some ⟨g2, 0, none⟩) (j + 1 + 1) c5 := by
        rcases hown'.2 with ⟨a, b⟩ | ⟨g2, cap, cur, a, -⟩
        · omega
        · exact ⟨g2, cap, a⟩
      have hbl' : Below w.heap.size w w3 := (hbl2.alloc hbl2.size _).grown hgrow (by simp; omega) (own_ge hO)
      clear HB2 HB hO hO2 hNa hDa hOa hgrow
      go_wp2
      go_roundg (gk - 1)
      case measure => omega
      case rel => exact ⟨j + 1 + 1, c5, g2, _, by go_num, rfl, by omega, by omega, hown', hbl', HB3⟩
    · have hiI : ¬ (i : Int) < bits := by omega
      obtain rfl : i = bits := by omega
      obtain ⟨W1, rfl⟩ : ∃ W1, W1 = wr := ⟨_, rfl⟩
      have HR : Hid (∀ j, j < i → ∃ (ao3 : Option Addr) (m3 c3 : Nat) (zs : List Nat), W1.cell? ⟨g1, j, none⟩ = some (.slice ao3 m3 c3) ∧ Nm W1 0 ao3 m3 c3 zs ∧ le zs = le ys * 2 ^ j ∧ m3 ≤ 60000) := fun j hj => by
        obtain ⟨ao3, m3, c3, zs, a1, a2, a3, a4⟩ := HB.out j hj
        exact ⟨ao3, m3, c3, zs, own_cell hO hj a1, a2, a3, by omega⟩
      have hX : Nm W1 0 ao n c xs := (h.mono (Nat.zero_le _)).below2 hbl
      have HA : Hid (DivAt (le xs) (le ys) 0 (le xs) i) := ⟨by rw [Nat.zero_mul, Nat.zero_add], hA⟩
      have HQ : Hid (∀ q a j, DivAt (le xs) (le ys) q a j → j ≤ i → q < 2 ^ (i - j)) := fun q a j hD hj => div_q hD hA hj
      have H60 : Hid (∀ j, 2 ^ (i - j) ≤ 1152921504606846976) := fun j => Nat.le_trans (Nat.pow_le_pow_right (by decide) (show i - j ≤ 60 by omega)) (by decide)
      clear HB hO k h hwT hi hz0 hz1 hz2 hA
      go_wp2
      go_loopg [0, 10, 11] i (fun g av qv iv wr => ∃ (j q c5 : Nat) (ao5 : Option Addr) (zs : List Nat), iv = .int .i64 ((j : Int) - 1) ∧ qv = .int .u64 q ∧ av = .slice ao5 n c5 ∧ j = g ∧ j ≤ i ∧ q ≤ 1152921504606846976 ∧ Nm wr 0 ao5 n c5 zs ∧ Below W1.heap.size W1 wr ∧ Hid (DivAt (le xs) (le ys) q (le zs) j))
      case atStart => exact ⟨i, 0, c, ao, xs, by go_num, rfl, rfl, rfl, Nat.le_refl _, by omega, hX, Below.refl _ _, HA.out⟩
      case round =>
        obtain ⟨j, q, c5, ao5, zs, rfl, rfl, rfl, rfl, hji, hq60, hL, hbl5, HV⟩ := hrel
        rcases Nat.eq_zero_or_pos j with hj0 | hj0
        · subst hj0
          have HF : Hid (q = le xs / le ys ∧ le zs = le xs % le ys) := div_end HV.out
          have hblF := bel_call hbl hbl5 (Nat.le_refl _)
          clear HV HR HA HQ H60 hX
          go_wp2
          go_returns
          refine ⟨⟨ao5, c5, ?_, zs, hL, HF.out.2⟩, hblF⟩
          rw [← HF.out.1]; rfl
        · obtain ⟨i2, rfl⟩ : ∃ i2, j = i2 + 1 := ⟨j - 1, by omega⟩
          have hiI2 : ((i2 + 1 : Nat) : Int) - 1 = (i2 : Int) := by omega
          rw [hiI2]
          obtain ⟨ao3, m3, c3, us, a1, a2, a3, a4⟩ := HR.out i2 (by omega)
          have hc : wr.cell? ⟨g1, i2, none⟩ = some (.slice ao3 m3 c3) := (hbl5.cell (p := ⟨g1, i2, none⟩) hg1).trans a1
          have hN3 : Nm wr 0 ao3 m3 c3 us := a2.below hbl5
          have hLs := kless_any wr hL hN3 (by omega) (by omega)
          have hi2i : i2 < i := by omega
          have hq2 : 2 * q ≤ 1152921504606846976 - 1 ∨ 2 * q + 1 ≤ 2305843009213693953 := by omega
          by_cases hlt : le zs < le us
          · have HV2 : Hid (DivAt (le xs) (le ys) (2 * q) (le zs) i2) := div_no HV.out (by rw [← a3]; exact hlt)
            have hqb : 2 * q ≤ 1152921504606846976 := by
              have := HQ.out _ _ _ HV2.out (by omega)
              have := H60.out i2
              omega
            rw [decide_eq_true hlt] at hLs
            clear HV HR HA HQ H60 hX a1 a2 a3 hN3 hlt
            go_wp2_with (go_at_call 49; refine hLs.mono ?_; rintro e w2 ⟨rfl, hw2⟩; subst w2)
            go_roundg i2
            case measure => omega
            case rel => exact ⟨i2, 2 * q, c5, ao5, zs, by go_num, by go_num, rfl, rfl, by omega, hqb, hL, hbl5, HV2⟩
          · have hM := kminus_any wr hL hN3 hn0 (by omega) (by omega) (by omega)
            have HV2 : Hid (DivAt (le xs) (le ys) (2 * q + 1) (le zs - le us) i2) := by
              show DivAt _ _ _ _ _
              rw [a3]
              exact div_yes HV.out (by rw [← a3]; omega)
            have hqb : 2 * q + 1 ≤ 1152921504606846976 := by
              have := HQ.out _ _ _ HV2.out (by omega)
              have := H60.out i2
              omega
            rw [decide_eq_false hlt] at hLs
            clear HV HR HA HQ H60 hX a1 a2 a3 hN3 hlt
            go_wp2_with (first
              | (go_at_call 49; refine hLs.mono ?_; rintro e w2 ⟨rfl, hw2⟩; subst w2)
              | (go_at_call 75; refine hM.mono ?_; rintro e w3 ⟨⟨ao6, c6, rfl, ds6, hN6, hd6⟩, hb6⟩))
            have HV3 : Hid (DivAt (le xs) (le ys) (2 * q + 1) (le ds6) i2) := by
              show DivAt _ _ _ _ _
              rw [hd6]; exact HV2.out
            have hbl6 := bel_call hbl5 hb6 (Nat.le_refl _)
            clear HV2 hd6
            go_roundg i2
            case measure => omega
            case rel => exact ⟨i2, 2 * q + 1, c6, ao6, ds6, by go_num, by go_num, rfl, rfl, by omega, hqb, hN6.mono (Nat.zero_le _), hbl6, HV3⟩
end Go.Proofs.YthbabhbfpcfenabGreatDoor
