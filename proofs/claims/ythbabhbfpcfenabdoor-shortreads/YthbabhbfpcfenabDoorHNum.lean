/- The document's rows of digits: Of, Times, Text. -/
import Derived.Test.YthbabhbfpcfenabDoorBWhole
namespace Go.Proofs.YthbabhbfpcfenabDoor
open Go.RowKit
set_option linter.unusedVariables false

/-- The cells of a row. -/
def cn (xs : List Nat) : List Value := xs.map fun x : Nat => Value.int .u8 (x : Int)
theorem cn_len (xs : List Nat) : (cn xs).length = xs.length := by simp [cn]
theorem cn_append (a b : List Nat) : cn (a ++ b) = cn a ++ cn b := by simp [cn]
theorem cn_take (xs : List Nat) (m : Nat) : cn (xs.take m) = (cn xs).take m := by simp [cn]
/-- A row of digits in memory, in blocks from B on. -/
structure Nm (w : World) (B : Nat) (ao : Option Addr) (n c : Nat) (xs : List Nat) : Prop where
  own : w.ownsRow B 5 1 (.slice ao n c) n (cn xs)
  lim : ∀ x ∈ xs, x < 10
theorem Nm.len {w : World} {B : Nat} {ao : Option Addr} {n c : Nat} {xs : List Nat} (h : Nm w B ao n c xs) : xs.length = n := by
  have := h.own.1
  rw [cn_len] at this; omega
theorem Nm.nil (w : World) (B : Nat) : Nm w B none 0 0 [] := ⟨World.ownsRow_nil _ _ _ _, fun x hx => by cases hx⟩
theorem Nm.head {w : World} {B : Nat} {ao : Option Addr} {n c : Nat} {xs : List Nat} (h : Nm w B ao n c xs) (hn : 0 < n) : ∃ g, ao = some ⟨g, 0, none⟩ ∧ B ≤ g ∧ g < w.heap.size := by
  rcases h.own.2 with ⟨h1, h2⟩ | ⟨g, cap, cur, h1, hB, hg, -⟩
  · omega
  · cases h1
    exact ⟨g, rfl, hB, (Array.getElem?_eq_some_iff.1 hg).1⟩
theorem Nm.cell {w : World} {B g n c : Nat} {xs : List Nat} (h : Nm w B (some ⟨g, 0, none⟩) n c xs) (j : Nat) (hj : j < n) : w.cell? ⟨g, j, none⟩ = some (.int .u8 ((xs.getD j 0 : Nat) : Int)) := by
  rw [h.own.cellAt j (by omega)]
  have := h.len
  have hj' : j < xs.length := by omega
  simp [cn, hj', List.getD]
theorem Nm.froz {w : World} {B g n c : Nat} {xs : List Nat} (h : Nm w B (some ⟨g, 0, none⟩) n c xs) (j : Nat) : w.frozen? ⟨g, j, none⟩ = false := h.own.frozenAt j
theorem Nm.cnt {w : World} {B : Nat} {ao : Option Addr} {n c : Nat} {xs : List Nat} (h : Nm w B ao n c xs) {m : Nat} (hm : m ≤ n) : Nm w B ao m c (xs.take m) := by
  have hl := h.len
  refine ⟨⟨by rw [cn_len, List.length_take]; omega, ?_⟩, fun x hx => h.lim x (List.mem_of_mem_take hx)⟩
  rcases h.own.2 with ⟨h1, h2⟩ | ⟨g, cap, cur, h1, hB, hg, k1, k2, k3, k4⟩
  · cases h1
    exact .inl ⟨by rw [show m = 0 by omega], by omega⟩
  · cases h1
    refine .inr ⟨g, c, cur, rfl, hB, hg, by omega, k2, k3, ?_⟩
    rw [cn_take, ← k4, List.take_take]
    congr 1; omega
theorem Nm.below {w w' : World} {B : Nat} {ao : Option Addr} {n c : Nat} {xs : List Nat} (h : Nm w B ao n c xs) (b : Below w.heap.size w w') : Nm w' B ao n c xs := by
  refine ⟨⟨h.own.1, ?_⟩, h.lim⟩
  rcases h.own.2 with h1 | ⟨g, cap, cur, h1, hB, hg, k⟩
  · exact .inl h1
  · exact .inr ⟨g, cap, cur, h1, hB, (b.block g (Array.getElem?_eq_some_iff.1 hg).1).trans hg, k⟩
theorem Nm.mono {w : World} {B B' : Nat} {ao : Option Addr} {n c : Nat} {xs : List Nat} (h : Nm w B ao n c xs) (hb : B' ≤ B) : Nm w B' ao n c xs := by
  refine ⟨⟨h.own.1, ?_⟩, h.lim⟩
  rcases h.own.2 with h1 | ⟨g, cap, cur, h1, hB, k⟩
  · exact .inl h1
  · exact .inr ⟨g, cap, cur, h1, Nat.le_trans hb hB, k⟩

theorem Nm.snoc {w w' : World} {B : Nat} {ao : Option Addr} {n c x : Nat} {xs : List Nat} {v : Value} (h : Nm w B ao n c xs) (hx : x < 10) (h' : w'.ownsRow B 5 1 v (n + 1) (cn xs ++ [.int .u8 (x : Int)])) :
    ∃ ao' c', v = .slice ao' (n + 1) c' ∧ Nm w' B ao' (n + 1) c' (xs ++ [x]) := by
  have e : cn xs ++ [.int .u8 (x : Int)] = cn (xs ++ [x]) := by simp [cn]
  rw [e] at h'
  have hl : ∀ y ∈ xs ++ [x], y < 10 := by
    intro y hy
    rcases List.mem_append.1 hy with hy | hy
    · exact h.lim y hy
    · simp at hy; omega
  rcases h'.2 with ⟨h1, h2⟩ | ⟨g, cap, cur, h1, -⟩
  · omega
  · subst h1
    exact ⟨_, _, rfl, h', hl⟩

theorem of_bound {q n m : Nat} {ds : List Nat} (h : q * 10 ^ n + le ds = m) (hq : 0 < q) (hm : m < 18446744073709551616) : n < 20 := by
  rcases Nat.lt_or_ge n 20 with h1 | h1
  · exact h1
  · exfalso
    have h2 : (10 : Nat) ^ 20 ≤ 10 ^ n := Nat.pow_le_pow_right (by decide) h1
    have h3 : 1 * 10 ^ n ≤ q * 10 ^ n := Nat.mul_le_mul_right _ hq
    have h4 : (10 : Nat) ^ 20 = 100000000000000000000 := by decide
    omega
theorem of_step {m n q : Nat} {ds : List Nat} (hl : ds.length = n) (h : q * 10 ^ n + le ds = m) : q / 10 * 10 ^ (n + 1) + le (ds ++ [q % 10]) = m := by
  have e : q / 10 * 10 ^ (n + 1) + q % 10 * 10 ^ n = q * 10 ^ n := by
    rw [Nat.pow_succ, Nat.mul_comm (10 ^ n) 10, ← Nat.mul_assoc, ← Nat.add_mul]
    congr 1; omega
  rw [le_snoc, hl, ← h, ← e]
  generalize q / 10 * 10 ^ (n + 1) = A
  generalize q % 10 * 10 ^ n = C
  omega
theorem txt_snoc (l : List Nat) (d : Nat) : txt (l ++ [d]) = db d :: txt l := by simp [txt]
theorem txt_take (ds : List Nat) (k : Nat) (hk : k < ds.length) : txt (ds.take (k + 1)) = db (ds.getD k 0) :: txt (ds.take k) := by
  have : ds.getD k 0 = ds[k] := by rw [List.getD_eq_getElem?_getD, List.getElem?_eq_getElem hk, Option.getD_some]
  rw [List.take_succ_eq_append_getElem hk, txt_snoc, this]
theorem times_step {b k x cy : Nat} {ds ks : List Nat} (hk : ds.length = k) (h : le ds + 10 ^ k * cy = le ks * b) (hks : ks.length = k) :
    le (ds ++ [(cy + x * b) % 10]) + 10 ^ (k + 1) * ((cy + x * b) / 10) = le (ks ++ [x]) * b := by
  rw [le_snoc, le_snoc, hk, hks, Nat.add_mul, ← h, Nat.pow_succ]
  have e : (cy + x * b) % 10 * 10 ^ k + 10 ^ k * 10 * ((cy + x * b) / 10) = 10 ^ k * cy + x * 10 ^ k * b := by
    have h1 : x * 10 ^ k * b = 10 ^ k * (x * b) := by rw [Nat.mul_comm x, Nat.mul_assoc]
    rw [h1, ← Nat.mul_add, Nat.mul_comm _ (10 ^ k), Nat.mul_assoc, ← Nat.mul_add]
    congr 1
    have := Nat.mod_add_div (cy + x * b) 10
    omega
  rw [Nat.add_assoc, e, Nat.add_assoc]
set_option maxRecDepth 1000000 in
set_option maxHeartbeats 1600000 in
theorem htimes_2 (B : Nat) (ao : Option Addr) (n c : Nat) (xs : List Nat) (w : World) (h : Nm w B ao n c xs) (hn : n ≤ 100000) :
    Calls Tryd.prog 20 #[.slice ao n c, .int .i64 2] w fun e w' => (∃ ao' n' c', e = .returned (.slice ao' n' c') ∧ n' ≤ n + 1 ∧ ∃ ds, Nm w' w.heap.size ao' n' c' ds ∧ le ds = le xs * 2) ∧ Below w.heap.size w w' := by
  obtain ⟨i0, hi, hz0, hz1, hz2⟩ := info_parts infoU8
  have hlen := h.len
  go_enter Tryd.func20, Tryd.ntmps20
  go_wp2
  go_loopg [5, 6, 11] n (fun g v cv iv wr => ∃ (k cy c' : Nat) (ao' : Option Addr) (ds : List Nat), v = .slice ao' k c' ∧ cv = .int .i64 (cy : Int) ∧ iv = .int .i64 (k : Int) ∧ k + g = n ∧ cy ≤ 4 ∧ Nm wr w.heap.size ao' k c' ds ∧ Below w.heap.size w wr ∧ Hid (le ds + 10 ^ k * cy = le (xs.take k) * 2))
  case atStart => exact ⟨0, 0, 0, none, [], rfl, rfl, rfl, Nat.zero_add _, by omega, Nm.nil _ _, Below.refl _ _, by show _ = _; simp [le]⟩
  case round =>
    obtain ⟨k, cy, c', ao', ds, rfl, rfl, rfl, hkg, hcy, hL, hbl, HV⟩ := hrel
    have hsz := hbl.size
    by_cases hk : k < n
    · have hkI : (k : Int) < n := by omega
      obtain ⟨g, rfl, hBg, hgw⟩ := h.head (by omega)
      have hkx : k < xs.length := by omega
      have htake : xs.take (k + 1) = xs.take k ++ [xs[k]] := List.take_succ_eq_append_getElem hkx
      have hx9 : xs[k] < 10 := h.lim _ (List.getElem_mem hkx)
      have hc : wr.cell? ⟨g, k, none⟩ = some (.int .u8 ((xs[k] : Nat) : Int)) := by
        have := h.cell k hk
        rw [List.getD_eq_getElem?_getD, List.getElem?_eq_getElem hkx, Option.getD_some] at this
        exact keep hbl this
      have HV2 : Hid (le (ds ++ [(cy + xs[k] * 2) % 10]) + 10 ^ (k + 1) * ((cy + xs[k] * 2) / 10) = le (xs.take (k + 1)) * 2) := by
        show _ = _
        rw [htake]; exact times_step hL.len HV.out (by rw [List.length_take]; omega)
      clear HV htake
      generalize xs[k] = x at *
      obtain ⟨t, ht⟩ : ∃ t, cy + x * 2 = t := ⟨_, rfl⟩
      rw [ht] at HV2
      have htI : (cy : Int) + (x : Int) * 2 = (t : Int) := by omega
      have ht49 : t ≤ 49 := by omega
      clear ht
      have hm1 : (t : Int) % 10 = ((t % 10 : Nat) : Int) := by omega
      have hm2 : (t : Int) / 10 = ((t / 10 : Nat) : Int) := by omega
      have hr : t % 10 < 10 := Nat.mod_lt _ (by decide)
      have hq : t / 10 ≤ 4 := by omega
      generalize t % 10 = r at *
      generalize t / 10 = q at *
      go_wp2_with (at_builtin; refine wpList_append_own _ rfl _ _ 50 rfl w.heap.size 5 i0 (.int .u8 0) 1 1 Tryd.underlying50 hi hz0 hz1 hz2 rfl (by decide) _ _ _ rfl (hL.own.alloc _) ⟨_, 0, none⟩ 1 1 [.int .u8 (r : Int)] rfl rfl ?c1 ?c2 ?c3 ?c4 ?c5 ?_)
      case c1 =>
        intro j u hj
        match j, hj with
        | 0, hj => simp at hj; subst hj; simp [Addr.add]
      case c2 => intro u hu; simp at hu; subst hu; rfl
      case c3 => unfold maxLen; omega
      case c4 => omega
      case c5 => simp; omega
      intro v' w1 hown' hgrow _
      obtain ⟨ao2, c2, rfl, hL'⟩ := hL.snoc hr hown'
      have hbl' : Below w.heap.size w w1 := (hbl.alloc hsz _).grown hgrow (by simp; omega) (own_ge hL.own)
      clear hown' hgrow hL
      go_wp2
      go_roundg (gk - 1)
      case measure => omega
      case rel => exact ⟨k + 1, q, c2, ao2, ds ++ [r], rfl, by go_num, by go_num, by omega, hq, hL', hbl', HV2⟩
    · have hkI : ¬ (k : Int) < n := by omega
      have HV1 : Hid (le ds + 10 ^ k * cy = le xs * 2) := by
        have := HV.out
        rw [List.take_of_length_le (by omega)] at this; exact this
      have hkn : k ≤ n := by omega
      clear HV
      go_wp2
      go_loopg [5, 6] cy (fun g2 v2 cv2 wr2 => ∃ (n2 cy2 c2 : Nat) (ao2 : Option Addr) (ds2 : List Nat), v2 = .slice ao2 n2 c2 ∧ cv2 = .int .i64 (cy2 : Int) ∧ cy2 = g2 ∧ cy2 ≤ 4 ∧ n2 ≤ k + 1 ∧ (0 < cy2 → n2 ≤ k) ∧ Nm wr2 w.heap.size ao2 n2 c2 ds2 ∧ Below w.heap.size w wr2 ∧ Hid (le ds2 + 10 ^ n2 * cy2 = le xs * 2))
      case atStart => exact ⟨k, cy, c', ao', ds, rfl, rfl, rfl, hcy, by omega, fun _ => Nat.le_refl _, hL, hbl, HV1⟩
      case round =>
        obtain ⟨n2, cy2, c2, ao2, ds2, rfl, rfl, rfl, hcy2, hn2, hn2', hL2, hbl2, HV2⟩ := hrel
        have hsz2 := hbl2.size
        by_cases hc0 : 0 < cy2
        · have hc0I : 0 < (cy2 : Int) := by omega
          have hm1 : (cy2 : Int) % 10 = (cy2 : Int) := by omega
          have hm2 : (cy2 : Int) / 10 = 0 := by omega
          have hn3 := hn2' hc0
          have HV3 : Hid (le (ds2 ++ [cy2]) + 10 ^ (n2 + 1) * 0 = le xs * 2) := by
            show _ = _
            rw [le_snoc, hL2.len, Nat.mul_comm cy2, Nat.mul_zero, Nat.add_zero]; exact HV2.out
          have hr : cy2 < 10 := by omega
          clear HV2 HV1 hn2'
          go_wp2_with (at_builtin; refine wpList_append_own _ rfl _ _ 50 rfl w.heap.size 5 i0 (.int .u8 0) 1 1 Tryd.underlying50 hi hz0 hz1 hz2 rfl (by decide) _ _ _ rfl (hL2.own.alloc _) ⟨_, 0, none⟩ 1 1 [.int .u8 (cy2 : Int)] rfl rfl ?c1 ?c2 ?c3 ?c4 ?c5 ?_)
          case c1 =>
            intro j u hj
            match j, hj with
            | 0, hj => simp at hj; subst hj; simp [Addr.add]
          case c2 => intro u hu; simp at hu; subst hu; rfl
          case c3 => unfold maxLen; omega
          case c4 => omega
          case c5 => simp; omega
          intro v' w1 hown' hgrow _
          obtain ⟨ao3, c3, rfl, hL'⟩ := hL2.snoc hr hown'
          have hbl' : Below w.heap.size w w1 := (hbl2.alloc hsz2 _).grown hgrow (by simp; omega) (own_ge hL2.own)
          clear hown' hgrow hL2
          go_wp2
          go_roundg 0
          case measure => omega
          case rel => exact ⟨n2 + 1, 0, c3, ao3, ds2 ++ [cy2], rfl, by go_num, rfl, by omega, by omega, fun h => absurd h (by omega), hL', hbl', HV3⟩
        · have hc0I : ¬ 0 < (cy2 : Int) := by omega
          have HF : Hid (le ds2 = le xs * 2) := by
            have := HV2.out
            rw [show cy2 = 0 by omega] at this
            show _ = _
            simpa using this
          clear HV2 HV1 hn2'
          go_wp2
          go_ret
          exact ⟨⟨ao2, n2, c2, rfl, by omega, ds2, hL2, HF.out⟩, hbl2⟩
set_option maxRecDepth 1000000 in
set_option maxHeartbeats 1600000 in
theorem htimes_5 (B : Nat) (ao : Option Addr) (n c : Nat) (xs : List Nat) (w : World) (h : Nm w B ao n c xs) (hn : n ≤ 100000) :
    Calls Tryd.prog 20 #[.slice ao n c, .int .i64 5] w fun e w' => (∃ ao' n' c', e = .returned (.slice ao' n' c') ∧ n' ≤ n + 1 ∧ ∃ ds, Nm w' w.heap.size ao' n' c' ds ∧ le ds = le xs * 5) ∧ Below w.heap.size w w' := by
  obtain ⟨i0, hi, hz0, hz1, hz2⟩ := info_parts infoU8
  have hlen := h.len
  go_enter Tryd.func20, Tryd.ntmps20
  go_wp2
  go_loopg [5, 6, 11] n (fun g v cv iv wr => ∃ (k cy c' : Nat) (ao' : Option Addr) (ds : List Nat), v = .slice ao' k c' ∧ cv = .int .i64 (cy : Int) ∧ iv = .int .i64 (k : Int) ∧ k + g = n ∧ cy ≤ 4 ∧ Nm wr w.heap.size ao' k c' ds ∧ Below w.heap.size w wr ∧ Hid (le ds + 10 ^ k * cy = le (xs.take k) * 5))
  case atStart => exact ⟨0, 0, 0, none, [], rfl, rfl, rfl, Nat.zero_add _, by omega, Nm.nil _ _, Below.refl _ _, by show _ = _; simp [le]⟩
  case round =>
    obtain ⟨k, cy, c', ao', ds, rfl, rfl, rfl, hkg, hcy, hL, hbl, HV⟩ := hrel
    have hsz := hbl.size
    by_cases hk : k < n
    · have hkI : (k : Int) < n := by omega
      obtain ⟨g, rfl, hBg, hgw⟩ := h.head (by omega)
      have hkx : k < xs.length := by omega
      have htake : xs.take (k + 1) = xs.take k ++ [xs[k]] := List.take_succ_eq_append_getElem hkx
      have hx9 : xs[k] < 10 := h.lim _ (List.getElem_mem hkx)
      have hc : wr.cell? ⟨g, k, none⟩ = some (.int .u8 ((xs[k] : Nat) : Int)) := by
        have := h.cell k hk
        rw [List.getD_eq_getElem?_getD, List.getElem?_eq_getElem hkx, Option.getD_some] at this
        exact keep hbl this
      have HV2 : Hid (le (ds ++ [(cy + xs[k] * 5) % 10]) + 10 ^ (k + 1) * ((cy + xs[k] * 5) / 10) = le (xs.take (k + 1)) * 5) := by
        show _ = _
        rw [htake]; exact times_step hL.len HV.out (by rw [List.length_take]; omega)
      clear HV htake
      generalize xs[k] = x at *
      obtain ⟨t, ht⟩ : ∃ t, cy + x * 5 = t := ⟨_, rfl⟩
      rw [ht] at HV2
      have htI : (cy : Int) + (x : Int) * 5 = (t : Int) := by omega
      have ht49 : t ≤ 49 := by omega
      clear ht
      have hm1 : (t : Int) % 10 = ((t % 10 : Nat) : Int) := by omega
      have hm2 : (t : Int) / 10 = ((t / 10 : Nat) : Int) := by omega
      have hr : t % 10 < 10 := Nat.mod_lt _ (by decide)
      have hq : t / 10 ≤ 4 := by omega
      generalize t % 10 = r at *
      generalize t / 10 = q at *
      go_wp2_with (at_builtin; refine wpList_append_own _ rfl _ _ 50 rfl w.heap.size 5 i0 (.int .u8 0) 1 1 Tryd.underlying50 hi hz0 hz1 hz2 rfl (by decide) _ _ _ rfl (hL.own.alloc _) ⟨_, 0, none⟩ 1 1 [.int .u8 (r : Int)] rfl rfl ?c1 ?c2 ?c3 ?c4 ?c5 ?_)
      case c1 =>
        intro j u hj
        match j, hj with
        | 0, hj => simp at hj; subst hj; simp [Addr.add]
      case c2 => intro u hu; simp at hu; subst hu; rfl
      case c3 => unfold maxLen; omega
      case c4 => omega
      case c5 => simp; omega
      intro v' w1 hown' hgrow _
      obtain ⟨ao2, c2, rfl, hL'⟩ := hL.snoc hr hown'
      have hbl' : Below w.heap.size w w1 := (hbl.alloc hsz _).grown hgrow (by simp; omega) (own_ge hL.own)
      clear hown' hgrow hL
      go_wp2
      go_roundg (gk - 1)
      case measure => omega
      case rel => exact ⟨k + 1, q, c2, ao2, ds ++ [r], rfl, by go_num, by go_num, by omega, hq, hL', hbl', HV2⟩
    · have hkI : ¬ (k : Int) < n := by omega
      have HV1 : Hid (le ds + 10 ^ k * cy = le xs * 5) := by
        have := HV.out
        rw [List.take_of_length_le (by omega)] at this; exact this
      have hkn : k ≤ n := by omega
      clear HV
      go_wp2
      go_loopg [5, 6] cy (fun g2 v2 cv2 wr2 => ∃ (n2 cy2 c2 : Nat) (ao2 : Option Addr) (ds2 : List Nat), v2 = .slice ao2 n2 c2 ∧ cv2 = .int .i64 (cy2 : Int) ∧ cy2 = g2 ∧ cy2 ≤ 4 ∧ n2 ≤ k + 1 ∧ (0 < cy2 → n2 ≤ k) ∧ Nm wr2 w.heap.size ao2 n2 c2 ds2 ∧ Below w.heap.size w wr2 ∧ Hid (le ds2 + 10 ^ n2 * cy2 = le xs * 5))
      case atStart => exact ⟨k, cy, c', ao', ds, rfl, rfl, rfl, hcy, by omega, fun _ => Nat.le_refl _, hL, hbl, HV1⟩
      case round =>
        obtain ⟨n2, cy2, c2, ao2, ds2, rfl, rfl, rfl, hcy2, hn2, hn2', hL2, hbl2, HV2⟩ := hrel
        have hsz2 := hbl2.size
        by_cases hc0 : 0 < cy2
        · have hc0I : 0 < (cy2 : Int) := by omega
          have hm1 : (cy2 : Int) % 10 = (cy2 : Int) := by omega
          have hm2 : (cy2 : Int) / 10 = 0 := by omega
          have hn3 := hn2' hc0
          have HV3 : Hid (le (ds2 ++ [cy2]) + 10 ^ (n2 + 1) * 0 = le xs * 5) := by
            show _ = _
            rw [le_snoc, hL2.len, Nat.mul_comm cy2, Nat.mul_zero, Nat.add_zero]; exact HV2.out
          have hr : cy2 < 10 := by omega
          clear HV2 HV1 hn2'
          go_wp2_with (at_builtin; refine wpList_append_own _ rfl _ _ 50 rfl w.heap.size 5 i0 (.int .u8 0) 1 1 Tryd.underlying50 hi hz0 hz1 hz2 rfl (by decide) _ _ _ rfl (hL2.own.alloc _) ⟨_, 0, none⟩ 1 1 [.int .u8 (cy2 : Int)] rfl rfl ?c1 ?c2 ?c3 ?c4 ?c5 ?_)
          case c1 =>
            intro j u hj
            match j, hj with
            | 0, hj => simp at hj; subst hj; simp [Addr.add]
          case c2 => intro u hu; simp at hu; subst hu; rfl
          case c3 => unfold maxLen; omega
          case c4 => omega
          case c5 => simp; omega
          intro v' w1 hown' hgrow _
          obtain ⟨ao3, c3, rfl, hL'⟩ := hL2.snoc hr hown'
          have hbl' : Below w.heap.size w w1 := (hbl2.alloc hsz2 _).grown hgrow (by simp; omega) (own_ge hL2.own)
          clear hown' hgrow hL2
          go_wp2
          go_roundg 0
          case measure => omega
          case rel => exact ⟨n2 + 1, 0, c3, ao3, ds2 ++ [cy2], rfl, by go_num, rfl, by omega, by omega, fun h => absurd h (by omega), hL', hbl', HV3⟩
        · have hc0I : ¬ 0 < (cy2 : Int) := by omega
          have HF : Hid (le ds2 = le xs * 5) := by
            have := HV2.out
            rw [show cy2 = 0 by omega] at this
            show _ = _
            simpa using this
          clear HV2 HV1 hn2'
          go_wp2
          go_ret
          exact ⟨⟨ao2, n2, c2, rfl, by omega, ds2, hL2, HF.out⟩, hbl2⟩
end Go.Proofs.YthbabhbfpcfenabDoor
