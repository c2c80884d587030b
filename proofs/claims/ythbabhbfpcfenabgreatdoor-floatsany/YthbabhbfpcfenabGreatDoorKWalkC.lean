/- The document's minus: a row less another one. -/
import Derived.Test.YthbabhbfpcfenabGreatDoorKWalkB
namespace Go.Proofs.YthbabhbfpcfenabGreatDoor
open Go.RowKit
set_option linter.unusedVariables false
set_option linter.unusedSimpArgs false

theorem cells_setN {ds rest : List Nat} {x r k : Nat} (h : ds.length = k) : (cn (ds ++ x :: rest)).set k (.int .u8 (r : Int)) = cn ((ds ++ [r]) ++ rest) := by
  subst h; simp [cn]
theorem getD_midN {ds rest : List Nat} {x k : Nat} (h : ds.length = k) : (ds ++ x :: rest).getD k 0 = x := by
  subst h; simp [List.getD]
/-- The cells of a row that is copied. -/
theorem Nm.news {w : World} {B g n c : Nat} {xs : List Nat} (h : Nm w B (some ⟨g, 0, none⟩) n c xs) (o : Obj) : ∀ j u, (cn xs)[j]? = some u → (w.alloc o).cell? ((⟨g, 0, none⟩ : Addr).add j) = some u := fun j u hj => by
  have hl := h.len
  have hj2 : j < n := by
    have := (List.getElem?_eq_some_iff.1 hj).1
    rw [cn_len] at this; omega
  have hc := h.cell j hj2
  have hlt := World.block_lt_of_cell? w _ hc
  have e : (⟨g, 0, none⟩ : Addr).add j = ⟨g, j, none⟩ := by simp [Addr.add]; exact fun h => h.symm
  rw [e]
  have hjx : j < xs.length := by omega
  have hu : u = .int .u8 ((xs.getD j 0 : Nat) : Int) := by
    simp [cn, hjx] at hj
    rw [← hj]
    simp [hjx, List.getD]
  rw [hu, ← hc]
  exact World.cell?_alloc_past _ _ _ hlt
theorem Nm.ones (xs : List Nat) : ∀ u ∈ cn xs, u.oneCell' = true := fun u hu => by
  obtain ⟨x, -, rfl⟩ := List.mem_map.1 hu
  rfl
set_option maxRecDepth 1000000 in
set_option maxHeartbeats 2000000 in
theorem kminus_any {B B2 n c n2 c2 : Nat} {ao ao2 : Option Addr} {xs ys : List Nat} (w : World) (h : Nm w B ao n c xs) (k : Nm w B2 ao2 n2 c2 ys) (hn0 : 0 < n) (hn : n ≤ 100000) (hn2 : n2 ≤ 100000) (hle : le ys ≤ le xs) :
    Calls Tryz.prog 75 #[.slice ao n c, .slice ao2 n2 c2] w fun e w' => (∃ ao' c', e = .returned (.slice ao' n c') ∧ ∃ ds, Nm w' w.heap.size ao' n c' ds ∧ le ds = le xs - le ys) ∧ Below w.heap.size w w' := by
  obtain ⟨i0, hi, hz0, hz1, hz2⟩ := info_parts infoU8
  obtain ⟨g, rfl, hBg, hgw⟩ := h.head hn0
  have hlen := h.len
  have HE : Hid (∀ (ds : List Nat) (bo : Nat), MinAt xs ys ds n bo → le ds = le xs - le ys) := fun ds bo hm => min_end hm hlen h.lim hle
  have ho0 : (w.alloc (.cells #[] 5)).ownsRow w.heap.size 5 1 (.slice (some ⟨w.heap.size, 0, none⟩) 0 0) 0 [] := World.ownsRow_made w #[] 0 (Nat.le_refl _) (by decide) rfl
  go_enter Tryz.func75, Tryz.ntmps75
  go_wp2_with (at_builtin; refine wpList_append_own _ rfl _ _ 79 rfl w.heap.size 5 i0 (.int .u8 0) 1 1 Tryz.underlying79 hi hz0 hz1 hz2 rfl (by decide) _ _ _ rfl ho0 ⟨g, 0, none⟩ n c (cn xs) rfl ?c1 (h.news _) (Nm.ones xs) ?c3 ?c4 ?c5 ?_)
  case c1 => rw [cn_len, hlen, Nat.mul_one]
  case c3 => unfold maxLen; omega
  case c4 => omega
  case c5 => simp
  intro v' w1 hown' hgrow hv'
  obtain ⟨ao1, c1, rfl, hN1⟩ : ∃ ao1 c1, v' = .slice ao1 n c1 ∧ Nm w1 w.heap.size ao1 n c1 xs := by
    rcases hown'.2 with ⟨h1, h2⟩ | ⟨g1, cap, cur, h1, hrest⟩
    · omega
    · subst h1
      exact ⟨_, _, rfl, hown', h.lim⟩
  have hb1 : Below w.heap.size w w1 := ((Below.refl _ _).alloc (Nat.le_refl _) _).grown hgrow (by simp) (own_ge ho0)
  clear hown' hgrow hv' hi hz0 hz1 hz2 ho0
  obtain ⟨g1, rfl, hBg1, hg1w⟩ := hN1.head hn0
  have HD : Hid (∀ j, DigAt w ao2 n2 j (ys.getD j 0) ∧ ys.getD j 0 < 10) := fun j => ⟨k.at j, getD_lt k.lim j⟩
  have HS : Hid (∀ (ds : List Nat) (j bo d bo' : Nat), MinAt xs ys ds j bo → d < 10 → bo' ≤ 1 → d + bo + ys.getD j 0 = xs.getD j 0 + 10 * bo' → MinAt xs ys (ds ++ [d]) (j + 1) bo') := fun ds j bo d bo' => min_step
  have HX : Hid (∀ j, xs.getD j 0 < 10) := fun j => getD_lt h.lim j
  have HXD : Hid (∀ j, j < n → xs.drop j = xs.getD j 0 :: xs.drop (j + 1)) := fun j hj => by
    have hjx : j < xs.length := by omega
    rw [List.drop_eq_getElem_cons hjx, List.getD_eq_getElem?_getD, List.getElem?_eq_getElem hjx, Option.getD_some]
  have HXL : Hid (∀ x ∈ xs, x < 10) := h.lim
  have HW : Hid (∀ wr (a : Addr) v, Below w.heap.size w wr → w.cell? a = some v → wr.cell? a = some v) := fun wr a v hb hc => keep hb hc
  clear k h
  go_wp2
  go_loopg [6, 7, 8, 14] n (fun g bv iv xv jv wr => ∃ (j bo : Nat) (ds : List Nat), jv = .int .i64 j ∧ bv = .int .i64 bo ∧ j + g = n ∧ bo ≤ 1 ∧ Nm wr w.heap.size (some ⟨g1, 0, none⟩) n c1 (ds ++ xs.drop j) ∧ Below w.heap.size w wr ∧ Hid (MinAt xs ys ds j bo))
  case atStart => exact ⟨0, 0, [], rfl, rfl, Nat.zero_add _, by omega, hN1, hb1, min_start xs ys⟩
  case round =>
    obtain ⟨j, bo, ds, rfl, rfl, hjg, hbo, hL, hbl, HM⟩ := hrel
    clear hN1 hb1
    by_cases hj : j < n
    · have hjI : (j : Int) < n := by omega
      have hds := HM.out.len
      have hdrop := HXD.out j hj
      have hc := hL.cell j hj
      have hfr := hL.froz j
      have hx10 := HX.out j
      obtain ⟨hD, hy10⟩ := HD.out j
      have hg : (ds ++ xs.drop j).getD j 0 = xs.getD j 0 := by
        rw [hdrop]; exact getD_midN hds
      rw [hg] at hc
      have HM2 : Hid (∀ d bo', d < 10 → bo' ≤ 1 → d + bo + ys.getD j 0 = xs.getD j 0 + 10 * bo' → MinAt xs ys (ds ++ [d]) (j + 1) bo') := fun d bo' a b e => HS.out ds j bo d bo' HM.out a b e
      have HP : Hid (∀ r : Nat, r < 10 → Nm (wr.setCell ⟨g1, j, none⟩ (.int .u8 (r : Int))) w.heap.size (some ⟨g1, 0, none⟩) n c1 ((ds ++ [r]) ++ xs.drop (j + 1)) ∧ Below w.heap.size w (wr.setCell ⟨g1, j, none⟩ (.int .u8 (r : Int)))) := fun r hr => by
        have hst := (hL.own.stored j (.int .u8 (r : Int))).1
        rw [hdrop, cells_setN hds] at hst
        refine ⟨⟨hst, ?_⟩, hbl.setCell hBg1 _⟩
        intro y hy
        rcases List.mem_append.1 hy with hy | hy
        · rcases List.mem_append.1 hy with hy | hy
          · exact hL.lim y (List.mem_append.2 (.inl hy))
          · simp at hy; omega
        · exact HXL.out y (List.mem_of_mem_drop hy)
      have hD2 : (j < n2 ∧ ∃ g2, ao2 = some ⟨g2, 0, none⟩ ∧ wr.cell? ⟨g2, j, none⟩ = some (.int .u8 ((ys.getD j 0 : Nat) : Int))) ∨ (n2 ≤ j ∧ ys.getD j 0 = 0) := by
        rcases hD with ⟨a, g2, b, e⟩ | e
        · exact .inl ⟨a, g2, b, HW.out wr _ _ hbl e⟩
        · exact .inr e
      clear HM HD HS HX HXD HXL HW HE hL hdrop hg hD hbl hds
      generalize xs.getD j 0 = x at *
      generalize ys.getD j 0 = y at *
      obtain ⟨d, bo', hd10, hbo', hdv⟩ : ∃ d bo' : Nat, d < 10 ∧ ((bo' = 0 ∧ ¬ (x : Int) - bo - y < 0 ∧ (x : Int) - bo - y = d) ∨ (bo' = 1 ∧ (x : Int) - bo - y < 0 ∧ (x : Int) - bo - y + 10 = d)) ∧ d + bo + y = x + 10 * bo' := by
        by_cases hneg : (x : Int) - bo - y < 0
        · exact ⟨((x : Int) - bo - y + 10).toNat, 1, by omega, .inr ⟨rfl, hneg, by omega⟩, by omega⟩
        · exact ⟨((x : Int) - bo - y).toNat, 0, by omega, .inl ⟨rfl, hneg, by omega⟩, by omega⟩
      have HM3 : Hid (MinAt xs ys (ds ++ [d]) (j + 1) bo') := HM2.out d bo' hd10 (by rcases hbo' with ⟨a, -⟩ | ⟨a, -⟩ <;> omega) hdv
      have hP := HP.out d hd10
      clear HM2 HP
      rcases hD2 with ⟨hj2, g2, rfl, hc2⟩ | ⟨hj2, hy0⟩
      · have hj2I : (j : Int) < n2 := by omega
        rcases hbo' with ⟨rfl, hneg, hval⟩ | ⟨rfl, hneg, hval⟩
        · clear hdv
          go_wp2
          go_roundg (gk - 1)
          case measure => omega
          case rel => exact ⟨j + 1, 0, ds ++ [d], by go_num, by go_num, by omega, by omega, hP.1, hP.2, HM3⟩
        · clear hdv
          go_wp2
          go_roundg (gk - 1)
          case measure => omega
          case rel => exact ⟨j + 1, 1, ds ++ [d], by go_num, by go_num, by omega, by omega, hP.1, hP.2, HM3⟩
      · have hj2I : ¬ (j : Int) < n2 := by omega
        subst hy0
        rw [Int.natCast_zero] at hbo'
        rw [Int.sub_zero] at hbo'
        rcases hbo' with ⟨rfl, hneg, hval⟩ | ⟨rfl, hneg, hval⟩
        · clear hdv
          go_wp2
          go_roundg (gk - 1)
          case measure => omega
          case rel => exact ⟨j + 1, 0, ds ++ [d], by go_num, by go_num, by omega, by omega, hP.1, hP.2, HM3⟩
        · clear hdv
          go_wp2
          go_roundg (gk - 1)
          case measure => omega
          case rel => exact ⟨j + 1, 1, ds ++ [d], by go_num, by go_num, by omega, by omega, hP.1, hP.2, HM3⟩
    · have hjI : ¬ (j : Int) < n := by omega
      obtain rfl : j = n := by omega
      have hLd : Nm wr w.heap.size (some ⟨g1, 0, none⟩) j c1 ds := by
        have := hL
        rw [List.drop_eq_nil_of_le (by omega), List.append_nil] at this
        exact this
      have HF : Hid (le ds = le xs - le ys) := HE.out ds bo HM.out
      clear HM HD HS HX HXD HXL HW HE hL
      go_wp2
      go_ret
      exact ⟨⟨_, _, rfl, ds, hLd, HF.out⟩, hbl⟩
end Go.Proofs.YthbabhbfpcfenabGreatDoor
