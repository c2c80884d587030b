/- The laws of layer 10: the document's Extra. -/
import Derived.Test.YtilgemppbiibkabBFew
namespace Go.Proofs.Ytilgemppbiibkab
open Go.RowKit
set_option linter.unusedVariables false
set_option linter.unusedSimpArgs false
/-- The document's text so far. -/
def uxB (xs ys : List ByteArray) (n : Nat) : ByteArray := ⟨((37 :: 33 :: 40 :: (insL xs ys n).flatMap (·.data.toList))).toArray⟩
theorem ba_ext (a b : ByteArray) (h : a.data.toList = b.data.toList) : a = b := by
  cases a with
  | mk a => cases b with
    | mk b => exact congrArg ByteArray.mk (Array.ext' h)
theorem uxB_list (xs ys : List ByteArray) (n : Nat) : (uxB xs ys n).data.toList = 37 :: 33 :: 40 :: (insL xs ys n).flatMap (·.data.toList) := rfl
theorem uxB_size (xs ys : List ByteArray) (hx : ∀ x ∈ xs, x.size ≤ 1000) (hy : ∀ y ∈ ys, y.size ≤ 1000) (n : Nat) : (uxB xs ys n).size ≤ 9 + 2003 * n := by
  have := insL_size xs ys hx hy n
  rw [← list_len, uxB_list]
  simp only [List.length_cons]
  omega
theorem uxB_zero (xs ys : List ByteArray) : uxB xs ys 0 = ⟨#[37, 33, 40, 69, 88, 84, 82, 65, 32]⟩ := rfl
theorem uxB_one (xs ys : List ByteArray) (x y : ByteArray) (h1 : xs.getD 0 ⟨#[]⟩ = x) (h2 : ys.getD 0 ⟨#[]⟩ = y) : uxB xs ys 0 ++ ((x ++ ⟨#[61]⟩) ++ y) = uxB xs ys 1 := by
  apply ba_ext
  rw [uxB_list]
  simp only [insL, h1, h2, ByteArray.data_append, Array.toList_append, uxB_list, List.flatMap_append]
  simp
theorem uxB_more (xs ys : List ByteArray) (x y : ByteArray) (i : Nat) (hi : i ≠ 0) (h1 : xs.getD i ⟨#[]⟩ = x) (h2 : ys.getD i ⟨#[]⟩ = y) : (uxB xs ys i ++ ⟨#[44, 32]⟩) ++ ((x ++ ⟨#[61]⟩) ++ y) = uxB xs ys (i + 1) := by
  apply ba_ext
  rw [uxB_list]
  simp only [insL, h1, h2, ByteArray.data_append, Array.toList_append, uxB_list, List.flatMap_append, if_neg hi]
  simp
theorem uxB_end (xs ys : List ByteArray) (n : Nat) : uxB xs ys n ++ ⟨#[41]⟩ = bT [] ((insL xs ys n).flatMap (·.data.toList)) := by
  apply ba_ext
  unfold bT
  simp only [ByteArray.data_append, Array.toList_append, uxB_list]
  simp
set_option maxRecDepth 1000000 in
set_option maxHeartbeats 4000000 in
theorem uextra_any (xs ys : List ByteArray) (a1 a2 : Option Addr) (c1 c2 : Nat) (w : World) (hx : ∀ x ∈ xs, x.size ≤ 1000) (hy : ∀ y ∈ ys, y.size ≤ 1000) (hlx : xs.length ≤ 40) (hly : ys.length ≤ 40)
    (h1 : ∀ (j : Nat) x, xs[j]? = some x → ∃ g, a1 = some ⟨g, 0, none⟩ ∧ w.cell? ⟨g, j, none⟩ = some (.string x)) (h2 : ∀ (j : Nat) y, ys[j]? = some y → ∃ g, a2 = some ⟨g, 0, none⟩ ∧ w.cell? ⟨g, j, none⟩ = some (.string y)) :
    Calls Try.prog 25 #[.slice a1 xs.length c1, .slice a2 ys.length c2] w fun e w' => e = .returned (.string (bT [] ((insL xs ys (min xs.length ys.length)).flatMap (·.data.toList)))) ∧ Below w.heap.size w w' := by
  obtain ⟨k, hk⟩ : ∃ k, min xs.length ys.length = k := ⟨_, rfl⟩
  have hkx : k ≤ xs.length := by omega
  have hky : k ≤ ys.length := by omega
  rw [hk]
  have HK : Hid (min xs.length ys.length = k) := hk
  clear hk
  go_enter Try.func25, Try.ntmps25
  go_wp2_with fail
  go_loopg [5, 6] k (fun g sv iv wr => ∃ (i : Nat) (S : ByteArray), iv = .int .i64 (i : Nat) ∧ sv = .string S ∧ i + g = k ∧ Hid (S = uxB xs ys i) ∧ Below w.heap.size w wr)
  case atStart => exact ⟨0, _, rfl, rfl, by omega, rfl, Below.refl _ _⟩
  case round =>
    obtain ⟨i, S, rfl, rfl, hik, HI, hb⟩ := hrel
    have hS : S.size ≤ 9 + 2003 * i := by rw [HI.out]; exact uxB_size xs ys hx hy i
    by_cases hlt : i < k
    · obtain ⟨x, hxi⟩ : ∃ x, xs[i]? = some x := ⟨_, List.getElem?_eq_getElem (by omega)⟩
      obtain ⟨y, hyi⟩ : ∃ y, ys[i]? = some y := ⟨_, List.getElem?_eq_getElem (by omega)⟩
      obtain ⟨gt, rfl, ct⟩ := h1 i x hxi
      obtain ⟨gv, rfl, cv⟩ := h2 i y hyi
      have hgt : gt < w.heap.size := by
        rcases Nat.lt_or_ge gt w.heap.size with h | h
        · exact h
        · simp [World.cell?, Array.getElem?_eq_none h] at ct
      have hgv : gv < w.heap.size := by
        rcases Nat.lt_or_ge gv w.heap.size with h | h
        · exact h
        · simp [World.cell?, Array.getElem?_eq_none h] at cv
      have dx : xs.getD i ⟨#[]⟩ = x := by simp [List.getD, hxi]
      have dy : ys.getD i ⟨#[]⟩ = y := by simp [List.getD, hyi]
      have hxz : x.size ≤ 1000 := hx x (List.mem_of_getElem? hxi)
      have hyz : y.size ≤ 1000 := hy y (List.mem_of_getElem? hyi)
      have hixI : (i : Int) < xs.length := by omega
      have hiyI : (i : Int) < ys.length := by omega
      have hi40 : i ≤ 40 := by omega
      have HS0 : Hid (i = 0 → S ++ ((x ++ ⟨#[61]⟩) ++ y) = uxB xs ys (i + 1)) := fun h => by
        subst h
        rw [HI.out]
        exact uxB_one xs ys x y dx dy
      have HS1 : Hid (i ≠ 0 → (S ++ ⟨#[44, 32]⟩) ++ ((x ++ ⟨#[61]⟩) ++ y) = uxB xs ys (i + 1)) := fun h => by
        rw [HI.out]
        exact uxB_more xs ys x y i h dx dy
      clear hxi hyi dx dy h1 h2 HI
      have f0 : ∀ z : Cl w, z.w.cell? ⟨gt, i, none⟩ = some (.string x) := fun z => z.cell ct
      have f1 : ∀ z : Cl w, z.w.cell? ⟨gv, i, none⟩ = some (.string y) := fun z => z.cell cv
      have hgi : (i = 0 ∧ ¬ 0 < (i : Int)) ∨ (i ≠ 0 ∧ 0 < (i : Int)) := by omega
      rcases hgi with ⟨rfl, hgi⟩ | ⟨hi0, hgi⟩
      all_goals
        go_upto_region 7 with fail
        refine wp_region_above w hb (by kernel_rfl) (by kernel_rfl) ?_
        intro hCl
        repeat (go_big_quiet_step (fail))
        refine wpQuiet_nil ?_
        intro _ hw'
        obtain ⟨z, hz⟩ := hw'
        subst hz
        have hbz : Below w.heap.size w z.w := z.below
        clear f0 f1 hCl
        generalize z.w = w1 at *
        clear z
        go_wp2
        go_roundg (gk - 1)
        case measure => omega
        case rel => first | exact ⟨i + 1, _, by go_num, rfl, by omega, HS1.out hi0, hbz⟩ | exact ⟨1, _, by go_num, rfl, by omega, HS0.out trivial, hbz⟩
    · obtain rfl : i = k := by omega
      have hq : ¬ ((i : Int) < xs.length ∧ (i : Int) < ys.length) := by have := HK.out; omega
      have HE : Hid (S ++ ⟨#[41]⟩ = bT [] ((insL xs ys i).flatMap (·.data.toList))) := by
        show _ = _
        rw [HI.out]
        exact uxB_end xs ys i
      have hi40 : i ≤ 40 := by omega
      clear h1 h2 HI
      by_cases hq1 : (i : Int) < xs.length
      · have hq2 : ¬ (i : Int) < ys.length := fun h => hq ⟨hq1, h⟩
        clear hq
        go_wp2
        go_ret
        exact ⟨by rw [← HE.out]; rfl, hb⟩
      · clear hq
        go_wp2
        go_ret
        exact ⟨by rw [← HE.out]; rfl, hb⟩
end Go.Proofs.Ytilgemppbiibkab
