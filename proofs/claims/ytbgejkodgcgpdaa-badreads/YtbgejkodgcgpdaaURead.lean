/- The document's Read of package bad: its walk. -/
import Derived.Test.YtbgejkodgcgpdaaUPure
import Derived.LoopN
namespace Go.Proofs.Ytbgejkodgcgpdaa
open Go.RowKit
set_option linter.unusedVariables false
set_option linter.unusedSimpArgs false

theorem pre_iff (s t : ByteArray) (h : t.size ≤ s.size) : ((s.extract 0 t.size).toList == t.toList) = t.data.toList.isPrefixOf s.data.toList := by
  by_cases e : s.extract 0 t.size = t
  · have h1 : t.data.toList.isPrefixOf s.data.toList = true := by
      refine List.isPrefixOf_iff_prefix.2 ⟨s.data.toList.drop t.size, ?_⟩
      conv => lhs; lhs; rw [← e]
      rw [ByteArray.data_extract, Array.toList_extract, List.extract_eq_take_drop]
      simp
    rw [h1, e]
    simp
  · rw [beq_nB _ _ e, eq_comm, Bool.eq_false_iff]
    intro hp
    apply e
    obtain ⟨r, hr⟩ := List.isPrefixOf_iff_prefix.1 hp
    apply ba_extB
    rw [ByteArray.data_extract, Array.toList_extract, List.extract_eq_take_drop, ← hr]
    have : t.size = t.data.toList.length := (list_len t).symm
    rw [this]
    simp
theorem pre_no (s t : ByteArray) (h : ¬ t.size ≤ s.size) : t.data.toList.isPrefixOf s.data.toList = false := by
  rw [Bool.eq_false_iff]
  intro hp
  obtain ⟨r, hr⟩ := List.isPrefixOf_iff_prefix.1 hp
  have := congrArg List.length hr
  rw [List.length_append, list_len, list_len] at this
  omega
set_option maxRecDepth 100000 in
theorem ubegins_any (s t : ByteArray) (hs : s.size ≤ 4294967295) (ht : t.size ≤ 4294967295) (w : World) : Calls Try.prog 33 #[.string s, .string t] w fun e w' => e = .returned (.bool (t.data.toList.isPrefixOf s.data.toList)) ∧ w' = w := by
  by_cases h : t.size ≤ s.size
  · have hE := pre_iff s t h
    have hI : (t.size : Int) ≤ s.size := by omega
    have hI2 : (s.size : Int) ≤ 4294967295 := by omega
    generalize t.data.toList.isPrefixOf s.data.toList = pb at *
    go_enter Try.func33, Try.ntmps33
    go_wp2
    go_ret
    exact ⟨rfl, rfl⟩
  · rw [pre_no s t h]
    have hI : ¬ (t.size : Int) ≤ s.size := by omega
    go_enter Try.func33, Try.ntmps33
    go_wp2
    go_ret
    exact ⟨rfl, rfl⟩
set_option maxRecDepth 100000 in
theorem uhas_any (s t : ByteArray) (hs : s.size ≤ 4294967290) (ht : t.size ≤ 4294967295) (w : World) : Calls Try.prog 35 #[.string s, .string t] w fun e w' => e = .returned (.bool (Lib.contains s.data.toList t.data.toList)) ∧ w' = w := by
  have hI2 : (s.size : Int) ≤ 4294967290 := by omega
  have hB := fun k w => ubegins_any (s.extract k s.size) t (by rw [ByteArray.size_extract]; omega) ht w
  have hoc : ∀ k, t.data.toList.isPrefixOf (s.extract k s.size).data.toList = Lib.occAt s.data.toList t.data.toList k := by
    intro k
    rw [ext_listB]
    rfl
  have hlen := list_len s
  have Hyes : ∀ k, k ≤ s.size → Hid (Lib.occAt s.data.toList t.data.toList k = true → Lib.contains s.data.toList t.data.toList = true) := by
    intro k hk h
    unfold Lib.contains
    rcases Lib.index_spec s.data.toList t.data.toList with ⟨h1, h2⟩ | ⟨i, h1, -⟩
    · rw [h2 k (by omega)] at h; cases h
    · rw [h1]; simp
  have Hno : Hid ((∀ k, k ≤ s.size → Lib.occAt s.data.toList t.data.toList k = false) → Lib.contains s.data.toList t.data.toList = false) := by
    intro h
    unfold Lib.contains
    rw [Lib.index_none (fun j hj => h j (by omega))]
    rfl
  generalize Lib.contains s.data.toList t.data.toList = C at *
  clear hlen
  go_enter Try.func35, Try.ntmps35
  go_wp2_with fail
  go_loopg [5] (s.size + 1) (fun g iv wr => wr = w ∧ ∃ i : Nat, iv = .int .i64 (i : Nat) ∧ i + g = s.size + 1 ∧ Hid (∀ k, k < i → Lib.occAt s.data.toList t.data.toList k = false))
  case atStart => exact ⟨rfl, 0, rfl, by omega, fun k hk => by omega⟩
  case round =>
    obtain ⟨rfl, i, rfl, hi, HN⟩ := hrel
    by_cases hlt : i ≤ s.size
    · have hltI : (i : Int) ≤ s.size := by omega
      have hBi := hB i wr
      rw [hoc i] at hBi
      have hy := Hyes i hlt
      cases ho : Lib.occAt s.data.toList t.data.toList i with
      | true =>
        rw [ho] at hBi
        obtain rfl : C = true := hy.out ho
        clear Hyes Hno hy ho hoc hB HN
        go_wp2_with (go_at_call 33; refine hBi.mono ?_; rintro e w9 ⟨rfl, hw9⟩; subst w9)
        go_ret
        exact ⟨rfl, rfl⟩
      | false =>
        rw [ho] at hBi
        have HN2 : Hid (∀ k, k < i + 1 → Lib.occAt s.data.toList t.data.toList k = false) := by
          intro k hk
          rcases Nat.lt_or_ge k i with h1 | h1
          · exact HN.out k h1
          · rw [show k = i by omega]; exact ho
        clear Hyes Hno hy ho hoc hB HN
        go_wp2_with (go_at_call 33; refine hBi.mono ?_; rintro e w9 ⟨rfl, hw9⟩; subst w9)
        go_roundg (gk - 1)
        case measure => omega
        case rel => exact ⟨rfl, i + 1, by go_num, by omega, HN2⟩
    · have hltI : ¬ (i : Int) ≤ s.size := by omega
      obtain rfl : C = false := Hno.out (fun k hk => HN.out k (by omega))
      clear Hyes Hno hoc hB HN
      go_wp2
      go_ret
      exact ⟨rfl, rfl⟩
end Go.Proofs.Ytbgejkodgcgpdaa
