/- The walks of package values that look at one descriptor: must, textFits, isKind, hasParts, isKey, fieldsFormed, entriesFormed, formed. -/
import Derived.Test.YtjphklhfigammaaDoorVWalkA
import Derived.WalkLawsBesides
import Derived.Deep.LoopGhost
import Derived.Handy
namespace Go.Proofs.YtjphklhfigammaaDoor
open Go.RowKit
set_option linter.unusedVariables false

/-- What must throws. -/
abbrev PE (n : Int) : List PanicEntry := [{ v := .iface 33 (.int .i64 n), recovered := false }]
theorem must_ok (n : Int) (w : World) : Calls Tryd.prog 42 #[.bool true, .int .i64 n] w fun e w' => e = .returned (.tuple #[]) ∧ w' = w := by
  go_enter Tryd.func42, Tryd.ntmps42
  go_wp2
  go_end0
  exact ⟨rfl, rfl⟩
theorem must_no (n : Int) (w : World) : Calls Tryd.prog 42 #[.bool false, .int .i64 n] w fun e w' => e = .panicked (PE n) ∧ w' = w := by
  go_enter Tryd.func42, Tryd.ntmps42
  go_wp2
  exact ⟨rfl, rfl, rfl⟩

theorem iskind_any (k : Int) (w : World) : Calls Tryd.prog 46 #[.int .i64 k] w fun e w' => e = .returned (.bool (decide (0 ≤ k) && decide (k ≤ 22))) ∧ w' = w := by
  by_cases h1 : 0 ≤ k <;> by_cases h2 : k ≤ 22
  all_goals first
    | omega
    | (go_enter Tryd.func46, Tryd.ntmps46
       go_wp2
       go_ret
       try (simp [h1, h2]; done))
theorem hasparts_any (k : Int) (w : World) : Calls Tryd.prog 64 #[.int .i64 k] w fun e w' => e = .returned (.bool (great k)) ∧ w' = w := by
  unfold great
  by_cases h1 : 18 ≤ k <;> by_cases h2 : k ≤ 22
  all_goals first
    | omega
    | (go_enter Tryd.func64, Tryd.ntmps64
       go_wp2
       go_ret
       try (simp [h1, h2]; done))
/-- May a value of that kind be a key? -/
def keyB (k : Int) : Bool := decide (k = 1) || (decide (2 ≤ k) && decide (k ≤ 11)) || decide (k = 16)
theorem iskey_any (k : Int) (w : World) : Calls Tryd.prog 76 #[.int .i64 k] w fun e w' => e = .returned (.bool (keyB k)) ∧ w' = w := by
  by_cases h1 : k = 1
  · subst h1
    go_enter Tryd.func76, Tryd.ntmps76
    go_wp2
    go_ret
    exact ⟨rfl, rfl⟩
  by_cases h16 : k = 16
  · subst h16
    go_enter Tryd.func76, Tryd.ntmps76
    go_wp2
    go_ret
    exact ⟨rfl, rfl⟩
  have e1 : (k == 1) = false := by simp [h1]
  have e16 : (k == 16) = false := by simp [h16]
  have HK : Hid (keyB k = (decide (2 ≤ k) && decide (k ≤ 11))) := by show keyB k = _; unfold keyB; simp [h1, h16]
  clear h1 h16
  by_cases h2 : 2 ≤ k <;> by_cases h3 : k ≤ 11
  all_goals first
    | omega
    | (go_enter Tryd.func76, Tryd.ntmps76
       go_wp2
       go_ret
       refine ⟨?_, rfl⟩
       rw [HK.out]
       simp [h2, h3])
/-- Is the text, if it is looked at, short enough? -/
def fitsB (d : D) : Bool := (decide (d.kind ≠ 16) && decide (d.kind ≠ 17)) || decide (d.text.size ≤ 1024)
theorem textfits_any (d : D) (nv pv : Value) (w : World) : Calls Tryd.prog 43 #[DV d nv pv] w fun e w' => e = .returned (.bool (fitsB d)) ∧ Below w.heap.size w w' := by
  obtain ⟨kind, ty, bits, imag, text, names, parts, hook⟩ := d
  have bel : ∀ cs t, Below w.heap.size w (w.alloc (.cells cs t)) := fun _ _ => (Below.refl _ _).alloc (Nat.le_refl _) _
  by_cases h16 : kind = 16
  · subst h16
    by_cases ht : text.size ≤ 1024
    · have htI : (text.size : Int) ≤ 1024 := by omega
      go_enter Tryd.func43, Tryd.ntmps43
      go_wp2
      go_ret
      exact ⟨by simp [fitsB, ht], bel _ _⟩
    · have htI : ¬ (text.size : Int) ≤ 1024 := by omega
      go_enter Tryd.func43, Tryd.ntmps43
      go_wp2
      go_ret
      exact ⟨by simp [fitsB, ht], bel _ _⟩
  by_cases h17 : kind = 17
  · subst h17
    by_cases ht : text.size ≤ 1024
    · have htI : (text.size : Int) ≤ 1024 := by omega
      go_enter Tryd.func43, Tryd.ntmps43
      go_wp2
      go_ret
      exact ⟨by simp [fitsB, ht], bel _ _⟩
    · have htI : ¬ (text.size : Int) ≤ 1024 := by omega
      go_enter Tryd.func43, Tryd.ntmps43
      go_wp2
      go_ret
      exact ⟨by simp [fitsB, ht], bel _ _⟩
  have e16 : (kind != 16) = true := by simp [h16]
  have e17 : (kind != 17) = true := by simp [h17]
  go_enter Tryd.func43, Tryd.ntmps43
  go_wp2
  go_ret
  exact ⟨by simp [fitsB, h16, h17], bel _ _⟩
end Go.Proofs.YtjphklhfigammaaDoor
