/- Package hooks: the methods' names; the document's; its Act and Need. -/
import Derived.Test.YtbfaapbbhgegiabDoorXWalkC
namespace Go.Proofs.YtbfaapbbhgegiabDoor
open Go.RowKit
set_option linter.unusedVariables false
set_option linter.unusedSimpArgs false

/-- A method's name. -/
def mT (n : Int) : ByteArray := if n = 1 then ⟨#[70, 111, 114, 109, 97, 116]⟩ else if n = 2 then ⟨#[71, 111, 83, 116, 114, 105, 110, 103]⟩ else if n = 3 then ⟨#[69, 114, 114, 111, 114]⟩ else if n = 4 then ⟨#[83, 116, 114, 105, 110, 103]⟩ else ⟨#[]⟩
theorem mT_size (n : Int) : (mT n).size ≤ 8 := by
  unfold mT
  repeat' split
  all_goals decide
set_option maxRecDepth 1000000 in
theorem method_any (n : Int) (w : World) : Calls Tryd.prog 18 #[.int .i64 n] w fun e w' => e = .returned (.string (mT n)) ∧ w' = w := by
  by_cases e1 : n = 1
  · subst e1
    go_enter Tryd.func18, Tryd.ntmps18
    go_wp2
    go_ret
    exact ⟨rfl, rfl⟩
  · skip
    by_cases e2 : n = 2
    · subst e2
      go_enter Tryd.func18, Tryd.ntmps18
      go_wp2
      go_ret
      exact ⟨rfl, rfl⟩
    · skip
      by_cases e3 : n = 3
      · subst e3
        go_enter Tryd.func18, Tryd.ntmps18
        go_wp2
        go_ret
        exact ⟨rfl, rfl⟩
      · skip
        by_cases e4 : n = 4
        · subst e4
          go_enter Tryd.func18, Tryd.ntmps18
          go_wp2
          go_ret
          exact ⟨rfl, rfl⟩
        · skip
          rw [show mT n = ⟨#[]⟩ by unfold mT; rw [if_neg e1, if_neg e2, if_neg e3, if_neg e4]]
          go_enter Tryd.func18, Tryd.ntmps18
          go_wp2
          go_ret
          exact ⟨rfl, rfl⟩
/-- Whom a method asks. -/
def ndN (k : Int) (np : Bool) : Int := if k = 3 then 1 else if k = 2 ∧ np = false then 2 else 0
end Go.Proofs.YtbfaapbbhgegiabDoor
