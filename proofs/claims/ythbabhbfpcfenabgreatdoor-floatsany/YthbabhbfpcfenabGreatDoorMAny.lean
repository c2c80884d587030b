/- The document's Float is the program's, whatever it is asked for. -/
import Derived.Test.YthbabhbfpcfenabGreatDoorPkG1
import Derived.Test.YthbabhbfpcfenabGreatDoorPkG3
import Derived.Test.YthbabhbfpcfenabGreatDoorPkG2
namespace Go.Proofs.YthbabhbfpcfenabGreatDoor
open Go.RowKit
set_option linter.unusedVariables false
set_option linter.unusedSimpArgs false

theorem same_any {bits : Nat} (hb : bits < 18446744073709551616) (size : Int) (p mi sh sp z : Bool) (wid prec verb : Int) : SameC bits size p mi sh sp z wid prec verb := by
  by_cases hs : size = 32 ∨ size = 64
  · obtain ⟨f, ww, least, I, hly⟩ : ∃ (f ww : Nat) (least : Int) (I : Nat), Ly size f ww least I := by
      rcases hs with rfl | rfl
      · exact ⟨_, _, _, _, lyA⟩
      · exact ⟨_, _, _, _, lyB⟩
    cases hv : fVerb verb with
    | false => exact same_none hb p mi sh sp z wid prec verb (.inl hv)
    | true =>
      rcases Nat.lt_or_ge (bare f ww bits) I with hp | hp
      · refine same_fin hly hb hp p mi sh sp z wid prec verb hv (fun d hd gd hF hX => ?_)
        have hK := kshort_fin hly hb hp hd
        have e53 : (2 : Nat) ^ 53 = 9007199254740992 := by decide
        have hv2 := of_decide_eq_true hv
        rcases hv2 with rfl | rfl | rfl | rfl | rfl | rfl | rfl | rfl | rfl | rfl
        · exact mbare_e hX hF.fv p mi sh sp z wid prec 101 d (.inl rfl)
        · exact mbare_e hX hF.fv p mi sh sp z wid prec 69 d (.inr rfl)
        · exact mbare_f hX hF.fv p mi sh sp z wid prec 102 d (.inl rfl)
        · exact mbare_f hX hF.fv p mi sh sp z wid prec 70 d (.inr rfl)
        · exact mbare_g hX hF.fv hK hF.dl hF.dp p mi sh sp z wid prec 103 (.inl rfl)
        · exact mbare_g hX hF.fv hK hF.dl hF.dp p mi sh sp z wid prec 71 (.inr (.inl rfl))
        · exact mbare_g hX hF.fv hK hF.dl hF.dp p mi sh sp z wid prec 118 (.inr (.inr rfl))
        · exact mbare_b hX (by rw [← e53]; exact hF.m53) hF.e0 hF.e1 p mi sh sp z wid prec d
        · exact mbare_x hX hF.m53 hF.e0 hF.e1 p mi sh sp z wid prec d
        · exact mbare_X hX hF.m53 hF.e0 hF.e1 p mi sh sp z wid prec d
      · exact same_odd hly hb hp p mi sh sp z wid prec verb hv
  · exact same_none hb p mi sh sp z wid prec verb (.inr ⟨by omega, by omega⟩)
end Go.Proofs.YthbabhbfpcfenabGreatDoor
