/- What the laws' patterns are: contracts at a finite pattern of any bits. -/
import Derived.Test.YthbabhbfpcfenabDoorSLive
namespace Go.Proofs.YthbabhbfpcfenabDoor
open Go.RowKit
set_option linter.unusedVariables false
set_option linter.unusedSimpArgs false

abbrev ExC (m : Nat) (e : Int) (S : ByteArray) (P : Int) : Prop := ∀ w, Calls Tryd.prog 41 #[.int .u64 m, .int .i64 e] w fun x w' => x = .returned (.tuple #[.agg #[.string S, .int .i64 P], .int .i64 0]) ∧ Below w.heap.size w w'
theorem exC {m : Nat} {e : Int} (hm : m < 18446744073709551616) (h0 : -1200 ≤ e) (h1 : e ≤ 1200) : ExC m e (oS (exU m e)) (oP (exU m e)) := fun w => by
  have := exact_any m e w hm
  have e1 : xE e = 0 := if_neg (by omega)
  have e2 : xV m e = exU m e := if_pos e1
  rw [e1, e2] at this; exact this
theorem exactD {size : Int} {f ww : Nat} {least : Int} {I p : Nat} (h : Ly size f ww least I) (hp : p < I) : ExC (pm f p) (least + pk f p) (oS (val f least p)) (oP (val f least p)) := by
  obtain ⟨h0, h1, -, -, -, -, -, -, h2⟩ := h.pk
  have h3 := h2 p hp
  have h4 := h.pm p
  have := exC (m := pm f p) (e := least + pk f p) (by omega) (by omega) (by omega)
  rw [(val_ex h hp).1] at this
  exact this
end Go.Proofs.YthbabhbfpcfenabDoor
