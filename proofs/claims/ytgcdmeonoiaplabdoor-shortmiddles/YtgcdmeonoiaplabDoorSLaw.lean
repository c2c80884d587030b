/- What the laws' patterns are: contracts at a finite pattern of any bits. -/
import Derived.Test.YtgcdmeonoiaplabDoorSLive
namespace Go.Proofs.YtgcdmeonoiaplabDoor
open Go.RowKit
set_option linter.unusedVariables false
set_option linter.unusedSimpArgs false

abbrev ExC (m : Nat) (e : Int) (S : ByteArray) (P : Int) : Prop := ∀ w, Calls Tryd.prog 10 #[.int .u64 m, .int .i64 e] w fun x w' => x = .returned (.tuple #[.agg #[.string S, .int .i64 P], .int .i64 0]) ∧ Below w.heap.size w w'
theorem exC {m : Nat} {e : Int} (hm : m < 18446744073709551616) (h0 : -1200 ≤ e) (h1 : e ≤ 1200) : ExC m e (oS (exU m e)) (oP (exU m e)) := fun w => by
  have := exact_any m e w hm
  have e1 : xE e = 0 := if_neg (by omega)
  have e2 : xV m e = exU m e := if_pos e1
  rw [e1, e2] at this; exact this
theorem exactD {size : Int} {f ww : Nat} {least : Int} {I p : Nat} (h : Ly size f ww least I) (hp : p < I) : ExC (pm f p) (least + pk f p) (oS (val f least p)) (oP (val f least p)) := by
  obtain ⟨h0, h1, -, -, -, -, -, -, h2⟩ := h.pk
  have h3 := h2 p hp
  have h4 := h.pm p
  have := exC (m := pm f p) (e := least + pk f p) (by omega) (by omega) (by omega)
  rw [(val_ex h hp).1] at this
  exact this
abbrev FinC (bits : Nat) (size : Int) (p : Nat) : Prop := ∀ w, Calls Tryd.prog 7 #[.int .u64 bits, .int .i64 size] w fun e w' => e = .returned (.int .u64 p) ∧ w' = w
abbrev SizC (b : Bool) (n : Int) : Prop := ∀ w, Calls Tryd.prog 8 #[.bool b] w fun e w' => e = .returned (.int .i64 n) ∧ w' = w
/-- The laws' pattern: its size and layout. -/
theorem pat_law (m0 : Int) (hm0 : (Lit.int .u64 m0).wf = true) (b : Bool) : ∃ (bits : Nat) (n : Int) (f ww : Nat) (least : Int) (I p : Nat), m0 = (bits : Int) ∧ Ly n f ww least I ∧ p < I ∧ SizC b n ∧ FinC bits n p ∧ (b = true → f = 52) ∧ (b = false → f = 23) := by
  have hw := wfu64 m0 hm0
  obtain ⟨f, ww, least, I, h, h1, h2⟩ := ly_of b
  exact ⟨m0.toNat, _, f, ww, least, I, finB f ww I m0.toNat, by omega, h, finB_lt h _, fun w => sized5_any b w, fun w => finite5_any h _ (by omega) w, h1, h2⟩
end Go.Proofs.YtgcdmeonoiaplabDoor
