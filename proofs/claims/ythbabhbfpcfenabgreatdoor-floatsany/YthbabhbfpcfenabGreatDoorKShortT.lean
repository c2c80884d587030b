/- The document's Shortest, whatever it is asked for. -/
import Derived.Test.YthbabhbfpcfenabGreatDoorKShort
namespace Go.Proofs.YthbabhbfpcfenabGreatDoor
open Go.RowKit
set_option linter.unusedVariables false
set_option linter.unusedSimpArgs false

theorem kbare_any {bits : Nat} {size : Int} {f ww : Nat} {least : Int} {I : Nat} (h : Ly size f ww least I) (hb : bits < 18446744073709551616) : KbC bits size (bare f ww bits) := by
  have hp : PowC ((f : Int) + (ww : Int)) (2 ^ (f + ww) : Nat) := fun w => kpow_any (f + ww) w (by rcases h with ⟨-, rfl, rfl, -, -⟩ | ⟨-, rfl, rfl, -, -⟩ <;> decide)
  exact kbare_run (fun w => kshape_any h w) hp (Nat.pow_pos (by decide)) (by rcases h with ⟨-, rfl, rfl, -, -⟩ | ⟨-, rfl, rfl, -, -⟩ <;> decide) (by rcases h with ⟨-, rfl, rfl, -, -⟩ | ⟨-, rfl, rfl, -, -⟩ <;> decide) hb
theorem kshort_fin {bits : Nat} {size : Int} {f ww : Nat} {least : Int} {I d : Nat} (h : Ly size f ww least I) (hb : bits < 18446744073709551616) (hp : bare f ww bits < I) (hd : SH (fun x => RD f I (un least) x (bare f ww bits)) (val f least (bare f ww bits)) d) : KshC bits size (oS d) (oP d) 0 := by
  obtain ⟨q0, q1, hI2, hI0, -, hf1, hf2, -, q2⟩ := h.pk
  have q3 := q2 _ hp
  have q4 := h.pm (bare f ww bits)
  obtain ⟨hv, fv⟩ := val_ex h hp
  have e1 : ptM f ww I bits = pm f (bare f ww bits) := by unfold ptM; rw [if_pos hp]
  have e2 : ptE f ww I least bits = least + pk f (bare f ww bits) := by unfold ptE; rw [if_pos hp]
  have e3 : ptK f ww I bits = 0 := by unfold ptK; rw [if_pos hp]
  have hP : KpC bits size (sgn f ww bits) (ptM f ww I bits) (ptE f ww I least bits) (ptK f ww I bits) := fun w => kparts_any h hb w
  rw [e1, e2, e3] at hP
  have hX : HxC (pm f (bare f ww bits)) (least + pk f (bare f ww bits)) (oS (val f least (bare f ww bits))) (oP (val f least (bare f ww bits))) := hxC (by omega) (by omega) (by omega) hv
  have hu := un_pos least
  generalize hve : val f least (bare f ww bits) = v at *
  have hl := fv.len
  have hp0 := fv.p0
  have hp1 := fv.p1
  have hsz := oS_size v
  refine kshort_run (R := fun x => RD f I (un least) x (bare f ww bits)) (L := (oL v).length) (fun w => ksized_yes h w) hP (kbare_any h hb) (kvalue_run hP hX) hsz hl hp0 hp1 (fun n h1 h2 => ?_) (fun n h1 h2 => ?_) hd
  · obtain ⟨c1, c2, c3⟩ := cutV (Nat.le_of_lt h2)
    obtain ⟨gB, gA, g1, -⟩ := An_good fv h1 (Nat.le_of_lt h2)
    have q := Qn_eq (Nat.le_of_lt h2)
    refine ⟨fun w => ?_, fun w => ?_, ?_⟩
    · have := hin_any ((oS v).extract 0 n) (oP v) w c2 (by omega) (by omega) (by omega)
      rw [c1] at this
      exact this
    · obtain ⟨o1, o2⟩ := one_G (oP v - n) (Qn v n) (by omega)
      have := hsum_any (Bn v n) (10 ^ Qn v n) w (by have := gB.len; omega) (by have := g1.len; omega) (by have := gB.p1; omega) (by have := g1.p1; omega)
      rw [o1, o2] at this
      exact this
    · have := hnearC (v := v) ⟨by omega, by omega, by omega⟩ (oP v - n) (by omega) (by omega)
      rw [nst_rnd, rnd_near (Q := Qn v n) (by omega)] at this
      exact this
  · obtain ⟨gB, gA, -, -⟩ := An_good fv h1 (Nat.le_of_lt h2)
    have key : ∀ x, Good x → ∃ r : Nat, KrC (oS x) (oP x) size r 0 ∧ (r = bare f ww bits ↔ RD f I (un least) x (bare f ww bits)) := fun x gx => by
      obtain ⟨r, hr⟩ := rd_ex f I (un least) x hu
      refine ⟨r, kread_ok h (by have := gx.len; have := oS_size x; omega) gx.normE (by rw [gx.normV]; exact hr), fun e => by rw [← e]; exact hr, fun k => hr.uniq hu k⟩
    obtain ⟨r1, a1, a2⟩ := key _ gB
    obtain ⟨r2, b1, b2⟩ := key _ gA
    exact ⟨r1, r2, a1, b1, a2, b2⟩
end Go.Proofs.YthbabhbfpcfenabGreatDoor
