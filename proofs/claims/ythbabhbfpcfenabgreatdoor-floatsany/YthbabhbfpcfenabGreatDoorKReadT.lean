/- The document's Read, whatever it is asked for. -/
import Derived.Test.YthbabhbfpcfenabGreatDoorKRead
import Derived.Test.YthbabhbfpcfenabGreatDoorPkF20
namespace Go.Proofs.YthbabhbfpcfenabGreatDoor
open Go.RowKit
set_option linter.unusedVariables false
set_option linter.unusedSimpArgs false

theorem ly_pow {size : Int} {f ww : Nat} {least : Int} {I : Nat} (h : Ly size f ww least I) : PowC (f : Nat) (2 ^ f : Nat) ∧ PowC (ww : Nat) (2 ^ ww : Nat) ∧ PowC ((f : Int) + 1) (2 ^ (f + 1) : Nat) ∧ (((2 ^ ww : Nat) : Int) - 1) * ((2 ^ f : Nat) : Int) = (I : Int) ∧ 1 ≤ 2 ^ ww ∧ 2 ^ ww ≤ 5000 ∧ 2 ^ f ≤ 4503599627370496 ∧ 2 ^ f ≤ I := by
  refine ⟨fun w => kpow_any f w ?_, fun w => kpow_any ww w ?_, fun w => ?_, ?_⟩
  · rcases h with ⟨-, rfl, -, -, -⟩ | ⟨-, rfl, -, -, -⟩ <;> decide
  · rcases h with ⟨-, -, rfl, -, -⟩ | ⟨-, -, rfl, -, -⟩ <;> decide
  · have := kpow_any (f + 1) w (by rcases h with ⟨-, rfl, -, -, -⟩ | ⟨-, rfl, -, -, -⟩ <;> decide)
    exact this
  · rcases h with ⟨-, rfl, rfl, -, rfl⟩ | ⟨-, rfl, rfl, -, rfl⟩ <;> decide
theorem kread_ok {s : ByteArray} {q size : Int} {f ww : Nat} {least : Int} {I r : Nat} (h : Ly size f ww least I) (hs : s.size ≤ 9223372036854775807) (hE : normE s q = 0) (hr : RD f I (un least) (normV s q) r) : KrC s q size r 0 := by
  obtain ⟨q0, q1, hI2, hI0, -, hf1, hf2, -, -⟩ := h.pk
  obtain ⟨p1, p2, p3, p4, p5, p6, p7, p8⟩ := ly_pow h
  have hS : KsC size true := fun w => ksized_yes h w
  have hH : KhC size f ww least := fun w => kshape_any h w
  have hN : HnC s q (oS (normV s q)) (oP (normV s q)) 0 := fun w => by
    have := hnorm_any s q w hs
    rw [hE] at this
    exact this
  have hu := un_pos least
  have hg := (nrm_norm s q).len
  generalize normV s q = v at *
  have hsz := oS_size v
  have hdec := o_dec v
  obtain ⟨Q1, hQ1⟩ : ∃ Q, Q = 9600 := ⟨_, rfl⟩
  obtain ⟨Q2, hQ2⟩ : ∃ Q, Q = 10400 := ⟨_, rfl⟩
  by_cases hv : v = 0
  · have h0 : r = 0 := hr.uniq hu (rd_small h hQ1 (by rw [hv]; exact pow_pos10 _))
    subst h0
    have hz : (oS v).size = 0 := by rw [hsz, hv, o_zero.1]; rfl
    exact kread_small hS hH hN p1 p2 p4 p5 p6 hI2 (.inl hz)
  · have hpos : 0 < (oS v).size := by
      rw [hsz]
      exact List.length_pos_iff.2 (hdec.ne hv)
    by_cases hlo : oP v < -400
    · have h0 : r = 0 := hr.uniq hu (rd_small h hQ1 (hdec.lt (by omega)))
      subst h0
      exact kread_small hS hH hN p1 p2 p4 p5 p6 hI2 (.inr ⟨hpos, hlo⟩)
    · by_cases hhi : 400 < oP v
      · have h0 : r = I := hr.uniq hu (rd_great h hQ2 (hdec.ge hv (by omega)))
        subst h0
        exact kread_great hS hH hN p1 p2 p4 p5 p6 hI2 hpos hhi
      · obtain ⟨J, hJ⟩ : ∃ J, J = 1340 := ⟨_, rfl⟩
        have hval : v = num (oL v) * 10 ^ (oP v - ((oL v).length : Nat) + 10000).toNat := hdec.val.symm
        obtain ⟨a1, a2⟩ := rdI_0 h hval (num_lt _ hdec.dig) (by omega) hdec.low hJ
        rw [← hsz] at a1 a2
        exact fun w => kread_main hS hH hN p1 p2 p3 p4 p5 p6 hI2 hpos (by omega) (by omega) (by omega) hdec.dig rfl (by omega) (by omega) (by omega) hf1 hf2 rfl rfl (by rw [Nat.pow_succ]; omega) (by rw [Nat.pow_succ]; omega) p7 p8 (Nat.pos_of_ne_zero hv) (fun a b k hR hk => hr.uniq hu (hR.fin hf1 hu (by omega) hk)) a1 a2 w
end Go.Proofs.YthbabhbfpcfenabGreatDoor
