/- The walk of the law IntsChars. -/
import Derived.Test.YtnoelbomcogndabDoorINumE
import Derived.Test.YtnoelbomcogndabDoorEWriD
namespace Go.Proofs.YtnoelbomcogndabDoor
open Go.RowKit
set_option linter.unusedVariables false

theorem verbs3 (j : Nat) (h : j < (ByteArray.mk #[99, 113, 85]).size) : ((((ByteArray.mk #[99, 113, 85])[j]'h).toNat : Int) = 99 ∨ (((ByteArray.mk #[99, 113, 85])[j]'h).toNat : Int) = 113 ∨ (((ByteArray.mk #[99, 113, 85])[j]'h).toNat : Int) = 85) := by
  match j, h with
  | 0, _ => exact .inl rfl
  | 1, _ => exact .inr (.inl rfl)
  | 2, _ => exact .inr (.inr rfl)
  | n + 3, h => exact absurd h (by show ¬ n + 3 < 3; omega)
theorem chars_same (bits size size' : Nat) (sign sign' : ByteArray) (p mi sh z : Bool) (wid prec c : Int) (h : c = 99 ∨ c = 113 ∨ c = 85) :
    numS bits size sign p mi sh z wid prec c = numS bits size' sign' p mi sh z wid prec c ∧ numK c = true := by
  rcases h with rfl | rfl | rfl
  · exact ⟨rfl, rfl⟩
  · exact ⟨rfl, rfl⟩
  · exact ⟨rfl, rfl⟩

set_option maxRecDepth 1000000 in
set_option maxHeartbeats 2000000 in
theorem intsChars_walk (v : Int) (hv : (Lit.int .i64 v).wf = true) (p mi sh sp z : Bool) (wid prec verb : Int) (_h5 : (Lit.int .i64 wid).wf = true) (_h6 : (Lit.int .i64 prec).wf = true) (k0 : Int) (hk0 : (Lit.int .u64 k0).wf = true) (w : World) (hE : Esc w) :
    Calls Tryd.prog 6 #[.int .i64 v, .agg #[.bool p, .bool mi, .bool sh, .bool sp, .bool z, .int .i64 wid, .int .i64 prec, .int .i32 verb], .int .u64 k0] w fun e w' => e = .returned (.bool true) ∧ Below w.heap.size w w' := by
  have hv' := wf64 v hv
  have hk' := wfu64 k0 hk0
  obtain ⟨k, rfl⟩ : ∃ k : Nat, k0 = k := ⟨k0.toNat, by omega⟩
  have hj : k % 3 < (ByteArray.mk #[99, 113, 85]).size := Nat.mod_lt _ (by decide)
  have hV : ∀ w, _ := fun w => iverb_any ⟨#[99, 113, 85]⟩ p mi sh sp z wid prec verb k (k % 3) w hj (by decide) rfl (by omega)
  have hc := verbs3 (k % 3) hj
  generalize ((((ByteArray.mk #[99, 113, 85])[k % 3]'hj).toNat : Nat) : Int) = c at *
  obtain ⟨e1, ek⟩ := chars_same (uN v) v.natAbs (uN v) (sgS v p sp) (signA p sp) p mi sh z wid prec c hc
  have eu : uVerb sh c = c := by unfold uVerb; rw [if_neg (by omega)]
  have hA : ∀ w, Esc w → _ := fun w hE => isigned_any v p mi sh sp z wid prec c w hE hv'.1 hv'.2
  have hB : ∀ w, _ := fun w => esigned_any v p mi sh sp z wid prec c w hv'.1 hv'.2
  have hC : ∀ w, Esc w → _ := fun w hE => iunsigned_any (uN v) p mi sh sp z wid prec c w hE (uN_lt v)
  rw [eu] at hC
  rw [e1, ek] at hA hB
  rw [ek] at hC
  have hW := wrap_uN v
  generalize numS (uN v) (uN v) (signA p sp) p mi sh z wid prec c = r at *
  generalize uN v = u at *
  have H0 := BoxAt.new w p mi sh sp z wid prec verb (Below.refl _ _) hE
  clear hv hk0 _h5 _h6 e1 ek eu hc hj
  go_enter Tryd.func6, Tryd.ntmps6
  go_wp2_with (first | (go_at_call 16; refine (hV _).mono ?_; rintro e w1 ⟨rfl, b0⟩; have H1 := H0.call b0; obtain ⟨c0, c1, c2, c3, c4, c5, c6, c7, cf⟩ := H1.cells; have H2 := (((((((H1.set0 p).set1 mi).set2 sh).set3 sp).set4 z).set5 wid).set6 prec).set7 c; clear H1) | (go_at_call 12; refine (hA _ H2.es).mono ?_; rintro e w2 ⟨rfl, b1⟩; have H3 := H2.call b1; obtain ⟨c0, c1, c2, c3, c4, c5, c6, c7, cf⟩ := H3.cells) | (go_at_call 13; refine (hB _).mono ?_; rintro e w3 ⟨rfl, b2⟩; have H4 := H3.call b2; obtain ⟨c0, c1, c2, c3, c4, c5, c6, c7, cf⟩ := H4.cells) | (go_at_call 14; refine (hC _ H4.es).mono ?_; rintro e w4 ⟨rfl, b3⟩; have H5 := H4.call b3) | (go_at_call 11; refine (lives3_any _ H5.es).mono ?_; rintro e w6 ⟨rfl, b6⟩))
  go_ret
  exact ⟨rfl, (H5.bl).trans (b6.mono H5.bl.size)⟩
end Go.Proofs.YtnoelbomcogndabDoor
