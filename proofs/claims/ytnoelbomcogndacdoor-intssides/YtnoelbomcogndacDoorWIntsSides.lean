/- The walk of the law IntsSides. -/
import Derived.Test.YtnoelbomcogndacDoorINumE
namespace Go.Proofs.YtnoelbomcogndacDoor
open Go.RowKit
set_option linter.unusedVariables false

/-- What the law asks of a text that is filled at either side. -/
theorem sides_pack (r : ByteArray) (wid : Int) (hr : r.size ≤ 4000) : ∃ (n : Nat) (a b f : ByteArray), padS r true false wid = a ∧ padS r false false wid = b ∧ run 32 (wdt (n : Int)) = f ∧ r ++ f = a ∧ f ++ r = b ∧ a.size = r.size + n ∧ b.size = r.size + n ∧ n ≤ 1000 ∧ ¬ 9223372036854775807 < r.size + f.size ∧ ¬ 9223372036854775807 < f.size + r.size := by
  have hl := lack_le r wid
  have e0 : wdt ((lack r wid : Nat) : Int) = lack r wid := by unfold wdt; omega
  refine ⟨lack r wid, r ++ run 32 (lack r wid), run 32 (lack r wid) ++ r, run 32 (lack r wid), ?_, ?_, by rw [e0], rfl, rfl, ?_, ?_, hl, ?_, ?_⟩
  · unfold padS; rw [if_pos rfl]; rfl
  · unfold padS; rw [if_neg (by simp), if_neg (by simp)]; rfl
  · rw [app_size, run_size]
  · rw [app_size, run_size]; omega
  · rw [run_size]; omega
  · rw [run_size]; omega

set_option maxRecDepth 1000000 in
set_option maxHeartbeats 1000000 in
theorem intsSides_core (v : Int) (p mi sh sp z : Bool) (wid prec verb : Int) (w : World) (hE : Esc w) (ok : Bool) (n : Nat) (a b r f : ByteArray)
    (hA : ∀ w, Esc w → Calls Tryd.prog 8 #[.int .i64 v, .agg #[.bool p, .bool true, .bool sh, .bool sp, .bool false, .int .i64 wid, .int .i64 prec, .int .i32 verb]] w fun e w' => e = .returned (.tuple #[.string a, .bool ok]) ∧ Below w.heap.size w w')
    (hB : ∀ w, Esc w → Calls Tryd.prog 8 #[.int .i64 v, .agg #[.bool p, .bool false, .bool sh, .bool sp, .bool false, .int .i64 wid, .int .i64 prec, .int .i32 verb]] w fun e w' => e = .returned (.tuple #[.string b, .bool ok]) ∧ Below w.heap.size w w')
    (hC : ∀ w, Esc w → Calls Tryd.prog 8 #[.int .i64 v, .agg #[.bool p, .bool false, .bool sh, .bool sp, .bool false, .int .i64 (-1), .int .i64 prec, .int .i32 verb]] w fun e w' => e = .returned (.tuple #[.string r, .bool ok]) ∧ Below w.heap.size w w')
    (hF : ∀ w, Calls Tryd.prog 11 #[.int .u8 32, .int .i64 (n : Nat)] w fun e w' => e = .returned (.string f) ∧ Below w.heap.size w w')
    (hra : r ++ f = a) (hrb : f ++ r = b) (haz : a.size = r.size + n) (hbz : b.size = r.size + n) (hs1 : ¬ 9223372036854775807 < r.size + f.size) (hs2 : ¬ 9223372036854775807 < f.size + r.size) (hn : n ≤ 1000) (hr : r.size ≤ 4000) :
    Calls Tryd.prog 6 #[.int .i64 v, .agg #[.bool p, .bool mi, .bool sh, .bool sp, .bool z, .int .i64 wid, .int .i64 prec, .int .i32 verb]] w fun e w' => e = .returned (.bool true) ∧ Below w.heap.size w w' := by
  have H0 := BoxAt.new w p true sh sp false wid prec verb (Below.refl _ _) hE
  have z2 : ¬ (a.size : Int) < (r.size : Nat) := by omega
  have z3 : (a.size : Int) - (r.size : Nat) = (n : Nat) := by omega
  have z5 : ((a.size : Int) != (b.size : Nat)) = false := by simp; omega
  have z6 : a.size ≤ 5000 := by omega
  have z7 : b.size ≤ 5000 := by omega
  clear haz hbz
  cases ok
  all_goals
    go_enter Tryd.func6, Tryd.ntmps6
    go_wp2_with (first | (go_at_call_of 8 (Value.bool true); refine (hA _ H0.es).mono ?_; rintro e w1 ⟨rfl, b1⟩; have H1 := H0.call b1; have q1 := H1.bl; obtain ⟨c0, c1, c2, c3, c4, c5, c6, c7, cf⟩ := H1.cells) | (go_at_call_of 8 wid; refine (hB _ (H1.set1 false).es).mono ?_; rintro e w2 ⟨rfl, b2⟩; have H2 := (H1.set1 false).call b2; have q2 := H2.bl; obtain ⟨c0, c1, c2, c3, c4, c5, c6, c7, cf⟩ := H2.cells) | (go_at_call 8; refine (hC _ (H2.set5 (-1)).es).mono ?_; rintro e w3 ⟨rfl, b3⟩; have H3 := (H2.set5 (-1)).call b3) | (go_at_call 11; first | (refine (hF _).mono ?_; rintro e w4 ⟨rfl, b4⟩; first | (have H5 := H4.call b4) | (have H4 := H3.call b4))) | (go_at_call 9; refine (lives3_any _ (by first | exact H5.es | exact H3.es)).mono ?_; rintro e w6 ⟨rfl, b6⟩))
    go_ret
    exact ⟨rfl, (H5.bl).trans (b6.mono H5.bl.size)⟩

theorem intsSides_walk (v : Int) (hv : (Lit.int .i64 v).wf = true) (p mi sh sp z : Bool) (wid prec verb : Int) (_h5 : (Lit.int .i64 wid).wf = true) (_h6 : (Lit.int .i64 prec).wf = true) (w : World) (hE : Esc w) :
    Calls Tryd.prog 6 #[.int .i64 v, .agg #[.bool p, .bool mi, .bool sh, .bool sp, .bool z, .int .i64 wid, .int .i64 prec, .int .i32 verb]] w fun e w' => e = .returned (.bool true) ∧ Below w.heap.size w w' := by
  have hv' := wf64 v hv
  cases hk : numK verb with
  | false =>
    have hS : ∀ (mi : Bool) (wid : Int) w, Esc w → Calls Tryd.prog 8 #[.int .i64 v, .agg #[.bool p, .bool mi, .bool sh, .bool sp, .bool false, .int .i64 wid, .int .i64 prec, .int .i32 verb]] w fun e w' => e = .returned (.tuple #[.string ⟨#[]⟩, .bool false]) ∧ Below w.heap.size w w' := fun mi wid w hE => by
      have := isigned_any v p mi sh sp false wid prec verb w hE hv'.1 hv'.2
      rw [numS_none _ _ _ _ _ _ _ _ _ _ hk, hk] at this
      exact this
    exact intsSides_core v p mi sh sp z wid prec verb w hE false 0 ⟨#[]⟩ ⟨#[]⟩ ⟨#[]⟩ ⟨#[]⟩ (hS true wid) (hS false wid) (hS false (-1)) (fun w => fill_any 32 0 w) rfl rfl rfl rfl (by decide) (by decide) (by decide) (by decide)
  | true =>
    obtain ⟨r, z', ho⟩ := numO_some (uN v) v.natAbs (sgS v p sp) p mi sh false wid prec verb hk
    have hz := numO_f _ _ _ _ _ _ _ _ _ _ _ ho
    subst hz
    have hr := numO_size _ _ _ _ _ _ _ _ _ _ (sgS_size v p sp) r false ho
    have hS : ∀ (mi : Bool) (wid : Int) w, Esc w → Calls Tryd.prog 8 #[.int .i64 v, .agg #[.bool p, .bool mi, .bool sh, .bool sp, .bool false, .int .i64 wid, .int .i64 prec, .int .i32 verb]] w fun e w' => e = .returned (.tuple #[.string (padS r mi false wid), .bool true]) ∧ Below w.heap.size w w' := fun mi' wid' w hE => by
      have := isigned_any v p mi' sh sp false wid' prec verb w hE hv'.1 hv'.2
      have e : numS (uN v) v.natAbs (sgS v p sp) p mi' sh false wid' prec verb = padS r mi' false wid' := by
        unfold numS
        rw [numO_z _ _ _ p mi' mi sh wid' wid, ho]
      rw [e, hk] at this
      exact this
    obtain ⟨n, a, b, f, ha, hb, hf, hra, hrb, haz, hbz, hn, hs1, hs2⟩ := sides_pack r wid hr
    have hA := hS true wid
    have hB := hS false wid
    have hC := hS false (-1)
    rw [ha] at hA
    rw [hb] at hB
    rw [pad_none r false false (-1) (.inl (by omega))] at hC
    exact intsSides_core v p mi sh sp z wid prec verb w hE true n a b r f hA hB hC (fun w => by have := fill_any 32 (n : Nat) w; rw [hf] at this; exact this) hra hrb haz hbz hs1 hs2 hn hr
end Go.Proofs.YtnoelbomcogndacDoor
