/- The walk of the law ShortBack. -/
import Derived.Test.YtgcdmeonoiaplaaDoorSLaw
namespace Go.Proofs.YtgcdmeonoiaplaaDoor
open Go.RowKit
set_option linter.unusedVariables false
set_option linter.unusedSimpArgs false

set_option maxRecDepth 1000000 in
set_option maxHeartbeats 1600000 in
theorem back_walk {bits p : Nat} {n : Int} {b : Bool} {S : ByteArray} {P : Int} (hZ : SizC b n) (hF : FinC bits n p) (hS : ShC p n S P 0) (hR : ReadC S P n p 0) (hl : S.size ≤ 9 ∨ (b = true ∧ S.size ≤ 17)) (w : World) :
    Calls Tryd.prog 5 #[.int .u64 bits, .bool b] w fun e w' => e = .returned (.bool true) ∧ Below w.heap.size w w' := by
  have hL := lives5_any
  by_cases h9 : S.size ≤ 9
  · have h9I : (S.size : Int) ≤ 9 := by omega
    clear hl
    go_enter Tryd.func5, Tryd.ntmps5
    go_wp2_with (first
      | (go_at_call 14; refine (hZ _).mono ?_; rintro x w9 ⟨rfl, rfl⟩)
      | (go_at_call 13; refine (hF _).mono ?_; rintro x w9 ⟨rfl, rfl⟩)
      | (go_at_call 15; refine (hS _).mono ?_; rintro x w3 ⟨rfl, hb3⟩)
      | (go_at_call 11; refine (hR _).mono ?_; rintro x w4 ⟨rfl, hb4⟩; obtain ⟨a0, a1, a2, a3⟩ := keepb hb4 (B := w3.heap.size) (x := .string S) (y := .int .i64 P) (by simp [BoxD, go_sem]))
      | (go_at_call 10; refine (hL _).mono ?_; rintro x w5 ⟨rfl, hb5⟩))
    go_ret
    refine ⟨rfl, ?_⟩
    have h1 := bel_call (hb3.alloc hb3.size _) hb4 (Nat.le_refl _)
    exact bel_call h1 hb5 (Nat.le_refl _)
  · have h9I : ¬ (S.size : Int) ≤ 9 := by omega
    obtain ⟨rfl, h17⟩ : b = true ∧ S.size ≤ 17 := by rcases hl with h | h; · exact absurd h h9
                                                     · exact h
    have h17I : (S.size : Int) ≤ 17 := by omega
    clear hl
    go_enter Tryd.func5, Tryd.ntmps5
    go_wp2_with (first
      | (go_at_call 14; refine (hZ _).mono ?_; rintro x w9 ⟨rfl, rfl⟩)
      | (go_at_call 13; refine (hF _).mono ?_; rintro x w9 ⟨rfl, rfl⟩)
      | (go_at_call 15; refine (hS _).mono ?_; rintro x w3 ⟨rfl, hb3⟩)
      | (go_at_call 11; refine (hR _).mono ?_; rintro x w4 ⟨rfl, hb4⟩; obtain ⟨a0, a1, a2, a3⟩ := keepb hb4 (B := w3.heap.size) (x := .string S) (y := .int .i64 P) (by simp [BoxD, go_sem]))
      | (go_at_call 10; refine (hL _).mono ?_; rintro x w5 ⟨rfl, hb5⟩))
    go_ret
    refine ⟨rfl, ?_⟩
    have h1 := bel_call (hb3.alloc hb3.size _) hb4 (Nat.le_refl _)
    exact bel_call h1 hb5 (Nat.le_refl _)
theorem shortBack_walk (m0 : Int) (hm0 : (Lit.int .u64 m0).wf = true) (b : Bool) (w : World) :
    Calls Tryd.prog 5 #[.int .u64 m0, .bool b] w fun e w' => e = .returned (.bool true) ∧ Below w.heap.size w w' := by
  obtain ⟨bits, n, f, ww, least, I, p, rfl, h, hp, hZ, hF, f1, f2⟩ := pat_law m0 hm0 b
  obtain ⟨d, hd⟩ := sh_ex (fun x => RD f I (un least) x p) (val f least p)
  have hv := (val_ex h hp).2
  have hself : RD f I (un least) (val f least p) p := RD_self (un_pos least) hp
  have hrd : RD f I (un least) d p := SH.read (R := fun x => RD f I (un least) x p) hself hd
  have hR := readD h (hd.good hv) hrd
  refine back_walk hZ hF (shortD h hp hd) hR ?_ w
  rw [oS_size]
  by_cases h0 : p = 0
  · have hl := hd.len
    have e : val f least p = 0 := by subst h0; simp [val, pq, pm]
    rw [e, o_zero.1] at hl
    exact .inl (by simp at hl; simp [hl])
  · have hbd := bd_of (f := f) (I := I) (u := un least) (un_pos least) h0 hp
    have hg := gap_of (f := f) (u := un least) h0
    cases b with
    | true =>
      have := f1 rfl
      subst this
      exact .inr ⟨rfl, hd.few hbd (N := 17) (by decide) hg (by decide)⟩
    | false =>
      have := f2 rfl
      subst this
      exact .inl (hd.few hbd (N := 9) (by decide) hg (by decide))
end Go.Proofs.YtgcdmeonoiaplaaDoor
