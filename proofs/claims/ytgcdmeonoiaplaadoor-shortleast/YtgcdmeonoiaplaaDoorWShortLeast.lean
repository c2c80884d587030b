/- The walk of the law ShortLeast. -/
import Derived.Test.YtgcdmeonoiaplaaDoorSExact
namespace Go.Proofs.YtgcdmeonoiaplaaDoor
open Go.RowKit
set_option linter.unusedVariables false
set_option linter.unusedSimpArgs false

set_option maxRecDepth 1000000 in
set_option maxHeartbeats 1600000 in
theorem least_few {bits p : Nat} {n : Int} {b : Bool} {S SV : ByteArray} {P PV : Int} (hZ : SizC b n) (hF : FinC bits n p) (hS : ShC p n S P 0) (hX : Ex5C p n SV PV) (hs : S.size ≤ 100000) (hv : SV.size ≤ 100000)
    (hh : S.size ≤ 1 ∨ (1 < S.size ∧ SV.size + 1 ≤ S.size)) (w : World) :
    Calls Tryd.prog 6 #[.int .u64 bits, .bool b] w fun e w' => e = .returned (.bool true) ∧ Below w.heap.size w w' := by
  have hL := lives5_any
  rcases hh with hh | ⟨h1, h2⟩
  · have hhI : (S.size : Int) - 1 < 1 := by omega
    go_enter Tryd.func6, Tryd.ntmps6
    go_wp2_with (first
      | (go_at_call 14; refine (hZ _).mono ?_; rintro x w9 ⟨rfl, rfl⟩)
      | (go_at_call 13; refine (hF _).mono ?_; rintro x w9 ⟨rfl, rfl⟩)
      | (go_at_call 15; refine (hS _).mono ?_; rintro x w2 ⟨rfl, hb2⟩)
      | (go_at_call 16; refine (hX _).mono ?_; rintro x w3 ⟨rfl, hb3⟩)
      | (go_at_call 10; refine (hL _).mono ?_; rintro x w5 ⟨rfl, hb5⟩))
    go_ret
    refine ⟨rfl, ?_⟩
    have h1 := bel_call (hb2.alloc hb2.size _) hb3 (Nat.le_refl _)
    exact bel_call (h1.alloc h1.size _) hb5 (Nat.le_refl _)
  · have h1I : ¬ (S.size : Int) - 1 < 1 := by omega
    have h2I : (SV.size : Int) ≤ (S.size : Int) - 1 := by omega
    go_enter Tryd.func6, Tryd.ntmps6
    go_wp2_with (first
      | (go_at_call 14; refine (hZ _).mono ?_; rintro x w9 ⟨rfl, rfl⟩)
      | (go_at_call 13; refine (hF _).mono ?_; rintro x w9 ⟨rfl, rfl⟩)
      | (go_at_call 15; refine (hS _).mono ?_; rintro x w2 ⟨rfl, hb2⟩)
      | (go_at_call 16; refine (hX _).mono ?_; rintro x w3 ⟨rfl, hb3⟩)
      | (go_at_call 10; refine (hL _).mono ?_; rintro x w5 ⟨rfl, hb5⟩))
    go_ret
    refine ⟨rfl, ?_⟩
    have h1 := bel_call (hb2.alloc hb2.size _) hb3 (Nat.le_refl _)
    exact bel_call (h1.alloc h1.size _) hb5 (Nat.le_refl _)
set_option maxRecDepth 1000000 in
set_option maxHeartbeats 3200000 in
theorem least_walk {bits p k x y : Nat} {n : Int} {b : Bool} {S SV T SA : ByteArray} {P PV PA : Int} (hZ : SizC b n) (hF : FinC bits n p) (hS : ShC p n S P 0) (hX : Ex5C p n SV PV) (hs : S.size ≤ 100000) (hv : SV.size ≤ 100000) (hp0 : -100000 ≤ PV) (hp1 : PV ≤ 100000)
    (hk : k + 1 = S.size) (h1 : 1 ≤ k) (h2 : k < SV.size) (hT : SV.extract 0 k = T) (hA : AddC T PV ⟨#[49]⟩ (PV - k + 1) SA PA 0) (hx : ReadC T PV n x 0) (hy : ReadC SA PA n y 0) (hxp : x ≠ p) (hyp : y ≠ p) (w : World) :
    Calls Tryd.prog 6 #[.int .u64 bits, .bool b] w fun e w' => e = .returned (.bool true) ∧ Below w.heap.size w w' := by
  have hL := lives5_any
  have hkI : (S.size : Int) - 1 = k := by omega
  have h1I : ¬ (k : Int) < 1 := by omega
  have h2I : ¬ (SV.size : Int) ≤ k := by omega
  have h3I : (k : Int) ≤ SV.size := by omega
  have h4I : (k : Int) ≤ 100000 := by omega
  have b1 : ((x : Int) != (p : Int)) = true := by simp; omega
  have b2 : ((y : Int) != (p : Int)) = true := by simp; omega
  clear hk
  go_enter Tryd.func6, Tryd.ntmps6
  go_wp2_with (first
    | (go_at_call 14; refine (hZ _).mono ?_; rintro e w9 ⟨rfl, rfl⟩)
    | (go_at_call 13; refine (hF _).mono ?_; rintro e w9 ⟨rfl, rfl⟩)
    | (go_at_call 15; refine (hS _).mono ?_; rintro e w2 ⟨rfl, hb2⟩)
    | (go_at_call 16; refine (hX _).mono ?_; rintro e w3 ⟨rfl, hb3⟩))
  go_region
  all_goals go_wp2_with (first
    | (go_at_call 17; (with_reducible refine (hA _).mono ?_); rintro e w4 ⟨rfl, hb4⟩; have bT := keepb hb4 (B := w3.heap.size + 1) (x := .string T) (y := .int .i64 PV) (by simp [BoxD, go_sem]); obtain ⟨a0, a1, a2, a3⟩ := id bT; have hl4 : w3.heap.size + 1 < w4.heap.size := World.block_lt_of_cell? w4 _ a0)
    | (go_at_call 11; (with_reducible refine (hx _).mono ?_); rintro e w5 ⟨rfl, hb5⟩; have bA := keepb hb5 (B := w4.heap.size) (x := .string SA) (y := .int .i64 PA) (by simp [BoxD, go_sem]); obtain ⟨c0, c1, c2, c3⟩ := id bA)
    | (go_at_call 11; (with_reducible refine (hy _).mono ?_); rintro e w6 ⟨rfl, hb6⟩)
    | (go_at_call 10; refine (hL _).mono ?_; rintro e w7 ⟨rfl, hb7⟩))
  all_goals go_ret
  all_goals
    refine ⟨rfl, ?_⟩
    have h1 := bel_call (hb2.alloc hb2.size _) hb3 (Nat.le_refl _)
    have h1 := h1.alloc h1.size (.cells #[.string SV, .int .i64 PV] 28)
    have h1 := h1.alloc h1.size (.cells #[.string T, .int .i64 PV] 28)
    have h1 := bel_call h1.drew hb4 (Nat.le_refl _)
    have h1 := bel_call (h1.alloc h1.size _) hb5 (Nat.le_refl _)
    have h1 := bel_call h1 hb6 (Nat.le_refl _)
    exact bel_call h1 hb7 (Nat.le_refl _)
theorem shortLeast_walk (m0 : Int) (hm0 : (Lit.int .u64 m0).wf = true) (b : Bool) (w : World) :
    Calls Tryd.prog 6 #[.int .u64 m0, .bool b] w fun e w' => e = .returned (.bool true) ∧ Below w.heap.size w w' := by
  obtain ⟨bits, n, f, ww, least, I, p, rfl, h, hp, hZ, hF, f1, f2⟩ := pat_law m0 hm0 b
  obtain ⟨d, hd⟩ := sh_ex (fun x => RD f I (un least) x p) (val f least p)
  have hv := (val_ex h hp).2
  have hl := hd.len
  have hvl := hv.len
  have hv0 := hv.p0
  have hv1 := hv.p1
  have z1 := oS_size d
  have z2 := oS_size (val f least p)
  by_cases hfew : (oL d).length ≤ 1 ∨ (oL (val f least p)).length + 1 ≤ (oL d).length
  · exact least_few hZ hF (shortD h hp hd) (exact5D h hp) (by omega) (by omega) (by omega) w
  · obtain ⟨k, hk⟩ : ∃ k, (oL d).length = k + 1 := ⟨(oL d).length - 1, by omega⟩
    have hk2 : k < (oL (val f least p)).length := by omega
    have hfail := hd.fewer (k := k) (by omega) (by omega) hk2
    obtain ⟨e1, e2, e3⟩ := cutV (Nat.le_of_lt hk2)
    obtain ⟨gB, gA, -, -⟩ := An_good hv (n := k) (by omega) (Nat.le_of_lt hk2)
    obtain ⟨x, hx⟩ := rd_ex f I (un least) (Bn (val f least p) k) (un_pos least)
    obtain ⟨y, hy⟩ := rd_ex f I (un least) (An (val f least p) k) (un_pos least)
    have n1 : normE ((oS (val f least p)).extract 0 k) (oP (val f least p)) = 0 := normE_ok (by omega) e2 (by omega) (by omega)
    have v1 : normV ((oS (val f least p)).extract 0 k) (oP (val f least p)) = Bn (val f least p) k := by rw [normV_ok n1, e1]
    have hR1 : ReadC ((oS (val f least p)).extract 0 k) (oP (val f least p)) n x 0 := fun w => read_ok h (by omega) n1 (by rw [v1]; exact hx) w
    exact least_walk hZ hF (shortD h hp hd) (exact5D h hp) (by omega) (by omega) (by omega) (by omega) (k := k) (by omega) (by omega) (by omega) rfl (nb_add hv (by omega) hk2) hR1 (readD h gA hy) (fun e => hfail.1 (e ▸ hx)) (fun e => hfail.2 (e ▸ hy)) w
end Go.Proofs.YtgcdmeonoiaplaaDoor
