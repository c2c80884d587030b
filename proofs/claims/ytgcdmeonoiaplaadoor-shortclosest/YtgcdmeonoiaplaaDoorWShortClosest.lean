/- The walk of the law ShortClosest. -/
import Derived.Test.YtgcdmeonoiaplaaDoorSExact
namespace Go.Proofs.YtgcdmeonoiaplaaDoor
open Go.RowKit
set_option linter.unusedVariables false
set_option linter.unusedSimpArgs false

set_option maxRecDepth 1000000 in
set_option maxHeartbeats 1600000 in
theorem closest_walk {bits p q : Nat} {n : Int} {b : Bool} {S SV SN : ByteArray} {P PV PN : Int} (hZ : SizC b n) (hF : FinC bits n p) (hS : ShC p n S P 0) (hX : Ex5C p n SV PV) (hR : RoundC SV PV S.size SN PN 0) (hQ : ReadC SN PN n q 0) (hs : S.size ≤ 100000)
    (hh : (SN = S ∧ PN = P) ∨ (¬ (SN = S ∧ PN = P) ∧ q ≠ p)) (w : World) :
    Calls Tryd.prog 7 #[.int .u64 bits, .bool b] w fun e w' => e = .returned (.bool true) ∧ Below w.heap.size w w' := by
  have hL := lives5_any
  rcases hh with ⟨rfl, rfl⟩ | ⟨hne, hq⟩
  · go_enter Tryd.func7, Tryd.ntmps7
    go_wp2_with (first
      | (go_at_call 14; refine (hZ _).mono ?_; rintro x w9 ⟨rfl, rfl⟩)
      | (go_at_call 13; refine (hF _).mono ?_; rintro x w9 ⟨rfl, rfl⟩)
      | (go_at_call 15; refine (hS _).mono ?_; rintro x w2 ⟨rfl, hb2⟩)
      | (go_at_call 16; refine (hX _).mono ?_; rintro x w3 ⟨rfl, hb3⟩; have bA := keepb hb3 (B := w2.heap.size) (x := .string SN) (y := .int .i64 PN) (by simp [BoxD, go_sem]); obtain ⟨a0, a1, a2, a3⟩ := id bA; have hl3 : w2.heap.size < w3.heap.size := World.block_lt_of_cell? w3 _ a0)
      | (go_at_call 18; refine (hR _).mono ?_; rintro x w4 ⟨rfl, hb4⟩; obtain ⟨c0, c1, c2, c3⟩ := keepb hb4 (keepb ((Below.refl _ _).alloc (Nat.le_refl _) _) bA); have hl4 : w2.heap.size < w4.heap.size := World.block_lt_of_cell? w4 _ c0)
      | (go_at_call 10; refine (hL _).mono ?_; rintro x w5 ⟨rfl, hb5⟩))
    go_ret
    refine ⟨rfl, ?_⟩
    have h1 := bel_call (hb2.alloc hb2.size _) hb3 (Nat.le_refl _)
    have h1 := bel_call (h1.alloc h1.size _) hb4 (Nat.le_refl _)
    exact bel_call (h1.alloc h1.size _) hb5 (Nat.le_refl _)
  · clear hne
    have b2 : ((q : Int) != (p : Int)) = true := by simp; omega
    go_enter Tryd.func7, Tryd.ntmps7
    go_wp2_with (first
      | (go_at_call 14; refine (hZ _).mono ?_; rintro x w9 ⟨rfl, rfl⟩)
      | (go_at_call 13; refine (hF _).mono ?_; rintro x w9 ⟨rfl, rfl⟩)
      | (go_at_call 15; refine (hS _).mono ?_; rintro x w2 ⟨rfl, hb2⟩)
      | (go_at_call 16; refine (hX _).mono ?_; rintro x w3 ⟨rfl, hb3⟩; have bA := keepb hb3 (B := w2.heap.size) (x := .string S) (y := .int .i64 P) (by simp [BoxD, go_sem]); obtain ⟨a0, a1, a2, a3⟩ := id bA; have hl3 : w2.heap.size < w3.heap.size := World.block_lt_of_cell? w3 _ a0)
      | (go_at_call 18; refine (hR _).mono ?_; rintro x w4 ⟨rfl, hb4⟩; obtain ⟨c0, c1, c2, c3⟩ := keepb hb4 (keepb ((Below.refl _ _).alloc (Nat.le_refl _) _) bA); have hl4 : w2.heap.size < w4.heap.size := World.block_lt_of_cell? w4 _ c0)
      | (go_at_call 11; refine (hQ _).mono ?_; rintro x w6 ⟨rfl, hb6⟩)
      | (go_at_call 10; refine (hL _).mono ?_; rintro x w5 ⟨rfl, hb5⟩))
    all_goals go_ret
    all_goals
      refine ⟨rfl, ?_⟩
      have h1 := bel_call (hb2.alloc hb2.size _) hb3 (Nat.le_refl _)
      have h1 := bel_call (h1.alloc h1.size _) hb4 (Nat.le_refl _)
      first
        | exact bel_call (bel_call (h1.alloc h1.size _) hb6 (Nat.le_refl _)) hb5 (Nat.le_refl _)
        | exact bel_call (h1.alloc h1.size _) hb5 (Nat.le_refl _)
theorem o_inj {x y : Nat} (h1 : oS x = oS y) (h2 : oP x = oP y) : x = y := by
  have e : oL x = oL y := by
    have : (oS x).data.toList = (oS y).data.toList := by rw [h1]
    exact this
  rw [← o_val x, ← o_val y, e, h2]
theorem shortClosest_walk (m0 : Int) (hm0 : (Lit.int .u64 m0).wf = true) (b : Bool) (w : World) :
    Calls Tryd.prog 7 #[.int .u64 m0, .bool b] w fun e w' => e = .returned (.bool true) ∧ Below w.heap.size w w' := by
  obtain ⟨bits, n, f, ww, least, I, p, rfl, h, hp, hZ, hF, f1, f2⟩ := pat_law m0 hm0 b
  obtain ⟨d, hd⟩ := sh_ex (fun x => RD f I (un least) x p) (val f least p)
  have hv := (val_ex h hp).2
  have hl := hd.len
  have hvl := hv.len
  have hR := roundC ((oL d).length : Int) hv.good
  have hgood : Good (rnd (val f least p) (oL d).length) := by
    by_cases hj : (oL d).length = 0
    · have d0 : d = 0 := oL_nil.1 (List.eq_nil_of_length_eq_zero hj)
      have hrd : rnd (val f least p) (oL d).length = 0 ∨ rnd (val f least p) (oL d).length = near (val f least p) (Qn (val f least p) 0) := by
        have q := Qn_eq (v := val f least p) (n := 0) (Nat.zero_le _)
        exact .inr (by rw [hj]; exact rnd_near (by omega))
      rcases hd with ⟨k, k1, k2, k3, k4, k5⟩ | ⟨-, hdv⟩
      · have := pick_len k1 k2 k3 k4 k5; omega
      · rw [← hdv, d0]
        unfold rnd
        rw [if_neg (by omega), if_pos (by rw [o_zero.1]; simp)]
        exact ⟨by rw [o_zero.1]; simp, by rw [o_zero.2]; decide, by rw [o_zero.2]; decide⟩
    · have q := Qn_eq (v := val f least p) (n := (oL d).length) hl
      rw [rnd_near (Q := Qn (val f least p) (oL d).length) (by omega)]
      exact (An_good hv (by omega) hl).2.2.2
  obtain ⟨q, hq⟩ := rd_ex f I (un least) (rnd (val f least p) (oL d).length) (un_pos least)
  have hQ := readD h hgood hq
  rw [← oS_size d] at hR
  refine closest_walk hZ hF (shortD h hp hd) (exact5D h hp) hR hQ (by rw [oS_size]; omega) ?_ w
  rw [oS_size]
  by_cases he : rnd (val f least p) (oL d).length = d
  · rw [he]; exact .inl ⟨rfl, rfl⟩
  · refine .inr ⟨fun k => he (o_inj k.1 k.2), fun k => ?_⟩
    by_cases h0 : p = 0
    · have e : val f least p = 0 := by subst h0; simp [val, pq, pm]
      rw [e] at hd he
      have d0 : d = 0 := hd.all fun j j1 j2 => by rw [o_zero.1] at j2; simp at j2
      refine he ?_
      rw [d0]
      unfold rnd
      rw [if_neg (by omega), if_pos (by rw [o_zero.1]; simp)]
    · have hbd := bd_of (f := f) (I := I) (u := un least) (un_pos least) h0 hp
      rcases SH.closest hbd hd with h1 | h1
      · exact he h1
      · exact h1 (k ▸ hq)
end Go.Proofs.YtgcdmeonoiaplaaDoor
