/- FWalkA, BHalf, BNear, SPat, SMath: these texts in one. -/
import Derived.Test.YtiagjheifblkiaaGreatDoorPt25
import Derived.Test.YtiagjheifblkiaaGreatDoorPt2
namespace Go.Proofs.YtiagjheifblkiaaGreatDoor
open Go.RowKit
set_option linter.unusedVariables false
set_option linter.unusedSimpArgs false
theorem join2 (a b : ByteArray) : (⟨(Lib.join ([a, b].map (·.data.toList)) (⟨#[]⟩ : ByteArray).data.toList).toArray⟩ : ByteArray) = a ++ b := by
 apply ByteArray.ext; apply Array.ext'
 rw [app_list]
 simp [Lib.join_cons, Lib.joinTail]
theorem join3 (a b c : ByteArray) : (⟨(Lib.join ([a, b, c].map (·.data.toList)) (⟨#[]⟩ : ByteArray).data.toList).toArray⟩ : ByteArray) = (a ++ b) ++ c := by
 apply ByteArray.ext; apply Array.ext'
 rw [app_list, app_list]
 simp [Lib.join_cons, Lib.joinTail]
theorem join4 (a b c d : ByteArray) : (⟨(Lib.join ([a, b, c, d].map (·.data.toList)) (⟨#[]⟩ : ByteArray).data.toList).toArray⟩ : ByteArray) = ((a ++ b) ++ c) ++ d := by
 apply ByteArray.ext; apply Array.ext'
 rw [app_list, app_list, app_list]
 simp [Lib.join_cons, Lib.joinTail]
theorem join_size {xs : List ByteArray} {r : ByteArray} (h : (⟨(Lib.join (xs.map (·.data.toList)) (⟨#[]⟩ : ByteArray).data.toList).toArray⟩ : ByteArray) = r) (hr : r.size ≤ 100000000) : (Lib.join (xs.map (·.data.toList)) (⟨#[]⟩ : ByteArray).data.toList).length ≤ 140737488355328 := by
 have := congrArg ByteArray.size h
 rw [mk_size] at this
 omega
set_option maxRecDepth 1000000 in
theorem together2 {a b : ByteArray} {bk : Nat} (w : World) (h0 : w.cell? ⟨bk, 0, none⟩ = some (.string a)) (h1 : w.cell? ⟨bk, 1, none⟩ = some (.string b)) (hz : a.size + b.size ≤ 10000000) :
  Calls Tryz.prog 286 #[.slice (some ⟨bk, 0, none⟩) 2 2] w fun e w' => e = .returned (.string (a ++ b)) ∧ Below w.heap.size w w' := by
 have hJ := Tryz.strings_Join bk 0 2 [a, b] ⟨#[]⟩ w (by
  intro j x hj
  match j, hj with
  | 0, hj => simp at hj; subst hj; exact h0
  | 1, hj => simp at hj; subst hj; exact h1
  | j + 2, hj => simp at hj) (World.block_lt_of_cell? w _ h0) (by simp) (by simp) (join_size (join2 a b) (by rw [app_size]; omega))
 rw [join2] at hJ
 generalize a ++ b = r at *
 go_enter Tryz.func286, Tryz.ntmps286
 go_wp2_with (go_at_call 132; refine hJ.mono ?_; rintro e w2 ⟨rfl, hb⟩)
 go_ret
 exact ⟨rfl, hb⟩
set_option maxRecDepth 1000000 in
theorem together3 {a b c : ByteArray} {bk : Nat} (w : World) (h0 : w.cell? ⟨bk, 0, none⟩ = some (.string a)) (h1 : w.cell? ⟨bk, 1, none⟩ = some (.string b)) (h2 : w.cell? ⟨bk, 2, none⟩ = some (.string c)) (hz : a.size + b.size + c.size ≤ 10000000) :
  Calls Tryz.prog 286 #[.slice (some ⟨bk, 0, none⟩) 3 3] w fun e w' => e = .returned (.string ((a ++ b) ++ c)) ∧ Below w.heap.size w w' := by
 have hJ := Tryz.strings_Join bk 0 3 [a, b, c] ⟨#[]⟩ w (by
  intro j x hj
  match j, hj with
  | 0, hj => simp at hj; subst hj; exact h0
  | 1, hj => simp at hj; subst hj; exact h1
  | 2, hj => simp at hj; subst hj; exact h2
  | j + 3, hj => simp at hj) (World.block_lt_of_cell? w _ h0) (by simp) (by simp) (join_size (join3 a b c) (by rw [app_size, app_size]; omega))
 rw [join3] at hJ
 generalize (a ++ b) ++ c = r at *
 go_enter Tryz.func286, Tryz.ntmps286
 go_wp2_with (go_at_call 132; refine hJ.mono ?_; rintro e w2 ⟨rfl, hb⟩)
 go_ret
 exact ⟨rfl, hb⟩
set_option maxRecDepth 1000000 in
theorem together4 {a b c d : ByteArray} {bk : Nat} (w : World) (h0 : w.cell? ⟨bk, 0, none⟩ = some (.string a)) (h1 : w.cell? ⟨bk, 1, none⟩ = some (.string b)) (h2 : w.cell? ⟨bk, 2, none⟩ = some (.string c)) (h3 : w.cell? ⟨bk, 3, none⟩ = some (.string d)) (hz : a.size + b.size + c.size + d.size ≤ 10000000) :
  Calls Tryz.prog 286 #[.slice (some ⟨bk, 0, none⟩) 4 4] w fun e w' => e = .returned (.string (((a ++ b) ++ c) ++ d)) ∧ Below w.heap.size w w' := by
 have hJ := Tryz.strings_Join bk 0 4 [a, b, c, d] ⟨#[]⟩ w (by
  intro j x hj
  match j, hj with
  | 0, hj => simp at hj; subst hj; exact h0
  | 1, hj => simp at hj; subst hj; exact h1
  | 2, hj => simp at hj; subst hj; exact h2
  | 3, hj => simp at hj; subst hj; exact h3
  | j + 4, hj => simp at hj) (World.block_lt_of_cell? w _ h0) (by simp) (by simp) (join_size (join4 a b c d) (by rw [app_size, app_size, app_size]; omega))
 rw [join4] at hJ
 generalize ((a ++ b) ++ c) ++ d = r at *
 go_enter Tryz.func286, Tryz.ntmps286
 go_wp2_with (go_at_call 132; refine hJ.mono ?_; rintro e w2 ⟨rfl, hb⟩)
 go_ret
 exact ⟨rfl, hb⟩
set_option maxRecDepth 1000000 in
theorem fnoughts_any (n : Int) (w : World) (hn : n ≤ 1000000) :
  Calls Tryz.prog 356 #[.int .i64 n] w fun e w' => e = .returned (.string (run 48 n.toNat)) ∧ Below w.heap.size w w' := by
 have hR : ∀ w, Calls Tryz.prog 70 #[.string ⟨#[48]⟩, .int .i64 (max n 0)] w fun e w' => e = .returned (.string (run 48 n.toNat)) ∧ Below w.heap.size w w' := fun w => by
  have hz : (⟨#[48]⟩ : ByteArray).size = 1 := rfl
  have e0 : max n 0 = (n.toNat : Int) := by omega
  rw [e0]
  refine (Tryz.strings_Repeat ⟨#[48]⟩ n.toNat w (by omega) (by rw [hz]; omega)).mono ?_
  rintro e w' ⟨rfl, hb⟩
  refine ⟨ret_str ?_, hb⟩
  have e : (⟨#[48]⟩ : ByteArray).data.toList = List.replicate 1 48 := rfl
  rw [e, Lib.repeatL_replicate, Nat.mul_one]
  unfold run
  apply ByteArray.ext; apply Array.ext'; simp
 generalize run 48 n.toNat = r at *
 go_enter Tryz.func356, Tryz.ntmps356
 go_wp2_with (go_at_call 70; refine (hR _).mono ?_; rintro e w2 ⟨rfl, hb⟩)
 go_ret
 exact ⟨rfl, hb⟩
abbrev NoC (n : Int) (r : ByteArray) : Prop := ∀ w, Calls Tryz.prog 356 #[.int .i64 n] w fun e w' => e = .returned (.string r) ∧ Below w.heap.size w w'
set_option maxRecDepth 1000000 in
theorem flen_any (s : ByteArray) (n : Int) (w : World) (hs : s.size ≤ 1000000) (h0 : -1000000 ≤ n) (h1 : n ≤ 1000000) :
  Calls Tryz.prog 328 #[.string s, .int .i64 n] w fun e w' => e = .returned (.string (lnA s n)) ∧ Below w.heap.size w w' := by
 have hN : NoC (n - (s.size : Nat)) (run 48 (n - (s.size : Nat)).toNat) := fun w => fnoughts_any _ w (by omega)
 have hz : (run 48 (n - (s.size : Nat)).toNat).size + s.size ≤ 10000000 := by rw [run_size]; omega
 unfold lnA
 generalize run 48 (n - (s.size : Nat)).toNat = r at *
 go_enter Tryz.func328, Tryz.ntmps328
 go_wp2_with (first
  | (go_at_call 356; refine (hN _).mono ?_; rintro e w2 ⟨rfl, hb2⟩)
  | (go_at_call 286; refine (together2 (a := r) (b := s) _ (by simp) (by simp) hz).mono ?_; rintro e w3 ⟨rfl, hb3⟩))
 go_ret
 exact ⟨rfl, bel_call (hb2.alloc hb2.size _) hb3 (Nat.le_refl _)⟩
set_option maxRecDepth 1000000 in
theorem flenB_any (s : ByteArray) (n : Int) (w : World) (hs : s.size ≤ 1000000) (h0 : -1000000 ≤ n) (h1 : n ≤ 1000000) :
  Calls Tryz.prog 344 #[.string s, .int .i64 n] w fun e w' => e = .returned (.string (lnB s n)) ∧ Below w.heap.size w w' := by
 have hN : NoC (n - (s.size : Nat)) (run 48 (n - (s.size : Nat)).toNat) := fun w => fnoughts_any _ w (by omega)
 have hz : s.size + (run 48 (n - (s.size : Nat)).toNat).size ≤ 10000000 := by rw [run_size]; omega
 unfold lnB
 generalize run 48 (n - (s.size : Nat)).toNat = r at *
 go_enter Tryz.func344, Tryz.ntmps344
 go_wp2_with (first
  | (go_at_call 356; refine (hN _).mono ?_; rintro e w2 ⟨rfl, hb2⟩)
  | (go_at_call 286; refine (together2 (a := s) (b := r) _ (by simp) (by simp) hz).mono ?_; rintro e w3 ⟨rfl, hb3⟩))
 go_ret
 exact ⟨rfl, bel_call (hb2.alloc hb2.size _) hb3 (Nat.le_refl _)⟩
abbrev LaC (s : ByteArray) (n : Int) (r : ByteArray) : Prop := ∀ w, Calls Tryz.prog 328 #[.string s, .int .i64 n] w fun e w' => e = .returned (.string r) ∧ Below w.heap.size w w'
abbrev LbC (s : ByteArray) (n : Int) (r : ByteArray) : Prop := ∀ w, Calls Tryz.prog 344 #[.string s, .int .i64 n] w fun e w' => e = .returned (.string r) ∧ Below w.heap.size w w'
abbrev DgC (n : Int) (b : Int) (r : ByteArray) : Prop := ∀ w, Calls Tryz.prog 336 #[.int .u64 n, .int .i64 b] w fun e w' => e = .returned (.string r) ∧ Below w.heap.size w w'
set_option maxRecDepth 1000000 in
theorem fsigned_any (n least : Int) (w : World) (h0 : -1000000 ≤ n) (h1 : n ≤ 1000000) (hl : least ≤ 10) (hl0 : 0 ≤ least) :
  Calls Tryz.prog 349 #[.int .i64 n, .int .i64 least] w fun e w' => e = .returned (.string (sgd n least)) ∧ Below w.heap.size w w' := by
 have hdB := digT_size false 10 n.natAbs
 have hD : DgC (n.natAbs : Nat) 10 (digT false 10 n.natAbs) := fun w => idigits_any n.natAbs 10 w (by omega) (.inr (.inr (.inl rfl)))
 have hL : LaC (digT false 10 n.natAbs) least (lnA (digT false 10 n.natAbs) least) := fun w => flen_any _ _ w (by omega) (by omega) (by omega)
 have hz := lnA_size (digT false 10 n.natAbs) least
 have hz2 : (lnA (digT false 10 n.natAbs) least).size ≤ 100 := by omega
 unfold sgd sx1
 clear hz
 generalize lnA (digT false 10 n.natAbs) least = r at *
 generalize digT false 10 n.natAbs = t at *
 by_cases hn : n < 0
 ·have e0 : ((n.natAbs : Nat) : Int) = -n := by omega
  rw [e0] at hD
  rw [if_pos hn]
  go_enter Tryz.func349, Tryz.ntmps349
  go_wp2_with (first
   | (go_at_call 336; refine (hD _).mono ?_; rintro e w2 ⟨rfl, hb2⟩)
   | (go_at_call 328; refine (hL _).mono ?_; rintro e w3 ⟨rfl, hb3⟩)
   | (go_at_call 286; refine (together2 (a := ⟨#[45]⟩) (b := r) _ (by simp) (by simp) (by rw [show (⟨#[45]⟩ : ByteArray).size = 1 from rfl]; omega)).mono ?_; rintro e w4 ⟨rfl, hb4⟩))
  go_ret
  have h := bel_call hb2 hb3 (Nat.le_refl _)
  exact ⟨rfl, bel_call (h.alloc h.size _) hb4 (Nat.le_refl _)⟩
 ·have e0 : ((n.natAbs : Nat) : Int) = n := by omega
  rw [e0] at hD
  rw [if_neg hn]
  go_enter Tryz.func349, Tryz.ntmps349
  go_wp2_with (first
   | (go_at_call 336; refine (hD _).mono ?_; rintro e w2 ⟨rfl, hb2⟩)
   | (go_at_call 328; refine (hL _).mono ?_; rintro e w3 ⟨rfl, hb3⟩)
   | (go_at_call 286; refine (together2 (a := ⟨#[43]⟩) (b := r) _ (by simp) (by simp) (by rw [show (⟨#[43]⟩ : ByteArray).size = 1 from rfl]; omega)).mono ?_; rintro e w4 ⟨rfl, hb4⟩))
  go_ret
  have h := bel_call hb2 hb3 (Nat.le_refl _)
  exact ⟨rfl, bel_call (h.alloc h.size _) hb4 (Nat.le_refl _)⟩
set_option maxRecDepth 1000000 in
theorem fpointed_any {bits m : Nat} {size e P : Int} {sh : Bool} (a b : ByteArray) (w : World) (ha : a.size ≤ 1000000) (hb : b.size ≤ 1000000) :
  Calls Tryz.prog 347 #[.agg #[.int .u64 (bits : Nat), .int .i64 size, .int .u64 (m : Nat), .int .i64 e, .int .i64 P, .bool sh], .string a, .string b] w fun x w' => x = .returned (.string (ptd sh a b)) ∧ Below w.heap.size w w' := by
 have h1 : (⟨#[46]⟩ : ByteArray).size = 1 := rfl
 have hz : a.size + (⟨#[46]⟩ : ByteArray).size + b.size ≤ 10000000 := by omega
 unfold ptd
 by_cases h0 : b.size = 0
 ·have hue : b.toList.isEmpty = true := empty_yes b h0
  cases sh with
  | false =>
    rw [if_pos ⟨h0, rfl⟩]
    clear h0
    go_enter Tryz.func347, Tryz.ntmps347
    go_wp2
    go_ret
    exact ⟨rfl, by go_grown⟩
  | true =>
    rw [if_neg (by simp)]
    clear h0
    go_enter Tryz.func347, Tryz.ntmps347
    go_wp2_with (go_at_call 286; refine (together3 (a := a) (b := ⟨#[46]⟩) (c := b) _ (by simp) (by simp) (by simp) hz).mono ?_; rintro e w3 ⟨rfl, hb3⟩)
    go_ret
    exact ⟨rfl, bel_call (by go_grown) hb3 (Nat.le_refl _)⟩
 ·have hue : b.toList.isEmpty = false := empty_no b (by omega)
  rw [if_neg (by omega)]
  go_enter Tryz.func347, Tryz.ntmps347
  go_wp2_with (go_at_call 286; refine (together3 (a := a) (b := ⟨#[46]⟩) (c := b) _ (by simp) (by simp) (by simp) hz).mono ?_; rintro e w3 ⟨rfl, hb3⟩)
  go_ret
  exact ⟨rfl, bel_call (by go_grown) hb3 (Nat.le_refl _)⟩
set_option maxRecDepth 1000000 in
theorem faround_any (s : ByteArray) (p : Int) (w : World) (hs : s.size ≤ 100000) (h0 : -100000 ≤ p) (h1 : p ≤ 100000) :
  Calls Tryz.prog 346 #[.string s, .int .i64 p] w fun x w' => x = .returned (.tuple #[.string (arA s p), .string (arB s p)]) ∧ Below w.heap.size w w' := by
 unfold arA arB
 by_cases hp : p ≤ 0
 ·have hL : LaC s ((s.size : Nat) - p) (lnA s ((s.size : Nat) - p)) := fun w => flen_any _ _ w (by omega) (by omega) (by omega)
  rw [if_pos hp, if_pos hp]
  generalize lnA s ((s.size : Nat) - p) = r at *
  go_enter Tryz.func346, Tryz.ntmps346
  go_wp2_with (go_at_call 328; refine (hL _).mono ?_; rintro e w3 ⟨rfl, hb3⟩)
  go_returns
  exact ⟨rfl, hb3⟩
 ·have hL : LbC s p (lnB s p) := fun w => flenB_any _ _ w (by omega) (by omega) (by omega)
  have hz := lnB_size s p
  rw [if_neg hp, if_neg hp]
  obtain ⟨q, rfl⟩ := Int.eq_ofNat_of_zero_le (show 0 ≤ p by omega)
  have hq : (q : Int) ≤ (lnB s q).size := by omega
  have hq2 : q ≤ (lnB s q).size := by omega
  have hz2 : (lnB s q).size ≤ 1000000 := by omega
  clear hz
  generalize lnB s q = r at *
  go_enter Tryz.func346, Tryz.ntmps346
  go_wp2_with (go_at_call 344; refine (hL _).mono ?_; rintro e w3 ⟨rfl, hb3⟩)
  go_region
  all_goals go_wp2
  all_goals go_returns
  all_goals exact ⟨rfl, hb3.drew⟩
end Go.Proofs.YtiagjheifblkiaaGreatDoor
namespace Go.Proofs.YtiagjheifblkiaaGreatDoor
open Go.RowKit
set_option linter.unusedVariables false
set_option linter.unusedSimpArgs false
end Go.Proofs.YtiagjheifblkiaaGreatDoor
namespace Go.Proofs.YtiagjheifblkiaaGreatDoor
open Go.RowKit
set_option linter.unusedVariables false
theorem near_form (v Q : Nat) : ∃ u, near v Q = u * 10 ^ Q ∧ (u = v / 10 ^ Q ∨ u = v / 10 ^ Q + 1) ∧ near v Q + near v Q ≤ v + v + 10 ^ Q ∧ v + v ≤ near v Q + near v Q + 10 ^ Q := by
 have h0 := Nat.div_add_mod v (10 ^ Q)
 rw [Nat.mul_comm] at h0
 have hr : v % 10 ^ Q < 10 ^ Q := Nat.mod_lt _ (pow_pos10 Q)
 unfold near
 by_cases h : 2 * (v % 10 ^ Q) < 10 ^ Q ∨ (2 * (v % 10 ^ Q) = 10 ^ Q ∧ v / 10 ^ Q % 2 = 0)
 ·rw [if_pos h]
  refine ⟨_, rfl, .inl rfl, ?_, ?_⟩
  ·generalize v / 10 ^ Q * 10 ^ Q = b at *; omega
  ·generalize v / 10 ^ Q * 10 ^ Q = b at *; omega
 ·rw [if_neg h]
  refine ⟨v / 10 ^ Q + 1, by rw [Nat.succ_mul], .inr rfl, ?_, ?_⟩
  ·generalize v / 10 ^ Q * 10 ^ Q = b at *; omega
  ·generalize v / 10 ^ Q * 10 ^ Q = b at *; omega
theorem near_top {v Q n : Nat} (hv : v < 10 ^ (Q + n)) : ∃ u, near v Q = u * 10 ^ Q ∧ u ≤ 10 ^ n ∧ near v Q + near v Q ≤ v + v + 10 ^ Q ∧ v + v ≤ near v Q + near v Q + 10 ^ Q := by
 obtain ⟨u, h1, h2, h3, h4⟩ := near_form v Q
 have : v / 10 ^ Q < 10 ^ n := Nat.div_lt_of_lt_mul (by rw [← Nat.pow_add]; exact hv)
 exact ⟨u, h1, by omega, h3, h4⟩
theorem rnd_near {v n Q : Nat} (hQ : oP v - n + 10000 = (Q : Int)) : rnd v n = near v Q := by
 unfold rnd
 rw [if_neg (by omega)]
 by_cases h : ((oL v).length : Int) ≤ n
 ·rw [if_pos h, near_whole ((o_dec v).mod (by omega))]
 ·rw [if_neg h, hQ]; rfl
abbrev RoundC (s : ByteArray) (p n : Int) (S : ByteArray) (P E : Int) : Prop := ∀ w, Calls Tryz.prog 11 #[.agg #[.string s, .int .i64 p], .int .i64 n] w fun e w' => e = .returned (.tuple #[.agg #[.string S, .int .i64 P], .int .i64 E]) ∧ Below w.heap.size w w'
abbrev PlacesC (s : ByteArray) (p n : Int) (S : ByteArray) (P E : Int) : Prop := ∀ w, Calls Tryz.prog 12 #[.agg #[.string s, .int .i64 p], .int .i64 n] w fun e w' => e = .returned (.tuple #[.agg #[.string S, .int .i64 P], .int .i64 E]) ∧ Below w.heap.size w w'
theorem roundC {v : Nat} (n : Int) (g : Good v) : RoundC (oS v) (oP v) n (oS (rnd v n)) (oP (rnd v n)) 0 := fun w => by
 have := round_any (oS v) (oP v) n w (oS_fit v g)
 rw [g.normE, g.normV] at this
 have e : bV 0 (rnd v n) = rnd v n := if_pos rfl
 rw [e] at this; exact this
theorem placesC {v : Nat} (n : Int) (g : Good v) : PlacesC (oS v) (oP v) n (oS (plc v n)) (oP (plc v n)) 0 := fun w => by
 have := places_any (oS v) (oP v) n w (oS_fit v g)
 rw [g.normE, g.normV] at this
 have e : bV 0 (plc v n) = plc v n := if_pos rfl
 rw [e] at this; exact this
end Go.Proofs.YtiagjheifblkiaaGreatDoor
namespace Go.Proofs.YtiagjheifblkiaaGreatDoor
open Go.RowKit
set_option linter.unusedVariables false
def pm (f p : Nat) : Nat := if p / 2 ^ f = 0 then p % 2 ^ f else 2 ^ f + p % 2 ^ f
def pk (f p : Nat) : Nat := p / 2 ^ f - 1
def pq (f p : Nat) : Nat := pm f p * 2 ^ pk f p
def pa (f p : Nat) : Nat := (2 * pm f p + 1) * 2 ^ pk f p
theorem pow_pos2 (n : Nat) : 0 < 2 ^ n := Nat.pow_pos (by decide)
theorem pm_lt (f p : Nat) : pm f p < 2 ^ (f + 1) := by
 have h := Nat.mod_lt p (pow_pos2 f)
 unfold pm
 rw [Nat.pow_succ]
 split <;> omega
theorem pq_next (f p : Nat) : pq f (p + 1) = (pm f p + 1) * 2 ^ pk f p := by
 have hp := pow_pos2 f
 have h0 := Nat.div_add_mod p (2 ^ f)
 have h1 := Nat.mod_lt p hp
 unfold pq
 rcases Nat.lt_or_ge (p % 2 ^ f + 1) (2 ^ f) with h | h
 ·have e1 : (p + 1) / 2 ^ f = p / 2 ^ f := by
   rw [Nat.div_eq_iff hp]
   have : p / 2 ^ f * 2 ^ f = 2 ^ f * (p / 2 ^ f) := Nat.mul_comm ..
   omega
  have e2 : (p + 1) % 2 ^ f = p % 2 ^ f + 1 := by
   have := Nat.div_add_mod (p + 1) (2 ^ f)
   rw [e1] at this; omega
  unfold pm pk
  rw [e1, e2]
  split <;> (congr 1)
 ·have e0 : p % 2 ^ f + 1 = 2 ^ f := by omega
  have e3 : p + 1 = 2 ^ f * (p / 2 ^ f + 1) := by rw [Nat.mul_add, Nat.mul_one]; omega
  have e1 : (p + 1) / 2 ^ f = p / 2 ^ f + 1 := by rw [e3, Nat.mul_div_cancel_left _ hp]
  have e2 : (p + 1) % 2 ^ f = 0 := by rw [e3]; exact Nat.mul_mod_right _ _
  unfold pm pk
  rw [e1, e2, if_neg (Nat.succ_ne_zero _)]
  by_cases hE : p / 2 ^ f = 0
  ·rw [if_pos hE, hE, e0]; rfl
  ·rw [if_neg hE]
   obtain ⟨k, hk⟩ : ∃ k, p / 2 ^ f = k + 1 := Nat.exists_eq_succ_of_ne_zero ‹_›
   rw [hk, show k + 1 + 1 - 1 = k + 1 by omega, show k + 1 - 1 = k by omega, Nat.add_zero, Nat.add_assoc, e0, Nat.pow_succ 2 k, Nat.mul_comm (2 ^ k) 2, ← Nat.mul_assoc, Nat.mul_two]
theorem pq_succ (f p : Nat) : pq f (p + 1) = pq f p + 2 ^ pk f p := by rw [pq_next, Nat.add_mul, Nat.one_mul]; rfl
theorem pa_eq (f p : Nat) : pa f p = 2 * pq f p + 2 ^ pk f p := by unfold pa pq; rw [Nat.add_mul, Nat.one_mul, Nat.mul_assoc]
theorem pa_up (f p : Nat) : pa f p + 2 ^ pk f p = 2 * pq f (p + 1) := by rw [pa_eq, pq_succ]; omega
theorem pk_mono (f : Nat) {p q : Nat} (h : p ≤ q) : 2 ^ pk f p ≤ 2 ^ pk f q :=
 Nat.pow_le_pow_right (by decide) (by unfold pk; have := Nat.div_le_div_right (c := 2 ^ f) h; omega)
theorem pa_lt_succ (f p : Nat) : pa f p < pa f (p + 1) := by
 have h1 := pa_up f p
 have h2 := pa_eq f (p + 1)
 have := pow_pos2 (pk f p)
 have := pow_pos2 (pk f (p + 1))
 omega
theorem pa_mono (f : Nat) {p q : Nat} (h : p < q) : pa f p < pa f q := by
 induction h with
 | refl => exact pa_lt_succ f p
 | step _ ih => exact Nat.lt_trans ih (pa_lt_succ f _)
def TG (f u v p : Nat) : Prop := v < pa f (p - 1) * u ∨ (v = pa f (p - 1) * u ∧ p % 2 = 1)
def RD (f I u v r : Nat) : Prop := r ≤ I ∧ (r = 0 ∨ ¬ TG f u v r) ∧ (r = I ∨ TG f u v (r + 1))
theorem TG.mono {f u v p q : Nat} (hu : 0 < u) (hp : 1 ≤ p) (h : p ≤ q) (t : TG f u v p) : TG f u v q := by
 rcases Nat.eq_or_lt_of_le h with rfl | h
 ·exact t
 ·have h1 := Nat.mul_lt_mul_of_pos_right (pa_mono f (show p - 1 < q - 1 by omega)) hu
  refine .inl ?_
  rcases t with t | ⟨t, -⟩ <;> omega
theorem RD.uniq {f I u v r s : Nat} (hu : 0 < u) (h : RD f I u v r) (k : RD f I u v s) : r = s := by
 have key : ∀ {r s : Nat}, RD f I u v r → RD f I u v s → ¬ r < s := by
  intro r s h k hlt
  have h1 : TG f u v (r + 1) := by rcases h.2.2 with e | t; · have := k.1; omega
                                   ·exact t
  rcases k.2.1 with e | t
  ·omega
  ·exact t (h1.mono hu (by omega) (by omega))
 have a := key h k
 have b := key k h
 omega
theorem RD.mono {f I u v v' r s : Nat} (hu : 0 < u) (h : RD f I u v r) (k : RD f I u v' s) (hv : v ≤ v') : r ≤ s := by
 rcases Nat.lt_or_ge s r with hlt | hge
 ·exfalso
  have h1 : TG f u v' (s + 1) := by rcases k.2.2 with e | t; · have := h.1; omega
                                    ·exact t
  have h2 : TG f u v (s + 1) := by
   rcases h1 with t | ⟨t1, t2⟩
   ·exact .inl (by omega)
   ·rcases Nat.eq_or_lt_of_le hv with e | e
    ·exact .inr ⟨by omega, t2⟩
    ·exact .inl (by omega)
  rcases h.2.1 with e | t
  ·omega
  ·exact t (h2.mono hu (by omega) (by omega))
 ·exact hge
theorem RD_in {f I u v p : Nat} (hp : p < I) : RD f I u v (p + 1 - 1) ↔ ¬ (p ≠ 0 ∧ TG f u v p) ∧ TG f u v (p + 1) := by
 rw [Nat.add_sub_cancel]
 unfold RD
 constructor
 ·rintro ⟨h1, h2, h3⟩
  refine ⟨?_, ?_⟩
  ·rintro ⟨a, b⟩
   rcases h2 with h2 | h2
   ·exact a h2
   ·exact h2 b
  ·rcases h3 with h3 | h3
   ·omega
   ·exact h3
 ·rintro ⟨h1, h2⟩
  refine ⟨by omega, ?_, .inr h2⟩
  by_cases h0 : p = 0
  ·exact .inl h0
  ·exact .inr fun t => h1 ⟨h0, t⟩
theorem RD_bounds {f I u v p : Nat} (h0 : p ≠ 0) (hp : p < I) :
  RD f I u v p ↔ if p % 2 = 0 then pa f (p - 1) * u ≤ v ∧ v ≤ pa f p * u else pa f (p - 1) * u < v ∧ v < pa f p * u := by
 have := RD_in (f := f) (u := u) (v := v) hp
 rw [Nat.add_sub_cancel] at this
 rw [this]
 unfold TG
 rw [Nat.add_sub_cancel]
 by_cases he : p % 2 = 0
 ·rw [if_pos he]; omega
 ·rw [if_neg he]; omega
end Go.Proofs.YtiagjheifblkiaaGreatDoor
namespace Go.Proofs.YtiagjheifblkiaaGreatDoor
open Go.RowKit
set_option linter.unusedVariables false
def Qn (v n : Nat) : Nat := (oP v - n + 10000).toNat
def Bn (v n : Nat) : Nat := v / 10 ^ Qn v n * 10 ^ Qn v n
def An (v n : Nat) : Nat := Bn v n + 10 ^ Qn v n
def failN (R : Nat → Prop) (v n : Nat) : Prop := ¬ R (Bn v n) ∧ ¬ R (An v n)
def pickN (R : Nat → Prop) (v n d : Nat) : Prop := (R (Bn v n) ∧ (¬ R (An v n) ∨ near v (Qn v n) = Bn v n) ∧ d = Bn v n) ∨ (¬ (R (Bn v n) ∧ (¬ R (An v n) ∨ near v (Qn v n) = Bn v n)) ∧ d = An v n)
def SH (R : Nat → Prop) (v d : Nat) : Prop :=
 (∃ n, 1 ≤ n ∧ n < (oL v).length ∧ (∀ j, 1 ≤ j → j < n → failN R v j) ∧ ¬ failN R v n ∧ pickN R v n d) ∨ ((∀ j, 1 ≤ j → j < (oL v).length → failN R v j) ∧ d = v)
theorem pick_ex (R : Nat → Prop) (v n : Nat) : ∃ d, pickN R v n d := by
 by_cases h : R (Bn v n) ∧ (¬ R (An v n) ∨ near v (Qn v n) = Bn v n)
 ·exact ⟨_, .inl ⟨h.1, h.2, rfl⟩⟩
 ·exact ⟨_, .inr ⟨h, rfl⟩⟩
theorem pick_uniq {R : Nat → Prop} {v n d e : Nat} (h : pickN R v n d) (k : pickN R v n e) : d = e := by
 rcases h with ⟨a, b, rfl⟩ | ⟨a, rfl⟩ <;> rcases k with ⟨a', b', rfl⟩ | ⟨a', rfl⟩
 ·rfl
 ·exact absurd ⟨a, b⟩ a'
 ·exact absurd ⟨a', b'⟩ a
 ·rfl
theorem sh_ex (R : Nat → Prop) (v : Nat) : ∃ d, SH R v d := by
 have key : ∀ N, (∀ j, 1 ≤ j → j < N → failN R v j) ∨ ∃ n, 1 ≤ n ∧ n < N ∧ (∀ j, 1 ≤ j → j < n → failN R v j) ∧ ¬ failN R v n := by
  intro N
  induction N with
  | zero => exact .inl fun j _ h => by omega
  | succ N ih =>
    rcases ih with h | ⟨n, h1, h2, h3, h4⟩
    ·by_cases hN : 1 ≤ N ∧ ¬ failN R v N
     ·exact .inr ⟨N, hN.1, by omega, h, hN.2⟩
     ·refine .inl fun j h1 h2 => ?_
      rcases Nat.lt_or_ge j N with h3 | h3
      ·exact h j h1 h3
      ·obtain rfl : j = N := by omega
       exact Classical.byContradiction fun hc => hN ⟨h1, hc⟩
    ·exact .inr ⟨n, h1, by omega, h3, h4⟩
 rcases key (oL v).length with h | ⟨n, h1, h2, h3, h4⟩
 ·exact ⟨v, .inr ⟨h, rfl⟩⟩
 ·obtain ⟨d, hdB⟩ := pick_ex R v n
  exact ⟨d, .inl ⟨n, h1, h2, h3, h4, hdB⟩⟩
theorem SH.at {R : Nat → Prop} {v d n : Nat} (h : SH R v d) (h1 : 1 ≤ n) (h2 : n < (oL v).length) (hf : ∀ j, 1 ≤ j → j < n → failN R v j) (hn : ¬ failN R v n) : pickN R v n d := by
 rcases h with ⟨k, k1, k2, k3, k4, k5⟩ | ⟨k1, k2⟩
 ·rcases Nat.lt_trichotomy n k with h | h | h
  ·exact absurd (k3 n h1 h) hn
  ·subst h; exact k5
  ·exact absurd (hf k k1 h) k4
 ·exact absurd (k1 n h1 h2) hn
theorem SH.all {R : Nat → Prop} {v d : Nat} (h : SH R v d) (hf : ∀ j, 1 ≤ j → j < (oL v).length → failN R v j) : d = v := by
 rcases h with ⟨k, k1, k2, k3, k4, k5⟩ | ⟨k1, k2⟩
 ·exact absurd (hf k k1 k2) k4
 ·exact k2
structure Bd (R : Nat → Prop) (v g1 g2 : Nat) : Prop where
 le : g1 ≤ g2
 pos : 0 < g1
 mem : ∃ ev : Bool, ∀ x, R x ↔ if ev then v ≤ x + g1 ∧ x ≤ v + g2 else v < x + g1 ∧ x < v + g2
theorem Bd.near {R : Nat → Prop} {v g1 g2 x : Nat} (h : Bd R v g1 g2) (h1 : v < x + g1) (h2 : x < v + g1) : R x := by
 obtain ⟨ev, hev⟩ := h.mem
 have := h.le
 rw [hev]; cases ev <;> simp <;> omega
theorem near_is (v n : Nat) : near v (Qn v n) = Bn v n ∨ (near v (Qn v n) = An v n ∧ near v (Qn v n) ≠ Bn v n ∧ 10 ^ Qn v n ≤ 2 * (v - Bn v n)) := by
 have h0 := Nat.div_add_mod v (10 ^ Qn v n)
 have hp := pow_pos10 (Qn v n)
 rw [Nat.mul_comm] at h0
 unfold near An Bn
 by_cases h : 2 * (v % 10 ^ Qn v n) < 10 ^ Qn v n ∨ (2 * (v % 10 ^ Qn v n) = 10 ^ Qn v n ∧ v / 10 ^ Qn v n % 2 = 0)
 ·rw [if_pos h]; exact .inl rfl
 ·rw [if_neg h]
  refine .inr ⟨rfl, ?_, ?_⟩
  ·generalize v / 10 ^ Qn v n * 10 ^ Qn v n = b at *; omega
  ·generalize v / 10 ^ Qn v n * 10 ^ Qn v n = b at *; omega
theorem Bn_le (v n : Nat) : Bn v n ≤ v ∧ v < An v n := by
 have h0 := Nat.div_add_mod v (10 ^ Qn v n)
 have h1 := Nat.mod_lt v (pow_pos10 (Qn v n))
 rw [Nat.mul_comm] at h0
 unfold An Bn
 generalize v / 10 ^ Qn v n * 10 ^ Qn v n = b at *
 omega
theorem Bd.key {R : Nat → Prop} {v g1 g2 n : Nat} (h : Bd R v g1 g2) (hn : 10 ^ Qn v n ≤ 2 * (v - Bn v n)) (hB : R (Bn v n)) : R (An v n) := by
 obtain ⟨ev, hev⟩ := h.mem
 have := h.le; have := h.pos
 have hb := Bn_le v n
 rw [hev] at hB ⊢
 unfold An at *
 cases ev
 ·simp only [Bool.false_eq_true, if_false] at hB ⊢
  omega
 ·simp only [if_true] at hB ⊢
  omega
theorem pick_near {R : Nat → Prop} {v g1 g2 n : Nat} (h : Bd R v g1 g2) (hR : R (near v (Qn v n))) : pickN R v n (near v (Qn v n)) ∧ ¬ failN R v n := by
 rcases near_is v n with e | ⟨e, ne, -⟩
 ·exact ⟨.inl ⟨e ▸ hR, .inr e, e⟩, fun f => f.1 (e ▸ hR)⟩
 ·refine ⟨.inr ⟨?_, e⟩, fun f => f.2 (e ▸ hR)⟩
  rintro ⟨-, h1 | h1⟩
  ·exact h1 (e ▸ hR)
  ·exact ne h1
theorem pick_above {R : Nat → Prop} {v g1 g2 n : Nat} (h : Bd R v g1 g2) (hR : ¬ R (near v (Qn v n))) (hA : R (An v n)) : pickN R v n (An v n) ∧ ¬ failN R v n := by
 refine ⟨.inr ⟨?_, rfl⟩, fun f => f.2 hA⟩
 rintro ⟨h1, h2⟩
 rcases near_is v n with e | ⟨e, ne, -⟩
 ·exact hR (e ▸ h1)
 ·exact hR (e ▸ hA)
theorem pick_none {R : Nat → Prop} {v g1 g2 n : Nat} (h : Bd R v g1 g2) (hR : ¬ R (near v (Qn v n))) (hA : ¬ R (An v n)) : failN R v n := by
 refine ⟨fun hB => ?_, hA⟩
 rcases near_is v n with e | ⟨e, ne, hn⟩
 ·exact hR (e ▸ hB)
 ·exact hA (h.key hn hB)
end Go.Proofs.YtiagjheifblkiaaGreatDoor
