/- FWalkA, BHalf, BNear, SPat, SMath, SFacts, FMath: these texts in one. -/
import Derived.Test.YthbabhbfpcfenaaGreatDoorPkF8
import Derived.Test.YthbabhbfpcfenaaGreatDoorPkF9
/- The walks of package floats: noughts, texts put together, digits around a point. -/
namespace Go.Proofs.YthbabhbfpcfenaaGreatDoor
open Go.RowKit
set_option linter.unusedVariables false
set_option linter.unusedSimpArgs false

theorem join2 (a b : ByteArray) : (⟨(Lib.join ([a, b].map (·.data.toList)) (⟨#[]⟩ : ByteArray).data.toList).toArray⟩ : ByteArray) = a ++ b := by
  apply ByteArray.ext; apply Array.ext'
  rw [app_list]
  simp [Lib.join_cons, Lib.joinTail]
theorem join3 (a b c : ByteArray) : (⟨(Lib.join ([a, b, c].map (·.data.toList)) (⟨#[]⟩ : ByteArray).data.toList).toArray⟩ : ByteArray) = (a ++ b) ++ c := by
  apply ByteArray.ext; apply Array.ext'
  rw [app_list, app_list]
  simp [Lib.join_cons, Lib.joinTail]
theorem join4 (a b c d : ByteArray) : (⟨(Lib.join ([a, b, c, d].map (·.data.toList)) (⟨#[]⟩ : ByteArray).data.toList).toArray⟩ : ByteArray) = ((a ++ b) ++ c) ++ d := by
  apply ByteArray.ext; apply Array.ext'
  rw [app_list, app_list, app_list]
  simp [Lib.join_cons, Lib.joinTail]
theorem join_size {xs : List ByteArray} {r : ByteArray} (h : (⟨(Lib.join (xs.map (·.data.toList)) (⟨#[]⟩ : ByteArray).data.toList).toArray⟩ : ByteArray) = r) (hr : r.size ≤ 100000000) : (Lib.join (xs.map (·.data.toList)) (⟨#[]⟩ : ByteArray).data.toList).length ≤ 140737488355328 := by
  have := congrArg ByteArray.size h
  rw [mk_size] at this
  omega
set_option maxRecDepth 1000000 in
theorem together2 {a b : ByteArray} {bk : Nat} (w : World) (h0 : w.cell? ⟨bk, 0, none⟩ = some (.string a)) (h1 : w.cell? ⟨bk, 1, none⟩ = some (.string b)) (hz : a.size + b.size ≤ 10000000) :
    Calls Tryz.prog 24 #[.slice (some ⟨bk, 0, none⟩) 2 2] w fun e w' => e = .returned (.string (a ++ b)) ∧ Below w.heap.size w w' := by
  have hJ := Tryz.strings_Join bk 0 2 [a, b] ⟨#[]⟩ w (by
    intro j x hj
    match j, hj with
    | 0, hj => simp at hj; subst hj; exact h0
    | 1, hj => simp at hj; subst hj; exact h1
    | j + 2, hj => simp at hj) (World.block_lt_of_cell? w _ h0) (by simp) (by simp) (join_size (join2 a b) (by rw [app_size]; omega))
  rw [join2] at hJ
  generalize a ++ b = r at *
  go_enter Tryz.func24, Tryz.ntmps24
  go_wp2_with (go_at_call 48; refine hJ.mono ?_; rintro e w2 ⟨rfl, hb⟩)
  go_ret
  exact ⟨rfl, hb⟩
set_option maxRecDepth 1000000 in
theorem together3 {a b c : ByteArray} {bk : Nat} (w : World) (h0 : w.cell? ⟨bk, 0, none⟩ = some (.string a)) (h1 : w.cell? ⟨bk, 1, none⟩ = some (.string b)) (h2 : w.cell? ⟨bk, 2, none⟩ = some (.string c)) (hz : a.size + b.size + c.size ≤ 10000000) :
    Calls Tryz.prog 24 #[.slice (some ⟨bk, 0, none⟩) 3 3] w fun e w' => e = .returned (.string ((a ++ b) ++ c)) ∧ Below w.heap.size w w' := by
  have hJ := Tryz.strings_Join bk 0 3 [a, b, c] ⟨#[]⟩ w (by
    intro j x hj
    match j, hj with
    | 0, hj => simp at hj; subst hj; exact h0
    | 1, hj => simp at hj; subst hj; exact h1
    | 2, hj => simp at hj; subst hj; exact h2
    | j + 3, hj => simp at hj) (World.block_lt_of_cell? w _ h0) (by simp) (by simp) (join_size (join3 a b c) (by rw [app_size, app_size]; omega))
  rw [join3] at hJ
  generalize (a ++ b) ++ c = r at *
  go_enter Tryz.func24, Tryz.ntmps24
  go_wp2_with (go_at_call 48; refine hJ.mono ?_; rintro e w2 ⟨rfl, hb⟩)
  go_ret
  exact ⟨rfl, hb⟩
set_option maxRecDepth 1000000 in
theorem together4 {a b c d : ByteArray} {bk : Nat} (w : World) (h0 : w.cell? ⟨bk, 0, none⟩ = some (.string a)) (h1 : w.cell? ⟨bk, 1, none⟩ = some (.string b)) (h2 : w.cell? ⟨bk, 2, none⟩ = some (.string c)) (h3 : w.cell? ⟨bk, 3, none⟩ = some (.string d)) (hz : a.size + b.size + c.size + d.size ≤ 10000000) :
    Calls Tryz.prog 24 #[.slice (some ⟨bk, 0, none⟩) 4 4] w fun e w' => e = .returned (.string (((a ++ b) ++ c) ++ d)) ∧ Below w.heap.size w w' := by
  have hJ := Tryz.strings_Join bk 0 4 [a, b, c, d] ⟨#[]⟩ w (by
    intro j x hj
    match j, hj with
    | 0, hj => simp at hj; subst hj; exact h0
    | 1, hj => simp at hj; subst hj; exact h1
    | 2, hj => simp at hj; subst hj; exact h2
    | 3, hj => simp at hj; subst hj; exact h3
    | j + 4, hj => simp at hj) (World.block_lt_of_cell? w _ h0) (by simp) (by simp) (join_size (join4 a b c d) (by rw [app_size, app_size, app_size]; omega))
  rw [join4] at hJ
  generalize ((a ++ b) ++ c) ++ d = r at *
  go_enter Tryz.func24, Tryz.ntmps24
  go_wp2_with (go_at_call 48; refine hJ.mono ?_; rintro e w2 ⟨rfl, hb⟩)
  go_ret
  exact ⟨rfl, hb⟩
set_option maxRecDepth 1000000 in
theorem fnoughts_any (n : Int) (w : World) (hn : n ≤ 1000000) :
    Calls Tryz.prog 98 #[.int .i64 n] w fun e w' => e = .returned (.string (run 48 n.toNat)) ∧ Below w.heap.size w w' := by
  have hR : ∀ w, Calls Tryz.prog 120 #[.string ⟨#[48]⟩, .int .i64 (max n 0)] w fun e w' => e = .returned (.string (run 48 n.toNat)) ∧ Below w.heap.size w w' := fun w => by
    have hz : (⟨#[48]⟩ : ByteArray).size = 1 := rfl
    have e0 : max n 0 = (n.toNat : Int) := by omega
    rw [e0]
    refine (Tryz.strings_Repeat ⟨#[48]⟩ n.toNat w (by omega) (by rw [hz]; omega)).mono ?_
    rintro e w' ⟨rfl, hb⟩
    refine ⟨ret_str ?_, hb⟩
    have e : (⟨#[48]⟩ : ByteArray).data.toList = List.replicate 1 48 := rfl
    rw [e, Lib.repeatL_replicate, Nat.mul_one]
    unfold run
    apply ByteArray.ext; apply Array.ext'; simp
  generalize run 48 n.toNat = r at *
  go_enter Tryz.func98, Tryz.ntmps98
  go_wp2_with (go_at_call 120; refine (hR _).mono ?_; rintro e w2 ⟨rfl, hb⟩)
  go_ret
  exact ⟨rfl, hb⟩
abbrev NoC (n : Int) (r : ByteArray) : Prop := ∀ w, Calls Tryz.prog 98 #[.int .i64 n] w fun e w' => e = .returned (.string r) ∧ Below w.heap.size w w'
set_option maxRecDepth 1000000 in
theorem flen_any (s : ByteArray) (n : Int) (w : World) (hs : s.size ≤ 1000000) (h0 : -1000000 ≤ n) (h1 : n ≤ 1000000) :
    Calls Tryz.prog 55 #[.string s, .int .i64 n] w fun e w' => e = .returned (.string (lnA s n)) ∧ Below w.heap.size w w' := by
  have hN : NoC (n - (s.size : Nat)) (run 48 (n - (s.size : Nat)).toNat) := fun w => fnoughts_any _ w (by omega)
  have hz : (run 48 (n - (s.size : Nat)).toNat).size + s.size ≤ 10000000 := by rw [run_size]; omega
  unfold lnA
  generalize run 48 (n - (s.size : Nat)).toNat = r at *
  go_enter Tryz.func55, Tryz.ntmps55
  go_wp2_with (first
    | (go_at_call 98; refine (hN _).mono ?_; rintro e w2 ⟨rfl, hb2⟩)
    | (go_at_call 24; refine (together2 (a := r) (b := s) _ (by simp) (by simp) hz).mono ?_; rintro e w3 ⟨rfl, hb3⟩))
  go_ret
  exact ⟨rfl, bel_call (hb2.alloc hb2.size _) hb3 (Nat.le_refl _)⟩
set_option maxRecDepth 1000000 in
theorem flenB_any (s : ByteArray) (n : Int) (w : World) (hs : s.size ≤ 1000000) (h0 : -1000000 ≤ n) (h1 : n ≤ 1000000) :
    Calls Tryz.prog 78 #[.string s, .int .i64 n] w fun e w' => e = .returned (.string (lnB s n)) ∧ Below w.heap.size w w' := by
  have hN : NoC (n - (s.size : Nat)) (run 48 (n - (s.size : Nat)).toNat) := fun w => fnoughts_any _ w (by omega)
  have hz : s.size + (run 48 (n - (s.size : Nat)).toNat).size ≤ 10000000 := by rw [run_size]; omega
  unfold lnB
  generalize run 48 (n - (s.size : Nat)).toNat = r at *
  go_enter Tryz.func78, Tryz.ntmps78
  go_wp2_with (first
    | (go_at_call 98; refine (hN _).mono ?_; rintro e w2 ⟨rfl, hb2⟩)
    | (go_at_call 24; refine (together2 (a := s) (b := r) _ (by simp) (by simp) hz).mono ?_; rintro e w3 ⟨rfl, hb3⟩))
  go_ret
  exact ⟨rfl, bel_call (hb2.alloc hb2.size _) hb3 (Nat.le_refl _)⟩
abbrev LaC (s : ByteArray) (n : Int) (r : ByteArray) : Prop := ∀ w, Calls Tryz.prog 55 #[.string s, .int .i64 n] w fun e w' => e = .returned (.string r) ∧ Below w.heap.size w w'
abbrev LbC (s : ByteArray) (n : Int) (r : ByteArray) : Prop := ∀ w, Calls Tryz.prog 78 #[.string s, .int .i64 n] w fun e w' => e = .returned (.string r) ∧ Below w.heap.size w w'
abbrev DgC (n : Int) (b : Int) (r : ByteArray) : Prop := ∀ w, Calls Tryz.prog 84 #[.int .u64 n, .int .i64 b] w fun e w' => e = .returned (.string r) ∧ Below w.heap.size w w'
set_option maxRecDepth 1000000 in
theorem fsigned_any (n least : Int) (w : World) (h0 : -1000000 ≤ n) (h1 : n ≤ 1000000) (hl : least ≤ 10) (hl0 : 0 ≤ least) :
    Calls Tryz.prog 85 #[.int .i64 n, .int .i64 least] w fun e w' => e = .returned (.string (sgd n least)) ∧ Below w.heap.size w w' := by
  have hd := digT_size false 10 n.natAbs
  have hD : DgC (n.natAbs : Nat) 10 (digT false 10 n.natAbs) := fun w => idigits_any n.natAbs 10 w (by omega) (.inr (.inr (.inl rfl)))
  have hL : LaC (digT false 10 n.natAbs) least (lnA (digT false 10 n.natAbs) least) := fun w => flen_any _ _ w (by omega) (by omega) (by omega)
  have hz := lnA_size (digT false 10 n.natAbs) least
  have hz2 : (lnA (digT false 10 n.natAbs) least).size ≤ 100 := by omega
  unfold sgd sx1
  clear hz
  generalize lnA (digT false 10 n.natAbs) least = r at *
  generalize digT false 10 n.natAbs = t at *
  by_cases hn : n < 0
  · have e0 : ((n.natAbs : Nat) : Int) = -n := by omega
    rw [e0] at hD
    rw [if_pos hn]
    go_enter Tryz.func85, Tryz.ntmps85
    go_wp2_with (first
      | (go_at_call 84; refine (hD _).mono ?_; rintro e w2 ⟨rfl, hb2⟩)
      | (go_at_call 55; refine (hL _).mono ?_; rintro e w3 ⟨rfl, hb3⟩)
      | (go_at_call 24; refine (together2 (a := ⟨#[45]⟩) (b := r) _ (by simp) (by simp) (by rw [show (⟨#[45]⟩ : ByteArray).size = 1 from rfl]; omega)).mono ?_; rintro e w4 ⟨rfl, hb4⟩))
    go_ret
    have h := bel_call hb2 hb3 (Nat.le_refl _)
    exact ⟨rfl, bel_call (h.alloc h.size _) hb4 (Nat.le_refl _)⟩
  · have e0 : ((n.natAbs : Nat) : Int) = n := by omega
    rw [e0] at hD
    rw [if_neg hn]
    go_enter Tryz.func85, Tryz.ntmps85
    go_wp2_with (first
      | (go_at_call 84; refine (hD _).mono ?_; rintro e w2 ⟨rfl, hb2⟩)
      | (go_at_call 55; refine (hL _).mono ?_; rintro e w3 ⟨rfl, hb3⟩)
      | (go_at_call 24; refine (together2 (a := ⟨#[43]⟩) (b := r) _ (by simp) (by simp) (by rw [show (⟨#[43]⟩ : ByteArray).size = 1 from rfl]; omega)).mono ?_; rintro e w4 ⟨rfl, hb4⟩))
    go_ret
    have h := bel_call hb2 hb3 (Nat.le_refl _)
    exact ⟨rfl, bel_call (h.alloc h.size _) hb4 (Nat.le_refl _)⟩
set_option maxRecDepth 1000000 in
theorem fpointed_any {bits m : Nat} {size e P : Int} {sh : Bool} (a b : ByteArray) (w : World) (ha : a.size ≤ 1000000) (hb : b.size ≤ 1000000) :
    Calls Tryz.prog 82 #[.agg #[.int .u64 (bits : Nat), .int .i64 size, .int .u64 (m : Nat), .int .i64 e, .int .i64 P, .bool sh], .string a, .string b] w fun x w' => x = .returned (.string (ptd sh a b)) ∧ Below w.heap.size w w' := by
  have h1 : (⟨#[46]⟩ : ByteArray).size = 1 := rfl
  have hz : a.size + (⟨#[46]⟩ : ByteArray).size + b.size ≤ 10000000 := by omega
  unfold ptd
  by_cases h0 : b.size = 0
  · have hue : b.toList.isEmpty = true := empty_yes b h0
    cases sh with
    | false =>
      rw [if_pos ⟨h0, rfl⟩]
      clear h0
      go_enter Tryz.func82, Tryz.ntmps82
      go_wp2
      go_ret
      exact ⟨rfl, by go_grown⟩
    | true =>
      rw [if_neg (by simp)]
      clear h0
      go_enter Tryz.func82, Tryz.ntmps82
      go_wp2_with (go_at_call 24; refine (together3 (a := a) (b := ⟨#[46]⟩) (c := b) _ (by simp) (by simp) (by simp) hz).mono ?_; rintro e w3 ⟨rfl, hb3⟩)
      go_ret
      exact ⟨rfl, bel_call (by go_grown) hb3 (Nat.le_refl _)⟩
  · have hue : b.toList.isEmpty = false := empty_no b (by omega)
    rw [if_neg (by omega)]
    go_enter Tryz.func82, Tryz.ntmps82
    go_wp2_with (go_at_call 24; refine (together3 (a := a) (b := ⟨#[46]⟩) (c := b) _ (by simp) (by simp) (by simp) hz).mono ?_; rintro e w3 ⟨rfl, hb3⟩)
    go_ret
    exact ⟨rfl, bel_call (by go_grown) hb3 (Nat.le_refl _)⟩
set_option maxRecDepth 1000000 in
theorem faround_any (s : ByteArray) (p : Int) (w : World) (hs : s.size ≤ 100000) (h0 : -100000 ≤ p) (h1 : p ≤ 100000) :
    Calls Tryz.prog 81 #[.string s, .int .i64 p] w fun x w' => x = .returned (.tuple #[.string (arA s p), .string (arB s p)]) ∧ Below w.heap.size w w' := by
  unfold arA arB
  by_cases hp : p ≤ 0
  · have hL : LaC s ((s.size : Nat) - p) (lnA s ((s.size : Nat) - p)) := fun w => flen_any _ _ w (by omega) (by omega) (by omega)
    rw [if_pos hp, if_pos hp]
    generalize lnA s ((s.size : Nat) - p) = r at *
    go_enter Tryz.func81, Tryz.ntmps81
    go_wp2_with (go_at_call 55; refine (hL _).mono ?_; rintro e w3 ⟨rfl, hb3⟩)
    go_returns
    exact ⟨rfl, hb3⟩
  · have hL : LbC s p (lnB s p) := fun w => flenB_any _ _ w (by omega) (by omega) (by omega)
    have hz := lnB_size s p
    rw [if_neg hp, if_neg hp]
    obtain ⟨q, rfl⟩ := Int.eq_ofNat_of_zero_le (show 0 ≤ p by omega)
    have hq : (q : Int) ≤ (lnB s q).size := by omega
    have hq2 : q ≤ (lnB s q).size := by omega
    have hz2 : (lnB s q).size ≤ 1000000 := by omega
    clear hz
    generalize lnB s q = r at *
    go_enter Tryz.func81, Tryz.ntmps81
    go_wp2_with (go_at_call 78; refine (hL _).mono ?_; rintro e w3 ⟨rfl, hb3⟩)
    go_region
    all_goals go_wp2
    all_goals go_returns
    all_goals exact ⟨rfl, hb3.drew⟩
end Go.Proofs.YthbabhbfpcfenaaGreatDoor

/- The walk of the law's function half. -/
namespace Go.Proofs.YthbabhbfpcfenaaGreatDoor
open Go.RowKit
set_option linter.unusedVariables false
set_option linter.unusedSimpArgs false

theorem one_G (p : Int) (Q : Nat) (h : p + 10000 = (Q : Int)) : oS (10 ^ Q) = ⟨#[49]⟩ ∧ oP (10 ^ Q) = p + 1 := by
  have hv : num [49] * 10 ^ (p + 1 - (([49] : List UInt8).length : Int) + 10000).toNat = 10 ^ Q := by
    rw [show (p + 1 - (([49] : List UInt8).length : Int) + 10000).toNat = Q by simp; omega, show num [49] = 1 from rfl, Nat.one_mul]
  have hd : IsDec [49] (p + 1) (10 ^ Q) := ⟨rfl, rfl, rfl, fun h => (by cases h), by simp; omega, hv⟩
  obtain ⟨h1, h2⟩ := o_of hd
  exact ⟨by unfold oS; rw [← h1], h2.symm⟩
theorem ordN_le {a b : Nat} (h : a ≤ b) : ordN a b ≤ 0 := by unfold ordN; split; decide; rw [if_neg (by omega)]; decide
end Go.Proofs.YthbabhbfpcfenaaGreatDoor

/- Plain mathematics of what is near. -/
namespace Go.Proofs.YthbabhbfpcfenaaGreatDoor
open Go.RowKit
set_option linter.unusedVariables false

theorem near_form (v Q : Nat) : ∃ u, near v Q = u * 10 ^ Q ∧ (u = v / 10 ^ Q ∨ u = v / 10 ^ Q + 1) ∧ near v Q + near v Q ≤ v + v + 10 ^ Q ∧ v + v ≤ near v Q + near v Q + 10 ^ Q := by
  have h0 := Nat.div_add_mod v (10 ^ Q)
  rw [Nat.mul_comm] at h0
  have hr : v % 10 ^ Q < 10 ^ Q := Nat.mod_lt _ (pow_pos10 Q)
  unfold near
  by_cases h : 2 * (v % 10 ^ Q) < 10 ^ Q ∨ (2 * (v % 10 ^ Q) = 10 ^ Q ∧ v / 10 ^ Q % 2 = 0)
  · rw [if_pos h]
    refine ⟨_, rfl, .inl rfl, ?_, ?_⟩
    · generalize v / 10 ^ Q * 10 ^ Q = b at *; omega
    · generalize v / 10 ^ Q * 10 ^ Q = b at *; omega
  · rw [if_neg h]
    refine ⟨v / 10 ^ Q + 1, by rw [Nat.succ_mul], .inr rfl, ?_, ?_⟩
    · generalize v / 10 ^ Q * 10 ^ Q = b at *; omega
    · generalize v / 10 ^ Q * 10 ^ Q = b at *; omega
theorem near_top {v Q n : Nat} (hv : v < 10 ^ (Q + n)) : ∃ u, near v Q = u * 10 ^ Q ∧ u ≤ 10 ^ n ∧ near v Q + near v Q ≤ v + v + 10 ^ Q ∧ v + v ≤ near v Q + near v Q + 10 ^ Q := by
  obtain ⟨u, h1, h2, h3, h4⟩ := near_form v Q
  have : v / 10 ^ Q < 10 ^ n := Nat.div_lt_of_lt_mul (by rw [← Nat.pow_add]; exact hv)
  exact ⟨u, h1, by omega, h3, h4⟩
theorem near_len {v Q n : Nat} (hv : v < 10 ^ (Q + n)) : (oL (near v Q)).length ≤ max n 1 := by
  obtain ⟨u, h1, h2, -, -⟩ := near_top hv
  rcases Nat.lt_or_ge u (10 ^ n) with h | h
  · have := cnt_le h1 h; omega
  · have hu : u = 10 ^ n := by omega
    have := cnt_le (v := near v Q) (u := 1) (j := n + Q) (q := 1) (by rw [h1, hu, ← Nat.pow_add, Nat.one_mul]) (by decide)
    omega
theorem mul_mod {u Q J : Nat} (h : J ≤ Q) : u * 10 ^ Q % 10 ^ J = 0 := by
  obtain ⟨c, rfl⟩ : ∃ c, Q = c + J := ⟨Q - J, by omega⟩
  rw [Nat.pow_add, ← Nat.mul_assoc]; exact Nat.mul_mod_left _ _
theorem add_mod0 {a b A : Nat} (ha : a % A = 0) (hb : b % A = 0) : (a + b) % A = 0 := by
  rw [Nat.add_mod, ha, hb]; simp
/-- All that half wants, of a number and the nearest one of n digits. -/
theorem near_good {v Q n J : Nat} (hv : v < 10 ^ (Q + n)) (hJQ : J ≤ Q) (hm : v % 10 ^ J = 0) (hJ : 5000 ≤ J) (hK : Q + n + 1 ≤ J + 2000) (hK2 : Q + n + 1 ≤ 15000) :
    Good v ∧ Good (near v Q) ∧ Good (near v Q + near v Q) ∧ Good (v + v) ∧ Good (10 ^ Q) ∧ Good (near v Q + near v Q + 10 ^ Q) ∧ Good (v + v + 10 ^ Q) ∧ near v Q + near v Q ≤ v + v + 10 ^ Q ∧ v + v ≤ near v Q + near v Q + 10 ^ Q := by
  obtain ⟨u, h1, h2, h3, h4⟩ := near_top hv
  have mn : near v Q % 10 ^ J = 0 := by rw [h1]; exact mul_mod hJQ
  have m1 : 10 ^ Q % 10 ^ J = 0 := by have := mul_mod (u := 1) hJQ; rw [Nat.one_mul] at this; exact this
  have hQn : (10 : Nat) ^ Q ≤ 10 ^ (Q + n) := Nat.pow_le_pow_right (by decide) (by omega)
  have hp : (10 : Nat) ^ (Q + n + 1) = 10 ^ (Q + n) * 10 := Nat.pow_succ ..
  obtain ⟨K, hK3⟩ : ∃ K, Q + n + 1 = J + K := ⟨Q + n + 1 - J, by omega⟩
  have hn : near v Q ≤ 10 ^ (Q + n) := by
    rw [h1, Nat.pow_add, Nat.mul_comm]; exact Nat.mul_le_mul_left _ h2
  have G : ∀ x, x % 10 ^ J = 0 → x < 10 ^ (Q + n + 1) → Good x := fun x hx hx2 => good_of hx (by rw [← hK3]; exact hx2) hJ (by omega) (by omega)
  generalize (10 : Nat) ^ Q = B at *
  generalize near v Q = a at *
  generalize hC : (10 : Nat) ^ (Q + n) = C at *
  exact ⟨G v hm (by omega), G a mn (by omega), G _ (add_mod0 mn mn) (by omega), G _ (add_mod0 hm hm) (by omega), G _ m1 (by omega), G _ (add_mod0 (add_mod0 mn mn) m1) (by omega), G _ (add_mod0 (add_mod0 hm hm) m1) (by omega), h3, h4⟩
/-- Rounded to digits it is the nearest one. -/
theorem rnd_near {v n Q : Nat} (hQ : oP v - n + 10000 = (Q : Int)) : rnd v n = near v Q := by
  unfold rnd
  rw [if_neg (by omega)]
  by_cases h : ((oL v).length : Int) ≤ n
  · rw [if_pos h, near_whole ((o_dec v).mod (by omega))]
  · rw [if_neg h, hQ]; rfl
abbrev RoundC (s : ByteArray) (p n : Int) (S : ByteArray) (P E : Int) : Prop := ∀ w, Calls Tryz.prog 75 #[.agg #[.string s, .int .i64 p], .int .i64 n] w fun e w' => e = .returned (.tuple #[.agg #[.string S, .int .i64 P], .int .i64 E]) ∧ Below w.heap.size w w'
abbrev PlacesC (s : ByteArray) (p n : Int) (S : ByteArray) (P E : Int) : Prop := ∀ w, Calls Tryz.prog 80 #[.agg #[.string s, .int .i64 p], .int .i64 n] w fun e w' => e = .returned (.tuple #[.agg #[.string S, .int .i64 P], .int .i64 E]) ∧ Below w.heap.size w w'
theorem roundC {v : Nat} (n : Int) (g : Good v) : RoundC (oS v) (oP v) n (oS (rnd v n)) (oP (rnd v n)) 0 := fun w => by
  have := round_any (oS v) (oP v) n w (oS_fit v g)
  rw [g.normE, g.normV] at this
  have e : bV 0 (rnd v n) = rnd v n := if_pos rfl
  rw [e] at this; exact this
theorem placesC {v : Nat} (n : Int) (g : Good v) : PlacesC (oS v) (oP v) n (oS (plc v n)) (oP (plc v n)) 0 := fun w => by
  have := places_any (oS v) (oP v) n w (oS_fit v g)
  rw [g.normE, g.normV] at this
  have e : bV 0 (plc v n) = plc v n := if_pos rfl
  rw [e] at this; exact this
end Go.Proofs.YthbabhbfpcfenaaGreatDoor

/- Plain mathematics of patterns: what a pattern is worth, the middles, what is read as one. Units are left open. -/
namespace Go.Proofs.YthbabhbfpcfenaaGreatDoor
open Go.RowKit
set_option linter.unusedVariables false

/-- m of a pattern without its sign bit, f bits of F. -/
def pm (f p : Nat) : Nat := if p / 2 ^ f = 0 then p % 2 ^ f else 2 ^ f + p % 2 ^ f
/-- Its e, from the least one on. -/
def pk (f p : Nat) : Nat := p / 2 ^ f - 1
/-- Its value, in units of the least e. -/
def pq (f p : Nat) : Nat := pm f p * 2 ^ pk f p
/-- The middle above it, in halves of these units. -/
def pa (f p : Nat) : Nat := (2 * pm f p + 1) * 2 ^ pk f p
theorem pow_pos2 (n : Nat) : 0 < 2 ^ n := Nat.pow_pos (by decide)
theorem pm_lt (f p : Nat) : pm f p < 2 ^ (f + 1) := by
  have h := Nat.mod_lt p (pow_pos2 f)
  unfold pm
  rw [Nat.pow_succ]
  split <;> omega
theorem pq_next (f p : Nat) : pq f (p + 1) = (pm f p + 1) * 2 ^ pk f p := by
  have hp := pow_pos2 f
  have h0 := Nat.div_add_mod p (2 ^ f)
  have h1 := Nat.mod_lt p hp
  unfold pq
  rcases Nat.lt_or_ge (p % 2 ^ f + 1) (2 ^ f) with h | h
  · have e1 : (p + 1) / 2 ^ f = p / 2 ^ f := by
      rw [Nat.div_eq_iff hp]
      have : p / 2 ^ f * 2 ^ f = 2 ^ f * (p / 2 ^ f) := Nat.mul_comm ..
      omega
    have e2 : (p + 1) % 2 ^ f = p % 2 ^ f + 1 := by
      have := Nat.div_add_mod (p + 1) (2 ^ f)
      rw [e1] at this; omega
    unfold pm pk
    rw [e1, e2]
    split <;> (congr 1)
  · have e0 : p % 2 ^ f + 1 = 2 ^ f := by omega
    have e3 : p + 1 = 2 ^ f * (p / 2 ^ f + 1) := by rw [Nat.mul_add, Nat.mul_one]; omega
    have e1 : (p + 1) / 2 ^ f = p / 2 ^ f + 1 := by rw [e3, Nat.mul_div_cancel_left _ hp]
    have e2 : (p + 1) % 2 ^ f = 0 := by rw [e3]; exact Nat.mul_mod_right _ _
    unfold pm pk
    rw [e1, e2, if_neg (Nat.succ_ne_zero _)]
    by_cases hE : p / 2 ^ f = 0
    · rw [if_pos hE, hE, e0]; rfl
    · rw [if_neg hE]
      obtain ⟨k, hk⟩ : ∃ k, p / 2 ^ f = k + 1 := Nat.exists_eq_succ_of_ne_zero ‹_›
      rw [hk, show k + 1 + 1 - 1 = k + 1 by omega, show k + 1 - 1 = k by omega, Nat.add_zero, Nat.add_assoc, e0, Nat.pow_succ 2 k, Nat.mul_comm (2 ^ k) 2, ← Nat.mul_assoc, Nat.mul_two]
theorem pq_succ (f p : Nat) : pq f (p + 1) = pq f p + 2 ^ pk f p := by rw [pq_next, Nat.add_mul, Nat.one_mul]; rfl
theorem pa_eq (f p : Nat) : pa f p = 2 * pq f p + 2 ^ pk f p := by unfold pa pq; rw [Nat.add_mul, Nat.one_mul, Nat.mul_assoc]
theorem pa_up (f p : Nat) : pa f p + 2 ^ pk f p = 2 * pq f (p + 1) := by rw [pa_eq, pq_succ]; omega
theorem pk_mono (f : Nat) {p q : Nat} (h : p ≤ q) : 2 ^ pk f p ≤ 2 ^ pk f q :=
  Nat.pow_le_pow_right (by decide) (by unfold pk; have := Nat.div_le_div_right (c := 2 ^ f) h; omega)
theorem pa_lt_succ (f p : Nat) : pa f p < pa f (p + 1) := by
  have h1 := pa_up f p
  have h2 := pa_eq f (p + 1)
  have := pow_pos2 (pk f p)
  have := pow_pos2 (pk f (p + 1))
  omega
theorem pa_mono (f : Nat) {p q : Nat} (h : p < q) : pa f p < pa f q := by
  induction h with
  | refl => exact pa_lt_succ f p
  | step _ ih => exact Nat.lt_trans ih (pa_lt_succ f _)
/-- The lower gap of a pattern is no less than its value by 2 to the power of f + 1. -/
theorem pq_gap (f p : Nat) : pq f (p + 1) ≤ 2 ^ (f + 1) * 2 ^ pk f p := by
  rw [pq_next]
  exact Nat.mul_le_mul_right _ (pm_lt f p)

/-- Is a pattern too great for v? -/
def TG (f u v p : Nat) : Prop := v < pa f (p - 1) * u ∨ (v = pa f (p - 1) * u ∧ p % 2 = 1)
/-- v is read as r; I is the pattern of Inf. -/
def RD (f I u v r : Nat) : Prop := r ≤ I ∧ (r = 0 ∨ ¬ TG f u v r) ∧ (r = I ∨ TG f u v (r + 1))
theorem TG.mono {f u v p q : Nat} (hu : 0 < u) (hp : 1 ≤ p) (h : p ≤ q) (t : TG f u v p) : TG f u v q := by
  rcases Nat.eq_or_lt_of_le h with rfl | h
  · exact t
  · have h1 := Nat.mul_lt_mul_of_pos_right (pa_mono f (show p - 1 < q - 1 by omega)) hu
    refine .inl ?_
    rcases t with t | ⟨t, -⟩ <;> omega
theorem RD.uniq {f I u v r s : Nat} (hu : 0 < u) (h : RD f I u v r) (k : RD f I u v s) : r = s := by
  have key : ∀ {r s : Nat}, RD f I u v r → RD f I u v s → ¬ r < s := by
    intro r s h k hlt
    have h1 : TG f u v (r + 1) := by rcases h.2.2 with e | t; · have := k.1; omega
                                     · exact t
    rcases k.2.1 with e | t
    · omega
    · exact t (h1.mono hu (by omega) (by omega))
  have a := key h k
  have b := key k h
  omega
theorem rd_ex (f I u v : Nat) (hu : 0 < u) : ∃ r, RD f I u v r := by
  induction I with
  | zero => exact ⟨0, Nat.le_refl _, .inl rfl, .inl rfl⟩
  | succ I ih =>
    by_cases h : TG f u v (I + 1)
    · obtain ⟨r, h1, h2, h3⟩ := ih
      refine ⟨r, by omega, h2, .inr ?_⟩
      rcases h3 with rfl | h3
      · exact h
      · exact h3
    · exact ⟨I + 1, Nat.le_refl _, .inr h, .inl rfl⟩
theorem RD.mono {f I u v v' r s : Nat} (hu : 0 < u) (h : RD f I u v r) (k : RD f I u v' s) (hv : v ≤ v') : r ≤ s := by
  rcases Nat.lt_or_ge s r with hlt | hge
  · exfalso
    have h1 : TG f u v' (s + 1) := by rcases k.2.2 with e | t; · have := h.1; omega
                                      · exact t
    have h2 : TG f u v (s + 1) := by
      rcases h1 with t | ⟨t1, t2⟩
      · exact .inl (by omega)
      · rcases Nat.eq_or_lt_of_le hv with e | e
        · exact .inr ⟨by omega, t2⟩
        · exact .inl (by omega)
    rcases h.2.1 with e | t
    · omega
    · exact t (h2.mono hu (by omega) (by omega))
  · exact hge
/-- Where a pattern's bounds lie. -/
theorem RD_in {f I u v p : Nat} (hp : p < I) : RD f I u v (p + 1 - 1) ↔ ¬ (p ≠ 0 ∧ TG f u v p) ∧ TG f u v (p + 1) := by
  rw [Nat.add_sub_cancel]
  unfold RD
  constructor
  · rintro ⟨h1, h2, h3⟩
    refine ⟨?_, ?_⟩
    · rintro ⟨a, b⟩
      rcases h2 with h2 | h2
      · exact a h2
      · exact h2 b
    · rcases h3 with h3 | h3
      · omega
      · exact h3
  · rintro ⟨h1, h2⟩
    refine ⟨by omega, ?_, .inr h2⟩
    by_cases h0 : p = 0
    · exact .inl h0
    · exact .inr fun t => h1 ⟨h0, t⟩
/-- The bounds' words: below and above p (which is not 0). -/
theorem RD_bounds {f I u v p : Nat} (h0 : p ≠ 0) (hp : p < I) :
    RD f I u v p ↔ if p % 2 = 0 then pa f (p - 1) * u ≤ v ∧ v ≤ pa f p * u else pa f (p - 1) * u < v ∧ v < pa f p * u := by
  have := RD_in (f := f) (u := u) (v := v) hp
  rw [Nat.add_sub_cancel] at this
  rw [this]
  unfold TG
  rw [Nat.add_sub_cancel]
  by_cases he : p % 2 = 0
  · rw [if_pos he]; omega
  · rw [if_neg he]; omega
theorem RD_zero {f I u v : Nat} (hI : 0 < I) : RD f I u v 0 ↔ v ≤ u := by
  have h := RD_in (f := f) (u := u) (v := v) hI
  rw [h]
  have e : pa f 0 = 1 := by
    unfold pa pm pk
    rw [Nat.zero_div, if_pos rfl, Nat.zero_mod]
  unfold TG
  rw [Nat.zero_add, Nat.sub_self, e, Nat.one_mul]
  omega
/-- The value itself is read as the pattern. -/
theorem RD_self {f I u p : Nat} (hu : 0 < u) (hp : p < I) : RD f I u (2 * pq f p * u) p := by
  by_cases h0 : p = 0
  · subst h0
    rw [RD_zero hp]
    have : pq f 0 = 0 := by unfold pq pm pk; rw [Nat.zero_div, if_pos rfl, Nat.zero_mod, Nat.zero_mul]
    rw [this]; simp
  · rw [RD_bounds h0 hp]
    obtain ⟨q, rfl⟩ : ∃ q, p = q + 1 := ⟨p - 1, by omega⟩
    have h1 := pa_up f q
    have h2 := pa_eq f (q + 1)
    have := pow_pos2 (pk f q)
    have := pow_pos2 (pk f (q + 1))
    rw [Nat.add_sub_cancel]
    have a := Nat.mul_lt_mul_of_pos_right (show pa f q < 2 * pq f (q + 1) by omega) hu
    have b := Nat.mul_lt_mul_of_pos_right (show 2 * pq f (q + 1) < pa f (q + 1) by omega) hu
    split <;> omega
/-- The middle is read as the even one. -/
theorem RD_mid {f I u p : Nat} (hu : 0 < u) (hp : p < I) (hI : I % 2 = 0) : RD f I u (pa f p * u) (p + p % 2) := by
  rcases Nat.mod_two_eq_zero_or_one p with h | h
  · rw [h, Nat.add_zero]
    by_cases h0 : p = 0
    · subst h0
      refine (RD_zero hp).2 ?_
      have e : pa f 0 = 1 := by
        unfold pa pm pk
        rw [Nat.zero_div, if_pos rfl, Nat.zero_mod]
      rw [e]; omega
    · rw [RD_bounds h0 hp, if_pos h]
      have a := Nat.mul_lt_mul_of_pos_right (pa_mono f (show p - 1 < p by omega)) hu
      omega
  · rw [h]
    refine ⟨by omega, .inr ?_, ?_⟩
    · unfold TG; rw [Nat.add_sub_cancel]; omega
    · by_cases hh : p + 1 = I
      · exact .inl hh
      · refine .inr (.inl ?_)
        rw [Nat.add_sub_cancel]
        exact Nat.mul_lt_mul_of_pos_right (pa_mono f (by omega)) hu
/-- A little more than the middle. -/
theorem RD_more {f I u v p : Nat} (hu : 0 < u) (hp : p < I) (h1 : pa f p * u < v) (h2 : v < pa f (p + 1) * u) : RD f I u v (p + 1) := by
  refine ⟨by omega, .inr ?_, .inr (.inl ?_)⟩
  · unfold TG; rw [Nat.add_sub_cancel]; omega
  · rw [Nat.add_sub_cancel]; exact h2
/-- A little less. -/
theorem RD_less {f I u v p : Nat} (hp : p < I) (h1 : p = 0 ∨ pa f (p - 1) * u < v) (h2 : v < pa f p * u) : RD f I u v p := by
  refine ⟨by omega, ?_, .inr (.inl (by rw [Nat.add_sub_cancel]; exact h2))⟩
  rcases h1 with h1 | h1
  · exact .inl h1
  · exact .inr (by unfold TG; omega)

/-- What the document's division finds: a by b is d in units of 2 to the power of e. m is the quotient, rest what is left. -/
theorem pat_of {f m k : Nat} (h1 : m < 2 ^ (f + 1)) (h2 : k = 0 ∨ 2 ^ f ≤ m) : ∃ p, p = (if m < 2 ^ f then m else k * 2 ^ f + m) ∧ pm f p = m ∧ pk f p = k := by
  have hp := pow_pos2 f
  rw [Nat.pow_succ] at h1
  rcases Nat.lt_or_ge m (2 ^ f) with h | h
  · refine ⟨m, (if_pos h).symm, ?_, ?_⟩
    · unfold pm; rw [Nat.div_eq_of_lt h, if_pos rfl, Nat.mod_eq_of_lt h]
    · unfold pk; rw [Nat.div_eq_of_lt h]; omega
  · refine ⟨k * 2 ^ f + m, by rw [if_neg (by omega)], ?_, ?_⟩
    · have e1 : (k * 2 ^ f + m) / 2 ^ f = k + 1 := by
        rw [Nat.div_eq_iff hp, Nat.add_mul, Nat.one_mul]; omega
      have e2 : (k * 2 ^ f + m) % 2 ^ f = m - 2 ^ f := by
        rw [Nat.mul_comm, Nat.mul_add_mod, Nat.mod_eq_sub_mod h, Nat.mod_eq_of_lt (by omega)]
      unfold pm
      rw [e1, e2, if_neg (by omega)]; omega
    · have e1 : (k * 2 ^ f + m) / 2 ^ f = k + 1 := by
        rw [Nat.div_eq_iff hp, Nat.add_mul, Nat.one_mul]; omega
      unfold pk; rw [e1]; omega
theorem pm_self (f p : Nat) : p = if pm f p < 2 ^ f then pm f p else pk f p * 2 ^ f + pm f p := by
  have hp := pow_pos2 f
  have h0 := Nat.div_add_mod p (2 ^ f)
  have h1 := Nat.mod_lt p hp
  unfold pm pk
  by_cases h : p / 2 ^ f = 0
  · rw [if_pos h, if_pos h1]
    rw [h] at h0; omega
  · rw [if_neg h, if_neg (Nat.not_lt.2 (Nat.le_add_right _ _))]
    obtain ⟨k, hk⟩ : ∃ k, p / 2 ^ f = k + 1 := Nat.exists_eq_succ_of_ne_zero ‹_›
    rw [hk] at h0 ⊢
    rw [Nat.add_sub_cancel]
    rw [Nat.mul_add, Nat.mul_one, Nat.mul_comm] at h0
    omega
end Go.Proofs.YthbabhbfpcfenaaGreatDoor

/- Plain mathematics: the document's division, and the shortest decimal. -/
namespace Go.Proofs.YthbabhbfpcfenaaGreatDoor
open Go.RowKit
set_option linter.unusedVariables false

/-- Read as r, were there no Inf. -/
def RDf (f u v r : Nat) : Prop := (r = 0 ∨ ¬ TG f u v r) ∧ TG f u v (r + 1)
theorem RDf.rd {f I u v r : Nat} (hu : 0 < u) (hI : 1 ≤ I) (h : RDf f u v r) : RD f I u v (if I < r then I else r) := by
  by_cases hr : I < r
  · rw [if_pos hr]
    refine ⟨Nat.le_refl _, .inr fun t => ?_, .inl rfl⟩
    rcases h.1 with e | e
    · omega
    · exact e (t.mono hu hI (by omega))
  · rw [if_neg hr]
    exact ⟨by omega, h.1, .inr h.2⟩
theorem two_pow_even {f : Nat} (hf : 1 ≤ f) (k : Nat) : k * 2 ^ f % 2 = 0 := by
  obtain ⟨g, rfl⟩ : ∃ g, f = g + 1 := ⟨f - 1, by omega⟩
  rw [Nat.pow_succ, ← Nat.mul_assoc]; exact Nat.mul_mod_left _ _
/-- The pattern next to the value v, which lies at the pattern r or between it and the next one. -/
theorem rdf_near {f u v r m : Nat} (hu : 0 < u) (h0 : 2 * pq f r * u ≤ v) (h1 : v < 2 * pq f (r + 1) * u)
    (hm : (v < pa f r * u ∧ m = r) ∨ (pa f r * u < v ∧ m = r + 1) ∨ (v = pa f r * u ∧ m = r + r % 2)) : RDf f u v m := by
  have lo : r = 0 ∨ pa f (r - 1) * u < 2 * pq f r * u := by
    by_cases hr : r = 0
    · exact .inl hr
    · obtain ⟨q, rfl⟩ : ∃ q, r = q + 1 := ⟨r - 1, by omega⟩
      refine .inr (Nat.mul_lt_mul_of_pos_right ?_ hu)
      rw [Nat.add_sub_cancel]
      have := pa_up f q
      have := pow_pos2 (pk f q)
      omega
  have hi : 2 * pq f (r + 1) * u < pa f (r + 1) * u := by
    refine Nat.mul_lt_mul_of_pos_right ?_ hu
    have := pa_eq f (r + 1)
    have := pow_pos2 (pk f (r + 1))
    omega
  have L : r = 0 ∨ ¬ TG f u v r := by
    rcases lo with h | h
    · exact .inl h
    · exact .inr (by unfold TG; omega)
  have T2 : TG f u v (r + 1 + 1) := .inl (by rw [Nat.add_sub_cancel]; omega)
  rcases hm with ⟨h, rfl⟩ | ⟨h, rfl⟩ | ⟨h, rfl⟩
  · exact ⟨L, .inl (by rw [Nat.add_sub_cancel]; exact h)⟩
  · exact ⟨.inr (by unfold TG; rw [Nat.add_sub_cancel]; omega), T2⟩
  · rcases Nat.mod_two_eq_zero_or_one r with hp | hp
    · rw [hp, Nat.add_zero]
      exact ⟨L, .inr ⟨by rw [Nat.add_sub_cancel]; exact h, by omega⟩⟩
    · rw [hp]
      exact ⟨.inr (by unfold TG; rw [Nat.add_sub_cancel]; omega), T2⟩
/-- What the document's division tells: v in its units is a by b times 2 to the power of k. -/
theorem div_rd {f u v a b k m : Nat} (hf : 1 ≤ f) (hu : 0 < u) (hb : 0 < b) (hv : v * b = u * a * 2 ^ (k + 1)) (ha : a < b * 2 ^ (f + 1)) (hk : k = 0 ∨ b * 2 ^ f ≤ a)
    (hm : m = if b < 2 * (a % b) ∨ (¬ 2 * (a % b) < b ∧ a / b % 2 = 1) then a / b + 1 else a / b) :
    RDf f u v (if m < 2 ^ f then m else k * 2 ^ f + m) := by
  have h0 := Nat.div_add_mod a b
  have h1 := Nat.mod_lt a hb
  have q1 : a / b < 2 ^ (f + 1) := Nat.div_lt_of_lt_mul ha
  have q2 : k = 0 ∨ 2 ^ f ≤ a / b := by
    rcases hk with h | h
    · exact .inl h
    · exact .inr ((Nat.le_div_iff_mul_le hb).2 (by rw [Nat.mul_comm]; exact h))
  generalize a / b = q at *
  generalize a % b = t at *
  obtain ⟨r, hr, rm, rk⟩ := pat_of q1 q2
  have e1 : pq f r = q * 2 ^ k := by unfold pq; rw [rm, rk]
  have e2 : pq f (r + 1) = (q + 1) * 2 ^ k := by rw [pq_next, rm, rk]
  have e3 : pa f r = (2 * q + 1) * 2 ^ k := by unfold pa; rw [rm, rk]
  have hpe : r % 2 = q % 2 := by
    rw [hr]
    split
    · rfl
    · have := two_pow_even hf k; omega
  -- all are held against v * b
  have hW : 0 < u * 2 ^ k := Nat.mul_pos hu (pow_pos2 k)
  have ev : v * b = 2 * a * (u * 2 ^ k) := by
    rw [hv, Nat.pow_succ, Nat.mul_comm (2 ^ k) 2, ← Nat.mul_assoc, Nat.mul_comm (u * a) 2, Nat.mul_comm u a, ← Nat.mul_assoc 2 a u, Nat.mul_assoc (2 * a)]
  have ex : ∀ c : Nat, c * 2 ^ k * u * b = c * b * (u * 2 ^ k) := fun c => by
    rw [Nat.mul_assoc c, Nat.mul_comm (2 ^ k) u, Nat.mul_assoc c, Nat.mul_comm (u * 2 ^ k) b, ← Nat.mul_assoc]
  have lt_of : ∀ c : Nat, (c * 2 ^ k * u < v ↔ c * b < 2 * a) ∧ (v < c * 2 ^ k * u ↔ 2 * a < c * b) := fun c => by
    have i1 : c * 2 ^ k * u < v ↔ c * 2 ^ k * u * b < v * b := (Nat.mul_lt_mul_right hb).symm
    have i2 : v < c * 2 ^ k * u ↔ v * b < c * 2 ^ k * u * b := (Nat.mul_lt_mul_right hb).symm
    rw [i1, i2, ex, ev]
    exact ⟨Nat.mul_lt_mul_right hW, Nat.mul_lt_mul_right hW⟩
  have hq1 : (2 * q) * b = 2 * (b * q) := by rw [Nat.mul_assoc, Nat.mul_comm q b]
  have hq2 : (2 * (q + 1)) * b = 2 * (b * q) + 2 * b := by rw [Nat.mul_assoc, Nat.add_mul, Nat.one_mul, Nat.mul_comm q b, Nat.mul_add]
  have hq3 : (2 * q + 1) * b = 2 * (b * q) + b := by rw [Nat.add_mul, Nat.one_mul, hq1]
  have c1 := (lt_of (2 * q)).2
  have c2 := (lt_of (2 * (q + 1))).2
  obtain ⟨c3, c4⟩ := lt_of (2 * q + 1)
  rw [hq1] at c1; rw [hq2] at c2; rw [hq3] at c3 c4
  have hmr : ((v < pa f r * u ∧ m = q) ∨ (pa f r * u < v ∧ m = q + 1) ∨ (v = pa f r * u ∧ m = q + q % 2)) := by
    rw [e3, hm]
    generalize (2 * q + 1) * 2 ^ k * u = M at *
    split
    · by_cases hh : b < 2 * t
      · exact .inr (.inl ⟨by omega, rfl⟩)
      · exact .inr (.inr ⟨by omega, by omega⟩)
    · by_cases hh : 2 * t < b
      · exact .inl ⟨by omega, rfl⟩
      · exact .inr (.inr ⟨by omega, by omega⟩)
  have fin : ∀ m, m = q ∨ m = q + 1 → (if m < 2 ^ f then m else k * 2 ^ f + m) = r + (m - q) := by
    intro m hm
    rw [hr]
    have := pow_pos2 f
    rcases hm with rfl | rfl
    · rw [Nat.sub_self, Nat.add_zero]
    · rw [Nat.add_sub_cancel_left]
      rcases Nat.lt_trichotomy (q + 1) (2 ^ f) with h | h | h
      · rw [if_pos h, if_pos (by omega)]
      · rw [if_neg (by omega), if_pos (by omega)]
        rcases q2 with rfl | q2
        · omega
        · omega
      · rw [if_neg (by omega), if_neg (by omega)]; omega
  rw [fin m (by rcases hmr with ⟨-, h⟩ | ⟨-, h⟩ | ⟨-, h⟩ <;> omega)]
  refine rdf_near (r := r) hu ?_ ?_ ?_
  · rw [e1, ← Nat.mul_assoc]; omega
  · rw [e2, ← Nat.mul_assoc]; omega
  · rcases hmr with ⟨h, e⟩ | ⟨h, e⟩ | ⟨h, e⟩
    · exact .inl ⟨h, by omega⟩
    · exact .inr (.inl ⟨h, by omega⟩)
    · exact .inr (.inr ⟨h, by omega⟩)

/-- The place of the n-th digit, and what stands ahead of it. -/
def Qn (v n : Nat) : Nat := (oP v - n + 10000).toNat
def Bn (v n : Nat) : Nat := v / 10 ^ Qn v n * 10 ^ Qn v n
def An (v n : Nat) : Nat := Bn v n + 10 ^ Qn v n
/-- No decimal of n digits is read as it. -/
def failN (R : Nat → Prop) (v n : Nat) : Prop := ¬ R (Bn v n) ∧ ¬ R (An v n)
/-- The nearest of n digits that is read as it. -/
def pickN (R : Nat → Prop) (v n d : Nat) : Prop := (R (Bn v n) ∧ (¬ R (An v n) ∨ near v (Qn v n) = Bn v n) ∧ d = Bn v n) ∨ (¬ (R (Bn v n) ∧ (¬ R (An v n) ∨ near v (Qn v n) = Bn v n)) ∧ d = An v n)
def SH (R : Nat → Prop) (v d : Nat) : Prop :=
  (∃ n, 1 ≤ n ∧ n < (oL v).length ∧ (∀ j, 1 ≤ j → j < n → failN R v j) ∧ ¬ failN R v n ∧ pickN R v n d) ∨ ((∀ j, 1 ≤ j → j < (oL v).length → failN R v j) ∧ d = v)
theorem pick_ex (R : Nat → Prop) (v n : Nat) : ∃ d, pickN R v n d := by
  by_cases h : R (Bn v n) ∧ (¬ R (An v n) ∨ near v (Qn v n) = Bn v n)
  · exact ⟨_, .inl ⟨h.1, h.2, rfl⟩⟩
  · exact ⟨_, .inr ⟨h, rfl⟩⟩
theorem pick_uniq {R : Nat → Prop} {v n d e : Nat} (h : pickN R v n d) (k : pickN R v n e) : d = e := by
  rcases h with ⟨a, b, rfl⟩ | ⟨a, rfl⟩ <;> rcases k with ⟨a', b', rfl⟩ | ⟨a', rfl⟩
  · rfl
  · exact absurd ⟨a, b⟩ a'
  · exact absurd ⟨a', b'⟩ a
  · rfl
theorem sh_ex (R : Nat → Prop) (v : Nat) : ∃ d, SH R v d := by
  have key : ∀ N, (∀ j, 1 ≤ j → j < N → failN R v j) ∨ ∃ n, 1 ≤ n ∧ n < N ∧ (∀ j, 1 ≤ j → j < n → failN R v j) ∧ ¬ failN R v n := by
    intro N
    induction N with
    | zero => exact .inl fun j _ h => by omega
    | succ N ih =>
      rcases ih with h | ⟨n, h1, h2, h3, h4⟩
      · by_cases hN : 1 ≤ N ∧ ¬ failN R v N
        · exact .inr ⟨N, hN.1, by omega, h, hN.2⟩
        · refine .inl fun j h1 h2 => ?_
          rcases Nat.lt_or_ge j N with h3 | h3
          · exact h j h1 h3
          · obtain rfl : j = N := by omega
            exact Classical.byContradiction fun hc => hN ⟨h1, hc⟩
      · exact .inr ⟨n, h1, by omega, h3, h4⟩
  rcases key (oL v).length with h | ⟨n, h1, h2, h3, h4⟩
  · exact ⟨v, .inr ⟨h, rfl⟩⟩
  · obtain ⟨d, hd⟩ := pick_ex R v n
    exact ⟨d, .inl ⟨n, h1, h2, h3, h4, hd⟩⟩
theorem SH.at {R : Nat → Prop} {v d n : Nat} (h : SH R v d) (h1 : 1 ≤ n) (h2 : n < (oL v).length) (hf : ∀ j, 1 ≤ j → j < n → failN R v j) (hn : ¬ failN R v n) : pickN R v n d := by
  rcases h with ⟨k, k1, k2, k3, k4, k5⟩ | ⟨k1, k2⟩
  · rcases Nat.lt_trichotomy n k with h | h | h
    · exact absurd (k3 n h1 h) hn
    · subst h; exact k5
    · exact absurd (hf k k1 h) k4
  · exact absurd (k1 n h1 h2) hn
theorem SH.all {R : Nat → Prop} {v d : Nat} (h : SH R v d) (hf : ∀ j, 1 ≤ j → j < (oL v).length → failN R v j) : d = v := by
  rcases h with ⟨k, k1, k2, k3, k4, k5⟩ | ⟨k1, k2⟩
  · exact absurd (hf k k1 k2) k4
  · exact k2

/-- The bounds of a pattern round its value: below by no more than above; strictly where they are not read as it. -/
structure Bd (R : Nat → Prop) (v g1 g2 : Nat) : Prop where
  le : g1 ≤ g2
  pos : 0 < g1
  mem : ∃ ev : Bool, ∀ x, R x ↔ if ev then v ≤ x + g1 ∧ x ≤ v + g2 else v < x + g1 ∧ x < v + g2
theorem Bd.self {R : Nat → Prop} {v g1 g2 : Nat} (h : Bd R v g1 g2) : R v := by
  obtain ⟨ev, hev⟩ := h.mem
  have := h.le; have := h.pos
  rw [hev]; cases ev <;> simp <;> omega
theorem Bd.near {R : Nat → Prop} {v g1 g2 x : Nat} (h : Bd R v g1 g2) (h1 : v < x + g1) (h2 : x < v + g1) : R x := by
  obtain ⟨ev, hev⟩ := h.mem
  have := h.le
  rw [hev]; cases ev <;> simp <;> omega
theorem near_is (v n : Nat) : near v (Qn v n) = Bn v n ∨ (near v (Qn v n) = An v n ∧ near v (Qn v n) ≠ Bn v n ∧ 10 ^ Qn v n ≤ 2 * (v - Bn v n)) := by
  have h0 := Nat.div_add_mod v (10 ^ Qn v n)
  have hp := pow_pos10 (Qn v n)
  rw [Nat.mul_comm] at h0
  unfold near An Bn
  by_cases h : 2 * (v % 10 ^ Qn v n) < 10 ^ Qn v n ∨ (2 * (v % 10 ^ Qn v n) = 10 ^ Qn v n ∧ v / 10 ^ Qn v n % 2 = 0)
  · rw [if_pos h]; exact .inl rfl
  · rw [if_neg h]
    refine .inr ⟨rfl, ?_, ?_⟩
    · generalize v / 10 ^ Qn v n * 10 ^ Qn v n = b at *; omega
    · generalize v / 10 ^ Qn v n * 10 ^ Qn v n = b at *; omega
theorem Bn_le (v n : Nat) : Bn v n ≤ v ∧ v < An v n := by
  have h0 := Nat.div_add_mod v (10 ^ Qn v n)
  have h1 := Nat.mod_lt v (pow_pos10 (Qn v n))
  rw [Nat.mul_comm] at h0
  unfold An Bn
  generalize v / 10 ^ Qn v n * 10 ^ Qn v n = b at *
  omega
theorem Bd.key {R : Nat → Prop} {v g1 g2 n : Nat} (h : Bd R v g1 g2) (hn : 10 ^ Qn v n ≤ 2 * (v - Bn v n)) (hB : R (Bn v n)) : R (An v n) := by
  obtain ⟨ev, hev⟩ := h.mem
  have := h.le; have := h.pos
  have hb := Bn_le v n
  rw [hev] at hB ⊢
  unfold An at *
  cases ev
  · simp only [Bool.false_eq_true, if_false] at hB ⊢
    omega
  · simp only [if_true] at hB ⊢
    omega
/-- The program's way: the nearest one first, then the one above. -/
theorem pick_near {R : Nat → Prop} {v g1 g2 n : Nat} (h : Bd R v g1 g2) (hR : R (near v (Qn v n))) : pickN R v n (near v (Qn v n)) ∧ ¬ failN R v n := by
  rcases near_is v n with e | ⟨e, ne, -⟩
  · exact ⟨.inl ⟨e ▸ hR, .inr e, e⟩, fun f => f.1 (e ▸ hR)⟩
  · refine ⟨.inr ⟨?_, e⟩, fun f => f.2 (e ▸ hR)⟩
    rintro ⟨-, h1 | h1⟩
    · exact h1 (e ▸ hR)
    · exact ne h1
theorem pick_above {R : Nat → Prop} {v g1 g2 n : Nat} (h : Bd R v g1 g2) (hR : ¬ R (near v (Qn v n))) (hA : R (An v n)) : pickN R v n (An v n) ∧ ¬ failN R v n := by
  refine ⟨.inr ⟨?_, rfl⟩, fun f => f.2 hA⟩
  rintro ⟨h1, h2⟩
  rcases near_is v n with e | ⟨e, ne, -⟩
  · exact hR (e ▸ h1)
  · exact hR (e ▸ hA)
theorem pick_none {R : Nat → Prop} {v g1 g2 n : Nat} (h : Bd R v g1 g2) (hR : ¬ R (near v (Qn v n))) (hA : ¬ R (An v n)) : failN R v n := by
  refine ⟨fun hB => ?_, hA⟩
  rcases near_is v n with e | ⟨e, ne, hn⟩
  · exact hR (e ▸ hB)
  · exact hA (h.key hn hB)
end Go.Proofs.YthbabhbfpcfenaaGreatDoor

/- Plain mathematics: what follows of the shortest decimal; the units. -/
namespace Go.Proofs.YthbabhbfpcfenaaGreatDoor
open Go.RowKit
set_option linter.unusedVariables false

theorem bd_of {f I u p : Nat} (hu : 0 < u) (h0 : p ≠ 0) (hp : p < I) : Bd (fun x => RD f I u x p) (2 * pq f p * u) (2 ^ pk f (p - 1) * u) (2 ^ pk f p * u) := by
  have e1 : pa f (p - 1) * u + 2 ^ pk f (p - 1) * u = 2 * pq f p * u := by
    rw [← Nat.add_mul, pa_up, show p - 1 + 1 = p by omega]
  have e2 : pa f p * u = 2 * pq f p * u + 2 ^ pk f p * u := by rw [← Nat.add_mul, ← pa_eq]
  refine ⟨Nat.mul_le_mul_right _ (pk_mono f (by omega)), Nat.mul_pos (pow_pos2 _) hu, decide (p % 2 = 0), fun x => ?_⟩
  rw [RD_bounds h0 hp]
  by_cases he : p % 2 = 0
  · rw [if_pos he, if_pos (decide_eq_true he)]; omega
  · rw [if_neg he, if_neg (by simp [he])]; omega
theorem gap_of {f u p : Nat} (h0 : p ≠ 0) : 2 * pq f p * u ≤ 2 ^ (f + 2) * (2 ^ pk f (p - 1) * u) := by
  have h := pq_gap f (p - 1)
  rw [show p - 1 + 1 = p by omega] at h
  rw [← Nat.mul_assoc]
  refine Nat.mul_le_mul_right _ ?_
  rw [Nat.pow_succ 2 (f + 1), Nat.mul_comm (2 ^ (f + 1)) 2, Nat.mul_assoc]
  exact Nat.mul_le_mul_left _ h

/-- Where the n-th digit stands. -/
theorem Qn_eq {v n : Nat} (h2 : n ≤ (oL v).length) : (Qn v n : Int) = oP v - n + 10000 := by
  have := o_low v
  unfold Qn; omega
theorem Qn_lt {v n : Nat} (h2 : n ≤ (oL v).length) : v < 10 ^ (Qn v n + n) := by
  have := Qn_eq h2
  exact (o_dec v).lt (by omega)
theorem Qn_ge {v n : Nat} (h1 : 1 ≤ n) (h2 : n ≤ (oL v).length) : 10 ^ (Qn v n + (n - 1)) ≤ v := by
  have := Qn_eq h2
  have hv : v ≠ 0 := fun e => by rw [oL_nil.2 e] at h2; simp at h2; omega
  exact (o_dec v).ge hv (by omega)
theorem Bn_ge {v n : Nat} (h1 : 1 ≤ n) (h2 : n ≤ (oL v).length) : 10 ^ (Qn v n + (n - 1)) ≤ Bn v n := by
  have h := Qn_ge h1 h2
  rw [Nat.pow_add, Nat.mul_comm] at h ⊢
  exact Nat.mul_le_mul_right _ ((Nat.le_div_iff_mul_le (pow_pos10 _)).2 h)
theorem Bn_form {v n : Nat} (h2 : n ≤ (oL v).length) : ∃ c, c < 10 ^ n ∧ Bn v n = c * 10 ^ Qn v n ∧ An v n = (c + 1) * 10 ^ Qn v n := by
  refine ⟨v / 10 ^ Qn v n, Nat.div_lt_of_lt_mul (by rw [← Nat.pow_add]; exact Qn_lt h2), rfl, ?_⟩
  rw [Nat.add_mul, Nat.one_mul]; rfl
theorem form_len {x c Q n : Nat} (h : x = c * 10 ^ Q) (hc : c ≤ 10 ^ n) (hn : 1 ≤ n) : (oL x).length ≤ n := by
  rcases Nat.lt_or_ge c (10 ^ n) with h1 | h1
  · exact cnt_le h h1
  · have hu : c = 10 ^ n := by omega
    have := cnt_le (v := x) (u := 1) (j := n + Q) (q := 1) (by rw [h, hu, ← Nat.pow_add, Nat.one_mul]) (by decide)
    omega
theorem pick_R {R : Nat → Prop} {v n d : Nat} (hn : ¬ failN R v n) (h : pickN R v n d) : R d ∧ (d = Bn v n ∨ d = An v n) := by
  rcases h with ⟨a, b, rfl⟩ | ⟨a, rfl⟩
  · exact ⟨a, .inl rfl⟩
  · refine ⟨Classical.byContradiction fun hA => ?_, .inr rfl⟩
    exact hn ⟨fun hB => a ⟨hB, .inl hA⟩, hA⟩
theorem mul_div_is {c v T : Nat} (hT : 0 < T) (h1 : c * T ≤ v) (h2 : v < c * T + T) : v / T = c := by
  rw [Nat.div_eq_iff hT]; omega
/-- What is found at n has n digits. -/
theorem pick_len {R : Nat → Prop} {v n d : Nat} (h1 : 1 ≤ n) (h2 : n < (oL v).length) (hf : ∀ j, 1 ≤ j → j < n → failN R v j) (hn : ¬ failN R v n) (hd : pickN R v n d) : (oL d).length = n := by
  obtain ⟨hR, hBA⟩ := pick_R hn hd
  obtain ⟨c, hc, e1, e2⟩ := Bn_form (Nat.le_of_lt h2)
  have hle : (oL d).length ≤ n := by
    rcases hBA with rfl | rfl
    · exact form_len e1 (by omega) h1
    · exact form_len e2 (by omega) h1
  have hB := Bn_ge h1 (Nat.le_of_lt h2)
  have hlt := Bn_le v n
  have hdB : Bn v n ≤ d := by
    rcases hBA with h | h
    · rw [h]; exact Nat.le_refl _
    · rw [h]; exact Nat.le_add_right _ _
  have hd0 : d ≠ 0 := by have := pow_pos10 (Qn v n + (n - 1)); omega
  rcases Nat.lt_or_ge (oL d).length n with hj | hj
  · exfalso
    have hj1 : 1 ≤ (oL d).length := by
      rcases Nat.eq_zero_or_pos (oL d).length with h | h
      · exact absurd (oL_nil.1 (List.eq_nil_of_length_eq_zero h)) hd0
      · exact h
    have hP := oP_gt (Nat.le_trans hB hdB)
    have q1 := Qn_eq (Nat.le_of_lt h2)
    have q2 := Qn_eq (v := v) (n := (oL d).length) (by omega)
    have hm := (o_dec d).mod (E := Qn v (oL d).length) (by omega)
    have hQ : Qn v n ≤ Qn v (oL d).length := by omega
    have hT : (10 : Nat) ^ Qn v n ≤ 10 ^ Qn v (oL d).length := Nat.pow_le_pow_right (by decide) hQ
    have hfj := hf _ hj1 hj
    have hx := Nat.div_add_mod d (10 ^ Qn v (oL d).length)
    rw [hm, Nat.add_zero, Nat.mul_comm] at hx
    have hpos := pow_pos10 (Qn v (oL d).length)
    rcases hBA with hb | hb
    · refine hfj.1 ?_
      have : v / 10 ^ Qn v (oL d).length = d / 10 ^ Qn v (oL d).length := mul_div_is hpos (by omega) (by unfold An at hlt; omega)
      unfold Bn; rw [this, hx]; exact hR
    · refine hfj.2 ?_
      have hc1 : 1 ≤ d / 10 ^ Qn v (oL d).length := by
        rcases Nat.eq_zero_or_pos (d / 10 ^ Qn v (oL d).length) with h | h
        · rw [h, Nat.zero_mul] at hx; omega
        · exact h
      obtain ⟨y, hy⟩ : ∃ y, d / 10 ^ Qn v (oL d).length = y + 1 := ⟨_, (Nat.sub_add_cancel hc1).symm⟩
      rw [hy, Nat.add_mul, Nat.one_mul] at hx
      have : v / 10 ^ Qn v (oL d).length = y := mul_div_is hpos (by unfold An at hb; omega) (by omega)
      unfold An Bn; rw [this, hx]; exact hR
  · omega
/-- A pattern's value of some size. -/
structure Fine (v : Nat) : Prop where
  len : (oL v).length ≤ 900
  p0 : -1300 ≤ oP v
  p1 : oP v ≤ 900
theorem Fine.good {v : Nat} (h : Fine v) : Good v := ⟨by have := h.len; omega, by have := h.p0; omega, by have := h.p1; omega⟩
theorem fine_ex {m : Nat} {e : Int} (hm : m < 18446744073709551616) (h0 : -1200 ≤ e) (h1 : e ≤ 1200) : Fine (exU m e) := by
  obtain ⟨J, u, q, h2, h3, h6, h4, h5⟩ := exU_split hm h0 h1
  have hl := cnt_le h2 h3
  by_cases hz : exU m e = 0
  · rw [hz]; exact ⟨by rw [o_zero.1]; simp, by rw [o_zero.2]; decide, by rw [o_zero.2]; decide⟩
  · have hu : 1 ≤ u := by
      rcases Nat.eq_zero_or_pos u with h | h
      · subst h; rw [Nat.zero_mul] at h2; exact absurd h2 hz
      · exact h
    have hg := oP_gt (v := exU m e) (q := J) (by rw [h2]; have := Nat.mul_le_mul_right (10 ^ J) hu; omega)
    have hlt : exU m e < 10 ^ (J + q) := by
      rw [h2, Nat.pow_add, Nat.mul_comm (10 ^ J)]
      exact Nat.mul_lt_mul_of_pos_right h3 (pow_pos10 J)
    rcases oP_le hlt with h | h
    · exact ⟨by omega, by omega, by omega⟩
    · exact absurd h hz
theorem place_good {v n x c : Nat} (h : Fine v) (h1 : 1 ≤ n) (h2 : n ≤ (oL v).length) (hx : x = c * 10 ^ Qn v n) (hc : c ≤ 10 ^ n) : Good x := by
  have hl := h.len
  have hp0 := h.p0
  have hp1 := h.p1
  have q := Qn_eq h2
  refine good_of (J := Qn v n) (K := n + 1) (by rw [hx]; exact pow_mod _ _) ?_ (by omega) (by omega) (by omega)
  rw [hx, Nat.pow_add, Nat.mul_comm (10 ^ Qn v n)]
  refine Nat.mul_lt_mul_of_pos_right ?_ (pow_pos10 _)
  have := pow_pos10 n
  rw [Nat.pow_succ]; omega
theorem An_good {v n : Nat} (h : Fine v) (h1 : 1 ≤ n) (h2 : n ≤ (oL v).length) : Good (Bn v n) ∧ Good (An v n) ∧ Good (10 ^ Qn v n) ∧ Good (near v (Qn v n)) := by
  obtain ⟨c, hc, e1, e2⟩ := Bn_form h2
  have gB := place_good h h1 h2 e1 (by omega)
  have gA := place_good h h1 h2 e2 (by omega)
  refine ⟨gB, gA, place_good h h1 h2 (Nat.one_mul _).symm (pow_pos10 n), ?_⟩
  rcases near_is v n with e | ⟨e, -, -⟩
  · rw [e]; exact gB
  · rw [e]; exact gA
theorem SH.good {R : Nat → Prop} {v d : Nat} (hv : Fine v) (h : SH R v d) : Good d := by
  rcases h with ⟨n, h1, h2, h3, h4, h5⟩ | ⟨-, rfl⟩
  · obtain ⟨gB, gA, -, -⟩ := An_good hv h1 (Nat.le_of_lt h2)
    rcases (pick_R h4 h5).2 with rfl | rfl
    · exact gB
    · exact gA
  · exact hv.good
theorem SH.read {R : Nat → Prop} {v d : Nat} (hv : R v) (h : SH R v d) : R d := by
  rcases h with ⟨n, h1, h2, h3, h4, h5⟩ | ⟨-, rfl⟩
  · exact (pick_R h4 h5).1
  · exact hv
/-- No decimal of fewer digits. -/
theorem SH.fewer {R : Nat → Prop} {v d k : Nat} (h : SH R v d) (h1 : 1 ≤ k) (h2 : k < (oL d).length) (h3 : k < (oL v).length) : failN R v k := by
  rcases h with ⟨n, n1, n2, n3, n4, n5⟩ | ⟨hf, rfl⟩
  · rw [pick_len n1 n2 n3 n4 n5] at h2
    exact n3 k h1 h2
  · exact hf k h1 h3
theorem SH.len {R : Nat → Prop} {v d : Nat} (h : SH R v d) : (oL d).length ≤ (oL v).length := by
  rcases h with ⟨n, n1, n2, n3, n4, n5⟩ | ⟨hf, rfl⟩
  · rw [pick_len n1 n2 n3 n4 n5]; omega
  · exact Nat.le_refl _
/-- None of as many is nearer. -/
theorem SH.closest {R : Nat → Prop} {v d g1 g2 : Nat} (hb : Bd R v g1 g2) (h : SH R v d) : rnd v (oL d).length = d ∨ ¬ R (rnd v (oL d).length) := by
  rcases h with ⟨n, n1, n2, n3, n4, n5⟩ | ⟨hf, rfl⟩
  · have hl := pick_len n1 n2 n3 n4 n5
    have q := Qn_eq (Nat.le_of_lt n2)
    rw [hl, rnd_near (Q := Qn v n) (by omega)]
    by_cases hR : R (near v (Qn v n))
    · exact .inl (pick_uniq (pick_near hb hR).1 n5)
    · exact .inr hR
  · refine .inl ?_
    unfold rnd
    rw [if_neg (by omega), if_pos (Int.le_refl _)]
/-- How many digits are enough. -/
theorem near_in {R : Nat → Prop} {v g1 g2 n C : Nat} (hb : Bd R v g1 g2) (h1 : 1 ≤ n) (h2 : n ≤ (oL v).length) (hC : v ≤ C * g1) (hC2 : C < 2 * 10 ^ (n - 1)) : R (near v (Qn v n)) := by
  have h := Qn_ge h1 h2
  obtain ⟨c, e, -, k1, k2⟩ := near_form v (Qn v n)
  rw [Nat.pow_add] at h
  have hp := pow_pos10 (n - 1)
  have ht : 10 ^ Qn v n < 2 * g1 := by
    rcases Nat.lt_or_ge (10 ^ Qn v n) (2 * g1) with h3 | h3
    · exact h3
    · exfalso
      have a1 : 2 * g1 * 10 ^ (n - 1) ≤ 10 ^ Qn v n * 10 ^ (n - 1) := Nat.mul_le_mul_right _ h3
      have a2 : C * g1 < 2 * 10 ^ (n - 1) * g1 := Nat.mul_lt_mul_of_pos_right hC2 hb.pos
      have a3 : 2 * 10 ^ (n - 1) * g1 = 2 * g1 * 10 ^ (n - 1) := by rw [Nat.mul_assoc, Nat.mul_comm (10 ^ (n - 1)), ← Nat.mul_assoc]
      omega
  exact hb.near (by omega) (by omega)
theorem SH.few {R : Nat → Prop} {v d g1 g2 C N : Nat} (hb : Bd R v g1 g2) (h : SH R v d) (h1 : 1 ≤ N) (hC : v ≤ C * g1) (hC2 : C < 2 * 10 ^ (N - 1)) : (oL d).length ≤ N := by
  have key : N < (oL v).length → ¬ failN R v N := fun hN f => by
    have hR := near_in hb h1 (Nat.le_of_lt hN) hC hC2
    exact (pick_near hb hR).2 f
  rcases Nat.lt_or_ge N (oL d).length with hlt | hge
  · exfalso
    have hl := h.len
    exact key (by omega) (h.fewer h1 hlt (by omega))
  · exact hge

/-- The units. -/
theorem exU_lin (m : Nat) (e : Int) : exU m e = m * exU 1 e := by
  unfold exU
  split
  · rw [Nat.one_mul, Nat.mul_assoc]
  · rw [Nat.one_mul, Nat.mul_assoc]
theorem exU_shift (m : Nat) (e0 : Int) (k : Nat) (h : -1200 ≤ e0) (h1 : e0 + k ≤ 1200) : exU m (e0 + k) = m * 2 ^ k * exU 1 e0 := by
  induction k with
  | zero => rw [show e0 + (0 : Nat) = e0 by omega, Nat.pow_zero, Nat.mul_one, exU_lin]
  | succ k ih =>
    rw [show e0 + (k + 1 : Nat) = e0 + k + 1 by omega, exU_double m (e0 + k) (by omega) (by omega), ih (by omega), Nat.pow_succ, ← Nat.mul_assoc, Nat.mul_comm (m * 2 ^ k) 2, Nat.mul_assoc 2]
    omega
theorem exU_val {f p : Nat} {least : Int} (h : -1199 ≤ least) (h1 : least + pk f p ≤ 1200) : exU (pm f p) (least + pk f p) = 2 * pq f p * exU 1 (least - 1) := by
  have h2 := exU_shift (pm f p) (least - 1) (pk f p + 1) (by omega) (by omega)
  rw [show least - 1 + (pk f p + 1 : Nat) = least + pk f p by omega] at h2
  rw [h2, Nat.pow_succ]
  unfold pq
  rw [← Nat.mul_assoc, Nat.mul_comm _ 2]
theorem exU_mid {f p : Nat} {least : Int} (h : -1199 ≤ least) (h1 : least + pk f p ≤ 1200) : exU (2 * pm f p + 1) (least + pk f p - 1) = pa f p * exU 1 (least - 1) := by
  have h2 := exU_shift (2 * pm f p + 1) (least - 1) (pk f p) (by omega) (by omega)
  rw [show least - 1 + (pk f p : Int) = least + pk f p - 1 by omega] at h2
  exact h2
theorem exU_pos (e : Int) : 0 < exU 1 e := by
  unfold exU
  split
  · exact Nat.mul_pos (Nat.mul_pos (by decide) (pow_pos2 _)) (pow_pos10 _)
  · exact Nat.mul_pos (Nat.mul_pos (by decide) (Nat.pow_pos (by decide))) (pow_pos10 _)
end Go.Proofs.YthbabhbfpcfenaaGreatDoor

/- Plain mathematics of layer 6: digits around a point, place by place; digits that a rounding leaves. -/
namespace Go.Proofs.YthbabhbfpcfenaaGreatDoor
open Go.RowKit
set_option linter.unusedVariables false
set_option linter.unusedSimpArgs false

/-- A text's byte at a place, a nought where it has none. -/
def ch (s : ByteArray) (i : Int) : UInt8 := if 0 ≤ i ∧ i < (s.size : Nat) then s.data.toList.getD i.toNat 0 else 48
def chs (s : ByteArray) (i : Int) (k : Nat) : List UInt8 := (List.range k).map fun j : Nat => ch s (i + j)
theorem chs_len (s : ByteArray) (i : Int) (k : Nat) : (chs s i k).length = k := by simp [chs]
theorem chs_zero (s : ByteArray) (i : Int) : chs s i 0 = [] := rfl
theorem chs_succ (s : ByteArray) (i : Int) (k : Nat) : chs s i (k + 1) = chs s i k ++ [ch s (i + k)] := by simp [chs, List.range_succ]
theorem chs_get (s : ByteArray) (i : Int) (k j : Nat) (h : j < k) : (chs s i k)[j]'(by rw [chs_len]; exact h) = ch s (i + j) := by simp [chs]
theorem ch_in (s : ByteArray) (i : Nat) (h : i < s.size) : ch s i = s.data.toList[i]'(by rw [list_len]; exact h) := by
  unfold ch
  rw [if_pos (by omega), Int.toNat_natCast, List.getD_eq_getElem?_getD, List.getElem?_eq_getElem (by rw [list_len]; exact h), Option.getD_some]
theorem ch_out (s : ByteArray) (i : Int) (h : i < 0 ∨ (s.size : Int) ≤ i) : ch s i = 48 := by unfold ch; rw [if_neg (by omega)]
theorem lnB_list (s : ByteArray) (n : Int) : (lnB s n).data.toList = s.data.toList ++ List.replicate (n - (s.size : Nat)).toNat 48 := by
  unfold lnB; rw [app_list, run_list]; rfl
theorem lnA_list (s : ByteArray) (n : Int) : (lnA s n).data.toList = List.replicate (n - (s.size : Nat)).toNat 48 ++ s.data.toList := by
  unfold lnA; rw [app_list, run_list]; rfl
theorem ch_lnB (s : ByteArray) (n : Int) (i : Int) : ch (lnB s n) i = ch s i := by
  rcases Int.lt_or_le i 0 with h0 | h0
  · rw [ch_out _ _ (.inl h0), ch_out _ _ (.inl h0)]
  · obtain ⟨j, rfl⟩ := Int.eq_ofNat_of_zero_le h0
    have hz := lnB_size s n
    rcases Nat.lt_or_ge j s.size with h1 | h1
    · rw [ch_in s j h1, ch_in (lnB s n) j (by omega)]
      simp only [lnB_list]
      rw [List.getElem_append_left (by rw [list_len]; exact h1)]
    · rw [ch_out s _ (.inr (by omega))]
      rcases Nat.lt_or_ge j (lnB s n).size with h2 | h2
      · rw [ch_in (lnB s n) j h2]
        simp only [lnB_list]
        rw [List.getElem_append_right (by rw [list_len]; exact h1), List.getElem_replicate]
      · rw [ch_out _ _ (.inr (by omega))]
theorem chs_lnB (s : ByteArray) (n : Int) (i : Int) (k : Nat) : chs (lnB s n) i k = chs s i k := by simp [chs, ch_lnB]
theorem ext_li (s : ByteArray) (a b : Nat) : (s.extract a b).data.toList = (s.data.toList.take b).drop a := by
  rw [ByteArray.data_extract, Array.toList_extract, List.extract_eq_take_drop]
  rw [List.drop_take]
theorem chs_all (s : ByteArray) : chs s 0 s.size = s.data.toList := by
  apply List.ext_getElem
  · rw [chs_len, list_len]
  · intro i h1 h2
    rw [chs_get _ _ _ _ (by rw [chs_len] at h1; exact h1)]
    rw [chs_len] at h1
    have := ch_in s i h1
    rw [← this]; congr 1; omega
theorem chs_take (s : ByteArray) (i : Int) (k j : Nat) (h : j ≤ k) : (chs s i k).take j = chs s i j := by
  unfold chs
  rw [← List.map_take, List.take_range, Nat.min_eq_left h]
theorem chs_drop (s : ByteArray) (i : Int) (k j : Nat) (h : j ≤ k) : (chs s i k).drop j = chs s (i + j) (k - j) := by
  apply List.ext_getElem
  · rw [List.length_drop, chs_len, chs_len]
  · intro a h1 h2
    rw [chs_len] at h2
    rw [List.getElem_drop, chs_get _ _ _ _ (by omega), chs_get _ _ _ _ h2]
    congr 1; omega
/-- Digits ahead of the point. -/
theorem arA_chs (s : ByteArray) (p : Int) (hp : 0 < p) : (arA s p).data.toList = chs s 0 p.toNat := by
  have hz := lnB_size s p
  unfold arA
  rw [if_neg (by omega), ext_li, List.drop_zero, ← chs_all, chs_lnB, chs_take _ _ _ _ (by omega)]
theorem arB_size_is (s : ByteArray) (p : Int) : (arB s p).size = ((s.size : Int) - p).toNat := by
  have hz := lnB_size s p
  have hy := lnA_size s ((s.size : Nat) - p)
  unfold arB
  split
  · omega
  · rw [ByteArray.size_extract]; omega
/-- Digits behind the point. -/
theorem arB_chs (s : ByteArray) (p : Int) : (arB s p).data.toList = chs s p (arB s p).size := by
  have hsz := arB_size_is s p
  rcases Int.lt_or_le 0 p with hp | hp
  · have hz := lnB_size s p
    rw [hsz]
    unfold arB
    rw [if_neg (by omega), ext_li, List.take_of_length_le (by rw [list_len]; omega), ← chs_all, chs_lnB, chs_drop _ _ _ _ (by omega)]
    congr 1 <;> omega
  · apply List.ext_getElem
    · rw [chs_len, list_len]
    · intro j h1 h2
      rw [chs_len] at h2
      rw [chs_get _ _ _ _ h2]
      have hl : (arB s p).data.toList = List.replicate (-p).toNat 48 ++ s.data.toList := by
        unfold arB
        rw [if_pos hp, lnA_list]
        congr 2; omega
      rcases Nat.lt_or_ge j (-p).toNat with h3 | h3
      · rw [ch_out _ _ (.inl (by omega))]
        simp only [hl]
        rw [List.getElem_append_left (by rw [List.length_replicate]; exact h3), List.getElem_replicate]
      · have e : p + (j : Int) = ((j - (-p).toNat : Nat) : Int) := by omega
        rw [e, ch_in s _ (by omega)]
        simp only [hl]
        rw [List.getElem_append_right (by rw [List.length_replicate]; exact h3)]
        congr 1; rw [List.length_replicate]
theorem arBn_chs (s : ByteArray) (p : Int) (k : Int) (h : (s.size : Int) - p ≤ k) (hk : 0 ≤ k) : (lnB (arB s p) k).data.toList = chs s p k.toNat := by
  have hsz := arB_size_is s p
  have hz := lnB_size (arB s p) k
  rw [← chs_all, chs_lnB, hz]
  apply List.ext_getElem
  · rw [chs_len, chs_len]; omega
  · intro j h1 h2
    rw [chs_len] at h1 h2
    rw [chs_get _ _ _ _ h1, chs_get _ _ _ _ h2]
    rcases Nat.lt_or_ge j (arB s p).size with h3 | h3
    · have := ch_in (arB s p) j h3
      rw [Int.zero_add, this]
      simp only [arB_chs]
      rw [chs_get _ _ _ _ h3]
    · rw [ch_out _ _ (.inr (by omega)), ch_out _ _ (.inr (by omega))]
theorem lnB_lnB (s : ByteArray) (a b : Int) : lnB (lnB s a) b = lnB s (max a b) := by
  apply ByteArray.ext; apply Array.ext'
  rw [lnB_list, lnB_list, lnB_list, lnB_size, List.append_assoc, List.replicate_append_replicate]
  congr 2; omega
theorem lnB_same (s : ByteArray) (a b : Int) (h : max (s.size : Int) a = max (s.size : Int) b) : lnB s a = lnB s b := by
  unfold lnB
  congr 2; omega
theorem lnB_none (s : ByteArray) (a : Int) (h : a ≤ (s.size : Int)) : lnB s a = s := by
  apply ByteArray.ext; apply Array.ext'
  rw [lnB_list, show (a - (s.size : Nat)).toNat = 0 by omega]; simp
theorem lnA_none (s : ByteArray) (a : Int) (h : a ≤ (s.size : Int)) : lnA s a = s := by
  apply ByteArray.ext; apply Array.ext'
  rw [lnA_list, show (a - (s.size : Nat)).toNat = 0 by omega]; simp
theorem lenS_lnA (s : ByteArray) (n : Int) (h : n ≤ 1000) : lenS s n = lnA s n := by
  have : wdt (n - (s.size : Nat)) = (n - (s.size : Nat)).toNat := by unfold wdt; omega
  unfold lenS lnA; rw [this]
/-- What has nothing below a place has its digits above it. -/
theorem low_of {d J : Nat} (h : d % 10 ^ J = 0) : d = 0 ∨ (J : Int) ≤ oP d - (oL d).length + 10000 := by
  by_cases hd : d = 0
  · exact .inl hd
  · refine .inr ?_
    have k := o_dec d
    have hne := k.ne hd
    have hv : num (oL d) * 10 ^ (oP d - (oL d).length + 10000).toNat = d := o_val d
    have hl := num_last k.dig k.lst hne
    have hlow := o_low d
    rcases Int.lt_or_le (oP d - (oL d).length + 10000) (J : Int) with h1 | h1
    · exfalso
      have h2 : d = d / 10 ^ J * 10 ^ J := by have := Nat.div_add_mod d (10 ^ J); rw [h, Nat.mul_comm] at this; omega
      exact pow_split hl (show (oP d - (oL d).length + 10000).toNat < J by omega) (hv.trans h2)
    · exact h1
theorem near_mod (v P : Nat) : near v P % 10 ^ P = 0 := by
  unfold near
  split
  · exact Nat.mul_mod_left _ _
  · rw [Nat.add_mod_right]; exact Nat.mul_mod_left _ _
/-- What is rounded to places has no more of them. -/
theorem plc_low {v : Nat} {k : Int} (h0 : 0 ≤ k) (h1 : k ≤ 1000) : ((oL (plc v k)).length : Int) - oP (plc v k) ≤ k := by
  have e : plc v k = rnd v (oP v + k) := by unfold plc; congr 1; omega
  rw [e]
  unfold rnd
  split
  · rw [o_zero.1, o_zero.2]; simpa using h0
  · split
    · omega
    · rename_i h2 h3
      rcases low_of (near_mod v (oP v - (oP v + k) + 10000).toNat) with h | h
      · rw [h, o_zero.1, o_zero.2]; simpa using h0
      · omega
/-- What is rounded to digits has no more of them. -/
theorem rnd_len {v : Nat} {c : Int} (h0 : 1 ≤ c) : ((oL (rnd v c)).length : Int) ≤ c := by
  unfold rnd
  rw [if_neg (by omega)]
  split
  · assumption
  · rename_i h
    obtain ⟨n, rfl⟩ := Int.eq_ofNat_of_zero_le (show 0 ≤ c by omega)
    have hn : n ≤ (oL v).length := by omega
    obtain ⟨x, hx, hB, hA⟩ := Bn_form (v := v) hn
    have e : (oP v - (n : Int) + 10000).toNat = Qn v n := rfl
    rw [e]
    rcases near_is v n with k | ⟨k, -, -⟩
    · rw [k]
      have := form_len hB (Nat.le_of_lt hx) (by omega)
      omega
    · rw [k]
      have := form_len hA hx (by omega)
      omega
end Go.Proofs.YthbabhbfpcfenaaGreatDoor
