/- The walks of package floats: noughts, texts put together, digits around a point. -/
import Derived.Test.YtkeoafidgfmhlabGreatDoorFText
import Derived.Test.YtkeoafidgfmhlabGreatDoorIWritten
import Derived.Test.YtkeoafidgfmhlabGreatDoorPad
namespace Go.Proofs.YtkeoafidgfmhlabGreatDoor
open Go.RowKit
set_option linter.unusedVariables false
set_option linter.unusedSimpArgs false

theorem join2 (a b : ByteArray) : (⟨(Lib.join ([a, b].map (·.data.toList)) (⟨#[]⟩ : ByteArray).data.toList).toArray⟩ : ByteArray) = a ++ b := by
  apply ByteArray.ext; apply Array.ext'
  rw [app_list]
  simp [Lib.join_cons, Lib.joinTail]
theorem join3 (a b c : ByteArray) : (⟨(Lib.join ([a, b, c].map (·.data.toList)) (⟨#[]⟩ : ByteArray).data.toList).toArray⟩ : ByteArray) = (a ++ b) ++ c := by
  apply ByteArray.ext; apply Array.ext'
  rw [app_list, app_list]
  simp [Lib.join_cons, Lib.joinTail]
theorem join4 (a b c d : ByteArray) : (⟨(Lib.join ([a, b, c, d].map (·.data.toList)) (⟨#[]⟩ : ByteArray).data.toList).toArray⟩ : ByteArray) = ((a ++ b) ++ c) ++ d := by
  apply ByteArray.ext; apply Array.ext'
  rw [app_list, app_list, app_list]
  simp [Lib.join_cons, Lib.joinTail]
theorem join_size {xs : List ByteArray} {r : ByteArray} (h : (⟨(Lib.join (xs.map (·.data.toList)) (⟨#[]⟩ : ByteArray).data.toList).toArray⟩ : ByteArray) = r) (hr : r.size ≤ 100000000) : (Lib.join (xs.map (·.data.toList)) (⟨#[]⟩ : ByteArray).data.toList).length ≤ 140737488355328 := by
  have := congrArg ByteArray.size h
  rw [mk_size] at this
  omega
set_option maxRecDepth 1000000 in
theorem together2 {a b : ByteArray} {bk : Nat} (w : World) (h0 : w.cell? ⟨bk, 0, none⟩ = some (.string a)) (h1 : w.cell? ⟨bk, 1, none⟩ = some (.string b)) (hz : a.size + b.size ≤ 10000000) :
    Calls Tryz.prog 30 #[.slice (some ⟨bk, 0, none⟩) 2 2] w fun e w' => e = .returned (.string (a ++ b)) ∧ Below w.heap.size w w' := by
  have hJ := Tryz.strings_Join bk 0 2 [a, b] ⟨#[]⟩ w (by
    intro j x hj
    match j, hj with
    | 0, hj => simp at hj; subst hj; exact h0
    | 1, hj => simp at hj; subst hj; exact h1
    | j + 2, hj => simp at hj) (World.block_lt_of_cell? w _ h0) (by simp) (by simp) (join_size (join2 a b) (by rw [app_size]; omega))
  rw [join2] at hJ
  generalize a ++ b = r at *
  go_enter Tryz.func30, Tryz.ntmps30
  go_wp2_with (go_at_call 58; refine hJ.mono ?_; rintro e w2 ⟨rfl, hb⟩)
  go_ret
  exact ⟨rfl, hb⟩
set_option maxRecDepth 1000000 in
theorem together3 {a b c : ByteArray} {bk : Nat} (w : World) (h0 : w.cell? ⟨bk, 0, none⟩ = some (.string a)) (h1 : w.cell? ⟨bk, 1, none⟩ = some (.string b)) (h2 : w.cell? ⟨bk, 2, none⟩ = some (.string c)) (hz : a.size + b.size + c.size ≤ 10000000) :
    Calls Tryz.prog 30 #[.slice (some ⟨bk, 0, none⟩) 3 3] w fun e w' => e = .returned (.string ((a ++ b) ++ c)) ∧ Below w.heap.size w w' := by
  have hJ := Tryz.strings_Join bk 0 3 [a, b, c] ⟨#[]⟩ w (by
    intro j x hj
    match j, hj with
    | 0, hj => simp at hj; subst hj; exact h0
    | 1, hj => simp at hj; subst hj; exact h1
    | 2, hj => simp at hj; subst hj; exact h2
    | j + 3, hj => simp at hj) (World.block_lt_of_cell? w _ h0) (by simp) (by simp) (join_size (join3 a b c) (by rw [app_size, app_size]; omega))
  rw [join3] at hJ
  generalize (a ++ b) ++ c = r at *
  go_enter Tryz.func30, Tryz.ntmps30
  go_wp2_with (go_at_call 58; refine hJ.mono ?_; rintro e w2 ⟨rfl, hb⟩)
  go_ret
  exact ⟨rfl, hb⟩
set_option maxRecDepth 1000000 in
theorem together4 {a b c d : ByteArray} {bk : Nat} (w : World) (h0 : w.cell? ⟨bk, 0, none⟩ = some (.string a)) (h1 : w.cell? ⟨bk, 1, none⟩ = some (.string b)) (h2 : w.cell? ⟨bk, 2, none⟩ = some (.string c)) (h3 : w.cell? ⟨bk, 3, none⟩ = some (.string d)) (hz : a.size + b.size + c.size + d.size ≤ 10000000) :
    Calls Tryz.prog 30 #[.slice (some ⟨bk, 0, none⟩) 4 4] w fun e w' => e = .returned (.string (((a ++ b) ++ c) ++ d)) ∧ Below w.heap.size w w' := by
  have hJ := Tryz.strings_Join bk 0 4 [a, b, c, d] ⟨#[]⟩ w (by
    intro j x hj
    match j, hj with
    | 0, hj => simp at hj; subst hj; exact h0
    | 1, hj => simp at hj; subst hj; exact h1
    | 2, hj => simp at hj; subst hj; exact h2
    | 3, hj => simp at hj; subst hj; exact h3
    | j + 4, hj => simp at hj) (World.block_lt_of_cell? w _ h0) (by simp) (by simp) (join_size (join4 a b c d) (by rw [app_size, app_size, app_size]; omega))
  rw [join4] at hJ
  generalize ((a ++ b) ++ c) ++ d = r at *
  go_enter Tryz.func30, Tryz.ntmps30
  go_wp2_with (go_at_call 58; refine hJ.mono ?_; rintro e w2 ⟨rfl, hb⟩)
  go_ret
  exact ⟨rfl, hb⟩
set_option maxRecDepth 1000000 in
theorem fnoughts_any (n : Int) (w : World) (hn : n ≤ 1000000) :
    Calls Tryz.prog 96 #[.int .i64 n] w fun e w' => e = .returned (.string (run 48 n.toNat)) ∧ Below w.heap.size w w' := by
  have hR : ∀ w, Calls Tryz.prog 36 #[.string ⟨#[48]⟩, .int .i64 (max n 0)] w fun e w' => e = .returned (.string (run 48 n.toNat)) ∧ Below w.heap.size w w' := fun w => by
    have hz : (⟨#[48]⟩ : ByteArray).size = 1 := rfl
    have e0 : max n 0 = (n.toNat : Int) := by omega
    rw [e0]
    refine (Tryz.strings_Repeat ⟨#[48]⟩ n.toNat w (by omega) (by rw [hz]; omega)).mono ?_
    rintro e w' ⟨rfl, hb⟩
    refine ⟨ret_str ?_, hb⟩
    have e : (⟨#[48]⟩ : ByteArray).data.toList = List.replicate 1 48 := rfl
    rw [e, Lib.repeatL_replicate, Nat.mul_one]
    unfold run
    apply ByteArray.ext; apply Array.ext'; simp
  generalize run 48 n.toNat = r at *
  go_enter Tryz.func96, Tryz.ntmps96
  go_wp2_with (go_at_call 36; refine (hR _).mono ?_; rintro e w2 ⟨rfl, hb⟩)
  go_ret
  exact ⟨rfl, hb⟩
abbrev NoC (n : Int) (r : ByteArray) : Prop := ∀ w, Calls Tryz.prog 96 #[.int .i64 n] w fun e w' => e = .returned (.string r) ∧ Below w.heap.size w w'
set_option maxRecDepth 1000000 in
theorem flen_any (s : ByteArray) (n : Int) (w : World) (hs : s.size ≤ 1000000) (h0 : -1000000 ≤ n) (h1 : n ≤ 1000000) :
    Calls Tryz.prog 65 #[.string s, .int .i64 n] w fun e w' => e = .returned (.string (lnA s n)) ∧ Below w.heap.size w w' := by
  have hN : NoC (n - (s.size : Nat)) (run 48 (n - (s.size : Nat)).toNat) := fun w => fnoughts_any _ w (by omega)
  have hz : (run 48 (n - (s.size : Nat)).toNat).size + s.size ≤ 10000000 := by rw [run_size]; omega
  unfold lnA
  generalize run 48 (n - (s.size : Nat)).toNat = r at *
  go_enter Tryz.func65, Tryz.ntmps65
  go_wp2_with (first
    | (go_at_call 96; refine (hN _).mono ?_; rintro e w2 ⟨rfl, hb2⟩)
    | (go_at_call 30; refine (together2 (a := r) (b := s) _ (by simp) (by simp) hz).mono ?_; rintro e w3 ⟨rfl, hb3⟩))
  go_ret
  exact ⟨rfl, bel_call (hb2.alloc hb2.size _) hb3 (Nat.le_refl _)⟩
set_option maxRecDepth 1000000 in
theorem flenB_any (s : ByteArray) (n : Int) (w : World) (hs : s.size ≤ 1000000) (h0 : -1000000 ≤ n) (h1 : n ≤ 1000000) :
    Calls Tryz.prog 79 #[.string s, .int .i64 n] w fun e w' => e = .returned (.string (lnB s n)) ∧ Below w.heap.size w w' := by
  have hN : NoC (n - (s.size : Nat)) (run 48 (n - (s.size : Nat)).toNat) := fun w => fnoughts_any _ w (by omega)
  have hz : s.size + (run 48 (n - (s.size : Nat)).toNat).size ≤ 10000000 := by rw [run_size]; omega
  unfold lnB
  generalize run 48 (n - (s.size : Nat)).toNat = r at *
  go_enter Tryz.func79, Tryz.ntmps79
  go_wp2_with (first
    | (go_at_call 96; refine (hN _).mono ?_; rintro e w2 ⟨rfl, hb2⟩)
    | (go_at_call 30; refine (together2 (a := s) (b := r) _ (by simp) (by simp) hz).mono ?_; rintro e w3 ⟨rfl, hb3⟩))
  go_ret
  exact ⟨rfl, bel_call (hb2.alloc hb2.size _) hb3 (Nat.le_refl _)⟩
abbrev LaC (s : ByteArray) (n : Int) (r : ByteArray) : Prop := ∀ w, Calls Tryz.prog 65 #[.string s, .int .i64 n] w fun e w' => e = .returned (.string r) ∧ Below w.heap.size w w'
abbrev LbC (s : ByteArray) (n : Int) (r : ByteArray) : Prop := ∀ w, Calls Tryz.prog 79 #[.string s, .int .i64 n] w fun e w' => e = .returned (.string r) ∧ Below w.heap.size w w'
abbrev DgC (n : Int) (b : Int) (r : ByteArray) : Prop := ∀ w, Calls Tryz.prog 84 #[.int .u64 n, .int .i64 b] w fun e w' => e = .returned (.string r) ∧ Below w.heap.size w w'
set_option maxRecDepth 1000000 in
theorem fsigned_any (n least : Int) (w : World) (h0 : -1000000 ≤ n) (h1 : n ≤ 1000000) (hl : least ≤ 10) (hl0 : 0 ≤ least) :
    Calls Tryz.prog 85 #[.int .i64 n, .int .i64 least] w fun e w' => e = .returned (.string (sgd n least)) ∧ Below w.heap.size w w' := by
  have hd := digT_size false 10 n.natAbs
  have hD : DgC (n.natAbs : Nat) 10 (digT false 10 n.natAbs) := fun w => idigits_any n.natAbs 10 w (by omega) (.inr (.inr (.inl rfl)))
  have hL : LaC (digT false 10 n.natAbs) least (lnA (digT false 10 n.natAbs) least) := fun w => flen_any _ _ w (by omega) (by omega) (by omega)
  have hz := lnA_size (digT false 10 n.natAbs) least
  have hz2 : (lnA (digT false 10 n.natAbs) least).size ≤ 100 := by omega
  unfold sgd sx1
  clear hz
  generalize lnA (digT false 10 n.natAbs) least = r at *
  generalize digT false 10 n.natAbs = t at *
  by_cases hn : n < 0
  · have e0 : ((n.natAbs : Nat) : Int) = -n := by omega
    rw [e0] at hD
    rw [if_pos hn]
    go_enter Tryz.func85, Tryz.ntmps85
    go_wp2_with (first
      | (go_at_call 84; refine (hD _).mono ?_; rintro e w2 ⟨rfl, hb2⟩)
      | (go_at_call 65; refine (hL _).mono ?_; rintro e w3 ⟨rfl, hb3⟩)
      | (go_at_call 30; refine (together2 (a := ⟨#[45]⟩) (b := r) _ (by simp) (by simp) (by rw [show (⟨#[45]⟩ : ByteArray).size = 1 from rfl]; omega)).mono ?_; rintro e w4 ⟨rfl, hb4⟩))
    go_ret
    have h := bel_call hb2 hb3 (Nat.le_refl _)
    exact ⟨rfl, bel_call (h.alloc h.size _) hb4 (Nat.le_refl _)⟩
  · have e0 : ((n.natAbs : Nat) : Int) = n := by omega
    rw [e0] at hD
    rw [if_neg hn]
    go_enter Tryz.func85, Tryz.ntmps85
    go_wp2_with (first
      | (go_at_call 84; refine (hD _).mono ?_; rintro e w2 ⟨rfl, hb2⟩)
      | (go_at_call 65; refine (hL _).mono ?_; rintro e w3 ⟨rfl, hb3⟩)
      | (go_at_call 30; refine (together2 (a := ⟨#[43]⟩) (b := r) _ (by simp) (by simp) (by rw [show (⟨#[43]⟩ : ByteArray).size = 1 from rfl]; omega)).mono ?_; rintro e w4 ⟨rfl, hb4⟩))
    go_ret
    have h := bel_call hb2 hb3 (Nat.le_refl _)
    exact ⟨rfl, bel_call (h.alloc h.size _) hb4 (Nat.le_refl _)⟩
set_option maxRecDepth 1000000 in
theorem fpointed_any {bits m : Nat} {size e P : Int} {sh : Bool} (a b : ByteArray) (w : World) (ha : a.size ≤ 1000000) (hb : b.size ≤ 1000000) :
    Calls Tryz.prog 82 #[.agg #[.int .u64 (bits : Nat), .int .i64 size, .int .u64 (m : Nat), .int .i64 e, .int .i64 P, .bool sh], .string a, .string b] w fun x w' => x = .returned (.string (ptd sh a b)) ∧ Below w.heap.size w w' := by
  have h1 : (⟨#[46]⟩ : ByteArray).size = 1 := rfl
  have hz : a.size + (⟨#[46]⟩ : ByteArray).size + b.size ≤ 10000000 := by omega
  unfold ptd
  by_cases h0 : b.size = 0
  · have hue : b.toList.isEmpty = true := empty_yes b h0
    cases sh with
    | false =>
      rw [if_pos ⟨h0, rfl⟩]
      clear h0
      go_enter Tryz.func82, Tryz.ntmps82
      go_wp2
      go_ret
      exact ⟨rfl, by go_grown⟩
    | true =>
      rw [if_neg (by simp)]
      clear h0
      go_enter Tryz.func82, Tryz.ntmps82
      go_wp2_with (go_at_call 30; refine (together3 (a := a) (b := ⟨#[46]⟩) (c := b) _ (by simp) (by simp) (by simp) hz).mono ?_; rintro e w3 ⟨rfl, hb3⟩)
      go_ret
      exact ⟨rfl, bel_call (by go_grown) hb3 (Nat.le_refl _)⟩
  · have hue : b.toList.isEmpty = false := empty_no b (by omega)
    rw [if_neg (by omega)]
    go_enter Tryz.func82, Tryz.ntmps82
    go_wp2_with (go_at_call 30; refine (together3 (a := a) (b := ⟨#[46]⟩) (c := b) _ (by simp) (by simp) (by simp) hz).mono ?_; rintro e w3 ⟨rfl, hb3⟩)
    go_ret
    exact ⟨rfl, bel_call (by go_grown) hb3 (Nat.le_refl _)⟩
set_option maxRecDepth 1000000 in
theorem faround_any (s : ByteArray) (p : Int) (w : World) (hs : s.size ≤ 100000) (h0 : -100000 ≤ p) (h1 : p ≤ 100000) :
    Calls Tryz.prog 81 #[.string s, .int .i64 p] w fun x w' => x = .returned (.tuple #[.string (arA s p), .string (arB s p)]) ∧ Below w.heap.size w w' := by
  unfold arA arB
  by_cases hp : p ≤ 0
  · have hL : LaC s ((s.size : Nat) - p) (lnA s ((s.size : Nat) - p)) := fun w => flen_any _ _ w (by omega) (by omega) (by omega)
    rw [if_pos hp, if_pos hp]
    generalize lnA s ((s.size : Nat) - p) = r at *
    go_enter Tryz.func81, Tryz.ntmps81
    go_wp2_with (go_at_call 65; refine (hL _).mono ?_; rintro e w3 ⟨rfl, hb3⟩)
    go_returns
    exact ⟨rfl, hb3⟩
  · have hL : LbC s p (lnB s p) := fun w => flenB_any _ _ w (by omega) (by omega) (by omega)
    have hz := lnB_size s p
    rw [if_neg hp, if_neg hp]
    obtain ⟨q, rfl⟩ := Int.eq_ofNat_of_zero_le (show 0 ≤ p by omega)
    have hq : (q : Int) ≤ (lnB s q).size := by omega
    have hq2 : q ≤ (lnB s q).size := by omega
    have hz2 : (lnB s q).size ≤ 1000000 := by omega
    clear hz
    generalize lnB s q = r at *
    go_enter Tryz.func81, Tryz.ntmps81
    go_wp2_with (go_at_call 79; refine (hL _).mono ?_; rintro e w3 ⟨rfl, hb3⟩)
    go_region
    all_goals go_wp2
    all_goals go_returns
    all_goals exact ⟨rfl, hb3.drew⟩
end Go.Proofs.YtkeoafidgfmhlabGreatDoor
