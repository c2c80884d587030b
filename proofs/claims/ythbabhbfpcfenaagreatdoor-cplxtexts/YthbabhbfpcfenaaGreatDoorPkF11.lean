/- FWalkB: these texts in one. -/
import Derived.Test.YthbabhbfpcfenaaGreatDoorPkF10
/- The walks of package floats: what each verb writes of a finite number, but x. -/
namespace Go.Proofs.YthbabhbfpcfenaaGreatDoor
open Go.RowKit
set_option linter.unusedVariables false
set_option linter.unusedSimpArgs false

theorem Cl.first {W w5 : World} (hb : Below W.drew.heap.size W.drew w5) : ∃ z : Cl W, w5 = z.w := ⟨⟨w5, bel_call (Below.refl _ _).drew hb (Nat.le_refl _)⟩, rfl⟩
theorem Cl.start {W w5 : World} (hb : Below W.heap.size W w5) : ∃ z : Cl W, w5 = z.w := ⟨⟨w5, hb⟩, rfl⟩
abbrev PtdC (bits m : Nat) (size e P : Int) (sh : Bool) (a b r : ByteArray) : Prop := ∀ w, Calls Tryz.prog 82 #[.agg #[.int .u64 (bits : Nat), .int .i64 size, .int .u64 (m : Nat), .int .i64 e, .int .i64 P, .bool sh], .string a, .string b] w fun x w' => x = .returned (.string r) ∧ Below w.heap.size w w'
abbrev SgdC (n l : Int) (r : ByteArray) : Prop := ∀ w, Calls Tryz.prog 85 #[.int .i64 n, .int .i64 l] w fun x w' => x = .returned (.string r) ∧ Below w.heap.size w w'
abbrev ArC (s : ByteArray) (p : Int) (a b : ByteArray) : Prop := ∀ w, Calls Tryz.prog 81 #[.string s, .int .i64 p] w fun x w' => x = .returned (.tuple #[.string a, .string b]) ∧ Below w.heap.size w w'
abbrev SciC (bits m : Nat) (size e P : Int) (sh : Bool) (d : ByteArray) (x : Int) (r : ByteArray) : Prop := ∀ w, Calls Tryz.prog 77 #[.agg #[.int .u64 (bits : Nat), .int .i64 size, .int .u64 (m : Nat), .int .i64 e, .int .i64 P, .bool sh], .string d, .int .i64 x] w fun x w' => x = .returned (.string r) ∧ Below w.heap.size w w'
abbrev ValC (bits m : Nat) (size e P : Int) (sh : Bool) (S : ByteArray) (Q : Int) : Prop := ∀ w, Calls Tryz.prog 76 #[.agg #[.int .u64 (bits : Nat), .int .i64 size, .int .u64 (m : Nat), .int .i64 e, .int .i64 P, .bool sh]] w fun x w' => x = .returned (.agg #[.string S, .int .i64 Q]) ∧ Below w.heap.size w w'
abbrev PlaC (bits m : Nat) (size e P : Int) (sh : Bool) (k : Int) : Prop := ∀ w, Calls Tryz.prog 74 #[.agg #[.int .u64 (bits : Nat), .int .i64 size, .int .u64 (m : Nat), .int .i64 e, .int .i64 P, .bool sh]] w fun x w' => x = .returned (.int .i64 k) ∧ Below w.heap.size w w'
abbrev PowerC (S : ByteArray) (Q k : Int) : Prop := ∀ w, Calls Tryz.prog 79 #[.agg #[.string S, .int .i64 Q]] w fun x w' => x = .returned (.int .i64 k) ∧ Below w.heap.size w w'
set_option maxRecDepth 1000000 in
theorem sci_walk {bits m : Nat} {size e P : Int} {sh : Bool} {d A B T G : ByteArray} {x : Int} (hd : 1 ≤ d.size) (hA : d.extract 0 1 = A) (hB : d.extract 1 d.size = B) (hP : PtdC bits m size e P sh A B T) (hG : SgdC x 2 G) (hz : T.size + G.size ≤ 1000000) (w : World) :
    Calls Tryz.prog 77 #[.agg #[.int .u64 (bits : Nat), .int .i64 size, .int .u64 (m : Nat), .int .i64 e, .int .i64 P, .bool sh], .string d, .int .i64 x] w fun x w' => x = .returned (.string ((T ++ ⟨#[101]⟩) ++ G)) ∧ Below w.heap.size w w' := by
  have hdI : (1 : Int) ≤ d.size := by omega
  have h1 : (⟨#[101]⟩ : ByteArray).size = 1 := rfl
  have hz2 : T.size + (⟨#[101]⟩ : ByteArray).size + G.size ≤ 10000000 := by omega
  have hbA : Below w.heap.size w (w.alloc (.cells #[.int .u64 (bits : Nat), .int .i64 size, .int .u64 (m : Nat), .int .i64 e, .int .i64 P, .bool sh] 54)) := (Below.refl _ _).alloc (Nat.le_refl _) _
  subst hA hB
  go_enter Tryz.func77, Tryz.ntmps77
  go_wp2_with fail
  go_region_with (first
    | (go_at_call 82; (with_reducible refine (hP _).mono ?_); rintro e w2 ⟨rfl, hb2⟩; obtain ⟨y2, rfl⟩ := Cl.first hb2)
    | (go_at_call 85; (with_reducible refine (hG _).mono ?_); rintro e w3 ⟨rfl, hb3⟩; obtain ⟨y3, rfl⟩ := Cl.next hb3)
    | (go_at_call 24; refine (together3 (a := T) (b := ⟨#[101]⟩) (c := G) _ (by simp) (by simp) (by simp) hz2).mono ?_; rintro e w4 ⟨rfl, hb4⟩; obtain ⟨y4, rfl⟩ := Cl.after hb4))
  all_goals go_wp2
  all_goals go_ret
  all_goals exact ⟨rfl, bel_call hbA y4.below (Nat.le_refl _)⟩
theorem fsci_any {bits m : Nat} {size e P : Int} {sh : Bool} (d : ByteArray) (x : Int) (hd : 1 ≤ d.size) (hd2 : d.size ≤ 100000) (hx0 : -1000000 ≤ x) (hx1 : x ≤ 1000000) : SciC bits m size e P sh d x (sci sh d x) := fun w => by
  have h4 : (d.extract 0 1).size ≤ 1 := by rw [ByteArray.size_extract]; omega
  have h5 : (d.extract 1 d.size).size ≤ d.size := by rw [ByteArray.size_extract]; omega
  have h6 := ptd_size sh (d.extract 0 1) (d.extract 1 d.size)
  have h7 := sgd_size x 2 (by decide)
  exact sci_walk hd rfl rfl (fun w => fpointed_any _ _ w (by omega) (by omega)) (fun w => fsigned_any x 2 w hx0 hx1 (by decide) (by decide)) (by omega) w
set_option maxRecDepth 1000000 in
theorem fplaces_any {bits m : Nat} {size e P : Int} {sh : Bool} : PlaC bits m size e P sh (plcF P) := fun w => by
  unfold plcF
  by_cases h : P < 0
  · rw [if_pos h]
    go_enter Tryz.func74, Tryz.ntmps74
    go_wp2
    go_ret
    exact ⟨rfl, by go_grown⟩
  · rw [if_neg h]
    go_enter Tryz.func74, Tryz.ntmps74
    go_wp2
    go_ret
    exact ⟨rfl, by go_grown⟩
set_option maxRecDepth 1000000 in
theorem value_walk {bits m : Nat} {size e P : Int} {sh : Bool} {S : ByteArray} {Q : Int} (hX : ∀ w, Calls Tryz.prog 114 #[.int .u64 m, .int .i64 e] w fun x w' => x = .returned (.tuple #[.agg #[.string S, .int .i64 Q], .int .i64 0]) ∧ Below w.heap.size w w') : ValC bits m size e P sh S Q := fun w => by
  go_enter Tryz.func76, Tryz.ntmps76
  go_wp2_with (go_at_call 114; refine (hX _).mono ?_; rintro x w3 ⟨rfl, hb3⟩; have bR := keepb hb3 (B := w.heap.size + 1) (x := .string ⟨#[]⟩) (y := .int .i64 0) (by simp [BoxD, go_sem]); obtain ⟨r0, r1, r2, r3⟩ := id bR; have hlt : w.heap.size + 1 < w3.heap.size := World.block_lt_of_cell? w3 _ r0)
  refine bodyPost_ret (by simp [results, Tryz.results76, go_sem, cs_same, r0, r1, hlt]; rfl) rfl ?_
  refine ⟨rfl, ?_⟩
  have h := bel_call (B := w.heap.size) (w := w) (by go_grown) hb3 (Nat.le_refl _)
  have hs := (h.setCell (p := ⟨w.heap.size + 1, 0, none⟩) (by simp) (.string S)).setCell (p := ⟨w.heap.size + 1, 1, none⟩) (by simp) (.int .i64 Q)
  exact hs.alloc hs.size _
set_option maxRecDepth 1000000 in
theorem fpower_any (v : Nat) (hp0 : -100000 ≤ oP v) (hp1 : oP v ≤ 100000) : PowerC (oS v) (oP v) (pw0 v) := fun w => by
  have hz : (oS v).size = 0 ↔ v = 0 := by
    rw [oS_size, List.length_eq_zero_iff]; exact oL_nil
  unfold pw0
  by_cases h : v = 0
  · have hue : (oS v).toList.isEmpty = true := empty_yes _ (hz.2 h)
    rw [if_pos h]
    clear hz h
    generalize oS v = S at *
    generalize oP v = Q at *
    go_enter Tryz.func79, Tryz.ntmps79
    go_wp2
    go_ret
    exact ⟨rfl, by go_grown⟩
  · have hue : (oS v).toList.isEmpty = false := empty_no _ (by have := mt hz.1 h; omega)
    rw [if_neg h]
    clear hz h
    generalize oS v = S at *
    generalize oP v = Q at *
    go_enter Tryz.func79, Tryz.ntmps79
    go_wp2
    go_ret
    exact ⟨rfl, by go_grown⟩
end Go.Proofs.YthbabhbfpcfenaaGreatDoor
