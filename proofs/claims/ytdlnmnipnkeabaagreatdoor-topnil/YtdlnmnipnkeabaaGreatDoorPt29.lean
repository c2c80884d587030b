/- FWalkA, BHalf, BNear, SPat, SMath, SFacts, FMath, FWalkB, FWalkC, FHex, FWalkD: these texts in one. -/
import Derived.Test.YtdlnmnipnkeabaaGreatDoorPt28
import Derived.Test.YtdlnmnipnkeabaaGreatDoorPt3
import Derived.Test.YtdlnmnipnkeabaaGreatDoorPt5
import Derived.Test.YtdlnmnipnkeabaaGreatDoorPt1
namespace Go.Proofs.YtdlnmnipnkeabaaGreatDoor
open Go.RowKit
set_option linter.unusedVariables false
set_option linter.unusedSimpArgs false
theorem join2 (a b : ByteArray) : (⟨(Lib.join ([a, b].map (·.data.toList)) (⟨#[]⟩ : ByteArray).data.toList).toArray⟩ : ByteArray) = a ++ b := by
 apply ByteArray.ext; apply Array.ext'
 rw [app_list]
 simp [Lib.join_cons, Lib.joinTail]
theorem join3 (a b c : ByteArray) : (⟨(Lib.join ([a, b, c].map (·.data.toList)) (⟨#[]⟩ : ByteArray).data.toList).toArray⟩ : ByteArray) = (a ++ b) ++ c := by
 apply ByteArray.ext; apply Array.ext'
 rw [app_list, app_list]
 simp [Lib.join_cons, Lib.joinTail]
theorem join_size {xs : List ByteArray} {r : ByteArray} (h : (⟨(Lib.join (xs.map (·.data.toList)) (⟨#[]⟩ : ByteArray).data.toList).toArray⟩ : ByteArray) = r) (hr : r.size ≤ 100000000) : (Lib.join (xs.map (·.data.toList)) (⟨#[]⟩ : ByteArray).data.toList).length ≤ 140737488355328 := by
 have := congrArg ByteArray.size h
 rw [mk_size] at this
 omega
set_option maxRecDepth 1000000 in
theorem together2 {a b : ByteArray} {bk : Nat} (w : World) (h0 : w.cell? ⟨bk, 0, none⟩ = some (.string a)) (h1 : w.cell? ⟨bk, 1, none⟩ = some (.string b)) (hz : a.size + b.size ≤ 10000000) :
  Calls Tryz.prog 212 #[.slice (some ⟨bk, 0, none⟩) 2 2] w fun e w' => e = .returned (.string (a ++ b)) ∧ Below w.heap.size w w' := by
 have hJ := Tryz.strings_Join bk 0 2 [a, b] ⟨#[]⟩ w (by
  intro j x hj
  match j, hj with
  | 0, hj => simp at hj; subst hj; exact h0
  | 1, hj => simp at hj; subst hj; exact h1
  | j + 2, hj => simp at hj) (World.block_lt_of_cell? w _ h0) (by simp) (by simp) (join_size (join2 a b) (by rw [app_size]; omega))
 rw [join2] at hJ
 generalize a ++ b = r at *
 go_enter Tryz.func212, Tryz.ntmps212
 go_wp2_with (go_at_call 23; refine hJ.mono ?_; rintro e w2 ⟨rfl, hb⟩)
 go_ret
 exact ⟨rfl, hb⟩
set_option maxRecDepth 1000000 in
theorem together3 {a b c : ByteArray} {bk : Nat} (w : World) (h0 : w.cell? ⟨bk, 0, none⟩ = some (.string a)) (h1 : w.cell? ⟨bk, 1, none⟩ = some (.string b)) (h2 : w.cell? ⟨bk, 2, none⟩ = some (.string c)) (hz : a.size + b.size + c.size ≤ 10000000) :
  Calls Tryz.prog 212 #[.slice (some ⟨bk, 0, none⟩) 3 3] w fun e w' => e = .returned (.string ((a ++ b) ++ c)) ∧ Below w.heap.size w w' := by
 have hJ := Tryz.strings_Join bk 0 3 [a, b, c] ⟨#[]⟩ w (by
  intro j x hj
  match j, hj with
  | 0, hj => simp at hj; subst hj; exact h0
  | 1, hj => simp at hj; subst hj; exact h1
  | 2, hj => simp at hj; subst hj; exact h2
  | j + 3, hj => simp at hj) (World.block_lt_of_cell? w _ h0) (by simp) (by simp) (join_size (join3 a b c) (by rw [app_size, app_size]; omega))
 rw [join3] at hJ
 generalize (a ++ b) ++ c = r at *
 go_enter Tryz.func212, Tryz.ntmps212
 go_wp2_with (go_at_call 23; refine hJ.mono ?_; rintro e w2 ⟨rfl, hb⟩)
 go_ret
 exact ⟨rfl, hb⟩
set_option maxRecDepth 1000000 in
theorem fnoughts_any (n : Int) (w : World) (hn : n ≤ 1000000) :
  Calls Tryz.prog 295 #[.int .i64 n] w fun e w' => e = .returned (.string (run 48 n.toNat)) ∧ Below w.heap.size w w' := by
 have hR : ∀ w, Calls Tryz.prog 204 #[.string ⟨#[48]⟩, .int .i64 (max n 0)] w fun e w' => e = .returned (.string (run 48 n.toNat)) ∧ Below w.heap.size w w' := fun w => by
  have hz : (⟨#[48]⟩ : ByteArray).size = 1 := rfl
  have e0 : max n 0 = (n.toNat : Int) := by omega
  rw [e0]
  refine (Tryz.strings_Repeat ⟨#[48]⟩ n.toNat w (by omega) (by rw [hz]; omega)).mono ?_
  rintro e w' ⟨rfl, hb⟩
  refine ⟨ret_str ?_, hb⟩
  have e : (⟨#[48]⟩ : ByteArray).data.toList = List.replicate 1 48 := rfl
  rw [e, Lib.repeatL_replicate, Nat.mul_one]
  unfold run
  apply ByteArray.ext; apply Array.ext'; simp
 generalize run 48 n.toNat = r at *
 go_enter Tryz.func295, Tryz.ntmps295
 go_wp2_with (go_at_call 204; refine (hR _).mono ?_; rintro e w2 ⟨rfl, hb⟩)
 go_ret
 exact ⟨rfl, hb⟩
abbrev NoC (n : Int) (r : ByteArray) : Prop := ∀ w, Calls Tryz.prog 295 #[.int .i64 n] w fun e w' => e = .returned (.string r) ∧ Below w.heap.size w w'
set_option maxRecDepth 1000000 in
theorem flen_any (s : ByteArray) (n : Int) (w : World) (hs : s.size ≤ 1000000) (h0 : -1000000 ≤ n) (h1 : n ≤ 1000000) :
  Calls Tryz.prog 261 #[.string s, .int .i64 n] w fun e w' => e = .returned (.string (lnA s n)) ∧ Below w.heap.size w w' := by
 have hN : NoC (n - (s.size : Nat)) (run 48 (n - (s.size : Nat)).toNat) := fun w => fnoughts_any _ w (by omega)
 have hz : (run 48 (n - (s.size : Nat)).toNat).size + s.size ≤ 10000000 := by rw [run_size]; omega
 unfold lnA
 generalize run 48 (n - (s.size : Nat)).toNat = r at *
 go_enter Tryz.func261, Tryz.ntmps261
 go_wp2_with (first
  | (go_at_call 295; refine (hN _).mono ?_; rintro e w2 ⟨rfl, hb2⟩)
  | (go_at_call 212; refine (together2 (a := r) (b := s) _ (by simp) (by simp) hz).mono ?_; rintro e w3 ⟨rfl, hb3⟩))
 go_ret
 exact ⟨rfl, bel_call (hb2.alloc hb2.size _) hb3 (Nat.le_refl _)⟩
set_option maxRecDepth 1000000 in
theorem flenB_any (s : ByteArray) (n : Int) (w : World) (hs : s.size ≤ 1000000) (h0 : -1000000 ≤ n) (h1 : n ≤ 1000000) :
  Calls Tryz.prog 281 #[.string s, .int .i64 n] w fun e w' => e = .returned (.string (lnB s n)) ∧ Below w.heap.size w w' := by
 have hN : NoC (n - (s.size : Nat)) (run 48 (n - (s.size : Nat)).toNat) := fun w => fnoughts_any _ w (by omega)
 have hz : s.size + (run 48 (n - (s.size : Nat)).toNat).size ≤ 10000000 := by rw [run_size]; omega
 unfold lnB
 generalize run 48 (n - (s.size : Nat)).toNat = r at *
 go_enter Tryz.func281, Tryz.ntmps281
 go_wp2_with (first
  | (go_at_call 295; refine (hN _).mono ?_; rintro e w2 ⟨rfl, hb2⟩)
  | (go_at_call 212; refine (together2 (a := s) (b := r) _ (by simp) (by simp) hz).mono ?_; rintro e w3 ⟨rfl, hb3⟩))
 go_ret
 exact ⟨rfl, bel_call (hb2.alloc hb2.size _) hb3 (Nat.le_refl _)⟩
abbrev LaC (s : ByteArray) (n : Int) (r : ByteArray) : Prop := ∀ w, Calls Tryz.prog 261 #[.string s, .int .i64 n] w fun e w' => e = .returned (.string r) ∧ Below w.heap.size w w'
abbrev LbC (s : ByteArray) (n : Int) (r : ByteArray) : Prop := ∀ w, Calls Tryz.prog 281 #[.string s, .int .i64 n] w fun e w' => e = .returned (.string r) ∧ Below w.heap.size w w'
set_option maxRecDepth 1000000 in
theorem fpointed_any {bits m : Nat} {size e P : Int} {sh : Bool} (a b : ByteArray) (w : World) (ha : a.size ≤ 1000000) (hb : b.size ≤ 1000000) :
  Calls Tryz.prog 285 #[.agg #[.int .u64 (bits : Nat), .int .i64 size, .int .u64 (m : Nat), .int .i64 e, .int .i64 P, .bool sh], .string a, .string b] w fun x w' => x = .returned (.string (ptd sh a b)) ∧ Below w.heap.size w w' := by
 have h1 : (⟨#[46]⟩ : ByteArray).size = 1 := rfl
 have hz : a.size + (⟨#[46]⟩ : ByteArray).size + b.size ≤ 10000000 := by omega
 unfold ptd
 by_cases h0 : b.size = 0
 ·have hue : b.toList.isEmpty = true := empty_yes b h0
  cases sh with
  | false =>
    rw [if_pos ⟨h0, rfl⟩]
    clear h0
    go_enter Tryz.func285, Tryz.ntmps285
    go_wp2
    go_ret
    exact ⟨rfl, by go_grown⟩
  | true =>
    rw [if_neg (by simp)]
    clear h0
    go_enter Tryz.func285, Tryz.ntmps285
    go_wp2_with (go_at_call 212; refine (together3 (a := a) (b := ⟨#[46]⟩) (c := b) _ (by simp) (by simp) (by simp) hz).mono ?_; rintro e w3 ⟨rfl, hb3⟩)
    go_ret
    exact ⟨rfl, bel_call (by go_grown) hb3 (Nat.le_refl _)⟩
 ·have hue : b.toList.isEmpty = false := empty_no b (by omega)
  rw [if_neg (by omega)]
  go_enter Tryz.func285, Tryz.ntmps285
  go_wp2_with (go_at_call 212; refine (together3 (a := a) (b := ⟨#[46]⟩) (c := b) _ (by simp) (by simp) (by simp) hz).mono ?_; rintro e w3 ⟨rfl, hb3⟩)
  go_ret
  exact ⟨rfl, bel_call (by go_grown) hb3 (Nat.le_refl _)⟩
set_option maxRecDepth 1000000 in
theorem faround_any (s : ByteArray) (p : Int) (w : World) (hs : s.size ≤ 100000) (h0 : -100000 ≤ p) (h1 : p ≤ 100000) :
  Calls Tryz.prog 284 #[.string s, .int .i64 p] w fun x w' => x = .returned (.tuple #[.string (arA s p), .string (arB s p)]) ∧ Below w.heap.size w w' := by
 unfold arA arB
 by_cases hp : p ≤ 0
 ·have hL : LaC s ((s.size : Nat) - p) (lnA s ((s.size : Nat) - p)) := fun w => flen_any _ _ w (by omega) (by omega) (by omega)
  rw [if_pos hp, if_pos hp]
  generalize lnA s ((s.size : Nat) - p) = r at *
  go_enter Tryz.func284, Tryz.ntmps284
  go_wp2_with (go_at_call 261; refine (hL _).mono ?_; rintro e w3 ⟨rfl, hb3⟩)
  go_returns
  exact ⟨rfl, hb3⟩
 ·have hL : LbC s p (lnB s p) := fun w => flenB_any _ _ w (by omega) (by omega) (by omega)
  have hz := lnB_size s p
  rw [if_neg hp, if_neg hp]
  obtain ⟨q, rfl⟩ := Int.eq_ofNat_of_zero_le (show 0 ≤ p by omega)
  have hq : (q : Int) ≤ (lnB s q).size := by omega
  have hq2 : q ≤ (lnB s q).size := by omega
  have hz2 : (lnB s q).size ≤ 1000000 := by omega
  clear hz
  generalize lnB s q = r at *
  go_enter Tryz.func284, Tryz.ntmps284
  go_wp2_with (go_at_call 281; refine (hL _).mono ?_; rintro e w3 ⟨rfl, hb3⟩)
  go_region
  all_goals go_wp2
  all_goals go_returns
  all_goals exact ⟨rfl, hb3.drew⟩
end Go.Proofs.YtdlnmnipnkeabaaGreatDoor
namespace Go.Proofs.YtdlnmnipnkeabaaGreatDoor
open Go.RowKit
set_option linter.unusedVariables false
set_option linter.unusedSimpArgs false
end Go.Proofs.YtdlnmnipnkeabaaGreatDoor
namespace Go.Proofs.YtdlnmnipnkeabaaGreatDoor
open Go.RowKit
set_option linter.unusedVariables false
theorem near_form (v Q : Nat) : ∃ u, near v Q = u * 10 ^ Q ∧ (u = v / 10 ^ Q ∨ u = v / 10 ^ Q + 1) ∧ near v Q + near v Q ≤ v + v + 10 ^ Q ∧ v + v ≤ near v Q + near v Q + 10 ^ Q := by
 have h0 := Nat.div_add_mod v (10 ^ Q)
 rw [Nat.mul_comm] at h0
 have hr : v % 10 ^ Q < 10 ^ Q := Nat.mod_lt _ (pow_pos10 Q)
 unfold near
 by_cases h : 2 * (v % 10 ^ Q) < 10 ^ Q ∨ (2 * (v % 10 ^ Q) = 10 ^ Q ∧ v / 10 ^ Q % 2 = 0)
 ·rw [if_pos h]
  refine ⟨_, rfl, .inl rfl, ?_, ?_⟩
  ·generalize v / 10 ^ Q * 10 ^ Q = b at *; omega
  ·generalize v / 10 ^ Q * 10 ^ Q = b at *; omega
 ·rw [if_neg h]
  refine ⟨v / 10 ^ Q + 1, by rw [Nat.succ_mul], .inr rfl, ?_, ?_⟩
  ·generalize v / 10 ^ Q * 10 ^ Q = b at *; omega
  ·generalize v / 10 ^ Q * 10 ^ Q = b at *; omega
theorem near_top {v Q n : Nat} (hv : v < 10 ^ (Q + n)) : ∃ u, near v Q = u * 10 ^ Q ∧ u ≤ 10 ^ n ∧ near v Q + near v Q ≤ v + v + 10 ^ Q ∧ v + v ≤ near v Q + near v Q + 10 ^ Q := by
 obtain ⟨u, h1, h2, h3, h4⟩ := near_form v Q
 have : v / 10 ^ Q < 10 ^ n := Nat.div_lt_of_lt_mul (by rw [← Nat.pow_add]; exact hv)
 exact ⟨u, h1, by omega, h3, h4⟩
abbrev PlacesC (s : ByteArray) (p n : Int) (S : ByteArray) (P E : Int) : Prop := ∀ w, Calls Tryz.prog 283 #[.agg #[.string s, .int .i64 p], .int .i64 n] w fun e w' => e = .returned (.tuple #[.agg #[.string S, .int .i64 P], .int .i64 E]) ∧ Below w.heap.size w w'
theorem placesC {v : Nat} (n : Int) (g : Good v) : PlacesC (oS v) (oP v) n (oS (plc v n)) (oP (plc v n)) 0 := fun w => by
 have := places_any (oS v) (oP v) n w (oS_fit v g)
 rw [g.normE, g.normV] at this
 have e : bV 0 (plc v n) = plc v n := if_pos rfl
 rw [e] at this; exact this
end Go.Proofs.YtdlnmnipnkeabaaGreatDoor
namespace Go.Proofs.YtdlnmnipnkeabaaGreatDoor
open Go.RowKit
set_option linter.unusedVariables false
def pm (f p : Nat) : Nat := if p / 2 ^ f = 0 then p % 2 ^ f else 2 ^ f + p % 2 ^ f
def pk (f p : Nat) : Nat := p / 2 ^ f - 1
def pq (f p : Nat) : Nat := pm f p * 2 ^ pk f p
def pa (f p : Nat) : Nat := (2 * pm f p + 1) * 2 ^ pk f p
theorem pow_pos2 (n : Nat) : 0 < 2 ^ n := Nat.pow_pos (by decide)
theorem pm_lt (f p : Nat) : pm f p < 2 ^ (f + 1) := by
 have h := Nat.mod_lt p (pow_pos2 f)
 unfold pm
 rw [Nat.pow_succ]
 split <;> omega
theorem pq_next (f p : Nat) : pq f (p + 1) = (pm f p + 1) * 2 ^ pk f p := by
 have hp := pow_pos2 f
 have h0 := Nat.div_add_mod p (2 ^ f)
 have h1 := Nat.mod_lt p hp
 unfold pq
 rcases Nat.lt_or_ge (p % 2 ^ f + 1) (2 ^ f) with h | h
 ·have e1 : (p + 1) / 2 ^ f = p / 2 ^ f := by
   rw [Nat.div_eq_iff hp]
   have : p / 2 ^ f * 2 ^ f = 2 ^ f * (p / 2 ^ f) := Nat.mul_comm ..
   omega
  have e2 : (p + 1) % 2 ^ f = p % 2 ^ f + 1 := by
   have := Nat.div_add_mod (p + 1) (2 ^ f)
   rw [e1] at this; omega
  unfold pm pk
  rw [e1, e2]
  split <;> (congr 1)
 ·have e0 : p % 2 ^ f + 1 = 2 ^ f := by omega
  have e3 : p + 1 = 2 ^ f * (p / 2 ^ f + 1) := by rw [Nat.mul_add, Nat.mul_one]; omega
  have e1 : (p + 1) / 2 ^ f = p / 2 ^ f + 1 := by rw [e3, Nat.mul_div_cancel_left _ hp]
  have e2 : (p + 1) % 2 ^ f = 0 := by rw [e3]; exact Nat.mul_mod_right _ _
  unfold pm pk
  rw [e1, e2, if_neg (Nat.succ_ne_zero _)]
  by_cases hE : p / 2 ^ f = 0
  ·rw [if_pos hE, hE, e0]; rfl
  ·rw [if_neg hE]
   obtain ⟨k, hk⟩ : ∃ k, p / 2 ^ f = k + 1 := Nat.exists_eq_succ_of_ne_zero ‹_›
   rw [hk, show k + 1 + 1 - 1 = k + 1 by omega, show k + 1 - 1 = k by omega, Nat.add_zero, Nat.add_assoc, e0, Nat.pow_succ 2 k, Nat.mul_comm (2 ^ k) 2, ← Nat.mul_assoc, Nat.mul_two]
theorem pq_succ (f p : Nat) : pq f (p + 1) = pq f p + 2 ^ pk f p := by rw [pq_next, Nat.add_mul, Nat.one_mul]; rfl
theorem pa_eq (f p : Nat) : pa f p = 2 * pq f p + 2 ^ pk f p := by unfold pa pq; rw [Nat.add_mul, Nat.one_mul, Nat.mul_assoc]
theorem pa_up (f p : Nat) : pa f p + 2 ^ pk f p = 2 * pq f (p + 1) := by rw [pa_eq, pq_succ]; omega
theorem pa_lt_succ (f p : Nat) : pa f p < pa f (p + 1) := by
 have h1 := pa_up f p
 have h2 := pa_eq f (p + 1)
 have := pow_pos2 (pk f p)
 have := pow_pos2 (pk f (p + 1))
 omega
theorem pa_mono (f : Nat) {p q : Nat} (h : p < q) : pa f p < pa f q := by
 induction h with
 | refl => exact pa_lt_succ f p
 | step _ ih => exact Nat.lt_trans ih (pa_lt_succ f _)
def TG (f u v p : Nat) : Prop := v < pa f (p - 1) * u ∨ (v = pa f (p - 1) * u ∧ p % 2 = 1)
def RD (f I u v r : Nat) : Prop := r ≤ I ∧ (r = 0 ∨ ¬ TG f u v r) ∧ (r = I ∨ TG f u v (r + 1))
theorem TG.mono {f u v p q : Nat} (hu : 0 < u) (hp : 1 ≤ p) (h : p ≤ q) (t : TG f u v p) : TG f u v q := by
 rcases Nat.eq_or_lt_of_le h with rfl | h
 ·exact t
 ·have h1 := Nat.mul_lt_mul_of_pos_right (pa_mono f (show p - 1 < q - 1 by omega)) hu
  refine .inl ?_
  rcases t with t | ⟨t, -⟩ <;> omega
theorem RD.uniq {f I u v r s : Nat} (hu : 0 < u) (h : RD f I u v r) (k : RD f I u v s) : r = s := by
 have key : ∀ {r s : Nat}, RD f I u v r → RD f I u v s → ¬ r < s := by
  intro r s h k hlt
  have h1 : TG f u v (r + 1) := by rcases h.2.2 with e | t; · have := k.1; omega
                                   ·exact t
  rcases k.2.1 with e | t
  ·omega
  ·exact t (h1.mono hu (by omega) (by omega))
 have a := key h k
 have b := key k h
 omega
theorem RD.mono {f I u v v' r s : Nat} (hu : 0 < u) (h : RD f I u v r) (k : RD f I u v' s) (hv : v ≤ v') : r ≤ s := by
 rcases Nat.lt_or_ge s r with hlt | hge
 ·exfalso
  have h1 : TG f u v' (s + 1) := by rcases k.2.2 with e | t; · have := h.1; omega
                                    ·exact t
  have h2 : TG f u v (s + 1) := by
   rcases h1 with t | ⟨t1, t2⟩
   ·exact .inl (by omega)
   ·rcases Nat.eq_or_lt_of_le hv with e | e
    ·exact .inr ⟨by omega, t2⟩
    ·exact .inl (by omega)
  rcases h.2.1 with e | t
  ·omega
  ·exact t (h2.mono hu (by omega) (by omega))
 ·exact hge
end Go.Proofs.YtdlnmnipnkeabaaGreatDoor
namespace Go.Proofs.YtdlnmnipnkeabaaGreatDoor
open Go.RowKit
set_option linter.unusedVariables false
def Qn (v n : Nat) : Nat := (oP v - n + 10000).toNat
def Bn (v n : Nat) : Nat := v / 10 ^ Qn v n * 10 ^ Qn v n
def An (v n : Nat) : Nat := Bn v n + 10 ^ Qn v n
def failN (R : Nat → Prop) (v n : Nat) : Prop := ¬ R (Bn v n) ∧ ¬ R (An v n)
def pickN (R : Nat → Prop) (v n d : Nat) : Prop := (R (Bn v n) ∧ (¬ R (An v n) ∨ near v (Qn v n) = Bn v n) ∧ d = Bn v n) ∨ (¬ (R (Bn v n) ∧ (¬ R (An v n) ∨ near v (Qn v n) = Bn v n)) ∧ d = An v n)
def SH (R : Nat → Prop) (v d : Nat) : Prop :=
 (∃ n, 1 ≤ n ∧ n < (oL v).length ∧ (∀ j, 1 ≤ j → j < n → failN R v j) ∧ ¬ failN R v n ∧ pickN R v n d) ∨ ((∀ j, 1 ≤ j → j < (oL v).length → failN R v j) ∧ d = v)
theorem SH.at {R : Nat → Prop} {v d n : Nat} (h : SH R v d) (h1 : 1 ≤ n) (h2 : n < (oL v).length) (hf : ∀ j, 1 ≤ j → j < n → failN R v j) (hn : ¬ failN R v n) : pickN R v n d := by
 rcases h with ⟨k, k1, k2, k3, k4, k5⟩ | ⟨k1, k2⟩
 ·rcases Nat.lt_trichotomy n k with h | h | h
  ·exact absurd (k3 n h1 h) hn
  ·subst h; exact k5
  ·exact absurd (hf k k1 h) k4
 ·exact absurd (k1 n h1 h2) hn
theorem SH.all {R : Nat → Prop} {v d : Nat} (h : SH R v d) (hf : ∀ j, 1 ≤ j → j < (oL v).length → failN R v j) : d = v := by
 rcases h with ⟨k, k1, k2, k3, k4, k5⟩ | ⟨k1, k2⟩
 ·exact absurd (hf k k1 k2) k4
 ·exact k2
structure Bd (R : Nat → Prop) (v g1 g2 : Nat) : Prop where
 le : g1 ≤ g2
 pos : 0 < g1
 mem : ∃ ev : Bool, ∀ x, R x ↔ if ev then v ≤ x + g1 ∧ x ≤ v + g2 else v < x + g1 ∧ x < v + g2
theorem Bd.near {R : Nat → Prop} {v g1 g2 x : Nat} (h : Bd R v g1 g2) (h1 : v < x + g1) (h2 : x < v + g1) : R x := by
 obtain ⟨ev, hev⟩ := h.mem
 have := h.le
 rw [hev]; cases ev <;> simp <;> omega
theorem near_is (v n : Nat) : near v (Qn v n) = Bn v n ∨ (near v (Qn v n) = An v n ∧ near v (Qn v n) ≠ Bn v n ∧ 10 ^ Qn v n ≤ 2 * (v - Bn v n)) := by
 have h0 := Nat.div_add_mod v (10 ^ Qn v n)
 have hp := pow_pos10 (Qn v n)
 rw [Nat.mul_comm] at h0
 unfold near An Bn
 by_cases h : 2 * (v % 10 ^ Qn v n) < 10 ^ Qn v n ∨ (2 * (v % 10 ^ Qn v n) = 10 ^ Qn v n ∧ v / 10 ^ Qn v n % 2 = 0)
 ·rw [if_pos h]; exact .inl rfl
 ·rw [if_neg h]
  refine .inr ⟨rfl, ?_, ?_⟩
  ·generalize v / 10 ^ Qn v n * 10 ^ Qn v n = b at *; omega
  ·generalize v / 10 ^ Qn v n * 10 ^ Qn v n = b at *; omega
theorem Bn_le (v n : Nat) : Bn v n ≤ v ∧ v < An v n := by
 have h0 := Nat.div_add_mod v (10 ^ Qn v n)
 have h1 := Nat.mod_lt v (pow_pos10 (Qn v n))
 rw [Nat.mul_comm] at h0
 unfold An Bn
 generalize v / 10 ^ Qn v n * 10 ^ Qn v n = b at *
 omega
theorem Bd.key {R : Nat → Prop} {v g1 g2 n : Nat} (h : Bd R v g1 g2) (hn : 10 ^ Qn v n ≤ 2 * (v - Bn v n)) (hB : R (Bn v n)) : R (An v n) := by
 obtain ⟨ev, hev⟩ := h.mem
 have := h.le; have := h.pos
 have hb := Bn_le v n
 rw [hev] at hB ⊢
 unfold An at *
 cases ev
 ·simp only [Bool.false_eq_true, if_false] at hB ⊢
  omega
 ·simp only [if_true] at hB ⊢
  omega
theorem pick_near {R : Nat → Prop} {v g1 g2 n : Nat} (h : Bd R v g1 g2) (hR : R (near v (Qn v n))) : pickN R v n (near v (Qn v n)) ∧ ¬ failN R v n := by
 rcases near_is v n with e | ⟨e, ne, -⟩
 ·exact ⟨.inl ⟨e ▸ hR, .inr e, e⟩, fun f => f.1 (e ▸ hR)⟩
 ·refine ⟨.inr ⟨?_, e⟩, fun f => f.2 (e ▸ hR)⟩
  rintro ⟨-, h1 | h1⟩
  ·exact h1 (e ▸ hR)
  ·exact ne h1
end Go.Proofs.YtdlnmnipnkeabaaGreatDoor
namespace Go.Proofs.YtdlnmnipnkeabaaGreatDoor
open Go.RowKit
set_option linter.unusedVariables false
theorem Qn_eq {v n : Nat} (h2 : n ≤ (oL v).length) : (Qn v n : Int) = oP v - n + 10000 := by
 have := o_low v
 unfold Qn; omega
theorem Qn_lt {v n : Nat} (h2 : n ≤ (oL v).length) : v < 10 ^ (Qn v n + n) := by
 have := Qn_eq h2
 exact (o_dec v).lt (by omega)
theorem Qn_ge {v n : Nat} (h1 : 1 ≤ n) (h2 : n ≤ (oL v).length) : 10 ^ (Qn v n + (n - 1)) ≤ v := by
 have := Qn_eq h2
 have hv : v ≠ 0 := fun e => by rw [oL_nil.2 e] at h2; simp at h2; omega
 exact (o_dec v).ge hv (by omega)
theorem Bn_ge {v n : Nat} (h1 : 1 ≤ n) (h2 : n ≤ (oL v).length) : 10 ^ (Qn v n + (n - 1)) ≤ Bn v n := by
 have h := Qn_ge h1 h2
 rw [Nat.pow_add, Nat.mul_comm] at h ⊢
 exact Nat.mul_le_mul_right _ ((Nat.le_div_iff_mul_le (pow_pos10 _)).2 h)
theorem Bn_form {v n : Nat} (h2 : n ≤ (oL v).length) : ∃ c, c < 10 ^ n ∧ Bn v n = c * 10 ^ Qn v n ∧ An v n = (c + 1) * 10 ^ Qn v n := by
 refine ⟨v / 10 ^ Qn v n, Nat.div_lt_of_lt_mul (by rw [← Nat.pow_add]; exact Qn_lt h2), rfl, ?_⟩
 rw [Nat.add_mul, Nat.one_mul]; rfl
theorem form_len {x c Q n : Nat} (h : x = c * 10 ^ Q) (hc : c ≤ 10 ^ n) (hn : 1 ≤ n) : (oL x).length ≤ n := by
 rcases Nat.lt_or_ge c (10 ^ n) with h1 | h1
 ·exact cnt_le h h1
 ·have hu : c = 10 ^ n := by omega
  have := cnt_le (v := x) (u := 1) (j := n + Q) (q := 1) (by rw [h, hu, ← Nat.pow_add, Nat.one_mul]) (by decide)
  omega
theorem pick_R {R : Nat → Prop} {v n d : Nat} (hn : ¬ failN R v n) (h : pickN R v n d) : R d ∧ (d = Bn v n ∨ d = An v n) := by
 rcases h with ⟨a, b, rfl⟩ | ⟨a, rfl⟩
 ·exact ⟨a, .inl rfl⟩
 ·refine ⟨Classical.byContradiction fun hA => ?_, .inr rfl⟩
  exact hn ⟨fun hB => a ⟨hB, .inl hA⟩, hA⟩
theorem mul_div_is {c v T : Nat} (hT : 0 < T) (h1 : c * T ≤ v) (h2 : v < c * T + T) : v / T = c := by
 rw [Nat.div_eq_iff hT]; omega
theorem pick_len {R : Nat → Prop} {v n d : Nat} (h1 : 1 ≤ n) (h2 : n < (oL v).length) (hf : ∀ j, 1 ≤ j → j < n → failN R v j) (hn : ¬ failN R v n) (hdB : pickN R v n d) : (oL d).length = n := by
 obtain ⟨hR, hBA⟩ := pick_R hn hdB
 obtain ⟨c, hc, e1, e2⟩ := Bn_form (Nat.le_of_lt h2)
 have hle : (oL d).length ≤ n := by
  rcases hBA with rfl | rfl
  ·exact form_len e1 (by omega) h1
  ·exact form_len e2 (by omega) h1
 have hB := Bn_ge h1 (Nat.le_of_lt h2)
 have hlt := Bn_le v n
 have hdB : Bn v n ≤ d := by
  rcases hBA with h | h
  ·rw [h]; exact Nat.le_refl _
  ·rw [h]; exact Nat.le_add_right _ _
 have hd0 : d ≠ 0 := by have := pow_pos10 (Qn v n + (n - 1)); omega
 rcases Nat.lt_or_ge (oL d).length n with hj | hj
 ·exfalso
  have hj1 : 1 ≤ (oL d).length := by
   rcases Nat.eq_zero_or_pos (oL d).length with h | h
   ·exact absurd (oL_nil.1 (List.eq_nil_of_length_eq_zero h)) hd0
   ·exact h
  have hP := oP_gt (Nat.le_trans hB hdB)
  have q1 := Qn_eq (Nat.le_of_lt h2)
  have q2 := Qn_eq (v := v) (n := (oL d).length) (by omega)
  have hm := (o_dec d).mod (E := Qn v (oL d).length) (by omega)
  have hQ : Qn v n ≤ Qn v (oL d).length := by omega
  have hT : (10 : Nat) ^ Qn v n ≤ 10 ^ Qn v (oL d).length := Nat.pow_le_pow_right (by decide) hQ
  have hfj := hf _ hj1 hj
  have hx := Nat.div_add_mod d (10 ^ Qn v (oL d).length)
  rw [hm, Nat.add_zero, Nat.mul_comm] at hx
  have hpos := pow_pos10 (Qn v (oL d).length)
  rcases hBA with hb | hb
  ·refine hfj.1 ?_
   have : v / 10 ^ Qn v (oL d).length = d / 10 ^ Qn v (oL d).length := mul_div_is hpos (by omega) (by unfold An at hlt; omega)
   unfold Bn; rw [this, hx]; exact hR
  ·refine hfj.2 ?_
   have hc1 : 1 ≤ d / 10 ^ Qn v (oL d).length := by
    rcases Nat.eq_zero_or_pos (d / 10 ^ Qn v (oL d).length) with h | h
    ·rw [h, Nat.zero_mul] at hx; omega
    ·exact h
   obtain ⟨y, hy⟩ : ∃ y, d / 10 ^ Qn v (oL d).length = y + 1 := ⟨_, (Nat.sub_add_cancel hc1).symm⟩
   rw [hy, Nat.add_mul, Nat.one_mul] at hx
   have : v / 10 ^ Qn v (oL d).length = y := mul_div_is hpos (by unfold An at hb; omega) (by omega)
   unfold An Bn; rw [this, hx]; exact hR
 ·omega
structure Fine (v : Nat) : Prop where
 len : (oL v).length ≤ 900
 p0 : -1300 ≤ oP v
 p1 : oP v ≤ 900
theorem Fine.good {v : Nat} (h : Fine v) : Good v := ⟨by have := h.len; omega, by have := h.p0; omega, by have := h.p1; omega⟩
theorem fine_ex {m : Nat} {e : Int} (hm : m < 18446744073709551616) (h0 : -1200 ≤ e) (h1 : e ≤ 1200) : Fine (exU m e) := by
 obtain ⟨J, u, q, h2, h3, h6, h4, h5⟩ := exU_split hm h0 h1
 have hl := cnt_le h2 h3
 by_cases hz : exU m e = 0
 ·rw [hz]; exact ⟨by rw [o_zero.1]; simp, by rw [o_zero.2]; decide, by rw [o_zero.2]; decide⟩
 ·have hu : 1 ≤ u := by
   rcases Nat.eq_zero_or_pos u with h | h
   ·subst h; rw [Nat.zero_mul] at h2; exact absurd h2 hz
   ·exact h
  have hg := oP_gt (v := exU m e) (q := J) (by rw [h2]; have := Nat.mul_le_mul_right (10 ^ J) hu; omega)
  have hlt : exU m e < 10 ^ (J + q) := by
   rw [h2, Nat.pow_add, Nat.mul_comm (10 ^ J)]
   exact Nat.mul_lt_mul_of_pos_right h3 (pow_pos10 J)
  rcases oP_le hlt with h | h
  ·exact ⟨by omega, by omega, by omega⟩
  ·exact absurd h hz
theorem place_good {v n x c : Nat} (h : Fine v) (h1 : 1 ≤ n) (h2 : n ≤ (oL v).length) (hx : x = c * 10 ^ Qn v n) (hc : c ≤ 10 ^ n) : Good x := by
 have hl := h.len
 have hp0 := h.p0
 have hp1 := h.p1
 have q := Qn_eq h2
 refine good_of (J := Qn v n) (K := n + 1) (by rw [hx]; exact pow_mod _ _) ?_ (by omega) (by omega) (by omega)
 rw [hx, Nat.pow_add, Nat.mul_comm (10 ^ Qn v n)]
 refine Nat.mul_lt_mul_of_pos_right ?_ (pow_pos10 _)
 have := pow_pos10 n
 rw [Nat.pow_succ]; omega
theorem An_good {v n : Nat} (h : Fine v) (h1 : 1 ≤ n) (h2 : n ≤ (oL v).length) : Good (Bn v n) ∧ Good (An v n) ∧ Good (10 ^ Qn v n) ∧ Good (near v (Qn v n)) := by
 obtain ⟨c, hc, e1, e2⟩ := Bn_form h2
 have gB := place_good h h1 h2 e1 (by omega)
 have gA := place_good h h1 h2 e2 (by omega)
 refine ⟨gB, gA, place_good h h1 h2 (Nat.one_mul _).symm (pow_pos10 n), ?_⟩
 rcases near_is v n with e | ⟨e, -, -⟩
 ·rw [e]; exact gB
 ·rw [e]; exact gA
theorem SH.good {R : Nat → Prop} {v d : Nat} (hv : Fine v) (h : SH R v d) : Good d := by
 rcases h with ⟨n, h1, h2, h3, h4, h5⟩ | ⟨-, rfl⟩
 ·obtain ⟨gB, gA, -, -⟩ := An_good hv h1 (Nat.le_of_lt h2)
  rcases (pick_R h4 h5).2 with rfl | rfl
  ·exact gB
  ·exact gA
 ·exact hv.good
theorem SH.read {R : Nat → Prop} {v d : Nat} (hv : R v) (h : SH R v d) : R d := by
 rcases h with ⟨n, h1, h2, h3, h4, h5⟩ | ⟨-, rfl⟩
 ·exact (pick_R h4 h5).1
 ·exact hv
theorem SH.fewer {R : Nat → Prop} {v d k : Nat} (h : SH R v d) (h1 : 1 ≤ k) (h2 : k < (oL d).length) (h3 : k < (oL v).length) : failN R v k := by
 rcases h with ⟨n, n1, n2, n3, n4, n5⟩ | ⟨hf, rfl⟩
 ·rw [pick_len n1 n2 n3 n4 n5] at h2
  exact n3 k h1 h2
 ·exact hf k h1 h3
theorem SH.len {R : Nat → Prop} {v d : Nat} (h : SH R v d) : (oL d).length ≤ (oL v).length := by
 rcases h with ⟨n, n1, n2, n3, n4, n5⟩ | ⟨hf, rfl⟩
 ·rw [pick_len n1 n2 n3 n4 n5]; omega
 ·exact Nat.le_refl _
theorem near_in {R : Nat → Prop} {v g1 g2 n C : Nat} (hb : Bd R v g1 g2) (h1 : 1 ≤ n) (h2 : n ≤ (oL v).length) (hC : v ≤ C * g1) (hC2 : C < 2 * 10 ^ (n - 1)) : R (near v (Qn v n)) := by
 have h := Qn_ge h1 h2
 obtain ⟨c, e, -, k1, k2⟩ := near_form v (Qn v n)
 rw [Nat.pow_add] at h
 have hp := pow_pos10 (n - 1)
 have ht : 10 ^ Qn v n < 2 * g1 := by
  rcases Nat.lt_or_ge (10 ^ Qn v n) (2 * g1) with h3 | h3
  ·exact h3
  ·exfalso
   have a1 : 2 * g1 * 10 ^ (n - 1) ≤ 10 ^ Qn v n * 10 ^ (n - 1) := Nat.mul_le_mul_right _ h3
   have a2 : C * g1 < 2 * 10 ^ (n - 1) * g1 := Nat.mul_lt_mul_of_pos_right hC2 hb.pos
   have a3 : 2 * 10 ^ (n - 1) * g1 = 2 * g1 * 10 ^ (n - 1) := by rw [Nat.mul_assoc, Nat.mul_comm (10 ^ (n - 1)), ← Nat.mul_assoc]
   omega
 exact hb.near (by omega) (by omega)
theorem SH.few {R : Nat → Prop} {v d g1 g2 C N : Nat} (hb : Bd R v g1 g2) (h : SH R v d) (h1 : 1 ≤ N) (hC : v ≤ C * g1) (hC2 : C < 2 * 10 ^ (N - 1)) : (oL d).length ≤ N := by
 have key : N < (oL v).length → ¬ failN R v N := fun hN f => by
  have hR := near_in hb h1 (Nat.le_of_lt hN) hC hC2
  exact (pick_near hb hR).2 f
 rcases Nat.lt_or_ge N (oL d).length with hlt | hge
 ·exfalso
  have hl := h.len
  exact key (by omega) (h.fewer h1 hlt (by omega))
 ·exact hge
theorem exU_lin (m : Nat) (e : Int) : exU m e = m * exU 1 e := by
 unfold exU
 split
 ·rw [Nat.one_mul, Nat.mul_assoc]
 ·rw [Nat.one_mul, Nat.mul_assoc]
theorem exU_shift (m : Nat) (e0 : Int) (k : Nat) (h : -1200 ≤ e0) (h1 : e0 + k ≤ 1200) : exU m (e0 + k) = m * 2 ^ k * exU 1 e0 := by
 induction k with
 | zero => rw [show e0 + (0 : Nat) = e0 by omega, Nat.pow_zero, Nat.mul_one, exU_lin]
 | succ k ih =>
   rw [show e0 + (k + 1 : Nat) = e0 + k + 1 by omega, exU_double m (e0 + k) (by omega) (by omega), ih (by omega), Nat.pow_succ, ← Nat.mul_assoc, Nat.mul_comm (m * 2 ^ k) 2, Nat.mul_assoc 2]
   omega
theorem exU_val {f p : Nat} {least : Int} (h : -1199 ≤ least) (h1 : least + pk f p ≤ 1200) : exU (pm f p) (least + pk f p) = 2 * pq f p * exU 1 (least - 1) := by
 have h2 := exU_shift (pm f p) (least - 1) (pk f p + 1) (by omega) (by omega)
 rw [show least - 1 + (pk f p + 1 : Nat) = least + pk f p by omega] at h2
 rw [h2, Nat.pow_succ]
 unfold pq
 rw [← Nat.mul_assoc, Nat.mul_comm _ 2]
end Go.Proofs.YtdlnmnipnkeabaaGreatDoor
namespace Go.Proofs.YtdlnmnipnkeabaaGreatDoor
open Go.RowKit
set_option linter.unusedVariables false
set_option linter.unusedSimpArgs false
def ch (s : ByteArray) (i : Int) : UInt8 := if 0 ≤ i ∧ i < (s.size : Nat) then s.data.toList.getD i.toNat 0 else 48
theorem ext_li (s : ByteArray) (a b : Nat) : (s.extract a b).data.toList = (s.data.toList.take b).drop a := by
 rw [ByteArray.data_extract, Array.toList_extract, List.extract_eq_take_drop]
 rw [List.drop_take]
theorem arB_size_is (s : ByteArray) (p : Int) : (arB s p).size = ((s.size : Int) - p).toNat := by
 have hz := lnB_size s p
 have hy := lnA_size s ((s.size : Nat) - p)
 unfold arB
 split
 ·omega
 ·rw [ByteArray.size_extract]; omega
theorem low_of {d J : Nat} (h : d % 10 ^ J = 0) : d = 0 ∨ (J : Int) ≤ oP d - (oL d).length + 10000 := by
 by_cases hdB : d = 0
 ·exact .inl hdB
 ·refine .inr ?_
  have k := o_dec d
  have hne := k.ne hdB
  have hv : num (oL d) * 10 ^ (oP d - (oL d).length + 10000).toNat = d := o_val d
  have hl := num_last k.dig k.lst hne
  have hlow := o_low d
  rcases Int.lt_or_le (oP d - (oL d).length + 10000) (J : Int) with h1 | h1
  ·exfalso
   have h2 : d = d / 10 ^ J * 10 ^ J := by have := Nat.div_add_mod d (10 ^ J); rw [h, Nat.mul_comm] at this; omega
   exact pow_split hl (show (oP d - (oL d).length + 10000).toNat < J by omega) (hv.trans h2)
  ·exact h1
theorem near_mod (v P : Nat) : near v P % 10 ^ P = 0 := by
 unfold near
 split
 ·exact Nat.mul_mod_left _ _
 ·rw [Nat.add_mod_right]; exact Nat.mul_mod_left _ _
theorem plc_low {v : Nat} {k : Int} (h0 : 0 ≤ k) (h1 : k ≤ 1000) : ((oL (plc v k)).length : Int) - oP (plc v k) ≤ k := by
 have e : plc v k = rnd v (oP v + k) := by unfold plc; congr 1; omega
 rw [e]
 unfold rnd
 split
 ·rw [o_zero.1, o_zero.2]; simpa using h0
 ·split
  ·omega
  ·rename_i h2 h3
   rcases low_of (near_mod v (oP v - (oP v + k) + 10000).toNat) with h | h
   ·rw [h, o_zero.1, o_zero.2]; simpa using h0
   ·omega
end Go.Proofs.YtdlnmnipnkeabaaGreatDoor
namespace Go.Proofs.YtdlnmnipnkeabaaGreatDoor
open Go.RowKit
set_option linter.unusedVariables false
set_option linter.unusedSimpArgs false
theorem Cl.first {W w5 : World} (hb : Below W.drew.heap.size W.drew w5) : ∃ z : Cl W, w5 = z.w := ⟨⟨w5, bel_call (Below.refl _ _).drew hb (Nat.le_refl _)⟩, rfl⟩
theorem Cl.start {W w5 : World} (hb : Below W.heap.size W w5) : ∃ z : Cl W, w5 = z.w := ⟨⟨w5, hb⟩, rfl⟩
abbrev PtdC (bits m : Nat) (size e P : Int) (sh : Bool) (a b r : ByteArray) : Prop := ∀ w, Calls Tryz.prog 285 #[.agg #[.int .u64 (bits : Nat), .int .i64 size, .int .u64 (m : Nat), .int .i64 e, .int .i64 P, .bool sh], .string a, .string b] w fun x w' => x = .returned (.string r) ∧ Below w.heap.size w w'
abbrev ArC (s : ByteArray) (p : Int) (a b : ByteArray) : Prop := ∀ w, Calls Tryz.prog 284 #[.string s, .int .i64 p] w fun x w' => x = .returned (.tuple #[.string a, .string b]) ∧ Below w.heap.size w w'
abbrev ValC (bits m : Nat) (size e P : Int) (sh : Bool) (S : ByteArray) (Q : Int) : Prop := ∀ w, Calls Tryz.prog 279 #[.agg #[.int .u64 (bits : Nat), .int .i64 size, .int .u64 (m : Nat), .int .i64 e, .int .i64 P, .bool sh]] w fun x w' => x = .returned (.agg #[.string S, .int .i64 Q]) ∧ Below w.heap.size w w'
abbrev PlaC (bits m : Nat) (size e P : Int) (sh : Bool) (k : Int) : Prop := ∀ w, Calls Tryz.prog 277 #[.agg #[.int .u64 (bits : Nat), .int .i64 size, .int .u64 (m : Nat), .int .i64 e, .int .i64 P, .bool sh]] w fun x w' => x = .returned (.int .i64 k) ∧ Below w.heap.size w w'
set_option maxRecDepth 1000000 in
theorem fplaces_any {bits m : Nat} {size e P : Int} {sh : Bool} : PlaC bits m size e P sh (plcF P) := fun w => by
 unfold plcF
 by_cases h : P < 0
 ·rw [if_pos h]
  go_enter Tryz.func277, Tryz.ntmps277
  go_wp2
  go_ret
  exact ⟨rfl, by go_grown⟩
 ·rw [if_neg h]
  go_enter Tryz.func277, Tryz.ntmps277
  go_wp2
  go_ret
  exact ⟨rfl, by go_grown⟩
set_option maxRecDepth 1000000 in
theorem value_walk {bits m : Nat} {size e P : Int} {sh : Bool} {S : ByteArray} {Q : Int} (hX : ∀ w, Calls Tryz.prog 299 #[.int .u64 m, .int .i64 e] w fun x w' => x = .returned (.tuple #[.agg #[.string S, .int .i64 Q], .int .i64 0]) ∧ Below w.heap.size w w') : ValC bits m size e P sh S Q := fun w => by
 go_enter Tryz.func279, Tryz.ntmps279
 go_wp2_with (go_at_call 299; refine (hX _).mono ?_; rintro x w3 ⟨rfl, hb3⟩; have bR := keepb hb3 (B := w.heap.size + 1) (x := .string ⟨#[]⟩) (y := .int .i64 0) (by simp [BoxDe, go_sem]); obtain ⟨r0, r1, r2, r3⟩ := id bR; have hlt : w.heap.size + 1 < w3.heap.size := World.block_lt_of_cell? w3 _ r0)
 refine bodyPost_ret (by simp [results, Tryz.results279, go_sem, cs_same, r0, r1, hlt]; rfl) rfl ?_
 refine ⟨rfl, ?_⟩
 have h := bel_call (B := w.heap.size) (w := w) (by go_grown) hb3 (Nat.le_refl _)
 have hs := (h.setCell (p := ⟨w.heap.size + 1, 0, none⟩) (by simp) (.string S)).setCell (p := ⟨w.heap.size + 1, 1, none⟩) (by simp) (.int .i64 Q)
 exact hs.alloc hs.size _
end Go.Proofs.YtdlnmnipnkeabaaGreatDoor
namespace Go.Proofs.YtdlnmnipnkeabaaGreatDoor
open Go.RowKit
set_option linter.unusedVariables false
set_option linter.unusedSimpArgs false
theorem Cl.up {W0 : World} (y : Cl W0) (o : Obj) {p : Addr} {v : Value} (h : ∀ x : Cl W0, x.w.cell? p = some v) : ∀ z : Cl (y.w.alloc o), z.w.cell? p = some v := fun z =>
 h ⟨z.w, bel_call (y.below.alloc y.below.size o) z.below (Nat.le_refl _)⟩
theorem Cl.out {W0 : World} {y : Cl W0} {o : Obj} (z : Cl (y.w.alloc o)) : Below W0.heap.size W0 z.w := bel_call (y.below.alloc y.below.size o) z.below (Nat.le_refl _)
set_option maxRecDepth 1000000 in
set_option maxHeartbeats 1000000 in
theorem fixed_walk {bits m : Nat} {size e P : Int} {sh : Bool} {k Q Q2 : Int} {S S2 A B B2 R : ByteArray} (hPl : PlaC bits m size e P sh k) (hV : ValC bits m size e P sh S Q) (hR : PlacesC S Q k S2 Q2 0) (hA : ArC S2 Q2 A B) (hL : LbC B k B2) (hS : PtdC bits m size e P sh A B2 R) (w : World) :
  Calls Tryz.prog 251 #[.agg #[.int .u64 (bits : Nat), .int .i64 size, .int .u64 (m : Nat), .int .i64 e, .int .i64 P, .bool sh]] w fun x w' => x = .returned (.string R) ∧ Below w.heap.size w w' := by
 have hbA : Below w.heap.size w (w.alloc (.cells #[.int .u64 (bits : Nat), .int .i64 size, .int .u64 (m : Nat), .int .i64 e, .int .i64 P, .bool sh] 317)) := (Below.refl _ _).alloc (Nat.le_refl _) _
 have f0 : ∀ x : Cl (w.alloc (.cells #[.int .u64 (bits : Nat), .int .i64 size, .int .u64 (m : Nat), .int .i64 e, .int .i64 P, .bool sh] 317)), x.w.cell? ⟨w.heap.size, 0, none⟩ = some (.int .u64 (bits : Nat)) := fun x => x.cell (by simp)
 have f1 : ∀ x : Cl (w.alloc (.cells #[.int .u64 (bits : Nat), .int .i64 size, .int .u64 (m : Nat), .int .i64 e, .int .i64 P, .bool sh] 317)), x.w.cell? ⟨w.heap.size, 1, none⟩ = some (.int .i64 size) := fun x => x.cell (by simp)
 have f2 : ∀ x : Cl (w.alloc (.cells #[.int .u64 (bits : Nat), .int .i64 size, .int .u64 (m : Nat), .int .i64 e, .int .i64 P, .bool sh] 317)), x.w.cell? ⟨w.heap.size, 2, none⟩ = some (.int .u64 (m : Nat)) := fun x => x.cell (by simp)
 have f3 : ∀ x : Cl (w.alloc (.cells #[.int .u64 (bits : Nat), .int .i64 size, .int .u64 (m : Nat), .int .i64 e, .int .i64 P, .bool sh] 317)), x.w.cell? ⟨w.heap.size, 3, none⟩ = some (.int .i64 e) := fun x => x.cell (by simp)
 have f4 : ∀ x : Cl (w.alloc (.cells #[.int .u64 (bits : Nat), .int .i64 size, .int .u64 (m : Nat), .int .i64 e, .int .i64 P, .bool sh] 317)), x.w.cell? ⟨w.heap.size, 4, none⟩ = some (.int .i64 P) := fun x => x.cell (by simp)
 have f5 : ∀ x : Cl (w.alloc (.cells #[.int .u64 (bits : Nat), .int .i64 size, .int .u64 (m : Nat), .int .i64 e, .int .i64 P, .bool sh] 317)), x.w.cell? ⟨w.heap.size, 5, none⟩ = some (.bool sh) := fun x => x.cell (by simp)
 go_enter Tryz.func251, Tryz.ntmps251
 go_wp2_with (first
  | (go_at_call 277; (with_reducible refine (hPl _).mono ?_); rintro x w1 ⟨rfl, hb1⟩; obtain ⟨y1, rfl⟩ := Cl.start hb1)
  | (go_at_call 279; (with_reducible refine (hV _).mono ?_); rintro x w2 ⟨rfl, hb2⟩; obtain ⟨y2, rfl⟩ := Cl.next hb2)
  | (go_at_call 283; (with_reducible refine (hR _).mono ?_); rintro x w3 ⟨rfl, hb3⟩; obtain ⟨y3, rfl⟩ := Cl.next hb3; have g0 := Cl.up y3 (.cells #[.string S2, .int .i64 Q2] 364) f0; have g1 := Cl.up y3 (.cells #[.string S2, .int .i64 Q2] 364) f1; have g2 := Cl.up y3 (.cells #[.string S2, .int .i64 Q2] 364) f2; have g3 := Cl.up y3 (.cells #[.string S2, .int .i64 Q2] 364) f3; have g4 := Cl.up y3 (.cells #[.string S2, .int .i64 Q2] 364) f4; have g5 := Cl.up y3 (.cells #[.string S2, .int .i64 Q2] 364) f5; have d0 : ∀ z : Cl (y3.w.alloc (.cells #[.string S2, .int .i64 Q2] 364)), z.w.cell? ⟨y3.w.heap.size, 0, none⟩ = some (.string S2) := (fun z => z.cell (by simp)); have d1 : ∀ z : Cl (y3.w.alloc (.cells #[.string S2, .int .i64 Q2] 364)), z.w.cell? ⟨y3.w.heap.size, 1, none⟩ = some (.int .i64 Q2) := (fun z => z.cell (by simp)))
  | (go_at_call 284; (with_reducible refine (hA _).mono ?_); rintro x w4 ⟨rfl, hb4⟩; obtain ⟨y4, rfl⟩ := Cl.start hb4))
 refine wp_region_above (y3.w.alloc (.cells #[.string S2, .int .i64 Q2] 364)) y4.below (by kernel_rfl) (by kernel_rfl) ?_
 intro hCl
 repeat (go_big_quiet_step ((first | (go_at_call 281; exact Cl.call (hL _)) | (go_at_call 285; exact Cl.call (hS _)))))
 refine wpQuiet_nil ?_
 intro _ hw'
 obtain ⟨z, hz⟩ := hw'
 subst hz
 go_wp2
 go_ret
 exact ⟨rfl, bel_call hbA (Cl.out z) (Nat.le_refl _)⟩
end Go.Proofs.YtdlnmnipnkeabaaGreatDoor
namespace Go.Proofs.YtdlnmnipnkeabaaGreatDoor
open Go.RowKit
set_option linter.unusedVariables false
set_option linter.unusedSimpArgs false
def hx : Nat → Nat → List UInt8
 | 0, _ => []
 | k + 1, n => hx k (n / 16) ++ [hexB false (n % 16)]
end Go.Proofs.YtdlnmnipnkeabaaGreatDoor
namespace Go.Proofs.YtdlnmnipnkeabaaGreatDoor
open Go.RowKit
set_option linter.unusedVariables false
set_option linter.unusedSimpArgs false
end Go.Proofs.YtdlnmnipnkeabaaGreatDoor
