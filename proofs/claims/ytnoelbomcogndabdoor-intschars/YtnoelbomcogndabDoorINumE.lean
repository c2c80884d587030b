/- Plain mathematics of layer 3: what the laws ask of what is written; and the walk of verb. -/
import Derived.Test.YtnoelbomcogndabDoorLives3
import Derived.Test.YtnoelbomcogndabDoorIBox
import Derived.Test.YtnoelbomcogndabDoorPlain6
namespace Go.Proofs.YtnoelbomcogndabDoor
open Go.RowKit
set_option linter.unusedVariables false

theorem wf64 (n : Int) (h : (Lit.int .i64 n).wf = true) : -9223372036854775808 ≤ n ∧ n ≤ 9223372036854775807 := by
  simp [Lit.wf] at h
  first | exact h | omega | exact ⟨by omega, by omega⟩
theorem wfu64 (n : Int) (h : (Lit.int .u64 n).wf = true) : 0 ≤ n ∧ n < 18446744073709551616 := by
  have e1 : IntKind.u64.min = 0 := by decide
  have e2 : IntKind.u64.max = 18446744073709551615 := by decide
  simp [Lit.wf] at h
  omega
theorem nil_app' (T : ByteArray) : (⟨#[]⟩ : ByteArray) ++ T = T := by
  apply ByteArray.ext
  rw [ByteArray.data_append]
  simp
theorem app_nil' (T : ByteArray) : T ++ (⟨#[]⟩ : ByteArray) = T := by
  apply ByteArray.ext
  rw [ByteArray.data_append]
  simp
theorem run0_app (c : Nat) (T : ByteArray) : run c 0 ++ T = T := by
  apply ByteArray.ext
  rw [ByteArray.data_append]
  simp [run]
theorem app_run0 (c : Nat) (T : ByteArray) : T ++ run c 0 = T := by
  apply ByteArray.ext
  rw [ByteArray.data_append]
  simp [run]
theorem app_assoc' (a b c : ByteArray) : (a ++ b) ++ c = a ++ (b ++ c) := by
  apply ByteArray.ext
  simp only [ByteArray.data_append, Array.append_assoc]
/-- Without a width nothing is filled. -/
theorem pad_none (r : ByteArray) (mi z : Bool) (wid : Int) (h : wid < 0 ∨ wid ≤ (cntR r : Nat)) : padS r mi z wid = r := by
  have e : wdt ((wdt wid : Nat) - (cntR r : Nat) : Int) = 0 := by unfold wdt; omega
  unfold padS
  rw [e]
  cases mi <;> cases z <;> simp only [if_true, Bool.false_eq_true, if_false, run0_app, app_run0]
/-- With Zero unset neither the width nor the side says anything of what is filled. -/
theorem numO_z (bits size : Nat) (sign : ByteArray) (p mi mi' sh : Bool) (wid wid' prec verb : Int) : numO bits size sign p mi sh false wid prec verb = numO bits size sign p mi' sh false wid' prec verb := by
  have e : coreB size (baseV verb) sign mi sh false wid prec verb = coreB size (baseV verb) sign mi' sh false wid' prec verb := by
    unfold coreB widD
    simp only [Bool.false_eq_true, false_and, if_false]
  unfold numO
  rw [e]
theorem numO_f (bits size : Nat) (sign : ByteArray) (p mi sh : Bool) (wid prec verb : Int) (r : ByteArray) (z' : Bool) (h : numO bits size sign p mi sh false wid prec verb = some (r, z')) : z' = false := by
  unfold numO at h
  split at h
  · exact ((Prod.mk.inj (Option.some.inj h)).2).symm
  · split at h
    · exact ((Prod.mk.inj (Option.some.inj h)).2).symm
    · split at h
      · exact ((Prod.mk.inj (Option.some.inj h)).2).symm
      · split at h
        · exact absurd h (by simp)
        · exact ((Prod.mk.inj (Option.some.inj h)).2).symm
theorem numO_some (bits size : Nat) (sign : ByteArray) (p mi sh z : Bool) (wid prec verb : Int) (hk : numK verb = true) : ∃ r z', numO bits size sign p mi sh z wid prec verb = some (r, z') := by
  cases ho : numO bits size sign p mi sh z wid prec verb with
  | some x => exact ⟨x.1, x.2, rfl⟩
  | none =>
    exfalso
    unfold numO at ho
    simp only [numK, decide_eq_true_eq] at hk
    repeat' split at ho
    all_goals simp_all
theorem numS_none (bits size : Nat) (sign : ByteArray) (p mi sh z : Bool) (wid prec verb : Int) (hk : numK verb = false) : numS bits size sign p mi sh z wid prec verb = ⟨#[]⟩ := by
  unfold numS; rw [numO_none _ _ _ _ _ _ _ _ _ _ hk]
/-- By a verb that has a base. -/
theorem numS_base (bits size : Nat) (sign : ByteArray) (p mi sh z : Bool) (wid prec verb : Int) (h1 : ¬ verb = 99) (h2 : ¬ verb = 113) (h3 : ¬ verb = 85) (h4 : ¬ baseV verb = 0) :
    numS bits size sign p mi sh z wid prec verb = padS (coreB size (baseV verb) sign mi sh z wid prec verb) mi false wid ∧ numK verb = true := by
  refine ⟨?_, by simp [numK, h4]⟩
  unfold numS numO
  rw [if_neg h1, if_neg h2, if_neg h3, if_neg h4]
theorem lenS_short (s : ByteArray) (n : Int) (h : n ≤ (s.size : Nat)) : lenS s n = s := by
  have e : wdt (n - (s.size : Nat)) = 0 := by unfold wdt; omega
  unfold lenS
  rw [e, run0_app]
/-- Without a width and a precision: the sign, the mark, the digits. -/
theorem core_bare (size b : Nat) (sign : ByteArray) (mi sh z : Bool) (wid verb : Int) (hz : z = true → wid < 0) :
    coreB size b sign mi sh z wid (-1) verb = (sign ++ markB (digT (decide (verb = 88)) b size) sh verb) ++ digT (decide (verb = 88)) b size := by
  have hd : digBy size b (-1) verb = digT (decide (verb = 88)) b size := by
    unfold digBy
    rw [if_neg (by omega)]
    exact lenS_short _ _ (by unfold wdt; omega)
  have hs := digT_size (decide (verb = 88)) b size
  unfold coreB
  rw [hd, if_neg (by omega)]
  congr 1
  unfold widD
  split
  · rename_i h
    have := hz h.1
    exact lenS_short _ _ (by unfold wdt; omega)
  · rfl
/-- A text of bytes below 128 has as many runes as bytes. -/
theorem cnt_ascii_go (s : ByteArray) (h : ∀ i, i < s.size → bt s i < 128) : ∀ (d p : Nat), p + d = s.size → cntFrom s p = d
  | 0, p, hp => cntFrom_end s p (by omega)
  | d + 1, p, hp => by
    have hb := h p (by omega)
    rw [cntFrom_step s p (by omega), dec_ascii s p hb, cnt_ascii_go s h d (p + 1) (by omega)]
    omega
theorem cnt_digT (g : Bool) (b n : Nat) (hb : 0 < b) (h16 : b ≤ 16) : cntR (digT g b n) = (digT g b n).size := by
  refine cnt_ascii_go _ (fun i hi => ?_) _ 0 (Nat.zero_add _)
  rw [← bt_at _ i hi]
  have hm : (digT g b n)[i]'hi ∈ (digT g b n).data.toList := by
    have : (digT g b n)[i]'hi = (digT g b n).data[i]'hi := rfl
    rw [this]
    exact Array.mem_toList_iff.2 (Array.getElem_mem _)
  exact digS_ascii g b n hb h16 _ hm

set_option maxRecDepth 1000000 in
set_option maxHeartbeats 400000 in
theorem iverb_any (vs : ByteArray) (p mi sh sp z : Bool) (wid prec verb : Int) (k j : Nat) (w : World) (hj : j < vs.size) (hv : vs.size ≤ 100) (hk : k % vs.size = j) (hk2 : k < 18446744073709551616) :
    Calls Tryd.prog 16 #[.agg #[.bool p, .bool mi, .bool sh, .bool sp, .bool z, .int .i64 wid, .int .i64 prec, .int .i32 verb], .int .u64 k, .string vs] w fun e w' => e = .returned (.agg #[.bool p, .bool mi, .bool sh, .bool sp, .bool z, .int .i64 wid, .int .i64 prec, .int .i32 ((vs[j]'hj).toNat:Nat)]) ∧ Below w.heap.size w w' := by
  have h1 : (k : Int) % (vs.size : Nat) = (j : Nat) := by omega
  have h2 : (k : Int).tmod (vs.size : Nat) = (j : Nat) := by rw [Int.tmod_eq_emod_of_nonneg (by omega)]; exact h1
  have h3 : ¬ ((vs.size : Nat) : Int) = 0 := by omega
  have hx : (vs[j]'hj).toNat < 256 := (vs[j]'hj).toNat_lt
  have hw1 : IntKind.i32.wrap ((vs[j]'hj).toNat : Nat) = ((vs[j]'hj).toNat : Nat) := by rw [IntKind.wrap_i32]; omega
  have hw2 : IntKind.u64.wrap ((vs.size : Nat) : Int) = (vs.size : Nat) := by rw [wrap_u64]; omega
  have hjI : (j : Int) < (vs.size : Nat) := by omega
  clear hk
  go_enter Tryd.func16, Tryd.ntmps16
  go_wp2
  exact bodyPost_ret (v := .agg #[.bool p, .bool mi, .bool sh, .bool sp, .bool z, .int .i64 wid, .int .i64 prec, .int .i32 ((vs[j]'hj).toNat:Nat)]) (by simp [results, Tryd.results16, go_sem]) rfl ⟨rfl, ((Below.refl _ _).alloc (Nat.le_refl _) _).alloc (by simp) _⟩
end Go.Proofs.YtnoelbomcogndabDoor
