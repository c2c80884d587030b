/- Package hooks: Do. -/
import Derived.Test.YtbfaapbbhgegiaaDoorXShow
import Derived.Test.YtbfaapbbhgegiaaDoorXBad
namespace Go.Proofs.YtbfaapbbhgegiaaDoor
open Go.RowKit
set_option linter.unusedVariables false
set_option linter.unusedSimpArgs false

theorem ieql_n (w : World) : (binOp BinOp.eql 20 .nilIface .nilIface).run Tryd.prog w = .ok (.bool true) w := by kernel_rfl
theorem ieql_t (t : TypeId) (v : Value) (w : World) : (binOp BinOp.eql 20 (.iface t v) .nilIface).run Tryd.prog w = .ok (.bool false) w := by kernel_rfl
theorem doV_1 {x : Ac} (h : x.k = 1) (g : Value) : doV x g = .func (.func 42) #[.agg (x.v ++ [g]).toArray] #[] := if_pos h
theorem doV_2 {x : Ac} (h : x.k = 2) (g : Value) : doV x g = .func (.func 43) #[.agg (x.v ++ [g]).toArray] #[] := by unfold doV; rw [if_neg (by omega), if_pos h]
theorem doV_3 {x : Ac} (h : x.k = 3) (g : Value) : doV x g = .func (.func 44) #[.agg (x.v ++ [g]).toArray] #[] := by unfold doV; rw [if_neg (by omega), if_neg (by omega), if_pos h]
/-- What Do is asked with. -/
abbrev dArgs (x : Ac) (np : Bool) (v : Int) (m : ByteArray) (X : Nat) : Array Value := #[.agg x.v.toArray, .bool np, .int .i32 v, .string m, prF X, shF X]
set_option maxRecDepth 1000000 in
set_option maxHeartbeats 4000000 in
theorem do_tells {X : Nat} {p s : Int} (x : Ac) {np : Bool} {v : Int} {m : ByteArray} (hk : x.k = 1) (w : World) (hq : Aq w X p s) : Calls Tryd.prog 19 (dArgs x np v m X) w fun e w' => e = .returned (.tuple #[.string x.t, .bool true]) ∧ Aq w' X p s ∧ w.grownBy w' (some X) := by
  have hX := hq.b
  obtain ⟨M, hM⟩ : ∃ M, M = x.v ++ [prF X] := ⟨_, rfl⟩
  have hD : ∀ w, Calls Tryd.prog 30 #[.agg M.toArray] w fun e w' => e = .returned (doV x (prF X)) ∧ Below w.heap.size w w' := by rw [hM]; exact fun w => does_any x (prF X) w
  have hB : ∀ w, (Instr.build 63 #[(0, .agg x.v.toArray), (1, prF X)]).run Tryd.prog w = .ok (.agg M.toArray) w := by rw [hM]; exact fun w => bld_script1 x (prF X) ⟨_, _, _, rfl⟩ w
  rw [doV_1 hk, ← hM] at hD
  have hC : ∀ W, Aq W X p s → Calls Tryd.prog 33 #[.func (.func 42) #[.agg M.toArray] #[]] W fun e w' => e = .returned (.tuple #[.string x.t, .nilIface]) ∧ Aq w' X p s ∧ W.grownBy w' (some X) := fun W hW => caught_tells (S2 := .nilIface) (w0 := W) (fun V gV qV => by rw [hM]; exact (tells_any x (prF X) V).mono (fun e V' ⟨e1, e2⟩ => ⟨e1, qV.up e2, xgr_below e2 _⟩)) W (World.grownBy.refl _ _) hW
  have hf := fun w => feql_fstr (.func 42) #[.agg M.toArray] #[] w
  have hi := fun w => ieql_n w
  clear hk
  unfold dArgs
  obtain ⟨W1, hW1⟩ : ∃ W1, W1 = w.alloc (.cells x.v.toArray 28) := ⟨_, rfl⟩
  have hb : Blk W1 w.heap.size x.v := by rw [hW1]; exact Blk.new _ _ _
  have w1 : Below w.heap.size w W1 := by rw [hW1]; exact (Below.refl _ _).alloc (Nat.le_refl _) _
  have q1 := hq.up w1
  have g1 : w.grownBy W1 (some X) := xgr_below w1 _
  have hl := x.len
  generalize hL : x.v = L at *
  clear hM hL
  go_enter Tryd.func19, Tryd.ntmps19
  go_upto_region 1 with fail
  rw [← hW1]
  clear hW1
  go_upto_region 2 with (first
    | (refine wpl_ld row_Act rfl (.tmp 6) rfl (vs := L) rfl hb.range hl ?_)
    | (refine wpl_bld rfl _ _ rfl [(0, .agg L.toArray), (1, prF X)] rfl (hB _) ?_)
    | (go_at_call 30; refine (hD _).mono ?_; rintro e w2 ⟨rfl, b2⟩))
  have q2 := q1.up b2
  have g2 : w.grownBy w2 (some X) := g1.trans (xgr_below b2 _)
  go_wp2_with (go_at_call 33; refine (hC _ q2).mono ?_; rintro e w3 ⟨rfl, q3, g3⟩)
  go_ret2
  exact ⟨rfl, q3, g2.trans g3⟩
set_option maxRecDepth 1000000 in
set_option maxHeartbeats 4000000 in
theorem do_lacks {X : Nat} {p s : Int} (x : Ac) {np : Bool} {v : Int} {m : ByteArray} (hk : thB x = false) (w : World) (hq : Aq w X p s) : Calls Tryd.prog 19 (dArgs x np v m X) w fun e w' => e = .returned (.tuple #[.string ⟨#[]⟩, .bool false]) ∧ Aq w' X p s ∧ w.grownBy w' (some X) := by
  have hX := hq.b
  obtain ⟨M, hM⟩ : ∃ M, M = x.v ++ [prF X] := ⟨_, rfl⟩
  have hD : ∀ w, Calls Tryd.prog 30 #[.agg M.toArray] w fun e w' => e = .returned (doV x (prF X)) ∧ Below w.heap.size w w' := by rw [hM]; exact fun w => does_any x (prF X) w
  have hB : ∀ w, (Instr.build 63 #[(0, .agg x.v.toArray), (1, prF X)]).run Tryd.prog w = .ok (.agg M.toArray) w := by rw [hM]; exact fun w => bld_script1 x (prF X) ⟨_, _, _, rfl⟩ w
  rw [doV_no x _ hk] at hD
  have hf := fun w => feql_n w
  clear hk
  unfold dArgs
  obtain ⟨W1, hW1⟩ : ∃ W1, W1 = w.alloc (.cells x.v.toArray 28) := ⟨_, rfl⟩
  have hb : Blk W1 w.heap.size x.v := by rw [hW1]; exact Blk.new _ _ _
  have w1 : Below w.heap.size w W1 := by rw [hW1]; exact (Below.refl _ _).alloc (Nat.le_refl _) _
  have q1 := hq.up w1
  have g1 : w.grownBy W1 (some X) := xgr_below w1 _
  have hl := x.len
  generalize hL : x.v = L at *
  clear hM hL
  go_enter Tryd.func19, Tryd.ntmps19
  go_upto_region 1 with fail
  rw [← hW1]
  clear hW1
  go_upto_region 2 with (first
    | (refine wpl_ld row_Act rfl (.tmp 6) rfl (vs := L) rfl hb.range hl ?_)
    | (refine wpl_bld rfl _ _ rfl [(0, .agg L.toArray), (1, prF X)] rfl (hB _) ?_)
    | (go_at_call 30; refine (hD _).mono ?_; rintro e w2 ⟨rfl, b2⟩))
  have q2 := q1.up b2
  have g2 : w.grownBy w2 (some X) := g1.trans (xgr_below b2 _)
  go_wp2
  go_ret2
  exact ⟨rfl, q2, g2⟩
set_option maxRecDepth 1000000 in
set_option maxHeartbeats 4000000 in
theorem do_nil {X : Nat} {p s : Int} (x : Ac) {v : Int} {m : ByteArray} {np : Bool} (hnp : np = true) (hk : x.k = 2) (w : World) (hq : Aq w X p s) : Calls Tryd.prog 19 (dArgs x np v m X) w fun e w' => e = .returned (.tuple #[.string ⟨#[60, 110, 105, 108, 62]⟩, .bool false]) ∧ Aq w' X p s ∧ w.grownBy w' (some X) := by
  have hX := hq.b
  obtain ⟨M, hM⟩ : ∃ M, M = x.v ++ [prF X] := ⟨_, rfl⟩
  have hD : ∀ w, Calls Tryd.prog 30 #[.agg M.toArray] w fun e w' => e = .returned (doV x (prF X)) ∧ Below w.heap.size w w' := by rw [hM]; exact fun w => does_any x (prF X) w
  have hB : ∀ w, (Instr.build 63 #[(0, .agg x.v.toArray), (1, prF X)]).run Tryd.prog w = .ok (.agg M.toArray) w := by rw [hM]; exact fun w => bld_script1 x (prF X) ⟨_, _, _, rfl⟩ w
  subst hnp
  rw [doV_2 hk, ← hM] at hD
  have hC : ∀ W, Aq W X p s → Calls Tryd.prog 33 #[.func (.func 43) #[.agg M.toArray] #[]] W fun e w' => e = .returned (.tuple #[.string ⟨#[]⟩, thV x.p]) ∧ Aq w' X p s ∧ W.grownBy w' (some X) := fun W hW => by rw [hM]; exact caught_throws x (prF X) W hW
  have hf := fun w => feql_fstr (.func 43) #[.agg M.toArray] #[] w
  have hi := fun w => ieql_t 81 (.agg x.p.v.toArray) w
  clear hk
  unfold dArgs
  obtain ⟨W1, hW1⟩ : ∃ W1, W1 = w.alloc (.cells x.v.toArray 28) := ⟨_, rfl⟩
  have hb : Blk W1 w.heap.size x.v := by rw [hW1]; exact Blk.new _ _ _
  have w1 : Below w.heap.size w W1 := by rw [hW1]; exact (Below.refl _ _).alloc (Nat.le_refl _) _
  have q1 := hq.up w1
  have g1 : w.grownBy W1 (some X) := xgr_below w1 _
  have hl := x.len
  generalize hL : x.v = L at *
  clear hM hL
  go_enter Tryd.func19, Tryd.ntmps19
  go_upto_region 1 with fail
  rw [← hW1]
  clear hW1
  go_upto_region 2 with (first
    | (refine wpl_ld row_Act rfl (.tmp 6) rfl (vs := L) rfl hb.range hl ?_)
    | (refine wpl_bld rfl _ _ rfl [(0, .agg L.toArray), (1, prF X)] rfl (hB _) ?_)
    | (go_at_call 30; refine (hD _).mono ?_; rintro e w2 ⟨rfl, b2⟩))
  have q2 := q1.up b2
  have g2 : w.grownBy w2 (some X) := g1.trans (xgr_below b2 _)
  unfold thV at hC
  generalize x.p.v.toArray = D at *
  go_wp2_with (go_at_call 33; refine (hC _ q2).mono ?_; rintro e w3 ⟨rfl, q3, g3⟩)
  go_ret2
  exact ⟨rfl, q3, g2.trans g3⟩
set_option maxRecDepth 1000000 in
set_option maxHeartbeats 4000000 in
theorem do_throws {X : Nat} {p s : Int} (x : Ac) {v : Int} {m : ByteArray} {np : Bool} (hnp : np = false) (hk : x.k = 2) (hs : 0 ≤ s) (hs2 : s ≤ 1000000) (ht : x.p.tx.size ≤ 5000) (hm : m.size ≤ 100) {w0 : World} (hcp : Cpd w0 X x.p) (w : World) (hg : w0.grownBy w (some X)) (hq : Aq w X p s) : Calls Tryd.prog 19 (dArgs x np v m X) w fun e w' => e = .returned (.tuple #[.string (pnT v m (shT x.p.k x.p.tx)), .bool false]) ∧ Aq w' X p (s + 1) ∧ w.grownBy w' (some X) := by
  have hX := hq.b
  obtain ⟨M, hM⟩ : ∃ M, M = x.v ++ [prF X] := ⟨_, rfl⟩
  have hD : ∀ w, Calls Tryd.prog 30 #[.agg M.toArray] w fun e w' => e = .returned (doV x (prF X)) ∧ Below w.heap.size w w' := by rw [hM]; exact fun w => does_any x (prF X) w
  have hB : ∀ w, (Instr.build 63 #[(0, .agg x.v.toArray), (1, prF X)]).run Tryd.prog w = .ok (.agg M.toArray) w := by rw [hM]; exact fun w => bld_script1 x (prF X) ⟨_, _, _, rfl⟩ w
  subst hnp
  rw [doV_2 hk, ← hM] at hD
  have hC : ∀ W, Aq W X p s → Calls Tryd.prog 33 #[.func (.func 43) #[.agg M.toArray] #[]] W fun e w' => e = .returned (.tuple #[.string ⟨#[]⟩, thV x.p]) ∧ Aq w' X p s ∧ W.grownBy w' (some X) := fun W hW => by rw [hM]; exact caught_throws x (prF X) W hW
  have hf := fun w => feql_fstr (.func 43) #[.agg M.toArray] #[] w
  have hi := fun w => ieql_t 81 (.agg x.p.v.toArray) w
  have hS := fun W h1 h2 => shown_any (p := p) hcp W h1 h2 hs hs2 (by omega)
  have hz : (shT x.p.k x.p.tx).size ≤ 9000 := by
    have := digT_size false 10 (kN x.p.k)
    unfold shT kT
    simp only [ByteArray.size_append]
    have e1 : (ByteArray.mk #[123]).size = 1 := rfl
    have e2 : (ByteArray.mk #[125]).size = 1 := rfl
    omega
  have hP : ∀ W, Calls Tryd.prog 34 #[.int .i32 v, .string m, .string (shT x.p.k x.p.tx)] W fun e w' => e = .returned (.string (pnT v m (shT x.p.k x.p.tx))) ∧ Below W.heap.size W w' := fun W => bpanic_big v m (by omega) _ hz W
  clear hk hz
  generalize pnT v m (shT x.p.k x.p.tx) = R at *
  generalize shT x.p.k x.p.tx = T at *
  unfold dArgs
  obtain ⟨W1, hW1⟩ : ∃ W1, W1 = w.alloc (.cells x.v.toArray 28) := ⟨_, rfl⟩
  have hb : Blk W1 w.heap.size x.v := by rw [hW1]; exact Blk.new _ _ _
  have w1 : Below w.heap.size w W1 := by rw [hW1]; exact (Below.refl _ _).alloc (Nat.le_refl _) _
  have q1 := hq.up w1
  have g1 : w.grownBy W1 (some X) := xgr_below w1 _
  have hl := x.len
  generalize hL : x.v = L at *
  clear hM hL
  go_enter Tryd.func19, Tryd.ntmps19
  go_upto_region 1 with fail
  rw [← hW1]
  clear hW1
  go_upto_region 2 with (first
    | (refine wpl_ld row_Act rfl (.tmp 6) rfl (vs := L) rfl hb.range hl ?_)
    | (refine wpl_bld rfl _ _ rfl [(0, .agg L.toArray), (1, prF X)] rfl (hB _) ?_)
    | (go_at_call 30; refine (hD _).mono ?_; rintro e w2 ⟨rfl, b2⟩))
  have q2 := q1.up b2
  have g2 : w.grownBy w2 (some X) := g1.trans (xgr_below b2 _)
  unfold thV at hC hS
  generalize x.p.v.toArray = D at *
  go_wp2_with (first
    | (go_at_call 33; refine (hC _ q2).mono ?_; rintro e w3 ⟨rfl, q3, g3⟩)
    | (go_at_call 35; refine (hS _ (hg.trans (g2.trans g3)) q3).mono ?_; rintro e w4 ⟨rfl, q4, g4⟩)
    | (go_at_call 34; refine (hP _).mono ?_; rintro e w5 ⟨rfl, b5⟩))
  go_ret2
  exact ⟨rfl, q4.up b5, g2.trans (g3.trans (g4.trans (xgr_below b5 _)))⟩
set_option maxRecDepth 1000000 in
set_option maxHeartbeats 4000000 in
theorem do_prints {X : Nat} {p s : Int} (x : Ac) {v : Int} {m T : ByteArray} {np : Bool} {p' s' : Int} (hk : x.k = 3) {w0 : World} (hFc : Fc w0 X p s p' s' 44 #[.agg (x.v ++ [prF X]).toArray] T) (w : World) (hg : w0.grownBy w (some X)) (hq : Aq w X p s) : Calls Tryd.prog 19 (dArgs x np v m X) w fun e w' => e = .returned (.tuple #[.string T, .bool true]) ∧ Aq w' X p' s' ∧ w.grownBy w' (some X) := by
  have hX := hq.b
  obtain ⟨M, hM⟩ : ∃ M, M = x.v ++ [prF X] := ⟨_, rfl⟩
  have hD : ∀ w, Calls Tryd.prog 30 #[.agg M.toArray] w fun e w' => e = .returned (doV x (prF X)) ∧ Below w.heap.size w w' := by rw [hM]; exact fun w => does_any x (prF X) w
  have hB : ∀ w, (Instr.build 63 #[(0, .agg x.v.toArray), (1, prF X)]).run Tryd.prog w = .ok (.agg M.toArray) w := by rw [hM]; exact fun w => bld_script1 x (prF X) ⟨_, _, _, rfl⟩ w
  rw [doV_3 hk, ← hM] at hD
  have hC : ∀ W, w0.grownBy W (some X) → Aq W X p s → Calls Tryd.prog 33 #[.func (.func 44) #[.agg M.toArray] #[]] W fun e w' => e = .returned (.tuple #[.string T, .nilIface]) ∧ Aq w' X p' s' ∧ W.grownBy w' (some X) := fun W gW hW => by rw [hM]; exact caught_prints (S2 := .nilIface) hFc W gW hW
  have hf := fun w => feql_fstr (.func 44) #[.agg M.toArray] #[] w
  have hi := fun w => ieql_n w
  clear hk hFc
  unfold dArgs
  obtain ⟨W1, hW1⟩ : ∃ W1, W1 = w.alloc (.cells x.v.toArray 28) := ⟨_, rfl⟩
  have hb : Blk W1 w.heap.size x.v := by rw [hW1]; exact Blk.new _ _ _
  have w1 : Below w.heap.size w W1 := by rw [hW1]; exact (Below.refl _ _).alloc (Nat.le_refl _) _
  have q1 := hq.up w1
  have g1 : w.grownBy W1 (some X) := xgr_below w1 _
  have hl := x.len
  generalize hL : x.v = L at *
  clear hM hL
  go_enter Tryd.func19, Tryd.ntmps19
  go_upto_region 1 with fail
  rw [← hW1]
  clear hW1
  go_upto_region 2 with (first
    | (refine wpl_ld row_Act rfl (.tmp 6) rfl (vs := L) rfl hb.range hl ?_)
    | (refine wpl_bld rfl _ _ rfl [(0, .agg L.toArray), (1, prF X)] rfl (hB _) ?_)
    | (go_at_call 30; refine (hD _).mono ?_; rintro e w2 ⟨rfl, b2⟩))
  have q2 := q1.up b2
  have g2 : w.grownBy w2 (some X) := g1.trans (xgr_below b2 _)
  go_wp2_with (go_at_call 33; refine (hC _ (hg.trans g2) q2).mono ?_; rintro e w3 ⟨rfl, q3, g3⟩)
  go_ret2
  exact ⟨rfl, q3, g2.trans g3⟩
end Go.Proofs.YtbfaapbbhgegiaaDoor
