/- XWalkA, XWalkB, XWalkC, XDo, XQuiet, XPut, IDig: these texts in one. -/
import Derived.Test.YtdlnmnipnkeabaaGreatDoorPt1
import Derived.LoopN
import Derived.Defers
import Derived.Recover
import Derived.Lib.Case
namespace Go.Proofs.YtdlnmnipnkeabaaGreatDoor
open Go.RowKit
set_option linter.unusedVariables false
set_option linter.unusedSimpArgs false
def doV (x : Ac) (g : Value) : Value :=
 if x.k = 1 then .func (.func 229) #[.agg (x.v ++ [g]).toArray] #[] else if x.k = 2 then .func (.func 230) #[.agg (x.v ++ [g]).toArray] #[] else if x.k = 3 then .func (.func 231) #[.agg (x.v ++ [g]).toArray] #[] else .nilFunc
set_option maxRecDepth 1000000 in
set_option maxHeartbeats 2000000 in
theorem does_any (x : Ac) (g : Value) (w : World) : Calls Tryz.prog 184 #[.agg (x.v ++ [g]).toArray] w fun e w' => e = .returned (doV x g) ∧ Below w.heap.size w w' := by
 obtain ⟨L, hL⟩ : ∃ L, L = x.v ++ [g] := ⟨_, rfl⟩
 have hl : L.length = 13 := by rw [hL]; simp [x.len]
 have h0 : L[0]? = some (.int .i64 x.k) := by rw [hL]; rfl
 obtain ⟨W1, hW1⟩ : ∃ W1, W1 = w.alloc (.cells L.toArray 288) := ⟨_, rfl⟩
 have hb : Blk W1 w.heap.size L := by rw [hW1]; exact Blk.new _ _ _
 have hw1 : Below w.heap.size w W1 := by rw [hW1]; exact (Below.refl _ _).alloc (Nat.le_refl _) _
 have c0 := hb.c 0 _ h0
 have hv : doV x g = if x.k = 1 then .func (.func 229) #[.agg L.toArray] #[] else if x.k = 2 then .func (.func 230) #[.agg L.toArray] #[] else if x.k = 3 then .func (.func 231) #[.agg L.toArray] #[] else .nilFunc := by rw [hL]; rfl
 rw [hv, ← hL]
 clear hL hv
 generalize x.k = k at *
 go_enter Tryz.func184, Tryz.ntmps184
 go_upto_region 1 with fail
 rw [← hW1]
 clear hW1
 by_cases e1 : k = 1
 ·subst e1
  go_wp2_with (refine wpl_ld row_script rfl (.tmp 1) rfl (vs := L) rfl hb.range hl ?_)
  go_ret
  exact ⟨rfl, hw1⟩
 ·by_cases e2 : k = 2
  ·subst e2
   go_wp2_with (refine wpl_ld row_script rfl (.tmp 1) rfl (vs := L) rfl hb.range hl ?_)
   go_ret
   exact ⟨rfl, hw1⟩
  ·by_cases e3 : k = 3
   ·subst e3
    go_wp2_with (refine wpl_ld row_script rfl (.tmp 1) rfl (vs := L) rfl hb.range hl ?_)
    go_ret
    exact ⟨rfl, hw1⟩
   ·go_wp2
    go_ret
    simp only [e1, e2, e3, if_false]
    exact ⟨rfl, hw1⟩
def thB (x : Ac) : Bool := x.k == 1 || x.k == 2 || x.k == 3
theorem thB_dec (x : Ac) : thB x = decide (x.k = 1 ∨ x.k = 2 ∨ x.k = 3) := by
 unfold thB
 by_cases e1 : x.k = 1 <;> by_cases e2 : x.k = 2 <;> by_cases e3 : x.k = 3 <;> simp [e1, e2, e3]
theorem doV_th (x : Ac) (g : Value) (h : thB x = true) : ∃ f, doV x g = .func (.func f) #[.agg (x.v ++ [g]).toArray] #[] := by
 rw [thB_dec] at h
 have h' := of_decide_eq_true h
 unfold doV
 by_cases e1 : x.k = 1
 ·exact ⟨_, if_pos e1⟩
 ·by_cases e2 : x.k = 2
  ·rw [if_neg e1, if_pos e2]; exact ⟨_, rfl⟩
  ·have e3 : x.k = 3 := by omega
   rw [if_neg e1, if_neg e2, if_pos e3]; exact ⟨_, rfl⟩
theorem doV_no (x : Ac) (g : Value) (h : thB x = false) : doV x g = .nilFunc := by
 rw [thB_dec] at h
 have h' := of_decide_eq_false h
 unfold doV
 rw [if_neg (fun e => h' (.inl e)), if_neg (fun e => h' (.inr (.inl e))), if_neg (fun e => h' (.inr (.inr e)))]
set_option maxRecDepth 1000000 in
set_option maxHeartbeats 2000000 in
theorem there_any (x : Ac) (w : World) : Calls Tryz.prog 181 #[.agg x.v.toArray] w fun e w' => e = .returned (.bool (thB x)) ∧ Below w.heap.size w w' := by
 obtain ⟨L, hL⟩ : ∃ L, L = x.v := ⟨_, rfl⟩
 obtain ⟨M, hM⟩ : ∃ M, M = x.v ++ [Value.nilFunc] := ⟨_, rfl⟩
 have hl : L.length = 12 := by rw [hL]; exact x.len
 have hN := doV_no x .nilFunc
 have hT := doV_th x .nilFunc
 rw [← hM] at hT
 rw [← hL]
 have hD : ∀ w, Calls Tryz.prog 184 #[.agg M.toArray] w fun e w' => e = .returned (doV x .nilFunc) ∧ Below w.heap.size w w' := by rw [hM]; exact fun w => does_any x .nilFunc w
 have hB : ∀ w, (Instr.build 288 #[(0, .agg L.toArray)]).run Tryz.prog w = .ok (.agg M.toArray) w := by rw [hL, hM]; exact fun w => bld_script0 x w
 obtain ⟨W1, hW1⟩ : ∃ W1, W1 = w.alloc (.cells L.toArray 31) := ⟨_, rfl⟩
 have hb : Blk W1 w.heap.size L := by rw [hW1]; exact Blk.new _ _ _
 have hw1 : Below w.heap.size w W1 := by rw [hW1]; exact (Below.refl _ _).alloc (Nat.le_refl _) _
 clear hL hM
 cases hq : thB x with
 | true =>
   obtain ⟨f, hf⟩ := hT hq
   rw [hf] at hD
   clear hf hq hT hN
   have hn := fun w => fneq_t (.func f) #[.agg M.toArray] #[] w
   go_enter Tryz.func181, Tryz.ntmps181
   go_upto_region 1 with fail
   rw [← hW1]
   clear hW1
   go_wp2_with (first
    | (refine wpl_ld row_Act rfl (.tmp 1) rfl (vs := L) rfl hb.range hl ?_)
    | (refine wpl_bld rfl _ _ rfl [(0, .agg L.toArray)] rfl (hB _) ?_)
    | (go_at_call 184; refine (hD _).mono ?_; rintro e w2 ⟨rfl, h2⟩))
   go_ret
   exact ⟨rfl, hw1.trans (h2.mono hw1.size)⟩
 | false =>
   rw [hN hq] at hD
   clear hq hT hN
   have hn := fun w => fneq_n w
   go_enter Tryz.func181, Tryz.ntmps181
   go_upto_region 1 with fail
   rw [← hW1]
   clear hW1
   go_wp2_with (first
    | (refine wpl_ld row_Act rfl (.tmp 1) rfl (vs := L) rfl hb.range hl ?_)
    | (refine wpl_bld rfl _ _ rfl [(0, .agg L.toArray)] rfl (hB _) ?_)
    | (go_at_call 184; refine (hD _).mono ?_; rintro e w2 ⟨rfl, h2⟩))
   go_ret
   exact ⟨rfl, hw1.trans (h2.mono hw1.size)⟩
def hat (h : Hk) (n : Int) : Ac := if n = 1 then h.a else if n = 2 then h.b else if n = 3 then h.c else if n = 4 then h.d else .no
theorem hk_a {h : Hk} {w : World} {B : Nat} (hb : Blk w B h.v) : w.rangeAt B 0 h.a.v := by
 have := hb; unfold Hk.v at this
 exact Blk.mid (p := []) this rfl
theorem hk_b {h : Hk} {w : World} {B : Nat} (hb : Blk w B h.v) : w.rangeAt B 12 h.b.v := by
 have := hb; unfold Hk.v at this
 exact Blk.mid (p := h.a.v) this rfl
theorem hk_c {h : Hk} {w : World} {B : Nat} (hb : Blk w B h.v) : w.rangeAt B 24 h.c.v := by
 have := hb; unfold Hk.v at this
 rw [← List.append_assoc] at this
 exact Blk.mid (p := h.a.v ++ h.b.v) this rfl
theorem hk_d {h : Hk} {w : World} {B : Nat} (hb : Blk w B h.v) : w.rangeAt B 36 h.d.v := by
 have := hb; unfold Hk.v at this
 rw [← List.append_assoc, ← List.append_assoc, ← List.append_nil h.d.v] at this
 exact Blk.mid (p := (h.a.v ++ h.b.v) ++ h.c.v) this rfl
theorem bld_act0 (w : World) : (Instr.build 31 #[]).run Tryz.prog w = .ok (.agg Ac.no.v.toArray) w := by kernel_rfl
set_option maxRecDepth 1000000 in
set_option maxHeartbeats 4000000 in
theorem act_any (h : Hk) (n : Int) (w : World) : Calls Tryz.prog 143 #[.agg h.v.toArray, .int .i64 n] w fun e w' => e = .returned (.agg (hat h n).v.toArray) ∧ Below w.heap.size w w' := by
 obtain ⟨L, hL⟩ : ∃ L, L = h.v := ⟨_, rfl⟩
 obtain ⟨W1, hW1⟩ : ∃ W1, W1 = (w.alloc (.cells L.toArray 34)).alloc (.cells #[.int .i64 0, .string ⟨#[]⟩, .string ⟨#[]⟩, .slice none 0 0, .int .i64 0, .string ⟨#[]⟩, .int .u64 0, .int .u64 0, .string ⟨#[]⟩, .slice none 0 0, .slice none 0 0, .int .i64 0] 31) := ⟨_, rfl⟩
 have hb : Blk W1 w.heap.size h.v := by rw [hW1, hL]; exact (Blk.new _ _ _).alloc _
 have hr : Blk W1 (w.heap.size + 1) Ac.no.v := by
  rw [hW1]
  have := Blk.new (w.alloc (.cells L.toArray 34)) Ac.no.v 31
  rw [show (w.alloc (.cells L.toArray 34)).heap.size = w.heap.size + 1 by simp] at this
  exact this
 have hw1 : Below w.heap.size w W1 := by rw [hW1]; exact ((Below.refl _ _).alloc (Nat.le_refl _) _).alloc (by simp) _
 have fin : ∀ x : Ac, Blk (W1.setCells (w.heap.size + 1) 0 x.v) (w.heap.size + 1) x.v ∧ Below w.heap.size w (W1.setCells (w.heap.size + 1) 0 x.v) := fun x => ⟨hr.all _ rfl, xbelow_sc hw1 (by omega) _ _⟩
 rw [← hL]
 clear hL
 by_cases e1 : n = 1
 ·subst e1
  obtain ⟨X, hX⟩ : ∃ X, X = h.a := ⟨_, rfl⟩
  have hm := hk_a hb
  rw [← hX] at hm
  obtain ⟨f1, f2⟩ := fin X
  rw [show hat h 1 = X by rw [hX]; rfl]
  clear hX hb fin
  go_enter Tryz.func143, Tryz.ntmps143
  go_upto_region 1 with fail
  rw [← hW1]
  clear hW1
  go_wp2_with (first
   | (refine wpl_ld row_Act rfl (.tmp 8) rfl (vs := X.v) rfl hm X.len ?_)
   | (refine wpl_st row_Act rfl (.tmp 4) (.tmp 9) rfl (us := X.v) rfl rfl hr rfl X.len X.one ?_; generalize W1.setCells (w.heap.size + 1) 0 X.v = Wf at *))
  exact bodyPost_ret (res_row row_Act Tryz.results143 rfl f1 X.len) rfl ⟨rfl, f2⟩
 ·skip
  by_cases e2 : n = 2
  ·subst e2
   obtain ⟨X, hX⟩ : ∃ X, X = h.b := ⟨_, rfl⟩
   have hm := hk_b hb
   rw [← hX] at hm
   obtain ⟨f1, f2⟩ := fin X
   rw [show hat h 2 = X by rw [hX]; rfl]
   clear hX hb fin
   go_enter Tryz.func143, Tryz.ntmps143
   go_upto_region 1 with fail
   rw [← hW1]
   clear hW1
   go_wp2_with (first
    | (refine wpl_ld row_Act rfl (.tmp 12) rfl (vs := X.v) rfl hm X.len ?_)
    | (refine wpl_st row_Act rfl (.tmp 4) (.tmp 13) rfl (us := X.v) rfl rfl hr rfl X.len X.one ?_; generalize W1.setCells (w.heap.size + 1) 0 X.v = Wf at *))
   exact bodyPost_ret (res_row row_Act Tryz.results143 rfl f1 X.len) rfl ⟨rfl, f2⟩
  ·skip
   by_cases e3 : n = 3
   ·subst e3
    obtain ⟨X, hX⟩ : ∃ X, X = h.c := ⟨_, rfl⟩
    have hm := hk_c hb
    rw [← hX] at hm
    obtain ⟨f1, f2⟩ := fin X
    rw [show hat h 3 = X by rw [hX]; rfl]
    clear hX hb fin
    go_enter Tryz.func143, Tryz.ntmps143
    go_upto_region 1 with fail
    rw [← hW1]
    clear hW1
    go_wp2_with (first
     | (refine wpl_ld row_Act rfl (.tmp 16) rfl (vs := X.v) rfl hm X.len ?_)
     | (refine wpl_st row_Act rfl (.tmp 4) (.tmp 17) rfl (us := X.v) rfl rfl hr rfl X.len X.one ?_; generalize W1.setCells (w.heap.size + 1) 0 X.v = Wf at *))
    exact bodyPost_ret (res_row row_Act Tryz.results143 rfl f1 X.len) rfl ⟨rfl, f2⟩
   ·skip
    by_cases e4 : n = 4
    ·subst e4
     obtain ⟨X, hX⟩ : ∃ X, X = h.d := ⟨_, rfl⟩
     have hm := hk_d hb
     rw [← hX] at hm
     obtain ⟨f1, f2⟩ := fin X
     rw [show hat h 4 = X by rw [hX]; rfl]
     clear hX hb fin
     go_enter Tryz.func143, Tryz.ntmps143
     go_upto_region 1 with fail
     rw [← hW1]
     clear hW1
     go_wp2_with (first
      | (refine wpl_ld row_Act rfl (.tmp 20) rfl (vs := X.v) rfl hm X.len ?_)
      | (refine wpl_st row_Act rfl (.tmp 4) (.tmp 21) rfl (us := X.v) rfl rfl hr rfl X.len X.one ?_; generalize W1.setCells (w.heap.size + 1) 0 X.v = Wf at *))
     exact bodyPost_ret (res_row row_Act Tryz.results143 rfl f1 X.len) rfl ⟨rfl, f2⟩
    ·skip
     obtain ⟨f1, f2⟩ := fin .no
     rw [show hat h n = .no by unfold hat; rw [if_neg e1, if_neg e2, if_neg e3, if_neg e4]]
     clear fin hb
     go_enter Tryz.func143, Tryz.ntmps143
     go_upto_region 1 with fail
     rw [← hW1]
     clear hW1
     go_wp2_with (first
      | (refine wpl_bld rfl _ _ rfl [] rfl (bld_act0 _) ?_)
      | (refine wpl_st row_Act rfl (.tmp 4) (.tmp 22) rfl (us := Ac.no.v) rfl rfl hr rfl rfl Ac.no.one ?_; generalize W1.setCells (w.heap.size + 1) 0 Ac.no.v = Wf at *))
     exact bodyPost_ret (res_row row_Act Tryz.results143 rfl f1 rfl) rfl ⟨rfl, f2⟩
end Go.Proofs.YtdlnmnipnkeabaaGreatDoor
namespace Go.Proofs.YtdlnmnipnkeabaaGreatDoor
open Go.RowKit
set_option linter.unusedVariables false
set_option linter.unusedSimpArgs false
def hnmB (v : Int) : Bool := v == 118 || v == 115 || v == 120 || v == 88 || v == 113
set_option maxRecDepth 1000000 in
theorem takes_any (v : Int) (w : World) : Calls Tryz.prog 183 #[.int .i32 v] w fun e w' => e = .returned (.bool (hnmB v)) ∧ w' = w := by
 by_cases e1 : v = 118
 ·subst e1
  go_enter Tryz.func183, Tryz.ntmps183
  go_wp2
  go_ret
  exact ⟨rfl, rfl⟩
 ·by_cases e2 : v = 115
  ·subst e2
   go_enter Tryz.func183, Tryz.ntmps183
   go_wp2
   go_ret
   exact ⟨rfl, rfl⟩
  ·by_cases e3 : v = 120
   ·subst e3
    go_enter Tryz.func183, Tryz.ntmps183
    go_wp2
    go_ret
    exact ⟨rfl, rfl⟩
   ·by_cases e4 : v = 88
    ·subst e4
     go_enter Tryz.func183, Tryz.ntmps183
     go_wp2
     go_ret
     exact ⟨rfl, rfl⟩
    ·by_cases e5 : v = 113
     ·subst e5
      go_enter Tryz.func183, Tryz.ntmps183
      go_wp2
      go_ret
      exact ⟨rfl, rfl⟩
     ·go_enter Tryz.func183, Tryz.ntmps183
      go_wp2
      go_ret
      rw [show hnmB v = false by simp [hnmB, e1, e2, e3, e4, e5]]
      exact ⟨rfl, rfl⟩
def fst2 (h : Hk) : Int := if thB h.b then 2 else 0
def fst34 (h : Hk) : Int := if thB h.c then 3 else if thB h.d then 4 else 0
set_option maxRecDepth 1000000 in
set_option maxHeartbeats 4000000 in
theorem first2_any (h : Hk) (g : Nat) (w : World) (hc : w.cell? ⟨g, 0, none⟩ = some (.int .i64 2)) (hg : g < w.heap.size) : Calls Tryz.prog 182 #[.agg h.v.toArray, .slice (some ⟨g, 0, none⟩) 1 1] w fun e w' => e = .returned (.int .i64 (fst2 h)) ∧ Below w.heap.size w w' := by
 have hA : ∀ w, Calls Tryz.prog 143 #[.agg h.v.toArray, .int .i64 2] w fun e w' => e = .returned (.agg h.b.v.toArray) ∧ Below w.heap.size w w' := fun w => act_any h 2 w
 have hT := fun w => there_any h.b w
 have HF : Hid (fst2 h = if thB h.b then 2 else 0) := rfl
 obtain ⟨W1, hW1⟩ : ∃ W1, W1 = w.alloc (.cells h.v.toArray 34) := ⟨_, rfl⟩
 have hb : Blk W1 w.heap.size h.v := by rw [hW1]; exact Blk.new _ _ _
 have hw1 : Below w.heap.size w W1 := by rw [hW1]; exact (Below.refl _ _).alloc (Nat.le_refl _) _
 have c1 : W1.cell? ⟨g, 0, none⟩ = some (.int .i64 2) := (hw1.cell (p := ⟨g, 0, none⟩) hg).trans hc
 generalize thB h.b = b at *
 generalize h.b.v = lb at *
 have hl : h.v.length = 48 := h.len
 generalize h.v = L at *
 cases b
 ·go_enter Tryz.func182, Tryz.ntmps182
  go_upto_region 1 with fail
  rw [← hW1]
  clear hW1
  go_wp2
  refine wp_loop_rounds 2 ?_
  rw [rounds_succ]
  go_wp2_with (first
   | (refine wpl_ld row_Hook rfl (.tmp 2) rfl (vs := L) rfl hb.range hl ?_)
   | (go_at_call 143; refine (hA _).mono ?_; rintro e w2 ⟨rfl, h2⟩)
   | (go_at_call 181; refine (hT _).mono ?_; rintro e w3 ⟨rfl, h3⟩))
  rw [rounds_succ]
  go_wp2
  go_ret
  rw [HF.out]
  exact ⟨rfl, hw1.trans ((h2.trans (h3.mono h2.size)).mono hw1.size)⟩
 ·go_enter Tryz.func182, Tryz.ntmps182
  go_upto_region 1 with fail
  rw [← hW1]
  clear hW1
  go_wp2
  refine wp_loop_rounds 2 ?_
  rw [rounds_succ]
  go_wp2_with (first
   | (refine wpl_ld row_Hook rfl (.tmp 2) rfl (vs := L) rfl hb.range hl ?_)
   | (go_at_call 143; refine (hA _).mono ?_; rintro e w2 ⟨rfl, h2⟩)
   | (go_at_call 181; refine (hT _).mono ?_; rintro e w3 ⟨rfl, h3⟩))
  go_ret
  rw [HF.out]
  exact ⟨rfl, hw1.trans ((h2.trans (h3.mono h2.size)).mono hw1.size)⟩
set_option maxRecDepth 1000000 in
set_option maxHeartbeats 4000000 in
theorem first34_any (h : Hk) (g : Nat) (w : World) (hc : w.cell? ⟨g, 0, none⟩ = some (.int .i64 3)) (hc2 : w.cell? ⟨g, 1, none⟩ = some (.int .i64 4)) (hg : g < w.heap.size) : Calls Tryz.prog 182 #[.agg h.v.toArray, .slice (some ⟨g, 0, none⟩) 2 2] w fun e w' => e = .returned (.int .i64 (fst34 h)) ∧ Below w.heap.size w w' := by
 have hA : ∀ w, Calls Tryz.prog 143 #[.agg h.v.toArray, .int .i64 3] w fun e w' => e = .returned (.agg h.c.v.toArray) ∧ Below w.heap.size w w' := fun w => act_any h 3 w
 have hA4 : ∀ w, Calls Tryz.prog 143 #[.agg h.v.toArray, .int .i64 4] w fun e w' => e = .returned (.agg h.d.v.toArray) ∧ Below w.heap.size w w' := fun w => act_any h 4 w
 have hT := fun w => there_any h.c w
 have hT4 := fun w => there_any h.d w
 have HF : Hid (fst34 h = if thB h.c then 3 else if thB h.d then 4 else 0) := rfl
 obtain ⟨W1, hW1⟩ : ∃ W1, W1 = w.alloc (.cells h.v.toArray 34) := ⟨_, rfl⟩
 have hb : Blk W1 w.heap.size h.v := by rw [hW1]; exact Blk.new _ _ _
 have hw1 : Below w.heap.size w W1 := by rw [hW1]; exact (Below.refl _ _).alloc (Nat.le_refl _) _
 have c1 : W1.cell? ⟨g, 0, none⟩ = some (.int .i64 3) := (hw1.cell (p := ⟨g, 0, none⟩) hg).trans hc
 have hg1 : g < W1.heap.size := Nat.lt_of_lt_of_le hg hw1.size
 have c2 : W1.cell? ⟨g, 1, none⟩ = some (.int .i64 4) := (hw1.cell (p := ⟨g, 1, none⟩) hg).trans hc2
 generalize thB h.c = b at *
 generalize h.c.v = lb at *
 generalize thB h.d = b4 at *
 generalize h.d.v = lb4 at *
 have hl : h.v.length = 48 := h.len
 generalize h.v = L at *
 cases b
 ·cases b4
  ·skip
   go_enter Tryz.func182, Tryz.ntmps182
   go_upto_region 1 with fail
   rw [← hW1]
   clear hW1
   go_wp2
   refine wp_loop_rounds 3 ?_
   rw [rounds_succ]
   go_wp2_with (first
    | (refine wpl_ld row_Hook rfl (.tmp 2) rfl (vs := L) rfl hb.range hl ?_)
    | (go_at_call 143; refine (hA _).mono ?_; rintro e w2 ⟨rfl, h2⟩)
    | (go_at_call 181; refine (hT _).mono ?_; rintro e w3 ⟨rfl, h3⟩))
   have h4 : Below W1.heap.size W1 w3 := h2.trans (h3.mono h2.size)
   have hb4 := hb.up h4
   have c4 : w3.cell? ⟨g, 1, none⟩ = some (.int .i64 4) := (h4.cell (p := ⟨g, 1, none⟩) hg1).trans c2
   rw [rounds_succ]
   go_wp2_with (first
    | (refine wpl_ld row_Hook rfl (.tmp 2) rfl (vs := L) rfl hb4.range hl ?_)
    | (go_at_call 143; refine (hA4 _).mono ?_; rintro e w5 ⟨rfl, h5⟩)
    | (go_at_call 181; refine (hT4 _).mono ?_; rintro e w6 ⟨rfl, h6⟩))
   have h7 : Below W1.heap.size W1 w6 := h4.trans ((h5.trans (h6.mono h5.size)).mono h4.size)
   rw [rounds_succ]
   go_wp2
   go_ret
   rw [HF.out]
   exact ⟨rfl, hw1.trans (h7.mono hw1.size)⟩
  ·skip
   go_enter Tryz.func182, Tryz.ntmps182
   go_upto_region 1 with fail
   rw [← hW1]
   clear hW1
   go_wp2
   refine wp_loop_rounds 3 ?_
   rw [rounds_succ]
   go_wp2_with (first
    | (refine wpl_ld row_Hook rfl (.tmp 2) rfl (vs := L) rfl hb.range hl ?_)
    | (go_at_call 143; refine (hA _).mono ?_; rintro e w2 ⟨rfl, h2⟩)
    | (go_at_call 181; refine (hT _).mono ?_; rintro e w3 ⟨rfl, h3⟩))
   have h4 : Below W1.heap.size W1 w3 := h2.trans (h3.mono h2.size)
   have hb4 := hb.up h4
   have c4 : w3.cell? ⟨g, 1, none⟩ = some (.int .i64 4) := (h4.cell (p := ⟨g, 1, none⟩) hg1).trans c2
   rw [rounds_succ]
   go_wp2_with (first
    | (refine wpl_ld row_Hook rfl (.tmp 2) rfl (vs := L) rfl hb4.range hl ?_)
    | (go_at_call 143; refine (hA4 _).mono ?_; rintro e w5 ⟨rfl, h5⟩)
    | (go_at_call 181; refine (hT4 _).mono ?_; rintro e w6 ⟨rfl, h6⟩))
   have h7 : Below W1.heap.size W1 w6 := h4.trans ((h5.trans (h6.mono h5.size)).mono h4.size)
   go_ret
   rw [HF.out]
   exact ⟨rfl, hw1.trans (h7.mono hw1.size)⟩
 ·skip
  go_enter Tryz.func182, Tryz.ntmps182
  go_upto_region 1 with fail
  rw [← hW1]
  clear hW1
  go_wp2
  refine wp_loop_rounds 3 ?_
  rw [rounds_succ]
  go_wp2_with (first
   | (refine wpl_ld row_Hook rfl (.tmp 2) rfl (vs := L) rfl hb.range hl ?_)
   | (go_at_call 143; refine (hA _).mono ?_; rintro e w2 ⟨rfl, h2⟩)
   | (go_at_call 181; refine (hT _).mono ?_; rintro e w3 ⟨rfl, h3⟩))
  go_ret
  rw [HF.out]
  exact ⟨rfl, hw1.trans ((h2.trans (h3.mono h2.size)).mono hw1.size)⟩
end Go.Proofs.YtdlnmnipnkeabaaGreatDoor
namespace Go.Proofs.YtdlnmnipnkeabaaGreatDoor
open Go.RowKit
set_option linter.unusedVariables false
set_option linter.unusedSimpArgs false
def whN (h : Hk) (v : Int) (sh : Bool) : Int := if thB h.a = true then 1 else if v = 118 ∧ sh = true then fst2 h else if hnmB v = true then fst34 h else 0
set_option maxRecDepth 1000000 in
set_option maxHeartbeats 4000000 in
theorem which_any (h : Hk) (v : Int) (sh : Bool) (w : World) : Calls Tryz.prog 141 #[.agg h.v.toArray, .int .i32 v, .bool sh] w fun e w' => e = .returned (.int .i64 (whN h v sh)) ∧ Below w.heap.size w w' := by
 obtain ⟨W1, hW1⟩ : ∃ W1, W1 = w.alloc (.cells h.v.toArray 34) := ⟨_, rfl⟩
 have hb : Blk W1 w.heap.size h.v := by rw [hW1]; exact Blk.new _ _ _
 have hw1 : Below w.heap.size w W1 := by rw [hW1]; exact (Below.refl _ _).alloc (Nat.le_refl _) _
 have hl : h.v.length = 48 := h.len
 have hA := fun w => there_any h.a w
 have hm := hk_a hb
 have h2 := fun g w hc hg => first2_any h g w hc hg
 have h34 := fun g w hc hc2 hg => first34_any h g w hc hc2 hg
 have hN := fun w => takes_any v w
 have HW : Hid (whN h v sh = if thB h.a = true then 1 else if v = 118 ∧ sh = true then fst2 h else if hnmB v = true then fst34 h else 0) := rfl
 have hla := h.a.len
 generalize h.v = L at *
 generalize h.a.v = La at *
 generalize thB h.a = b at *
 generalize fst2 h = n2 at *
 generalize fst34 h = n34 at *
 generalize whN h v sh = R at *
 generalize hnm : hnmB v = nm at *
 cases b
 ·have k2 : ∀ w2, Below W1.heap.size W1 w2 → Blk w2 w.heap.size L ∧ Below w.heap.size w w2 := fun w2 q2 => ⟨hb.up q2, hw1.trans (q2.mono hw1.size)⟩
  by_cases e1 : v = 118
  ·subst e1
   obtain rfl : true = nm := hnm
   cases sh
   ·have HR : Hid (R = n34) := by rw [HW.out]; rfl
    go_enter Tryz.func141, Tryz.ntmps141
    go_upto_region 1 with fail
    rw [← hW1]
    clear hW1
    go_upto_region 3 with (first
     | (refine wpl_ld row_Act rfl (.tmp 8) rfl (vs := La) rfl hm hla ?_)
     | (go_at_call 181; refine (hA _).mono ?_; rintro e w2 ⟨rfl, q2⟩))
    obtain ⟨b2, w2'⟩ := k2 _ q2
    go_wp2_with (first
     | (go_at_call 183; refine (hN _).mono ?_; rintro e w4 ⟨rfl, q4⟩; subst q4)
     | (refine wpl_ld row_Hook rfl (.tmp 3) rfl (vs := L) rfl b2.range hl ?_)
     | (go_at_call 182; refine (h34 _ _ (by simp) (by simp) (by simp)).mono ?_; rintro e w3 ⟨rfl, q3⟩))
    go_ret
    rw [HR.out]
    exact ⟨rfl, w2'.trans (Below.mono (((Below.refl _ _).alloc (Nat.le_refl _) _).trans (q3.mono (by simp))) w2'.size)⟩
   ·have HR : Hid (R = n2) := by rw [HW.out]; rfl
    go_enter Tryz.func141, Tryz.ntmps141
    go_upto_region 1 with fail
    rw [← hW1]
    clear hW1
    go_upto_region 3 with (first
     | (refine wpl_ld row_Act rfl (.tmp 8) rfl (vs := La) rfl hm hla ?_)
     | (go_at_call 181; refine (hA _).mono ?_; rintro e w2 ⟨rfl, q2⟩))
    obtain ⟨b2, w2'⟩ := k2 _ q2
    go_wp2_with (first
     | (refine wpl_ld row_Hook rfl (.tmp 3) rfl (vs := L) rfl b2.range hl ?_)
     | (go_at_call 182; refine (h2 _ _ (by simp) (by simp)).mono ?_; rintro e w3 ⟨rfl, q3⟩))
    go_ret
    rw [HR.out]
    exact ⟨rfl, w2'.trans (Below.mono (((Below.refl _ _).alloc (Nat.le_refl _) _).trans (q3.mono (by simp))) w2'.size)⟩
  ·cases nm
   ·have HR : Hid (R = 0) := (by rw [HW.out]; simp [e1] : R = 0)
    clear hnm
    go_enter Tryz.func141, Tryz.ntmps141
    go_upto_region 1 with fail
    rw [← hW1]
    clear hW1
    go_upto_region 3 with (first
     | (refine wpl_ld row_Act rfl (.tmp 8) rfl (vs := La) rfl hm hla ?_)
     | (go_at_call 181; refine (hA _).mono ?_; rintro e w2 ⟨rfl, q2⟩))
    obtain ⟨b2, w2'⟩ := k2 _ q2
    go_wp2_with (go_at_call 183; refine (hN _).mono ?_; rintro e w4 ⟨rfl, q4⟩; subst q4)
    go_ret
    rw [HR.out]
    exact ⟨rfl, w2'⟩
   ·have HR : Hid (R = n34) := (by rw [HW.out]; simp [e1] : R = n34)
    clear hnm
    go_enter Tryz.func141, Tryz.ntmps141
    go_upto_region 1 with fail
    rw [← hW1]
    clear hW1
    go_upto_region 3 with (first
     | (refine wpl_ld row_Act rfl (.tmp 8) rfl (vs := La) rfl hm hla ?_)
     | (go_at_call 181; refine (hA _).mono ?_; rintro e w2 ⟨rfl, q2⟩))
    obtain ⟨b2, w2'⟩ := k2 _ q2
    go_wp2_with (first
     | (go_at_call 183; refine (hN _).mono ?_; rintro e w4 ⟨rfl, q4⟩; subst q4)
     | (refine wpl_ld row_Hook rfl (.tmp 3) rfl (vs := L) rfl b2.range hl ?_)
     | (go_at_call 182; refine (h34 _ _ (by simp) (by simp) (by simp)).mono ?_; rintro e w3 ⟨rfl, q3⟩))
    go_ret
    rw [HR.out]
    exact ⟨rfl, w2'.trans (Below.mono (((Below.refl _ _).alloc (Nat.le_refl _) _).trans (q3.mono (by simp))) w2'.size)⟩
 ·have HR : Hid (R = 1) := by rw [HW.out]; rfl
  clear hnm
  go_enter Tryz.func141, Tryz.ntmps141
  go_upto_region 1 with fail
  rw [← hW1]
  clear hW1
  go_wp2_with (first
   | (refine wpl_ld row_Act rfl (.tmp 8) rfl (vs := La) rfl hm hla ?_)
   | (go_at_call 181; refine (hA _).mono ?_; rintro e w2 ⟨rfl, q2⟩))
  go_ret
  rw [HR.out]
  exact ⟨rfl, hw1.trans (q2.mono hw1.size)⟩
end Go.Proofs.YtdlnmnipnkeabaaGreatDoor
namespace Go.Proofs.YtdlnmnipnkeabaaGreatDoor
open Go.RowKit
set_option linter.unusedVariables false
set_option linter.unusedSimpArgs false
abbrev thV (d : Ds) : Value := .iface 328 (.agg d.v.toArray)
abbrev PT (d : Ds) : List PanicEntry := [{ v := thV d, recovered := false }]
theorem bld_thrown (d : Ds) (w : World) : (Instr.build 328 #[(0, .agg d.v.toArray)]).run Tryz.prog w = .ok (.agg d.v.toArray) w := by
 obtain ⟨a0, a1, a2, a3, a4, ⟨na, nn, nc⟩, ⟨pa, pn, pc⟩, a7⟩ := d
 kernel_rfl
set_option maxRecDepth 1000000 in
set_option maxHeartbeats 2000000 in
theorem throws_any (x : Ac) (g : Value) (w : World) : Calls Tryz.prog 230 #[.agg (x.v ++ [g]).toArray] w fun e w' => e = .panicked (PT x.p) ∧ Below w.heap.size w w' := by
 obtain ⟨L, hL⟩ : ∃ L, L = x.v ++ [g] := ⟨_, rfl⟩
 obtain ⟨W1, hW1⟩ : ∃ W1, W1 = w.alloc (.cells L.toArray 288) := ⟨_, rfl⟩
 have hb : Blk W1 w.heap.size L := by rw [hW1]; exact Blk.new _ _ _
 have hw1 : Below w.heap.size w W1 := by rw [hW1]; exact (Below.refl _ _).alloc (Nat.le_refl _) _
 have hr : W1.rangeAt w.heap.size 4 x.p.v := by
  rw [hL] at hb
  have hb' : Blk W1 w.heap.size ([.int .i64 x.k, .string x.t, .string x.f, .slice x.l.a x.l.n x.l.c] ++ (x.p.v ++ [g])) := hb
  exact Blk.mid hb' rfl
 have hB := fun w => bld_thrown x.p w
 have hl := x.p.len
 rw [← hL]
 clear hL hb
 unfold PT thV
 generalize x.p.v = P at *
 go_enter Tryz.func230, Tryz.ntmps230
 go_upto_region 1 with fail
 rw [← hW1]
 clear hW1
 go_wp2_with (first
  | (refine wpl_ld row_Desc rfl (.tmp 4) rfl (vs := P) rfl hr hl ?_)
  | (refine wpl_bld rfl _ _ rfl [(0, .agg P.toArray)] rfl (hB _) ?_))
 exact ⟨rfl, rfl, hw1⟩
theorem xcatch_idle (p : Nat) (w : World) (v : Value) (c : w.cell? ⟨p, 0, none⟩ = some v) (z : w.frozen? ⟨p, 0, none⟩ = false) :
  CallsD Tryz.prog 232 #[.pointer (some ⟨p, 0, none⟩)] .returning w fun e u' w' => e = .returned (.tuple #[]) ∧ u' = .returning ∧ w' = w.setCell ⟨p, 0, none⟩ .nilIface := by
 refine callsD_of_wpS Tryz.func232 rfl fun c₀ cs hu => ?_
 apply wpS_region
 simp [wpOpsS, go_sem, recoverD, hu, Tryz.ntmps232, Exit.thenS, c, z]
 exact ⟨rfl, .returning, by rw [← hu], _, results_none rfl _ _ _, rfl, rfl, rfl⟩
theorem xcatch_throw (d : Ds) (p : Nat) (w : World) (v : Value) (c : w.cell? ⟨p, 0, none⟩ = some v) (z : w.frozen? ⟨p, 0, none⟩ = false) :
  CallsD Tryz.prog 232 #[.pointer (some ⟨p, 0, none⟩)] (.panicking (PT d)) w fun e u' w' => e = .returned (.tuple #[]) ∧ u' = .panicking [{ v := thV d, recovered := true }] ∧ w' = w.setCell ⟨p, 0, none⟩ (thV d) := by
 unfold PT thV
 generalize d.v.toArray = D
 refine callsD_of_wpS Tryz.func232 rfl fun c₀ cs hu => ?_
 apply wpS_region
 simp [wpOpsS, go_sem, recoverD, hu, Tryz.ntmps232, Exit.thenS, c, z]
 exact ⟨rfl, _, rfl, _, results_none rfl _ _ _, rfl, rfl, rfl⟩
theorem Blk.other {w : World} {B B' o : Nat} {vs : List Value} (h : Blk w B vs) (hne : B' ≠ B) (v : Value) : Blk (w.setCell ⟨B', o, none⟩ v) B vs := by
 have hB : (w.setCell ⟨B', o, none⟩ v).heap[B]? = w.heap[B]? := Below.heap_setCell _ _ _ _ hne.symm
 exact ⟨fun i u hu => (World.cell?_of_block (w := w) (a := ⟨B, i, none⟩) hB).trans (h.c i u hu), fun i => (World.frozen?_of_block (w := w) (a := ⟨B, i, none⟩) hB).trans (h.z i), by simpa [World.setCell] using h.b⟩
theorem Blk.set {w : World} {B : Nat} {vs : List Value} (h : Blk w B vs) (i : Nat) (hi : i < vs.length) (v : Value) : Blk (w.setCell ⟨B, i, none⟩ v) B (vs.set i v) := by
 refine ⟨fun j u hu => ?_, fun j => (World.frozen?_setCell _ _ _ _).trans (h.z j), by simpa [World.setCell] using h.b⟩
 by_cases e : i = j
 ·subst e
  rw [List.getElem?_set_self hi] at hu
  obtain rfl := Option.some.inj hu
  exact World.cell?_setCell_same _ _ _ (h.c i _ (List.getElem?_eq_getElem hi))
 ·rw [List.getElem?_set_ne e] at hu
  rw [World.cell?_setCell_other _ _ _ _ (fun k => e (congrArg Addr.off k))]
  exact h.c j u hu
end Go.Proofs.YtdlnmnipnkeabaaGreatDoor
namespace Go.Proofs.YtdlnmnipnkeabaaGreatDoor
open Go.RowKit
set_option linter.unusedVariables false
end Go.Proofs.YtdlnmnipnkeabaaGreatDoor
namespace Go.Proofs.YtdlnmnipnkeabaaGreatDoor
open Go.RowKit
set_option linter.unusedVariables false
theorem Blk.thereMid {w : World} {B : Nat} {p cs q : List Value} (h : Blk w B (p ++ (cs ++ q))) : w.there B p.length cs.length := fun j hj => by
 refine ⟨?_, h.z _⟩
 have hlt : p.length + j < (p ++ (cs ++ q)).length := by simp; omega
 rw [h.c (p.length + j) _ (List.getElem?_eq_getElem hlt)]
 rfl
theorem Blk.put {w : World} {B : Nat} {p cs q : List Value} (h : Blk w B (p ++ (cs ++ q))) (us : List Value) (hl : us.length = cs.length) : Blk (w.setCells B p.length us) B (p ++ (us ++ q)) := by
 refine ⟨fun i v hv => ?_, fun i => (World.frozen?_setCells _ _ _ _ _).trans (h.z i), by rw [xsc_size]; exact h.b⟩
 have r1 : (w.setCells B p.length us).rangeAt B 0 p := by
  refine World.rangeAt_setCells_apart (fun j u hu => ?_) B p.length us (.inr (.inl (by omega)))
  rw [Nat.zero_add]
  exact h.c j u (by rw [List.getElem?_append_left (List.getElem?_eq_some_iff.1 hu).1]; exact hu)
 have r2 : (w.setCells B p.length us).rangeAt B p.length us := World.rangeAt_setCells_same w B p.length us (by rw [hl]; exact h.thereMid)
 have r3 : (w.setCells B p.length us).rangeAt B (p.length + cs.length) q := by
  refine World.rangeAt_setCells_apart (fun j u hu => ?_) B p.length us (.inr (.inr (by omega)))
  refine h.c _ u ?_
  rw [← List.append_assoc, List.getElem?_append_right (by simp), List.length_append, Nat.add_sub_cancel_left]
  exact hu
 rcases Nat.lt_or_ge i p.length with h1 | h1
 ·rw [List.getElem?_append_left h1] at hv
  have := r1 i v hv
  rwa [Nat.zero_add] at this
 ·rw [List.getElem?_append_right h1] at hv
  rcases Nat.lt_or_ge (i - p.length) us.length with h2 | h2
  ·rw [List.getElem?_append_left h2] at hv
   have := r2 _ v hv
   rwa [show p.length + (i - p.length) = i by omega] at this
  ·rw [List.getElem?_append_right h2] at hv
   have := r3 _ v hv
   rwa [show p.length + cs.length + (i - p.length - us.length) = i by omega] at this
theorem wpl_stm {ops : Array Oper} {rest : List Oper} {op : Oper} {a : Act} {w : World} {Q : Exit → Act → World → Prop} {t n : Nat} (hr : Row t n) (hgd : op.guard = none) (x y : Operand) (ho : op.op = .store t x y) {B o : Nat} {us : List Value}
  (hx : a.eval x = .pointer (some ⟨B, o, none⟩)) (hy : a.eval y = .agg us.toArray) (ht : w.there B o n) (hu : us.length = n) (h1 : ∀ v ∈ us, v.oneCell' = true)
  (h : wpList Tryz.prog ops Q rest (a.put op.dst undef) (w.setCells B o us)) : wpList Tryz.prog ops Q (op :: rest) a w := by
 refine wpList_store_mid hgd t x y ho B o us.toArray hx hy (by simpa [hu] using ht) (by simp [hu, hr.2]) (all_oneCell_toArray h1) ?_
 simpa using h
end Go.Proofs.YtdlnmnipnkeabaaGreatDoor
namespace Go.Proofs.YtdlnmnipnkeabaaGreatDoor
open Go.RowKit
def digF (g : Bool) (b : Nat) : Nat → Nat → List UInt8
 | 0, _ => []
 | f + 1, m => if m = 0 then [] else digF g b f (m / b) ++ [hexB g (m % b)]
def digP (g : Bool) (b m : Nat) : List UInt8 := digF g b 64 m
def digS (g : Bool) (b n : Nat) : List UInt8 := digP g b (n / b) ++ [hexB g (n % b)]
theorem digF_fuel (g : Bool) (b : Nat) (hb : 2 ≤ b) : ∀ (f h m : Nat), m < 2 ^ f → m < 2 ^ h → digF g b f m = digF g b h m
 | 0, 0, _, _, _ => rfl
 | 0, h + 1, m, hf, _ => by
   have : m = 0 := by simp at hf; omega
   simp [digF, this]
 | f + 1, 0, m, _, hh => by
   have : m = 0 := by simp at hh; omega
   simp [digF, this]
 | f + 1, h + 1, m, hf, hh => by
   by_cases hm : m = 0
   ·simp [digF, hm]
   ·simp only [digF, if_neg hm]
    have hd : m / b ≤ m / 2 := Nat.div_le_div_left hb (by omega)
    rw [digF_fuel g b hb f h (m / b) (by rw [Nat.pow_succ] at hf; omega) (by rw [Nat.pow_succ] at hh; omega)]
theorem digP_zero (g : Bool) (b : Nat) : digP g b 0 = [] := by simp [digP, digF]
theorem digF_succ (g : Bool) (b f m : Nat) : digF g b (f + 1) m = if m = 0 then [] else digF g b f (m / b) ++ [hexB g (m % b)] := rfl
theorem digP_step (g : Bool) (b m : Nat) (hb : 2 ≤ b) (h0 : m ≠ 0) (hm : m < 2 ^ 64) : digP g b m = digP g b (m / b) ++ [hexB g (m % b)] := by
 have hd : m / b ≤ m / 2 := Nat.div_le_div_left hb (by omega)
 have e : digF g b 63 (m / b) = digF g b 64 (m / b) := digF_fuel g b hb 63 64 _ (by have : (2 : Nat) ^ 64 = 2 * 2 ^ 63 := by decide
                                                                                    omega) (by omega)
 have e0 := digF_succ g b 63 m
 rw [if_neg h0, e] at e0
 exact e0
theorem digF_len (g : Bool) (b : Nat) : ∀ (f m : Nat), (digF g b f m).length ≤ f
 | 0, _ => by simp [digF]
 | f + 1, m => by
   have := digF_len g b f (m / b)
   simp only [digF]
   split
   ·simp
   ·simp; omega
theorem digP_len (g : Bool) (b m : Nat) : (digP g b m).length ≤ 64 := digF_len g b 64 m
theorem digS_len (g : Bool) (b n : Nat) : (digS g b n).length ≤ 65 := by
 have := digP_len g b (n / b)
 simp [digS]; omega
theorem digS_len1 (g : Bool) (b n : Nat) : 1 ≤ (digS g b n).length := by simp [digS]
theorem digF_mem (g : Bool) (b : Nat) (hb : 0 < b) : ∀ (f m : Nat) (x : UInt8), x ∈ digF g b f m → ∃ d, d < b ∧ x = hexB g d
 | 0, _, x, h => by simp [digF] at h
 | f + 1, m, x, h => by
   simp only [digF] at h
   split at h
   ·simp at h
   ·rcases List.mem_append.1 h with h | h
    ·exact digF_mem g b hb f _ x h
    ·exact ⟨m % b, Nat.mod_lt _ hb, by simpa using h⟩
theorem digS_mem (g : Bool) (b n : Nat) (hb : 0 < b) (x : UInt8) (h : x ∈ digS g b n) : ∃ d, d < b ∧ x = hexB g d := by
 rcases List.mem_append.1 h with h | h
 ·exact digF_mem g b hb 64 _ x h
 ·exact ⟨n % b, Nat.mod_lt _ hb, by simpa using h⟩
theorem upper_hex (d : Nat) (h : d < 16) : Lib.upperB (hexB false d) = hexB true d := by
 have : ∀ i : Fin 16, Lib.upperB (hexB false i.val) = hexB true i.val := by decide
 exact this ⟨d, h⟩
theorem upperA_digF (b : Nat) (hb : 0 < b) (h16 : b ≤ 16) : ∀ (f m : Nat), Lib.toUpperA (digF false b f m) = digF true b f m
 | 0, _ => rfl
 | f + 1, m => by
   have ih := upperA_digF b hb h16 f (m / b)
   have hlt := Nat.mod_lt m hb
   simp only [digF]
   split
   ·rfl
   ·simp only [Lib.toUpperA, List.map_append, List.map_cons, List.map_nil] at ih ⊢
    rw [ih, upper_hex _ (by omega)]
theorem upperA_digS (b n : Nat) (hb : 0 < b) (h16 : b ≤ 16) : Lib.toUpperA (digS false b n) = digS true b n := by
 have hlt := Nat.mod_lt n hb
 have ih := upperA_digF b hb h16 64 (n / b)
 unfold digS digP
 simp only [Lib.toUpperA, List.map_append, List.map_cons, List.map_nil] at ih ⊢
 rw [ih, upper_hex _ (by omega)]
theorem hexB_ascii (g : Bool) (d : Nat) (h : d < 16) : (hexB g d).toNat < 128 := by
 have : ∀ i : Fin 16, (hexB false i.val).toNat < 128 ∧ (hexB true i.val).toNat < 128 := by decide
 have := this ⟨d, h⟩
 cases g
 ·exact this.1
 ·exact this.2
theorem digS_ascii (g : Bool) (b n : Nat) (hb : 0 < b) (h16 : b ≤ 16) (x : UInt8) (h : x ∈ digS g b n) : x.toNat < 128 := by
 obtain ⟨d, hd, rfl⟩ := digS_mem g b n hb x h
 exact hexB_ascii g d (by omega)
end Go.Proofs.YtdlnmnipnkeabaaGreatDoor
