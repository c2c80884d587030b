/- Package hooks: what a method does, whether it is there, which one is asked; the document's. -/
import Derived.Test.YtbfaapbbhgegiaaDoorXRow
import Derived.LoopN
namespace Go.Proofs.YtbfaapbbhgegiaaDoor
open Go.RowKit
set_option linter.unusedVariables false
set_option linter.unusedSimpArgs false

/-- What a method does, as a function. -/
def doV (x : Ac) (g : Value) : Value :=
  if x.k = 1 then .func (.func 42) #[.agg (x.v ++ [g]).toArray] #[] else if x.k = 2 then .func (.func 43) #[.agg (x.v ++ [g]).toArray] #[] else if x.k = 3 then .func (.func 44) #[.agg (x.v ++ [g]).toArray] #[] else .nilFunc
theorem ac_0 (x : Ac) (g : List Value) : (x.v ++ g)[0]? = some (.int .i64 x.k) := rfl
set_option maxRecDepth 1000000 in
set_option maxHeartbeats 2000000 in
theorem does_any (x : Ac) (g : Value) (w : World) : Calls Tryd.prog 30 #[.agg (x.v ++ [g]).toArray] w fun e w' => e = .returned (doV x g) ∧ Below w.heap.size w w' := by
  obtain ⟨L, hL⟩ : ∃ L, L = x.v ++ [g] := ⟨_, rfl⟩
  have hl : L.length = 13 := by rw [hL]; simp [x.len]
  have h0 : L[0]? = some (.int .i64 x.k) := by rw [hL]; rfl
  obtain ⟨W1, hW1⟩ : ∃ W1, W1 = w.alloc (.cells L.toArray 63) := ⟨_, rfl⟩
  have hb : Blk W1 w.heap.size L := by rw [hW1]; exact Blk.new _ _ _
  have hw1 : Below w.heap.size w W1 := by rw [hW1]; exact (Below.refl _ _).alloc (Nat.le_refl _) _
  have c0 := hb.c 0 _ h0
  have hv : doV x g = if x.k = 1 then .func (.func 42) #[.agg L.toArray] #[] else if x.k = 2 then .func (.func 43) #[.agg L.toArray] #[] else if x.k = 3 then .func (.func 44) #[.agg L.toArray] #[] else .nilFunc := by rw [hL]; rfl
  rw [hv, ← hL]
  clear hL hv
  generalize x.k = k at *
  go_enter Tryd.func30, Tryd.ntmps30
  go_upto_region 1 with fail
  rw [← hW1]
  clear hW1
  by_cases e1 : k = 1
  · subst e1
    go_wp2_with (refine wpl_ld row_script rfl (.tmp 1) rfl (vs := L) rfl hb.range hl ?_)
    go_ret
    exact ⟨rfl, hw1⟩
  · by_cases e2 : k = 2
    · subst e2
      go_wp2_with (refine wpl_ld row_script rfl (.tmp 1) rfl (vs := L) rfl hb.range hl ?_)
      go_ret
      exact ⟨rfl, hw1⟩
    · by_cases e3 : k = 3
      · subst e3
        go_wp2_with (refine wpl_ld row_script rfl (.tmp 1) rfl (vs := L) rfl hb.range hl ?_)
        go_ret
        exact ⟨rfl, hw1⟩
      · go_wp2
        go_ret
        simp only [e1, e2, e3, if_false]
        exact ⟨rfl, hw1⟩
/-- Is it a method at all? -/
def thB (x : Ac) : Bool := x.k == 1 || x.k == 2 || x.k == 3
theorem thB_dec (x : Ac) : thB x = decide (x.k = 1 ∨ x.k = 2 ∨ x.k = 3) := by
  unfold thB
  by_cases e1 : x.k = 1 <;> by_cases e2 : x.k = 2 <;> by_cases e3 : x.k = 3 <;> simp [e1, e2, e3]
theorem doV_th (x : Ac) (g : Value) (h : thB x = true) : ∃ f, doV x g = .func (.func f) #[.agg (x.v ++ [g]).toArray] #[] := by
  rw [thB_dec] at h
  have h' := of_decide_eq_true h
  unfold doV
  by_cases e1 : x.k = 1
  · exact ⟨_, if_pos e1⟩
  · by_cases e2 : x.k = 2
    · rw [if_neg e1, if_pos e2]; exact ⟨_, rfl⟩
    · have e3 : x.k = 3 := by omega
      rw [if_neg e1, if_neg e2, if_pos e3]; exact ⟨_, rfl⟩
theorem doV_no (x : Ac) (g : Value) (h : thB x = false) : doV x g = .nilFunc := by
  rw [thB_dec] at h
  have h' := of_decide_eq_false h
  unfold doV
  rw [if_neg (fun e => h' (.inl e)), if_neg (fun e => h' (.inr (.inl e))), if_neg (fun e => h' (.inr (.inr e)))]
set_option maxRecDepth 1000000 in
set_option maxHeartbeats 2000000 in
theorem there_any (x : Ac) (w : World) : Calls Tryd.prog 11 #[.agg x.v.toArray] w fun e w' => e = .returned (.bool (thB x)) ∧ Below w.heap.size w w' := by
  obtain ⟨L, hL⟩ : ∃ L, L = x.v := ⟨_, rfl⟩
  obtain ⟨M, hM⟩ : ∃ M, M = x.v ++ [Value.nilFunc] := ⟨_, rfl⟩
  have hl : L.length = 12 := by rw [hL]; exact x.len
  have hN := doV_no x .nilFunc
  have hT := doV_th x .nilFunc
  rw [← hM] at hT
  rw [← hL]
  have hD : ∀ w, Calls Tryd.prog 30 #[.agg M.toArray] w fun e w' => e = .returned (doV x .nilFunc) ∧ Below w.heap.size w w' := by rw [hM]; exact fun w => does_any x .nilFunc w
  have hB : ∀ w, (Instr.build 63 #[(0, .agg L.toArray)]).run Tryd.prog w = .ok (.agg M.toArray) w := by rw [hL, hM]; exact fun w => bld_script0 x w
  obtain ⟨W1, hW1⟩ : ∃ W1, W1 = w.alloc (.cells L.toArray 28) := ⟨_, rfl⟩
  have hb : Blk W1 w.heap.size L := by rw [hW1]; exact Blk.new _ _ _
  have hw1 : Below w.heap.size w W1 := by rw [hW1]; exact (Below.refl _ _).alloc (Nat.le_refl _) _
  clear hL hM
  cases hq : thB x with
  | true =>
    obtain ⟨f, hf⟩ := hT hq
    rw [hf] at hD
    clear hf hq hT hN
    have hn := fun w => fneq_t (.func f) #[.agg M.toArray] #[] w
    go_enter Tryd.func11, Tryd.ntmps11
    go_upto_region 1 with fail
    rw [← hW1]
    clear hW1
    go_wp2_with (first
      | (refine wpl_ld row_Act rfl (.tmp 1) rfl (vs := L) rfl hb.range hl ?_)
      | (refine wpl_bld rfl _ _ rfl [(0, .agg L.toArray)] rfl (hB _) ?_)
      | (go_at_call 30; refine (hD _).mono ?_; rintro e w2 ⟨rfl, h2⟩))
    go_ret
    exact ⟨rfl, hw1.trans (h2.mono hw1.size)⟩
  | false =>
    rw [hN hq] at hD
    clear hq hT hN
    have hn := fun w => fneq_n w
    go_enter Tryd.func11, Tryd.ntmps11
    go_upto_region 1 with fail
    rw [← hW1]
    clear hW1
    go_wp2_with (first
      | (refine wpl_ld row_Act rfl (.tmp 1) rfl (vs := L) rfl hb.range hl ?_)
      | (refine wpl_bld rfl _ _ rfl [(0, .agg L.toArray)] rfl (hB _) ?_)
      | (go_at_call 30; refine (hD _).mono ?_; rintro e w2 ⟨rfl, h2⟩))
    go_ret
    exact ⟨rfl, hw1.trans (h2.mono hw1.size)⟩
/-- A row's method of that number. -/
def hat (h : Hk) (n : Int) : Ac := if n = 1 then h.a else if n = 2 then h.b else if n = 3 then h.c else if n = 4 then h.d else .no
theorem hk_a {h : Hk} {w : World} {B : Nat} (hb : Blk w B h.v) : w.rangeAt B 0 h.a.v := by
  have := hb; unfold Hk.v at this
  exact Blk.mid (p := []) this rfl
theorem hk_b {h : Hk} {w : World} {B : Nat} (hb : Blk w B h.v) : w.rangeAt B 12 h.b.v := by
  have := hb; unfold Hk.v at this
  exact Blk.mid (p := h.a.v) this rfl
theorem hk_c {h : Hk} {w : World} {B : Nat} (hb : Blk w B h.v) : w.rangeAt B 24 h.c.v := by
  have := hb; unfold Hk.v at this
  rw [← List.append_assoc] at this
  exact Blk.mid (p := h.a.v ++ h.b.v) this rfl
theorem hk_d {h : Hk} {w : World} {B : Nat} (hb : Blk w B h.v) : w.rangeAt B 36 h.d.v := by
  have := hb; unfold Hk.v at this
  rw [← List.append_assoc, ← List.append_assoc, ← List.append_nil h.d.v] at this
  exact Blk.mid (p := (h.a.v ++ h.b.v) ++ h.c.v) this rfl
theorem bld_act0 (w : World) : (Instr.build 28 #[]).run Tryd.prog w = .ok (.agg Ac.no.v.toArray) w := by kernel_rfl
set_option maxRecDepth 1000000 in
set_option maxHeartbeats 4000000 in
theorem act_any (h : Hk) (n : Int) (w : World) : Calls Tryd.prog 39 #[.agg h.v.toArray, .int .i64 n] w fun e w' => e = .returned (.agg (hat h n).v.toArray) ∧ Below w.heap.size w w' := by
  obtain ⟨L, hL⟩ : ∃ L, L = h.v := ⟨_, rfl⟩
  obtain ⟨W1, hW1⟩ : ∃ W1, W1 = (w.alloc (.cells L.toArray 30)).alloc (.cells #[.int .i64 0, .string ⟨#[]⟩, .string ⟨#[]⟩, .slice none 0 0, .int .i64 0, .string ⟨#[]⟩, .int .u64 0, .int .u64 0, .string ⟨#[]⟩, .slice none 0 0, .slice none 0 0, .int .i64 0] 28) := ⟨_, rfl⟩
  have hb : Blk W1 w.heap.size h.v := by rw [hW1, hL]; exact (Blk.new _ _ _).alloc _
  have hr : Blk W1 (w.heap.size + 1) Ac.no.v := by
    rw [hW1]
    have := Blk.new (w.alloc (.cells L.toArray 30)) Ac.no.v 28
    rw [show (w.alloc (.cells L.toArray 30)).heap.size = w.heap.size + 1 by simp] at this
    exact this
  have hw1 : Below w.heap.size w W1 := by rw [hW1]; exact ((Below.refl _ _).alloc (Nat.le_refl _) _).alloc (by simp) _
  have fin : ∀ x : Ac, Blk (W1.setCells (w.heap.size + 1) 0 x.v) (w.heap.size + 1) x.v ∧ Below w.heap.size w (W1.setCells (w.heap.size + 1) 0 x.v) := fun x => ⟨hr.all _ rfl, xbelow_sc hw1 (by omega) _ _⟩
  rw [← hL]
  clear hL
  by_cases e1 : n = 1
  · subst e1
    obtain ⟨X, hX⟩ : ∃ X, X = h.a := ⟨_, rfl⟩
    have hm := hk_a hb
    rw [← hX] at hm
    obtain ⟨f1, f2⟩ := fin X
    rw [show hat h 1 = X by rw [hX]; rfl]
    clear hX hb fin
    go_enter Tryd.func39, Tryd.ntmps39
    go_upto_region 1 with fail
    rw [← hW1]
    clear hW1
    go_wp2_with (first
      | (refine wpl_ld row_Act rfl (.tmp 8) rfl (vs := X.v) rfl hm X.len ?_)
      | (refine wpl_st row_Act rfl (.tmp 4) (.tmp 9) rfl (us := X.v) rfl rfl hr rfl X.len X.one ?_; generalize W1.setCells (w.heap.size + 1) 0 X.v = Wf at *))
    exact bodyPost_ret (res_row row_Act Tryd.results39 rfl f1 X.len) rfl ⟨rfl, f2⟩
  · skip
    by_cases e2 : n = 2
    · subst e2
      obtain ⟨X, hX⟩ : ∃ X, X = h.b := ⟨_, rfl⟩
      have hm := hk_b hb
      rw [← hX] at hm
      obtain ⟨f1, f2⟩ := fin X
      rw [show hat h 2 = X by rw [hX]; rfl]
      clear hX hb fin
      go_enter Tryd.func39, Tryd.ntmps39
      go_upto_region 1 with fail
      rw [← hW1]
      clear hW1
      go_wp2_with (first
        | (refine wpl_ld row_Act rfl (.tmp 12) rfl (vs := X.v) rfl hm X.len ?_)
        | (refine wpl_st row_Act rfl (.tmp 4) (.tmp 13) rfl (us := X.v) rfl rfl hr rfl X.len X.one ?_; generalize W1.setCells (w.heap.size + 1) 0 X.v = Wf at *))
      exact bodyPost_ret (res_row row_Act Tryd.results39 rfl f1 X.len) rfl ⟨rfl, f2⟩
    · skip
      by_cases e3 : n = 3
      · subst e3
        obtain ⟨X, hX⟩ : ∃ X, X = h.c := ⟨_, rfl⟩
        have hm := hk_c hb
        rw [← hX] at hm
        obtain ⟨f1, f2⟩ := fin X
        rw [show hat h 3 = X by rw [hX]; rfl]
        clear hX hb fin
        go_enter Tryd.func39, Tryd.ntmps39
        go_upto_region 1 with fail
        rw [← hW1]
        clear hW1
        go_wp2_with (first
          | (refine wpl_ld row_Act rfl (.tmp 16) rfl (vs := X.v) rfl hm X.len ?_)
          | (refine wpl_st row_Act rfl (.tmp 4) (.tmp 17) rfl (us := X.v) rfl rfl hr rfl X.len X.one ?_; generalize W1.setCells (w.heap.size + 1) 0 X.v = Wf at *))
        exact bodyPost_ret (res_row row_Act Tryd.results39 rfl f1 X.len) rfl ⟨rfl, f2⟩
      · skip
        by_cases e4 : n = 4
        · subst e4
          obtain ⟨X, hX⟩ : ∃ X, X = h.d := ⟨_, rfl⟩
          have hm := hk_d hb
          rw [← hX] at hm
          obtain ⟨f1, f2⟩ := fin X
          rw [show hat h 4 = X by rw [hX]; rfl]
          clear hX hb fin
          go_enter Tryd.func39, Tryd.ntmps39
          go_upto_region 1 with fail
          rw [← hW1]
          clear hW1
          go_wp2_with (first
            | (refine wpl_ld row_Act rfl (.tmp 20) rfl (vs := X.v) rfl hm X.len ?_)
            | (refine wpl_st row_Act rfl (.tmp 4) (.tmp 21) rfl (us := X.v) rfl rfl hr rfl X.len X.one ?_; generalize W1.setCells (w.heap.size + 1) 0 X.v = Wf at *))
          exact bodyPost_ret (res_row row_Act Tryd.results39 rfl f1 X.len) rfl ⟨rfl, f2⟩
        · skip
          obtain ⟨f1, f2⟩ := fin .no
          rw [show hat h n = .no by unfold hat; rw [if_neg e1, if_neg e2, if_neg e3, if_neg e4]]
          clear fin hb
          go_enter Tryd.func39, Tryd.ntmps39
          go_upto_region 1 with fail
          rw [← hW1]
          clear hW1
          go_wp2_with (first
            | (refine wpl_bld rfl _ _ rfl [] rfl (bld_act0 _) ?_)
            | (refine wpl_st row_Act rfl (.tmp 4) (.tmp 22) rfl (us := Ac.no.v) rfl rfl hr rfl rfl Ac.no.one ?_; generalize W1.setCells (w.heap.size + 1) 0 Ac.no.v = Wf at *))
          exact bodyPost_ret (res_row row_Act Tryd.results39 rfl f1 rfl) rfl ⟨rfl, f2⟩
end Go.Proofs.YtbfaapbbhgegiaaDoor
