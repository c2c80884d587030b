/- Package hooks: the methods' names; the document's; its Act and Need. -/
import Derived.Test.YtbfaapbbhgegiaaDoorXWalkC
namespace Go.Proofs.YtbfaapbbhgegiaaDoor
open Go.RowKit
set_option linter.unusedVariables false
set_option linter.unusedSimpArgs false

/-- A method's name. -/
def mT (n : Int) : ByteArray := if n = 1 then ⟨#[70, 111, 114, 109, 97, 116]⟩ else if n = 2 then ⟨#[71, 111, 83, 116, 114, 105, 110, 103]⟩ else if n = 3 then ⟨#[69, 114, 114, 111, 114]⟩ else if n = 4 then ⟨#[83, 116, 114, 105, 110, 103]⟩ else ⟨#[]⟩
theorem mT_size (n : Int) : (mT n).size ≤ 8 := by
  unfold mT
  repeat' split
  all_goals decide
set_option maxRecDepth 1000000 in
theorem method_any (n : Int) (w : World) : Calls Tryd.prog 16 #[.int .i64 n] w fun e w' => e = .returned (.string (mT n)) ∧ w' = w := by
  by_cases e1 : n = 1
  · subst e1
    go_enter Tryd.func16, Tryd.ntmps16
    go_wp2
    go_ret
    exact ⟨rfl, rfl⟩
  · skip
    by_cases e2 : n = 2
    · subst e2
      go_enter Tryd.func16, Tryd.ntmps16
      go_wp2
      go_ret
      exact ⟨rfl, rfl⟩
    · skip
      by_cases e3 : n = 3
      · subst e3
        go_enter Tryd.func16, Tryd.ntmps16
        go_wp2
        go_ret
        exact ⟨rfl, rfl⟩
      · skip
        by_cases e4 : n = 4
        · subst e4
          go_enter Tryd.func16, Tryd.ntmps16
          go_wp2
          go_ret
          exact ⟨rfl, rfl⟩
        · skip
          rw [show mT n = ⟨#[]⟩ by unfold mT; rw [if_neg e1, if_neg e2, if_neg e3, if_neg e4]]
          go_enter Tryd.func16, Tryd.ntmps16
          go_wp2
          go_ret
          exact ⟨rfl, rfl⟩
set_option maxRecDepth 1000000 in
set_option maxHeartbeats 2000000 in
theorem jmethod_any (n : Int) (w : World) : Calls Tryd.prog 17 #[.int .i64 n] w fun e w' => e = .returned (.string (mT n)) ∧ Below w.heap.size w w' := by
  by_cases e1 : n = 1
  · subst e1
    go_enter Tryd.func17, Tryd.ntmps17
    go_wp2
    go_ret
    exact ⟨rfl, (Below.refl _ _).alloc (Nat.le_refl _) _⟩
  · skip
    by_cases e2 : n = 2
    · subst e2
      go_enter Tryd.func17, Tryd.ntmps17
      go_wp2
      go_ret
      exact ⟨rfl, (Below.refl _ _).alloc (Nat.le_refl _) _⟩
    · skip
      by_cases e3 : n = 3
      · subst e3
        go_enter Tryd.func17, Tryd.ntmps17
        go_wp2
        go_ret
        exact ⟨rfl, (Below.refl _ _).alloc (Nat.le_refl _) _⟩
      · skip
        by_cases e4 : n = 4
        · subst e4
          go_enter Tryd.func17, Tryd.ntmps17
          go_wp2
          go_ret
          exact ⟨rfl, (Below.refl _ _).alloc (Nat.le_refl _) _⟩
        · skip
          have hc : n < 1 ∨ (¬ n < 1 ∧ 4 < n) := by omega
          rw [show mT n = ⟨#[]⟩ by unfold mT; rw [if_neg e1, if_neg e2, if_neg e3, if_neg e4]]
          rcases hc with hc | ⟨hc, hc2⟩
          all_goals
            go_enter Tryd.func17, Tryd.ntmps17
            go_wp2
            go_ret
            exact ⟨rfl, Below.refl _ _⟩
set_option maxRecDepth 1000000 in
set_option maxHeartbeats 4000000 in
theorem jact_any (h : Hk) (n : Int) (w : World) : Calls Tryd.prog 26 #[.agg h.v.toArray, .int .i64 n] w fun e w' => e = .returned (.agg (hat h n).v.toArray) ∧ Below w.heap.size w w' := by
  obtain ⟨L, hL⟩ : ∃ L, L = h.v := ⟨_, rfl⟩
  obtain ⟨W1, hW1⟩ : ∃ W1, W1 = (w.alloc (.cells L.toArray 30)).alloc (.cells #[.int .i64 0, .string ⟨#[]⟩, .string ⟨#[]⟩, .slice none 0 0, .int .i64 0, .string ⟨#[]⟩, .int .u64 0, .int .u64 0, .string ⟨#[]⟩, .slice none 0 0, .slice none 0 0, .int .i64 0] 28) := ⟨_, rfl⟩
  have hb : Blk W1 w.heap.size h.v := by rw [hW1, hL]; exact (Blk.new _ _ _).alloc _
  have hr : Blk W1 (w.heap.size + 1) Ac.no.v := by
    rw [hW1]
    have := Blk.new (w.alloc (.cells L.toArray 30)) Ac.no.v 28
    rw [show (w.alloc (.cells L.toArray 30)).heap.size = w.heap.size + 1 by simp] at this
    exact this
  have hw1 : Below w.heap.size w W1 := by rw [hW1]; exact ((Below.refl _ _).alloc (Nat.le_refl _) _).alloc (by simp) _
  have fin : ∀ x : Ac, Blk (W1.setCells (w.heap.size + 1) 0 x.v) (w.heap.size + 1) x.v ∧ Below w.heap.size w (W1.setCells (w.heap.size + 1) 0 x.v) := fun x => ⟨hr.all _ rfl, xbelow_sc hw1 (by omega) _ _⟩
  rw [← hL]
  clear hL
  by_cases e1 : n = 1
  · subst e1
    obtain ⟨X, hX⟩ : ∃ X, X = h.a := ⟨_, rfl⟩
    have hm := hk_a hb
    rw [← hX] at hm
    obtain ⟨f1, f2⟩ := fin X
    rw [show hat h 1 = X by rw [hX]; rfl]
    clear hX hb fin
    go_enter Tryd.func26, Tryd.ntmps26
    go_upto_region 1 with fail
    rw [← hW1]
    clear hW1
    go_wp2_with (first
      | (refine wpl_ld row_Act rfl (.tmp 8) rfl (vs := X.v) rfl hm X.len ?_)
      | (refine wpl_st row_Act rfl (.tmp 4) (.tmp 9) rfl (us := X.v) rfl rfl hr rfl X.len X.one ?_; generalize W1.setCells (w.heap.size + 1) 0 X.v = Wf at *))
    exact bodyPost_ret (res_row row_Act Tryd.results26 rfl f1 X.len) rfl ⟨rfl, f2⟩
  · skip
    by_cases e2 : n = 2
    · subst e2
      obtain ⟨X, hX⟩ : ∃ X, X = h.b := ⟨_, rfl⟩
      have hm := hk_b hb
      rw [← hX] at hm
      obtain ⟨f1, f2⟩ := fin X
      rw [show hat h 2 = X by rw [hX]; rfl]
      clear hX hb fin
      go_enter Tryd.func26, Tryd.ntmps26
      go_upto_region 1 with fail
      rw [← hW1]
      clear hW1
      go_wp2_with (first
        | (refine wpl_ld row_Act rfl (.tmp 12) rfl (vs := X.v) rfl hm X.len ?_)
        | (refine wpl_st row_Act rfl (.tmp 4) (.tmp 13) rfl (us := X.v) rfl rfl hr rfl X.len X.one ?_; generalize W1.setCells (w.heap.size + 1) 0 X.v = Wf at *))
      exact bodyPost_ret (res_row row_Act Tryd.results26 rfl f1 X.len) rfl ⟨rfl, f2⟩
    · skip
      by_cases e3 : n = 3
      · subst e3
        obtain ⟨X, hX⟩ : ∃ X, X = h.c := ⟨_, rfl⟩
        have hm := hk_c hb
        rw [← hX] at hm
        obtain ⟨f1, f2⟩ := fin X
        rw [show hat h 3 = X by rw [hX]; rfl]
        clear hX hb fin
        go_enter Tryd.func26, Tryd.ntmps26
        go_upto_region 1 with fail
        rw [← hW1]
        clear hW1
        go_wp2_with (first
          | (refine wpl_ld row_Act rfl (.tmp 16) rfl (vs := X.v) rfl hm X.len ?_)
          | (refine wpl_st row_Act rfl (.tmp 4) (.tmp 17) rfl (us := X.v) rfl rfl hr rfl X.len X.one ?_; generalize W1.setCells (w.heap.size + 1) 0 X.v = Wf at *))
        exact bodyPost_ret (res_row row_Act Tryd.results26 rfl f1 X.len) rfl ⟨rfl, f2⟩
      · skip
        by_cases e4 : n = 4
        · subst e4
          obtain ⟨X, hX⟩ : ∃ X, X = h.d := ⟨_, rfl⟩
          have hm := hk_d hb
          rw [← hX] at hm
          obtain ⟨f1, f2⟩ := fin X
          rw [show hat h 4 = X by rw [hX]; rfl]
          clear hX hb fin
          go_enter Tryd.func26, Tryd.ntmps26
          go_upto_region 1 with fail
          rw [← hW1]
          clear hW1
          go_wp2_with (first
            | (refine wpl_ld row_Act rfl (.tmp 20) rfl (vs := X.v) rfl hm X.len ?_)
            | (refine wpl_st row_Act rfl (.tmp 4) (.tmp 21) rfl (us := X.v) rfl rfl hr rfl X.len X.one ?_; generalize W1.setCells (w.heap.size + 1) 0 X.v = Wf at *))
          exact bodyPost_ret (res_row row_Act Tryd.results26 rfl f1 X.len) rfl ⟨rfl, f2⟩
        · skip
          obtain ⟨f1, f2⟩ := fin .no
          rw [show hat h n = .no by unfold hat; rw [if_neg e1, if_neg e2, if_neg e3, if_neg e4]]
          clear fin hb
          go_enter Tryd.func26, Tryd.ntmps26
          go_upto_region 1 with fail
          rw [← hW1]
          clear hW1
          go_wp2_with (first
            | (refine wpl_bld rfl _ _ rfl [] rfl (bld_act0 _) ?_)
            | (refine wpl_st row_Act rfl (.tmp 4) (.tmp 22) rfl (us := Ac.no.v) rfl rfl hr rfl rfl Ac.no.one ?_; generalize W1.setCells (w.heap.size + 1) 0 Ac.no.v = Wf at *))
          exact bodyPost_ret (res_row row_Act Tryd.results26 rfl f1 rfl) rfl ⟨rfl, f2⟩
/-- Whom a method asks. -/
def ndN (k : Int) (np : Bool) : Int := if k = 3 then 1 else if k = 2 ∧ np = false then 2 else 0
set_option maxRecDepth 1000000 in
set_option maxHeartbeats 2000000 in
theorem need_any (x : Ac) (np : Bool) (w : World) : Calls Tryd.prog 38 #[.agg x.v.toArray, .bool np] w fun e w' => e = .returned (.int .i64 (ndN x.k np)) ∧ Below w.heap.size w w' := by
  obtain ⟨L, hL⟩ : ∃ L, L = x.v := ⟨_, rfl⟩
  have h0 : L[0]? = some (.int .i64 x.k) := by rw [hL]; rfl
  obtain ⟨W1, hW1⟩ : ∃ W1, W1 = w.alloc (.cells L.toArray 28) := ⟨_, rfl⟩
  have hb : Blk W1 w.heap.size L := by rw [hW1]; exact Blk.new _ _ _
  have hw1 : Below w.heap.size w W1 := by rw [hW1]; exact (Below.refl _ _).alloc (Nat.le_refl _) _
  have c0 := hb.c 0 _ h0
  rw [← hL]
  clear hL h0 hb
  generalize x.k = k at *
  by_cases e3 : k = 3
  · subst e3
    go_enter Tryd.func38, Tryd.ntmps38
    go_upto_region 1 with fail
    rw [← hW1]
    clear hW1
    go_wp2
    go_ret
    exact ⟨rfl, hw1⟩
  · by_cases e2 : k = 2
    · subst e2
      cases np
      · skip
        go_enter Tryd.func38, Tryd.ntmps38
        go_upto_region 1 with fail
        rw [← hW1]
        clear hW1
        go_wp2
        go_ret
        exact ⟨rfl, hw1⟩
      · skip
        go_enter Tryd.func38, Tryd.ntmps38
        go_upto_region 1 with fail
        rw [← hW1]
        clear hW1
        go_wp2
        go_ret
        exact ⟨rfl, hw1⟩
    · rw [show ndN k np = 0 by unfold ndN; rw [if_neg e3, if_neg (fun h => e2 h.1)]]
      go_enter Tryd.func38, Tryd.ntmps38
      go_upto_region 1 with fail
      rw [← hW1]
      clear hW1
      go_wp2
      go_ret
      exact ⟨rfl, hw1⟩
end Go.Proofs.YtbfaapbbhgegiaaDoor
