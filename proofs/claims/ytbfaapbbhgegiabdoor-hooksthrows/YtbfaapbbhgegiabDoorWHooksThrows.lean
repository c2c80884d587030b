/- The walk of HooksThrows. -/
import Derived.Test.YtbfaapbbhgegiabDoorXLiveB
namespace Go.Proofs.YtbfaapbbhgegiabDoor
open Go.RowKit
set_option linter.unusedVariables false
set_option linter.unusedSimpArgs false

def thD (t : ByteArray) : Ds := ⟨0, ⟨#[]⟩, 0, 0, t, .no, .no, 0⟩
def thA (t : ByteArray) : Ac := ⟨2, ⟨#[]⟩, ⟨#[]⟩, .no, thD t⟩
theorem bld_thD (t : ByteArray) (w : World) : (Instr.build 31 #[(4, .string t)]).run Tryd.prog w = .ok (.agg (thD t).v.toArray) w := by kernel_rfl
theorem bld_thA (t : ByteArray) (w : World) : (Instr.build 33 #[(0, .int .i64 2), (4, .agg (thD t).v.toArray)]).run Tryd.prog w = .ok (.agg (thA t).v.toArray) w := by kernel_rfl
theorem tbld_asked (w : World) : (Instr.build 24 #[]).run Tryd.prog w = .ok (.agg #[.int .i64 0, .int .i64 0]) w := by kernel_rfl
theorem tbld_asked1 (w : World) : (Instr.build 24 #[(1, .int .i64 1)]).run Tryd.prog w = .ok (.agg #[.int .i64 0, .int .i64 1]) w := by kernel_rfl
theorem teq_asked (w : World) : (binOp BinOp.eql 24 (.agg #[.int .i64 0, .int .i64 0]) (.agg #[.int .i64 0, .int .i64 0])).run Tryd.prog w = .ok (.bool true) w := by kernel_rfl
theorem teq_asked1 (w : World) : (binOp BinOp.eql 24 (.agg #[.int .i64 0, .int .i64 1]) (.agg #[.int .i64 0, .int .i64 1])).run Tryd.prog w = .ok (.bool true) w := by kernel_rfl
theorem trow_Asked : Row 24 2 := ⟨⟨_, Tryd.underlying24, rfl⟩, by kernel_rfl⟩
/-- What stands at the end. -/
def thE (t : ByteArray) : ByteArray := (⟨#[40, 80, 65, 78, 73, 67, 61, 83, 116, 114, 105, 110, 103, 32, 109, 101, 116, 104, 111, 100, 58, 32, 123, 48]⟩ ++ t) ++ ⟨#[125, 41]⟩
theorem thE_size (t : ByteArray) : (thE t).size = t.size + 26 := by
  unfold thE
  simp only [ByteArray.size_append]
  have e1 : (ByteArray.mk #[40, 80, 65, 78, 73, 67, 61, 83, 116, 114, 105, 110, 103, 32, 109, 101, 116, 104, 111, 100, 58, 32, 123, 48]).size = 24 := rfl
  have e2 : (ByteArray.mk #[125, 41]).size = 2 := rfl
  omega
theorem kT_0 : kT 0 = ⟨#[48]⟩ := by decide +kernel
theorem th_split (v : Int) (t : ByteArray) : pnT v (mT 4) (shT 0 t) = (⟨#[37, 33]⟩ ++ Utf8.encode v) ++ thE t := by
  refine ba_extB ?_
  unfold pnT
  rw [bT_list]
  unfold thE shT vB
  rw [kT_0, show mT 4 = ⟨#[83, 116, 114, 105, 110, 103]⟩ from rfl]
  simp only [app_list]
  simp
theorem th_end (P E S : ByteArray) (h : P ++ E = S) : (S.extract (S.size - E.size) S.size).toList = E.toList := by
  subst h
  have : (P ++ E).size - E.size = P.size := by rw [ByteArray.size_append]; omega
  rw [this, app_rest]
theorem th_two (P E S : ByteArray) (h : ((⟨#[37, 33]⟩ : ByteArray) ++ P) ++ E = S) : (S.extract 0 2).toList = [37, 33] := by
  have : S.extract 0 2 = ⟨#[37, 33]⟩ := by
    subst h
    refine ba_extB ?_
    simp [app_list]
  rw [this]
  decide +kernel
set_option maxRecDepth 1000000 in
set_option maxHeartbeats 20000000 in
theorem hooksThrows_walk (t : ByteArray) (ht : t.size ≤ maxLen) (v : Int) (hv : (Lit.int .i32 v).wf = true) (np : Bool) (w : World) (hE : Esc w) : Calls Tryd.prog 3 #[.string t, .int .i32 v, .bool np] w fun e w' => e = .returned (.bool true) ∧ Below w.heap.size w w' := by
  have hmf : ∀ (fn : Fn) (first cap : Array Value) (w : World), (Instr.makeFunc fn first cap).run Tryd.prog w = .ok (.func fn first cap) w := fun _ _ _ _ => rfl
  have hL := fun (V : World) (hV : Below w.heap.size w V) => lives11_any V (hE.below hV)
  have hL0 := hL w (Below.refl _ _)
  by_cases ht2 : (1000 : Int) < t.size
  · go_enter Tryd.func3, Tryd.ntmps3
    go_wp2_with (go_at_call 5; refine hL0.mono ?_; rintro e W3 ⟨rfl, q3⟩)
    go_ret
    exact ⟨rfl, q3⟩
  have hbD := fun w => bld_thD t w
  have hbA := fun w => bld_thA t w
  obtain ⟨W1, hW1⟩ : ∃ W1, W1 = w.alloc (.cells #[.int .i64 0, .int .i64 0] 24) := ⟨_, rfl⟩
  have x1 : Aq W1 w.heap.size 0 0 := by rw [hW1]; exact Blk.new _ _ _
  have w1 : Below w.heap.size w W1 := by rw [hW1]; exact (Below.refl _ _).alloc (Nat.le_refl _) _
  have hz0 := fun w => tbld_asked w
  have hz1 := fun w => tbld_asked1 w
  have he0 := fun w => teq_asked w
  have he1 := fun w => teq_asked1 w
  have up : ∀ V, W1.grownBy V (some w.heap.size) → Below w.heap.size w V := fun V g => w1.grown g w1.size (fun k hk => by cases hk; exact Nat.le_refl _)
  cases np
  · have hDo := do_throws (np := false) (v := v) (m := mT 4) (w0 := W1) (thA t) rfl rfl (by omega) (by omega) (by show t.size ≤ 5000; omega) (by decide) (fun V gV => (copied_nil (thD t) rfl rfl V).mono (fun e V' ⟨e1, e2⟩ => ⟨⟨thD t, e1, rfl, rfl⟩, e2⟩)) W1 (World.grownBy.refl _ _) x1
    have hsp : pnT v (mT 4) (shT (thA t).p.k (thA t).p.tx) = (⟨#[37, 33]⟩ ++ Utf8.encode v) ++ thE t := th_split v t
    rw [hsp] at hDo
    unfold dArgs at hDo
    rw [show mT 4 = ⟨#[83, 116, 114, 105, 110, 103]⟩ from rfl] at hDo
    have hen := enc_size_le v
    have hes := thE_size t
    generalize hS : (⟨#[37, 33]⟩ ++ Utf8.encode v) ++ thE t = S at *
    generalize (thD t).v.toArray = DV at *
    generalize (thA t).v.toArray = AV at *
    clear hL0
    go_enter Tryd.func3, Tryd.ntmps3
    go_upto_region 4 with fail
    rw [← hW1]
    clear hW1
    go_upto_region 10 with (first
      | (refine wpl_bld rfl _ _ rfl [(4, .string t)] rfl (hbD _) ?_)
      | (refine wpl_bld rfl _ _ rfl [(0, .int .i64 2), (4, .agg DV)] rfl (hbA _) ?_)
      | (go_at_call 6; refine hDo.mono ?_; rintro e W2 ⟨rfl, x2, g2⟩))
    unfold thE at hS hes
    generalize hEE : (⟨#[40, 80, 65, 78, 73, 67, 61, 83, 116, 114, 105, 110, 103, 32, 109, 101, 116, 104, 111, 100, 58, 32, 123, 48]⟩ ++ t) ++ (⟨#[125, 41]⟩ : ByteArray) = EE at *
    clear hEE
    have hsz : S.size = (2 + (Utf8.encode v).size) + EE.size := by rw [← hS]; simp only [ByteArray.size_append]; rfl
    have k1 : (EE.size : Int) < S.size := by omega
    have k2 : (S.size : Int) ≤ 100000 := by omega
    have k3 : (2 : Int) ≤ S.size := by omega
    have hL5 := hL W2 (up W2 g2)
    have hy1 := th_end _ _ _ hS
    have hy2 := th_two _ _ _ hS
    clear hsz hS hes hen
    go_wp2_with (first
      | (refine wpl_ld trow_Asked rfl (.tmp 7) rfl (vs := [.int .i64 0, .int .i64 1]) rfl x2.range rfl ?_)
      | (go_at_call 5; refine hL5.mono ?_; rintro e W7 ⟨rfl, q7⟩))
    go_ret
    have w2 := up W2 g2
    exact ⟨rfl, w2.trans (q7.mono w2.size)⟩
  · have hDo := do_nil (np := true) (v := v) (m := mT 4) (thA t) rfl rfl W1 x1
    unfold dArgs at hDo
    rw [show mT 4 = ⟨#[83, 116, 114, 105, 110, 103]⟩ from rfl] at hDo
    generalize (thD t).v.toArray = DV at *
    generalize (thA t).v.toArray = AV at *
    clear hL0
    go_enter Tryd.func3, Tryd.ntmps3
    go_upto_region 4 with fail
    rw [← hW1]
    clear hW1
    go_upto_region 8 with (first
      | (refine wpl_bld rfl _ _ rfl [(4, .string t)] rfl (hbD _) ?_)
      | (refine wpl_bld rfl _ _ rfl [(0, .int .i64 2), (4, .agg DV)] rfl (hbA _) ?_)
      | (go_at_call 6; refine hDo.mono ?_; rintro e W2 ⟨rfl, x2, g2⟩))
    have hL5 := hL W2 (up W2 g2)
    go_wp2_with (first
      | (refine wpl_ldg trow_Asked rfl (.tmp 7) rfl (vs := [.int .i64 0, .int .i64 0]) rfl x2.range rfl ?_)
      | (go_at_call 5; refine hL5.mono ?_; rintro e W7 ⟨rfl, q7⟩))
    go_ret
    have w2 := up W2 g2
    exact ⟨rfl, w2.trans (q7.mono w2.size)⟩
end Go.Proofs.YtbfaapbbhgegiabDoor
