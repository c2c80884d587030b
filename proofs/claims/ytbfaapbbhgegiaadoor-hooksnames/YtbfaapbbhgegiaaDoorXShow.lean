/- Package hooks: what is shown of what a method threw. -/
import Derived.Test.YtbfaapbbhgegiaaDoorXAsk
import Derived.Deep.RegionHeld
namespace Go.Proofs.YtbfaapbbhgegiaaDoor
open Go.RowKit
set_option linter.unusedVariables false
set_option linter.unusedSimpArgs false

/-- The descriptor is copied. -/
def Cpd (w0 : World) (X : Nat) (d : Ds) : Prop := ∀ W, w0.grownBy W (some X) → Calls Tryd.prog 50 #[.agg d.v.toArray] W fun e W' => (∃ d' : Ds, e = .returned (.agg d'.v.toArray) ∧ d'.k = d.k ∧ d'.tx = d.tx) ∧ Below W.heap.size W W'
abbrev shF (X : Nat) : Value := .func (.func 21) #[.pointer (some ⟨X, 0, none⟩)] #[]
abbrev prF (X : Nat) : Value := .func (.func 20) #[.pointer (some ⟨X, 0, none⟩)] #[]
set_option maxRecDepth 1000000 in
set_option maxHeartbeats 4000000 in
theorem shown1_any {w0 w1 : World} {X B1 B2 : Nat} {p s : Int} {d : Ds} (hcp : Cpd w0 X d) (hg : w0.grownBy w1 (some X)) (b1 : Blk w1 B1 [shF X]) (b2 : Blk w1 B2 d.v) (n1 : B1 ≠ X) (n2 : B2 ≠ X) (hs : 0 ≤ s) (hs2 : s ≤ 1000000) (ht : d.tx.size ≤ 100000) :
    Fc w1 X p s p (s + 1) 49 #[.pointer (some ⟨B1, 0, none⟩), .pointer (some ⟨B2, 0, none⟩)] (shT d.k d.tx) := by
  intro W gW hq
  have f0 : ∀ V, W.grownBy V (some X) → (fun w' : World => w'.cell? ⟨B1, 0, none⟩ = some (shF X) ∧ w'.rangeAt B2 0 d.v) V := fun V hV => ⟨(b1.grown (gW.trans hV) n1).c 0 _ rfl, (b2.grown (gW.trans hV) n2).range⟩
  have gD : W.grownBy W.drew (some X) := xgr_below (Below.refl W.heap.size W).drew _
  have hc := hcp W.drew ((hg.trans gW).trans gD)
  have hSh : ∀ (d' : Ds) (V : World), d'.k = d.k → d'.tx = d.tx → Aq V X p s → Calls Tryd.prog 21 #[.pointer (some ⟨X, 0, none⟩), .agg d'.v.toArray] V fun e w' => e = .returned (.string (shT d.k d.tx)) ∧ Aq w' X p (s + 1) ∧ V.grownBy w' (some X) := fun d' V e1 e2 hV => by
    have := ashow_any d' V hV hs hs2 (by rw [e2]; exact ht)
    rwa [e1, e2] at this
  have qD : Aq W.drew X p s := hq.up (Below.refl W.heap.size W).drew
  have hl := d.len
  clear hcp b1 b2
  generalize shT d.k d.tx = T at *
  have hrow := row_Desc
  go_enter Tryd.func49, Tryd.ntmps49
  go_upto_region 1 with fail
  refine wp_region_held_drew (S := fun w' => w'.cell? ⟨B1, 0, none⟩ = some (shF X) ∧ w'.rangeAt B2 0 d.v) (by kernel_rfl) (f0 _ gD) ?_
  intro hS
  refine wpAnyH_take (i := 0) (v := shF X) rfl (by kernel_rfl) (by kernel_rfl) (by kernel_rfl) (fun _ _ _ h => h) (Or.inl ⟨by rfl, ?_⟩) (by assumption) ?_
  · intro w5 hSw
    obtain ⟨s6, s0⟩ := hSw
    go_simp
  simp only [Act.put, List.setIfInBounds_toArray, List.set_cons_zero, List.set_cons_succ]
  refine wpAnyH_take (i := 1) (v := .pointer (some ⟨B2, 0, none⟩)) rfl (by kernel_rfl) (by kernel_rfl) (by kernel_rfl) (fun _ _ _ h => h) (Or.inl ⟨by rfl, ?_⟩) (by assumption) ?_
  · intro w5 hSw
    obtain ⟨s6, s0⟩ := hSw
    go_simp
  simp only [Act.put, List.setIfInBounds_toArray, List.set_cons_zero, List.set_cons_succ]
  refine wpAnyH_take (i := 2) (v := .agg d.v.toArray) rfl (by kernel_rfl) (by kernel_rfl) (by kernel_rfl) (fun _ _ _ h => h) ?_ (by assumption) ?_
  · obtain ⟨⟨dd, r1, r2⟩, r3⟩ := hrow
    exact yieldsIf_load_mid rfl 26 (.tmp 4) rfl B2 0 rfl d.v dd (fun _ h => h.2) r1 r2 (by rw [hl]; exact r3)
  simp only [Act.put, List.setIfInBounds_toArray, List.set_cons_zero, List.set_cons_succ]
  refine wpAnyH_ready (rs := [3]) (by kernel_rfl) (by simp) ?_
  refine AllReadyH.cons rfl (fun K hK => ?_) AllReadyH.nil
  go_simp
  refine hc.mono ?_
  rintro e Z ⟨⟨d', rfl, e1, e2⟩, hbZ⟩
  have gZ : W.grownBy Z (some X) := gD.trans (xgr_below hbZ _)
  have qZ := qD.up hbZ
  have hSh' := hSh d' Z e1 e2 qZ
  clear hSh
  generalize d'.v.toArray = D' at *
  refine hK.out _ _ (f0 Z gZ) (fun hHeld => ?_)
  try simp only [Act.put, List.setIfInBounds_toArray, List.set_cons_zero, List.set_cons_succ]
  refine wpAnyH_ready (rs := [4]) (by kernel_rfl) (by simp) ?_
  refine AllReadyH.cons rfl (fun K1 hK1 => ?_) AllReadyH.nil
  go_simp
  refine hSh'.mono ?_
  rintro e Z2 ⟨rfl, q2, g2⟩
  refine hK1.out _ _ (f0 Z2 (gZ.trans g2)) (fun _ => ?_)
  refine wpAnyH_ready (rs := [5]) (by kernel_rfl) (by simp) ?_
  refine AllReadyH.cons rfl (fun K2 hK2 => ?_) AllReadyH.nil
  go_simp
  refine hK2.out _ _ (f0 Z2 (gZ.trans g2)) (fun _ => ?_)
  refine wpAnyH_done (by kernel_rfl) ?_ _
  clear hK hK1 hK2
  go_wp2
  go_ret
  exact ⟨rfl, q2, gZ.trans g2⟩
theorem ta_thrown (D : Array Value) (w : World) : (Instr.typeAssert (.iface 81 (.agg D)) 20 81 true).run Tryd.prog w = .ok (.tuple #[.agg D, .bool true]) w := by kernel_rfl
set_option maxRecDepth 1000000 in
set_option maxHeartbeats 4000000 in
theorem shown_any {w0 : World} {X : Nat} {p s : Int} {d : Ds} (hcp : Cpd w0 X d) (w : World) (hg : w0.grownBy w (some X)) (hq : Aq w X p s) (hs : 0 ≤ s) (hs2 : s ≤ 1000000) (ht : d.tx.size ≤ 100000) :
    Calls Tryd.prog 35 #[thV d, shF X] w fun e w' => e = .returned (.string (shT d.k d.tx)) ∧ Aq w' X p (s + 1) ∧ w.grownBy w' (some X) := by
  have hmf : ∀ (fn : Fn) (first cap : Array Value) (w : World), (Instr.makeFunc fn first cap).run Tryd.prog w = .ok (.func fn first cap) w := fun _ _ _ _ => rfl
  have hX := hq.b
  obtain ⟨W1, hW1⟩ : ∃ W1, W1 = w.alloc (.cells #[shF X] 47) := ⟨_, rfl⟩
  have b1 : Blk W1 w.heap.size [shF X] := by rw [hW1]; exact Blk.new _ _ _
  have w1 : Below w.heap.size w W1 := by rw [hW1]; exact (Below.refl _ _).alloc (Nat.le_refl _) _
  have z1 : W1.heap.size = w.heap.size + 1 := by rw [hW1]; simp
  obtain ⟨W2, hW2⟩ : ∃ W2, W2 = W1.alloc (.cells #[.int .i64 0, .string ⟨#[]⟩, .int .u64 0, .int .u64 0, .string ⟨#[]⟩, .slice none 0 0, .slice none 0 0, .int .i64 0] 81) := ⟨_, rfl⟩
  have b2 : Blk W2 (w.heap.size + 1) Ds.no.v := by rw [hW2, ← z1]; exact Blk.new _ Ds.no.v _
  have b12 : Blk W2 w.heap.size [shF X] := by rw [hW2]; exact b1.alloc _
  have w2 : Below w.heap.size w W2 := by rw [hW2]; exact w1.alloc w1.size _
  obtain ⟨W3, hW3⟩ : ∃ W3, W3 = W2.setCells (w.heap.size + 1) 0 d.v := ⟨_, rfl⟩
  have b3 : Blk W3 (w.heap.size + 1) d.v := by rw [hW3]; exact b2.all _ rfl
  have b13 : Blk W3 w.heap.size [shF X] := by rw [hW3]; exact b12.oth (by omega) _ _
  have w3 : Below w.heap.size w W3 := by rw [hW3]; exact xbelow_sc w2 (by omega) _ _
  have g3 : w.grownBy W3 (some X) := xgr_below w3 _
  have q3 := hq.up w3
  have hF := shown1_any (p := p) hcp (hg.trans g3) b13 b3 (by omega) (by omega) hs hs2 ht
  have hC := caught_shown hF W3 (World.grownBy.refl _ _) q3
  have hta := fun w => ta_thrown d.v.toArray w
  have c13 := b13.c 0 _ rfl
  have hne := fun w => feql_fshow (.func 21) #[.pointer (some ⟨X, 0, none⟩)] #[] w
  have hl := d.len
  have h1 := d.one
  unfold thV
  clear hF b3 hcp
  generalize shT d.k d.tx = T at *
  go_enter Tryd.func35, Tryd.ntmps35
  go_upto_region 1 with fail
  rw [← hW1]
  clear hW1
  go_upto_region 2 with (first
    | (refine wpl_st row_thrown rfl (.tmp 5) (.tmp 12) rfl (us := d.v) rfl rfl (by rw [← hW2]; exact b2) rfl hl h1 ?_; rw [← hW2, ← hW3]; clear hW2 hW3))
  generalize d.v.toArray = D at *
  go_wp2_with (go_at_call 33; refine hC.mono ?_; rintro e w4 ⟨rfl, q4, g4⟩)
  go_ret
  exact ⟨rfl, q4, g3.trans g4⟩
end Go.Proofs.YtbfaapbbhgegiaaDoor
