/- The law's lives, layer 11: its walk. -/
import Derived.Test.YtbfaapbbhgegiaaDoorXLive
namespace Go.Proofs.YtbfaapbbhgegiaaDoor
open Go.RowKit
set_option linter.unusedVariables false
set_option linter.unusedSimpArgs false

def zH : Hk := ⟨.no, .no, .no, .no⟩
set_option maxRecDepth 1000000 in
set_option maxHeartbeats 8000000 in
theorem lives11_any (w : World) (hE : Esc w) : Calls Tryd.prog 13 #[] w fun e w' => e = .returned (.bool true) ∧ Below w.heap.size w w' := by
  have hmf : ∀ (fn : Fn) (first cap : Array Value) (w : World), (Instr.makeFunc fn first cap).run Tryd.prog w = .ok (.func fn first cap) w := fun _ _ _ _ => rfl
  have h0 := hE.1
  obtain ⟨W1, hW1⟩ : ∃ W1, W1 = (w.alloc (.cells #[.int .i64 0, .int .i64 0] 42)).alloc (.cells #[.int .i64 0, .string ⟨#[]⟩, .string ⟨#[]⟩, .slice none 0 0, .int .i64 0, .string ⟨#[]⟩, .int .u64 0, .int .u64 0, .string ⟨#[]⟩, .slice none 0 0, .slice none 0 0, .int .i64 0, .int .i64 0, .string ⟨#[]⟩, .string ⟨#[]⟩, .slice none 0 0, .int .i64 0, .string ⟨#[]⟩, .int .u64 0, .int .u64 0, .string ⟨#[]⟩, .slice none 0 0, .slice none 0 0, .int .i64 0, .int .i64 0, .string ⟨#[]⟩, .string ⟨#[]⟩, .slice none 0 0, .int .i64 0, .string ⟨#[]⟩, .int .u64 0, .int .u64 0, .string ⟨#[]⟩, .slice none 0 0, .slice none 0 0, .int .i64 0, .int .i64 0, .string ⟨#[]⟩, .string ⟨#[]⟩, .slice none 0 0, .int .i64 0, .string ⟨#[]⟩, .int .u64 0, .int .u64 0, .string ⟨#[]⟩, .slice none 0 0, .slice none 0 0, .int .i64 0] 30) := ⟨_, rfl⟩
  have bx : Aq W1 w.heap.size 0 0 := by rw [hW1]; exact (Blk.new _ _ _).alloc _
  have bz : Blk W1 (w.heap.size + 1) zH.v := by
    rw [hW1]
    have := Blk.new (w.alloc (.cells #[.int .i64 0, .int .i64 0] 42)) zH.v 30
    rwa [show (w.alloc (.cells #[.int .i64 0, .int .i64 0] 42)).heap.size = w.heap.size + 1 by simp] at this
  have w1 : Below w.heap.size w W1 := by rw [hW1]; exact ((Below.refl _ _).alloc (Nat.le_refl _) _).alloc (by simp) _
  obtain ⟨W2, hW2⟩ : ∃ W2, W2 = W1.setCells (w.heap.size + 1) 0 liH.v := ⟨_, rfl⟩
  have b2 : Blk W2 (w.heap.size + 1) liH.v := by rw [hW2]; exact bz.all _ rfl
  have x2 : Aq W2 w.heap.size 0 0 := by rw [hW2]; exact bx.oth (by omega) _ _
  have w2 : Below w.heap.size w W2 := by rw [hW2]; exact xbelow_sc w1 (by omega) _ _
  have hE2 : Esc W2 := hE.below w2
  have hX0 : w.heap.size ≠ 0 := by omega
  have hB : ∀ {V : World}, W2.grownBy V (some w.heap.size) → Below w.heap.size w V := fun g => w2.grown g (w2.size) (fun k hk => by cases hk; omega)
  have gD : W2.grownBy W2.drew (some w.heap.size) := xgr_below (Below.refl W2.heap.size W2).drew _
  have xD : Aq W2.drew w.heap.size 0 0 := x2.up (Below.refl W2.heap.size W2).drew
  have f0 : ∀ V, W2.grownBy V (some w.heap.size) → (fun w' : World => w'.rangeAt (w.heap.size + 1) 0 liH.v) V := fun V gV => (b2.grown gV (by omega)).range
  have hS1 := fun (V : World) (gV : W2.grownBy V (some w.heap.size)) (hq : Aq V w.heap.size 0 0) => say_li1 V (hE2.grown gV hX0) hX0 hq
  have hS2 := fun (V : World) (hq : Aq V w.heap.size 0 0) => say_li2 V hq (by omega) (by omega)
  unfold sArgs at hS1 hS2
  have hb1 := fun w => bare_any 113 w
  have hb2 := fun w => bare_any 115 w
  have hla := fun w => bld_liA w
  have hld := fun w => bld_liD w
  have hlb := fun w => bld_liB w
  have hlh := fun w => bld_liH w
  have hlk := fun w => bld_liK w
  have hl : liH.v.length = 48 := rfl
  have hzl : zH.v.length = 48 := rfl
  have ho := liH.one
  have hrow := row_Hook
  have hst : (liT.toList == [37, 33, 115, 40, 80, 65, 78, 73, 67, 61, 83, 116, 114, 105, 110, 103, 32, 109, 101, 116, 104, 111, 100, 58, 32, 123, 48, 98, 111, 111, 125, 41]) = true := by decide +kernel
  generalize (bareS 113).v.toArray = s113 at *
  generalize (bareS 115).v.toArray = s115 at *
  generalize liH.v = H at *
  generalize zH.v = ZV at *
  generalize liK.v.toArray = KV at *
  generalize liA.v.toArray = AV at *
  generalize liB.v.toArray = BV at *
  generalize liD.v.toArray = DV at *
  generalize liT = T at *
  clear hE hE2
  go_enter Tryd.func13, Tryd.ntmps13
  go_upto_region 2 with fail
  go_upto_region 3 with (first
    | (refine wpl_bld rfl _ _ rfl [(0, .int .i64 1), (1, .string ⟨#[104, 105]⟩)] rfl (hla _) ?_)
    | (refine wpl_bld rfl _ _ rfl [(3, .agg AV)] rfl (hlh _) ?_)
    | (refine wpl_st row_Hook rfl (.tmp 2) (.tmp 8) rfl (us := H) (vs := ZV) (B := w.heap.size + 1) rfl rfl (by rw [← hW1]; exact bz) hzl hl ho ?_; rw [← hW1, ← hW2]; clear hW1 hW2))
  refine wp_region_held_drew (S := fun w' => w'.rangeAt (w.heap.size + 1) 0 H) (by kernel_rfl) (f0 _ gD) ?_
  intro hS
  refine wpAnyH_take (i := 0) (v := .agg H.toArray) rfl (by kernel_rfl) (by kernel_rfl) (by kernel_rfl) (fun _ _ _ h => h) ?_ (by assumption) ?_
  · obtain ⟨⟨dd, r1, r2⟩, r3⟩ := hrow
    exact yieldsIf_load_mid rfl 30 (.tmp 2) rfl (w.heap.size + 1) 0 rfl H dd (fun _ h => h) r1 r2 (by rw [hl]; exact r3)
  try simp only [Act.put, List.setIfInBounds_toArray, List.set_cons_zero, List.set_cons_succ]
  refine wpAnyH_take (i := 2) (v := prF w.heap.size) rfl (by kernel_rfl) (by kernel_rfl) (by kernel_rfl) (fun _ _ _ h => h) (Or.inl ⟨by rfl, ?_⟩) (by assumption) ?_
  · intro w5 s0
    go_simp
  try simp only [Act.put, List.setIfInBounds_toArray, List.set_cons_zero, List.set_cons_succ]
  refine wpAnyH_take (i := 3) (v := shF w.heap.size) rfl (by kernel_rfl) (by kernel_rfl) (by kernel_rfl) (fun _ _ _ h => h) (Or.inl ⟨by rfl, ?_⟩) (by assumption) ?_
  · intro w5 s0
    go_simp
  try simp only [Act.put, List.setIfInBounds_toArray, List.set_cons_zero, List.set_cons_succ]
  refine wpAnyH_ready (rs := [1]) (by kernel_rfl) (by simp) ?_
  refine AllReadyH.cons rfl (fun K hK => ?_) AllReadyH.nil
  go_simp
  refine (hb1 _).mono ?_
  rintro e Z1 ⟨rfl, bz1⟩
  have gz1 : W2.grownBy Z1 (some w.heap.size) := gD.trans (xgr_below bz1 _)
  have qz1 := xD.up bz1
  refine hK.out _ _ (f0 Z1 gz1) (fun _ => ?_)
  try simp only [Act.put, List.setIfInBounds_toArray, List.set_cons_zero, List.set_cons_succ]
  refine wpAnyH_ready (rs := [4]) (by kernel_rfl) (by simp) ?_
  refine AllReadyH.cons rfl (fun K2 hK2 => ?_) AllReadyH.nil
  go_simp
  refine (hS1 _ gz1 qz1).mono ?_
  rintro e Z3 ⟨rfl, q3, g3⟩
  have gz3 : W2.grownBy Z3 (some w.heap.size) := gz1.trans g3
  refine hK2.out _ _ (f0 Z3 gz3) (fun hHeld => ?_)
  clear hK hK2
  try simp only [Act.put, List.setIfInBounds_toArray, List.set_cons_zero, List.set_cons_succ]
  refine wpAnyH_take (i := 5) (v := .tuple #[.string ⟨#[34, 104, 105, 34]⟩, .bool true]) rfl (by kernel_rfl) (by kernel_rfl) (by kernel_rfl) (fun _ _ _ h => h) (Or.inl ⟨by rfl, ?_⟩) (by assumption) ?_
  · intro w5 s0
    go_simp
  try simp only [Act.put, List.setIfInBounds_toArray, List.set_cons_zero, List.set_cons_succ]
  refine wpAnyH_take (i := 6) (v := .string ⟨#[34, 104, 105, 34]⟩) rfl (by kernel_rfl) (by kernel_rfl) (by kernel_rfl) (fun _ _ _ h => h) (Or.inl ⟨by rfl, ?_⟩) (by assumption) ?_
  · intro w5 s0
    go_simp
  try simp only [Act.put, List.setIfInBounds_toArray, List.set_cons_zero, List.set_cons_succ]
  refine wpAnyH_take (i := 7) (v := .bool true) rfl (by kernel_rfl) (by kernel_rfl) (by kernel_rfl) (fun _ _ _ h => h) (Or.inl ⟨by rfl, ?_⟩) (by assumption) ?_
  · intro w5 s0
    go_simp
  try simp only [Act.put, List.setIfInBounds_toArray, List.set_cons_zero, List.set_cons_succ]
  refine wpAnyH_take (i := 8) (v := .string ⟨#[34, 104, 105, 34]⟩) rfl (by kernel_rfl) (by kernel_rfl) (by kernel_rfl) (fun _ _ _ h => h) (Or.inl ⟨by rfl, ?_⟩) (by assumption) ?_
  · intro w5 s0
    go_simp
  try simp only [Act.put, List.setIfInBounds_toArray, List.set_cons_zero, List.set_cons_succ]
  refine wpAnyH_take (i := 9) (v := .bool true) rfl (by kernel_rfl) (by kernel_rfl) (by kernel_rfl) (fun _ _ _ h => h) (Or.inl ⟨by rfl, ?_⟩) (by assumption) ?_
  · intro w5 s0
    go_simp
  try simp only [Act.put, List.setIfInBounds_toArray, List.set_cons_zero, List.set_cons_succ]
  refine wpAnyH_done (by kernel_rfl) ?_ _
  clear f0 hS1
  go_upto_region 5 with (first
    | (refine wpl_bld rfl _ _ rfl [(4, .string ⟨#[98, 111, 111]⟩)] rfl (hld _) ?_)
    | (refine wpl_bld rfl _ _ rfl [(0, .int .i64 2), (4, .agg DV)] rfl (hlb _) ?_)
    | (refine wpl_bld rfl _ _ rfl [(3, .agg BV)] rfl (hlk _) ?_)
    | (go_at_call 31; refine (hb2 _).mono ?_; rintro e Z4 ⟨rfl, bz4⟩; have q4 := q3.up bz4)
    | (go_at_call 24; refine (hS2 _ q4).mono ?_; rintro e Z5 ⟨rfl, q5, g5⟩))
  have c0 := q5.c 0 _ rfl
  have c1 := q5.c 1 _ rfl
  have gz5 : W2.grownBy Z5 (some w.heap.size) := gz3.trans ((xgr_below bz4 _).trans g5)
  go_wp2
  go_ret
  exact ⟨rfl, hB gz5⟩
end Go.Proofs.YtbfaapbbhgegiaaDoor
