/- TopNil: the law's walk, its prints as hypotheses. -/
import Derived.Test.YtdlnmnipnkeabaaGreatDoorPt36
namespace Go.Proofs.YtdlnmnipnkeabaaGreatDoor
open Go.RowKit
set_option linter.unusedVariables false
set_option linter.unusedSimpArgs false
abbrev acY (u : ByteArray) : Ac := ⟨2, ⟨#[]⟩, ⟨#[]⟩, .no, dsX u⟩
abbrev hkY (u : ByteArray) : Hk := ⟨.no, .no, acY u, .no⟩
abbrev acZ (u : ByteArray) : Ac := ⟨1, u, ⟨#[]⟩, .no, .no⟩
abbrev hkZ (u : ByteArray) : Hk := ⟨.no, .no, acZ u, .no⟩
theorem acY_bld (u : ByteArray) (w : World) : (Instr.build 31 #[(0, .int .i64 2), (4, .agg #[.int .i64 16, .string ⟨#[]⟩, .int .u64 0, .int .u64 0, .string u, .slice none 0 0, .slice none 0 0, .int .i64 0])]).run Tryz.prog w = .ok (.agg (acY u).v.toArray) w := by kernel_rfl
theorem hkY_bld (u : ByteArray) (w : World) : (Instr.build 34 #[(2, .agg (acY u).v.toArray)]).run Tryz.prog w = .ok (.agg (hkY u).v.toArray) w := by kernel_rfl
theorem hkY_bsl (u : ByteArray) (w : World) : (Instr.buildSlice 35 1 #[(0, .agg (hkY u).v.toArray)]).run Tryz.prog w = .ok (.slice (some ⟨w.heap.size, 0, none⟩) 1 1) (w.alloc (.cells (hkY u).v.toArray 34)) := by kernel_rfl
theorem acZ_bld (u : ByteArray) (w : World) : (Instr.build 31 #[(0, .int .i64 1), (1, .string u)]).run Tryz.prog w = .ok (.agg (acZ u).v.toArray) w := by kernel_rfl
theorem hkZ_bld (u : ByteArray) (w : World) : (Instr.build 34 #[(2, .agg (acZ u).v.toArray)]).run Tryz.prog w = .ok (.agg (hkZ u).v.toArray) w := by kernel_rfl
theorem hkZ_bsl (u : ByteArray) (w : World) : (Instr.buildSlice 35 1 #[(0, .agg (hkZ u).v.toArray)]).run Tryz.prog w = .ok (.slice (some ⟨w.heap.size, 0, none⟩) 1 1) (w.alloc (.cells (hkZ u).v.toArray 34)) := by kernel_rfl
abbrev nilS : ByteArray := ⟨#[60, 110, 105, 108, 62]⟩
abbrev E5 : ByteArray := ⟨#[69, 114, 114, 111, 114]⟩
abbrev PrZ0 (h : Hk) (F : ByteArray) (a : Int) (T : ByteArray) : Prop := ∀ (B A : Nat) (W : World), EK W → B < W.heap.size → W.rangeAt B 0 h.v → A < W.heap.size → W.rangeAt A 0 [.int .i64 22, .string ⟨#[]⟩, .int .u64 a, .int .u64 0, .string ⟨#[]⟩, .slice none 0 0, .slice none 0 0, .int .i64 1] → Calls Tryz.prog 9 #[.slice (some ⟨B, 0, none⟩) 1 1, .string F, .slice (some ⟨A, 0, none⟩) 1 1] W fun e w' => e = .returned (.string T) ∧ Below W.heap.size W w'
abbrev PrZ1 (h : Hk) (F : ByteArray) (a : Int) (T : ByteArray) : Prop := ∀ (B A PB : Nat) (W : World), EK W → B < W.heap.size → W.rangeAt B 0 h.v → A < W.heap.size → W.rangeAt A 0 [.int .i64 22, .string ⟨#[]⟩, .int .u64 a, .int .u64 0, .string ⟨#[]⟩, .slice none 0 0, .slice (some ⟨PB, 0, none⟩) 1 1, .int .i64 1] → PB < W.heap.size → W.rangeAt PB 0 [.int .i64 6, .string ⟨#[]⟩, .int .u64 1, .int .u64 0, .string ⟨#[]⟩, .slice none 0 0, .slice none 0 0, .int .i64 0] → Calls Tryz.prog 9 #[.slice (some ⟨B, 0, none⟩) 1 1, .string F, .slice (some ⟨A, 0, none⟩) 1 1] W fun e w' => e = .returned (.string T) ∧ Below W.heap.size W w'
abbrev PrZX (F u T : ByteArray) : Prop := ∀ (A : Nat) (W : World), EK W → A < W.heap.size → W.rangeAt A 0 [.int .i64 16, .string ⟨#[]⟩, .int .u64 0, .int .u64 0, .string u, .slice none 0 0, .slice none 0 0, .int .i64 0] → Calls Tryz.prog 9 #[.slice none 0 0, .string F, .slice (some ⟨A, 0, none⟩) 1 1] W fun e w' => e = .returned (.string T) ∧ Below W.heap.size W w'
structure NlW (HY HZ : List Value) (TY TZ D0 D1 PB : Nat) (a : Int) (W : World) : Prop where
 e : EK W
 y : TY < W.heap.size ∧ W.rangeAt TY 0 HY
 z : TZ < W.heap.size ∧ W.rangeAt TZ 0 HZ
 d : W.rangeAt D0 0 [.int .i64 22, .string ⟨#[]⟩, .int .u64 a, .int .u64 0, .string ⟨#[]⟩, .slice none 0 0, .slice none 0 0, .int .i64 1] ∧ W.rangeAt D1 0 [.int .i64 22, .string ⟨#[]⟩, .int .u64 a, .int .u64 0, .string ⟨#[]⟩, .slice none 0 0, .slice (some ⟨PB, 0, none⟩) 1 1, .int .i64 1]
 p : PB < W.heap.size ∧ W.rangeAt PB 0 [.int .i64 6, .string ⟨#[]⟩, .int .u64 1, .int .u64 0, .string ⟨#[]⟩, .slice none 0 0, .slice none 0 0, .int .i64 0]
theorem NlW.up {HY HZ : List Value} {TY TZ D0 D1 PB : Nat} {a : Int} {W W' : World} (h : NlW HY HZ TY TZ D0 D1 PB a W) (b : Below W.heap.size W W') : NlW HY HZ TY TZ D0 D1 PB a W' := by
 have g : ∀ {X : Nat} {l : List Value}, W.rangeAt X 0 l → W'.rangeAt X 0 l := fun r j v hv => up_cell b (r j v hv)
 have hs := b.size
 exact ⟨h.e.up b, ⟨by have := h.y.1; omega, g h.y.2⟩, ⟨by have := h.z.1; omega, g h.z.2⟩, ⟨g h.d.1, g h.d.2⟩, ⟨by have := h.p.1; omega, g h.p.2⟩⟩
theorem pnX_size (v : Int) (T : ByteArray) : (pnJ v (mT 3) T).size ≤ T.size + 40 := by
 have h1 : (pnJ v (mT 3) T).size = (vB v).length + ([80, 65, 78, 73, 67, 61] ++ (mT 3).data.toList ++ [32, 109, 101, 116, 104, 111, 100, 58, 32] ++ T.data.toList).length + 4 := bT_size _ _
 have h2 := vB_size v
 have h3 := list_len (Utf8.encode v)
 have h4 := list_len T
 have h5 : (vB v).length = (Utf8.encode v).data.toList.length := rfl
 have h6 : (mT 3).data.toList.length = 5 := rfl
 rw [h1, h5]
 simp only [List.length_append, List.length_cons, List.length_nil, h6]
 omega
set_option maxRecDepth 1000000 in
set_option maxHeartbeats 16000000 in
theorem tnil_x {k j c : Nat} {x : UInt8} {a : Int} {s u F T X : ByteArray} (hj : k % 3 = j) (hj3 : j < 3) (hV : (ByteArray.mk #[118, 115, 113]).extract j (j + 1) = ⟨#[x]⟩) (hx : (x.toNat : Int) = c) (hF : (⟨#[37]⟩ : ByteArray) ++ ⟨#[x]⟩ = F)
  (hC : ∀ w, Calls Tryz.prog 12 #[.string s, .int .i64 200] w fun e w' => e = .returned (.string u) ∧ w' = w)
  (p0 : PrZ0 (hkY u) F a nilS) (p1 : PrZ0 (hkZ u) F a T) (p2 : PrZ1 (hkZ u) F a T) (p3 : PrZ1 (hkY u) F a X) (pW : PrZX F u T)
  (pP : ∀ w, Calls Tryz.prog 14 #[.int .i32 c, .string E5, .string u] w fun e w' => e = .returned (.string X) ∧ Below w.heap.size w w') (w : World) (hk : KN w) (he : Esc w) :
  Calls Tryz.prog 4 #[.string s, .int .u64 a, .int .u64 k] w fun e w' => e = .returned (.bool true) ∧ Below w.heap.size w w' := by
 have hm1 : (k : Int) % 3 = (j : Nat) := by omega
 have hm2 : (k : Int).tmod 3 = (j : Nat) := by rw [Int.tmod_eq_emod_of_nonneg (by omega)]; exact hm1
 have hjI : (j : Int) < 3 := by omega
 have hcv : ∀ h : 0 < (ByteArray.mk #[x]).size, wrap32 (((ByteArray.mk #[x])[0]'h).toNat : Int) = (c : Int) := fun h => by
  have := x.toNat_lt
  show wrap32 (x.toNat : Int) = c
  rw [hx]
  unfold wrap32
  omega
 have hL := fun W h1 h2 => tlives_any W h1 h2
 have hn1 := fun W => tnum_S 1 (by decide) (by decide) W
 rw [show (1 : Int) % 18446744073709551616 = 1 from rfl] at hn1
 have hTx := fun W => ttext_any u W
 have y0 : ¬ 9223372036854775807 < (⟨#[37]⟩ : ByteArray).size + (⟨#[x]⟩ : ByteArray).size := by show ¬ 9223372036854775807 < 1 + 1; omega
 have hYA := acY_bld u
 have hYH := hkY_bld u
 have hYS := hkY_bsl u
 have hZA := acZ_bld u
 have hZH := hkZ_bld u
 have hZS := hkZ_bsl u
 have hrd := row_Desc
 unfold PrZ0 at p0 p1
 unfold PrZ1 at p2 p3
 unfold PrZX at pW
 clear hj hj3
 generalize (hkY u).v = HY at *
 generalize (hkZ u).v = HZ at *
 generalize (acY u).v = AY at *
 generalize (acZ u).v = AZ at *
 go_enter Tryz.func4, Tryz.ntmps4
 go_upto_region 2 with (go_at_call 12; refine (hC _).mono ?_; rintro e w0 ⟨rfl, q0⟩; subst w0)
 go_upto_region 3 with fail
 go_upto_region 4 with (first
  | (go_at_call 11; refine (hTx _).mono ?_; rintro e W1 ⟨rfl, b1⟩)
  | (refine wpl_bld rfl _ _ rfl [(0, .int .i64 2), (4, .agg #[.int .i64 16, .string ⟨#[]⟩, .int .u64 0, .int .u64 0, .string u, .slice none 0 0, .slice none 0 0, .int .i64 0])] rfl (hYA _) ?_)
  | (refine wpl_bld rfl _ _ rfl [(2, .agg AY.toArray)] rfl (hYH _) ?_)
  | (refine wpl_bsD hYS rfl _ rfl rfl ?_))
 obtain ⟨W2, hW2⟩ : ∃ W2, W2 = W1.alloc (.cells HY.toArray 34) := ⟨_, rfl⟩
 have k2 : Below W1.heap.size W1 W2 := by rw [hW2]; exact (Below.refl _ _).alloc (Nat.le_refl _) _
 have t2 : Blk W2 W1.heap.size HY := by rw [hW2]; exact Blk.new W1 HY 34
 rw [← hW2]
 clear hW2 hYA hYH hYS
 have b2 := b1.trans (k2.mono b1.size)
 clear k2 b1
 generalize W1.heap.size = TY at *
 go_upto_region 5 with (first
  | (refine wpl_bld rfl _ _ rfl [(0, .int .i64 1), (1, .string u)] rfl (hZA _) ?_)
  | (refine wpl_bld rfl _ _ rfl [(2, .agg AZ.toArray)] rfl (hZH _) ?_)
  | (refine wpl_bsD hZS rfl _ rfl rfl ?_))
 obtain ⟨W3, hW3⟩ : ∃ W3, W3 = W2.alloc (.cells HZ.toArray 34) := ⟨_, rfl⟩
 have k3 : Below W2.heap.size W2 W3 := by rw [hW3]; exact (Below.refl _ _).alloc (Nat.le_refl _) _
 have t3 : Blk W3 W2.heap.size HZ := by rw [hW3]; exact Blk.new W2 HZ 34
 rw [← hW3]
 clear hW3 hZA hZH hZS
 have b3 := b2.trans (k3.mono b2.size)
 have t23 := t2.up k3
 clear k3 b2 t2
 generalize W2.heap.size = TZ at *
 go_upto_region 6 with (go_at_call 13; refine (hn1 _).mono ?_; rintro e V4 ⟨rfl, k4⟩)
 have hcx : ∀ h : 0 < (ByteArray.mk #[x]).size, (((ByteArray.mk #[x])[0]'h).toNat : Int) = (c : Int) := fun h => hx
 have hcw : IntKind.i32.wrap (c : Int) = (c : Int) := by
  have := x.toNat_lt
  rw [IntKind.wrap_i32]
  omega
 obtain ⟨W5, hW5⟩ : ∃ W5, W5 = ((V4.alloc (.cells #[.int .i64 6, .string ⟨#[]⟩, .int .u64 1, .int .u64 0, .string ⟨#[]⟩, .slice none 0 0, .slice none 0 0, .int .i64 0] 29)).alloc (.cells #[.int .i64 22, .string ⟨#[]⟩, .int .u64 a, .int .u64 0, .string ⟨#[]⟩, .slice none 0 0, .slice none 0 0, .int .i64 1] 29)).alloc (.cells #[.int .i64 22, .string ⟨#[]⟩, .int .u64 a, .int .u64 0, .string ⟨#[]⟩, .slice none 0 0, .slice (some ⟨V4.heap.size, 0, none⟩) 1 1, .int .i64 1] 29) := ⟨_, rfl⟩
 have kB : Below V4.heap.size V4 W5 := by rw [hW5]; exact (((Below.refl _ _).alloc (Nat.le_refl _) _).alloc (by simp) _).alloc (by simp; omega) _
 have dP : Blk W5 V4.heap.size [.int .i64 6, .string ⟨#[]⟩, .int .u64 1, .int .u64 0, .string ⟨#[]⟩, .slice none 0 0, .slice none 0 0, .int .i64 0] := by rw [hW5]; exact ((Blk.new V4 [.int .i64 6, .string ⟨#[]⟩, .int .u64 1, .int .u64 0, .string ⟨#[]⟩, .slice none 0 0, .slice none 0 0, .int .i64 0] 29).alloc _).alloc _
 have d0 : Blk W5 (V4.heap.size + 1) [.int .i64 22, .string ⟨#[]⟩, .int .u64 a, .int .u64 0, .string ⟨#[]⟩, .slice none 0 0, .slice none 0 0, .int .i64 1] := by
  rw [hW5]
  have := (Blk.new (V4.alloc (.cells #[.int .i64 6, .string ⟨#[]⟩, .int .u64 1, .int .u64 0, .string ⟨#[]⟩, .slice none 0 0, .slice none 0 0, .int .i64 0] 29)) [.int .i64 22, .string ⟨#[]⟩, .int .u64 a, .int .u64 0, .string ⟨#[]⟩, .slice none 0 0, .slice none 0 0, .int .i64 1] 29).alloc (.cells #[.int .i64 22, .string ⟨#[]⟩, .int .u64 a, .int .u64 0, .string ⟨#[]⟩, .slice none 0 0, .slice (some ⟨V4.heap.size, 0, none⟩) 1 1, .int .i64 1] 29)
  rwa [show (V4.alloc (.cells #[.int .i64 6, .string ⟨#[]⟩, .int .u64 1, .int .u64 0, .string ⟨#[]⟩, .slice none 0 0, .slice none 0 0, .int .i64 0] 29)).heap.size = V4.heap.size + 1 by simp] at this
 have d1 : Blk W5 (V4.heap.size + 1 + 1) [.int .i64 22, .string ⟨#[]⟩, .int .u64 a, .int .u64 0, .string ⟨#[]⟩, .slice none 0 0, .slice (some ⟨V4.heap.size, 0, none⟩) 1 1, .int .i64 1] := by
  rw [hW5]
  have := Blk.new ((V4.alloc (.cells #[.int .i64 6, .string ⟨#[]⟩, .int .u64 1, .int .u64 0, .string ⟨#[]⟩, .slice none 0 0, .slice none 0 0, .int .i64 0] 29)).alloc (.cells #[.int .i64 22, .string ⟨#[]⟩, .int .u64 a, .int .u64 0, .string ⟨#[]⟩, .slice none 0 0, .slice none 0 0, .int .i64 1] 29)) [.int .i64 22, .string ⟨#[]⟩, .int .u64 a, .int .u64 0, .string ⟨#[]⟩, .slice none 0 0, .slice (some ⟨V4.heap.size, 0, none⟩) 1 1, .int .i64 1] 29
  rwa [show ((V4.alloc (.cells #[.int .i64 6, .string ⟨#[]⟩, .int .u64 1, .int .u64 0, .string ⟨#[]⟩, .slice none 0 0, .slice none 0 0, .int .i64 0] 29)).alloc (.cells #[.int .i64 22, .string ⟨#[]⟩, .int .u64 a, .int .u64 0, .string ⟨#[]⟩, .slice none 0 0, .slice none 0 0, .int .i64 1] 29)).heap.size = V4.heap.size + 1 + 1 by simp] at this
 rw [← hW5]
 clear hW5
 have k45 := k4.trans (kB.mono k4.size)
 have b5 := b3.trans (k45.mono b3.size)
 have tY := t23.up k45
 have tZ := t3.up k45
 have e5 : EK W5 := ⟨he.below b5, hk.up b5⟩
 clear k45 kB k4 b3 t23 t3 hn1
 generalize V4.heap.size + 1 + 1 = D1 at *
 generalize V4.heap.size + 1 = D0 at *
 generalize V4.heap.size = PB at *
 have n5 : NlW HY HZ TY TZ D0 D1 PB a W5 := ⟨e5, ⟨tY.b, tY.range⟩, ⟨tZ.b, tZ.range⟩, ⟨d0.range, d1.range⟩, ⟨dP.b, dP.range⟩⟩
 clear e5 tY tZ d0 d1 dP
 go_upto_region 7 with (first
  | (go_at_call 11; refine (hTx _).mono ?_; rintro e W6 ⟨rfl, k6⟩
     obtain ⟨A6, hA6⟩ : ∃ A, A = W6.alloc (.cells #[.int .i64 16, .string ⟨#[]⟩, .int .u64 0, .int .u64 0, .string u, .slice none 0 0, .slice none 0 0, .int .i64 0] 29) := ⟨_, rfl⟩
     have rA6 : Blk A6 W6.heap.size [.int .i64 16, .string ⟨#[]⟩, .int .u64 0, .int .u64 0, .string u, .slice none 0 0, .slice none 0 0, .int .i64 0] := by rw [hA6]; exact Blk.new W6 _ _
     have kA6 : Below W6.heap.size W6 A6 := by rw [hA6]; exact (Below.refl _ _).alloc (Nat.le_refl _) _
     have n6 := (n5.up k6).up kA6
     have b6 := b5.trans ((k6.trans (kA6.mono k6.size)).mono b5.size)
     have c6 := pW _ A6 n6.e rA6.b rA6.range)
  | (go_at_call 9; rw [← hA6]; clear hA6; refine c6.mono ?_; rintro e W7 ⟨rfl, k7⟩; have n7 := n6.up k7; have b7 := b6.trans (k7.mono b6.size)))
 clear c6 rA6 kA6 n6 b6 n5 b5 k6 k7 hTx pW
 obtain ⟨Y0, hY0⟩ : ∃ Y, Y = W7.drew := ⟨_, rfl⟩
 have nY0 : NlW HY HZ TY TZ D0 D1 PB a Y0 := by rw [hY0]; exact n7.up (Below.refl _ _).drew
 have bY0 : Below w.heap.size w Y0 := by rw [hY0]; exact b7.drew
 refine wp_region_held_drew (S := fun w' : World => w'.rangeAt D0 0 [.int .i64 22, .string ⟨#[]⟩, .int .u64 a, .int .u64 0, .string ⟨#[]⟩, .slice none 0 0, .slice none 0 0, .int .i64 1] ∧ w'.rangeAt D1 0 [.int .i64 22, .string ⟨#[]⟩, .int .u64 a, .int .u64 0, .string ⟨#[]⟩, .slice none 0 0, .slice (some ⟨PB, 0, none⟩) 1 1, .int .i64 1]) (by kernel_rfl) (by exact n7.d) ?_
 rw [← hY0]
 have sY0 := nY0.d
 clear hY0 n7 b7
 intro hS0
 clear hS0
 refine tk 0 (.slice (some ⟨TY, 0, none⟩) 1 1) rfl (by kernel_rfl) (fun _ _ _ h => h) (by rfl) (by assumption) ?_ ?_
 ·intro w5 s0
  go_simp
 try simp only [Act.put, List.getElem_toArray, List.getElem_cons_zero, List.getElem_cons_succ, List.setIfInBounds_toArray, List.set_cons_zero, List.set_cons_succ, List.length_cons]
 refine tk 1 (.string ⟨#[x]⟩) rfl (by kernel_rfl) (fun _ _ _ h => h) (by rfl) (by assumption) ?_ ?_
 ·intro w5 s0
  go_simp
 try simp only [Act.put, List.getElem_toArray, List.getElem_cons_zero, List.getElem_cons_succ, List.setIfInBounds_toArray, List.set_cons_zero, List.set_cons_succ, List.length_cons]
 refine tk 2 (.string F) rfl (by kernel_rfl) (fun _ _ _ h => h) (by rfl) (by assumption) ?_ ?_
 ·intro w5 s0
  go_simp
 try simp only [Act.put, List.getElem_toArray, List.getElem_cons_zero, List.getElem_cons_succ, List.setIfInBounds_toArray, List.set_cons_zero, List.set_cons_succ, List.length_cons]
 refine wpAnyH_take (i := 3) (v := .agg #[.int .i64 22, .string ⟨#[]⟩, .int .u64 a, .int .u64 0, .string ⟨#[]⟩, .slice none 0 0, .slice none 0 0, .int .i64 1]) rfl (by kernel_rfl) (by kernel_rfl) (by kernel_rfl) (fun _ _ _ h => h) ?_ (by assumption) ?_
 ·obtain ⟨⟨dd, r1, r2⟩, r3⟩ := hrd
  exact yieldsIf_load_mid rfl 29 (.tmp 10) rfl D0 0 rfl [.int .i64 22, .string ⟨#[]⟩, .int .u64 a, .int .u64 0, .string ⟨#[]⟩, .slice none 0 0, .slice none 0 0, .int .i64 1] dd (fun _ h => h.1) r1 r2 (by exact r3)
 try simp only [Act.put, List.getElem_toArray, List.getElem_cons_zero, List.getElem_cons_succ, List.setIfInBounds_toArray, List.set_cons_zero, List.set_cons_succ, List.length_cons]
 obtain ⟨A0, hA0⟩ : ∃ A, A = Y0.alloc (.cells #[.int .i64 22, .string ⟨#[]⟩, .int .u64 a, .int .u64 0, .string ⟨#[]⟩, .slice none 0 0, .slice none 0 0, .int .i64 1] 29) := ⟨_, rfl⟩
 have rA0 : Blk A0 Y0.heap.size [.int .i64 22, .string ⟨#[]⟩, .int .u64 a, .int .u64 0, .string ⟨#[]⟩, .slice none 0 0, .slice none 0 0, .int .i64 1] := by rw [hA0]; exact Blk.new Y0 _ _
 have kA0 : Below Y0.heap.size Y0 A0 := by rw [hA0]; exact (Below.refl _ _).alloc (Nat.le_refl _) _
 have nA0 := nY0.up kA0
 refine rd1 4 (by kernel_rfl) rfl fun K hK => ?_
 go_simp
 rw [← hA0]
 clear hA0
 refine hK.out _ _ nA0.d (fun _ => ?_)
 clear hK
 try simp only [Act.put, List.getElem_toArray, List.getElem_cons_zero, List.getElem_cons_succ, List.setIfInBounds_toArray, List.set_cons_zero, List.set_cons_succ, List.length_cons]
 refine rd1 5 (by kernel_rfl) rfl fun K hK => ?_
 go_simp
 refine (p0 TY _ A0 nA0.e nA0.y.1 nA0.y.2 rA0.b rA0.range).mono ?_
 rintro e Y1 ⟨rfl, kP0⟩
 have nY1 := nA0.up kP0
 have bY1 := bY0.trans ((kA0.trans (kP0.mono kA0.size)).mono bY0.size)
 refine hK.out _ _ nY1.d (fun _ => ?_)
 clear hK
 try simp only [Act.put, List.getElem_toArray, List.getElem_cons_zero, List.getElem_cons_succ, List.setIfInBounds_toArray, List.set_cons_zero, List.set_cons_succ, List.length_cons]
 have sY1 := nY1.d
 clear nA0 rA0 kA0 kP0 nY0 bY0 sY0 p0
 refine tk 6 (.bool true) rfl (by kernel_rfl) (fun _ _ _ h => h) (by rfl) (by assumption) ?_ ?_
 ·intro w5 s0
  go_simp
 try simp only [Act.put, List.getElem_toArray, List.getElem_cons_zero, List.getElem_cons_succ, List.setIfInBounds_toArray, List.set_cons_zero, List.set_cons_succ, List.length_cons]
 refine tk 7 (.bool true) rfl (by kernel_rfl) (fun _ _ _ h => h) (by rfl) (by assumption) ?_ ?_
 ·intro w5 s0
  go_simp
 try simp only [Act.put, List.getElem_toArray, List.getElem_cons_zero, List.getElem_cons_succ, List.setIfInBounds_toArray, List.set_cons_zero, List.set_cons_succ, List.length_cons]
 refine tk 8 (.slice (some ⟨TZ, 0, none⟩) 1 1) rfl (by kernel_rfl) (fun _ _ _ h => h) (by rfl) (by assumption) ?_ ?_
 ·intro w5 s0
  go_simp
 try simp only [Act.put, List.getElem_toArray, List.getElem_cons_zero, List.getElem_cons_succ, List.setIfInBounds_toArray, List.set_cons_zero, List.set_cons_succ, List.length_cons]
 refine tk 9 (.string ⟨#[x]⟩) rfl (by kernel_rfl) (fun _ _ _ h => h) (by rfl) (by assumption) ?_ ?_
 ·intro w5 s0
  go_simp
 try simp only [Act.put, List.getElem_toArray, List.getElem_cons_zero, List.getElem_cons_succ, List.setIfInBounds_toArray, List.set_cons_zero, List.set_cons_succ, List.length_cons]
 refine tk 10 (.string F) rfl (by kernel_rfl) (fun _ _ _ h => h) (by rfl) (by assumption) ?_ ?_
 ·intro w5 s0
  go_simp
 try simp only [Act.put, List.getElem_toArray, List.getElem_cons_zero, List.getElem_cons_succ, List.setIfInBounds_toArray, List.set_cons_zero, List.set_cons_succ, List.length_cons]
 refine wpAnyH_take (i := 11) (v := .agg #[.int .i64 22, .string ⟨#[]⟩, .int .u64 a, .int .u64 0, .string ⟨#[]⟩, .slice none 0 0, .slice none 0 0, .int .i64 1]) rfl (by kernel_rfl) (by kernel_rfl) (by kernel_rfl) (fun _ _ _ h => h) ?_ (by assumption) ?_
 ·obtain ⟨⟨dd, r1, r2⟩, r3⟩ := hrd
  exact yieldsIf_load_mid rfl 29 (.tmp 10) rfl D0 0 rfl [.int .i64 22, .string ⟨#[]⟩, .int .u64 a, .int .u64 0, .string ⟨#[]⟩, .slice none 0 0, .slice none 0 0, .int .i64 1] dd (fun _ h => h.1) r1 r2 (by exact r3)
 try simp only [Act.put, List.getElem_toArray, List.getElem_cons_zero, List.getElem_cons_succ, List.setIfInBounds_toArray, List.set_cons_zero, List.set_cons_succ, List.length_cons]
 refine tk 14 (.string T) rfl (by kernel_rfl) (fun _ _ _ h => h) (by rfl) (by assumption) ?_ ?_
 ·intro w5 s0
  go_simp
 try simp only [Act.put, List.getElem_toArray, List.getElem_cons_zero, List.getElem_cons_succ, List.setIfInBounds_toArray, List.set_cons_zero, List.set_cons_succ, List.length_cons]
 obtain ⟨A1, hA1⟩ : ∃ A, A = Y1.alloc (.cells #[.int .i64 22, .string ⟨#[]⟩, .int .u64 a, .int .u64 0, .string ⟨#[]⟩, .slice none 0 0, .slice none 0 0, .int .i64 1] 29) := ⟨_, rfl⟩
 have rA1 : Blk A1 Y1.heap.size [.int .i64 22, .string ⟨#[]⟩, .int .u64 a, .int .u64 0, .string ⟨#[]⟩, .slice none 0 0, .slice none 0 0, .int .i64 1] := by rw [hA1]; exact Blk.new Y1 _ _
 have kA1 : Below Y1.heap.size Y1 A1 := by rw [hA1]; exact (Below.refl _ _).alloc (Nat.le_refl _) _
 have nA1 := nY1.up kA1
 refine rd1 12 (by kernel_rfl) rfl fun K hK => ?_
 go_simp
 rw [← hA1]
 clear hA1
 refine hK.out _ _ nA1.d (fun _ => ?_)
 clear hK
 try simp only [Act.put, List.getElem_toArray, List.getElem_cons_zero, List.getElem_cons_succ, List.setIfInBounds_toArray, List.set_cons_zero, List.set_cons_succ, List.length_cons]
 refine rd1 13 (by kernel_rfl) rfl fun K hK => ?_
 go_simp
 refine (p1 TZ _ A1 nA1.e nA1.z.1 nA1.z.2 rA1.b rA1.range).mono ?_
 rintro e Y2 ⟨rfl, kP1⟩
 have nY2 := nA1.up kP1
 have bY2 := bY1.trans ((kA1.trans (kP1.mono kA1.size)).mono bY1.size)
 refine hK.out _ _ nY2.d (fun _ => ?_)
 clear hK
 try simp only [Act.put, List.getElem_toArray, List.getElem_cons_zero, List.getElem_cons_succ, List.setIfInBounds_toArray, List.set_cons_zero, List.set_cons_succ, List.length_cons]
 have sY2 := nY2.d
 clear nA1 rA1 kA1 kP1 nY1 bY1 sY1 p1
 refine tk 15 (.bool true) rfl (by kernel_rfl) (fun _ _ _ h => h) (by rfl) (by assumption) ?_ ?_
 ·intro w5 s0
  go_simp
 try simp only [Act.put, List.getElem_toArray, List.getElem_cons_zero, List.getElem_cons_succ, List.setIfInBounds_toArray, List.set_cons_zero, List.set_cons_succ, List.length_cons]
 refine tk 16 (.bool true) rfl (by kernel_rfl) (fun _ _ _ h => h) (by rfl) (by assumption) ?_ ?_
 ·intro w5 s0
  go_simp
 try simp only [Act.put, List.getElem_toArray, List.getElem_cons_zero, List.getElem_cons_succ, List.setIfInBounds_toArray, List.set_cons_zero, List.set_cons_succ, List.length_cons]
 refine tk 17 (.bool true) rfl (by kernel_rfl) (fun _ _ _ h => h) (by rfl) (by assumption) ?_ ?_
 ·intro w5 s0
  go_simp
 try simp only [Act.put, List.getElem_toArray, List.getElem_cons_zero, List.getElem_cons_succ, List.setIfInBounds_toArray, List.set_cons_zero, List.set_cons_succ, List.length_cons]
 refine tk 18 (.slice (some ⟨TZ, 0, none⟩) 1 1) rfl (by kernel_rfl) (fun _ _ _ h => h) (by rfl) (by assumption) ?_ ?_
 ·intro w5 s0
  go_simp
 try simp only [Act.put, List.getElem_toArray, List.getElem_cons_zero, List.getElem_cons_succ, List.setIfInBounds_toArray, List.set_cons_zero, List.set_cons_succ, List.length_cons]
 refine tk 19 (.string ⟨#[x]⟩) rfl (by kernel_rfl) (fun _ _ _ h => h) (by rfl) (by assumption) ?_ ?_
 ·intro w5 s0
  go_simp
 try simp only [Act.put, List.getElem_toArray, List.getElem_cons_zero, List.getElem_cons_succ, List.setIfInBounds_toArray, List.set_cons_zero, List.set_cons_succ, List.length_cons]
 refine tk 20 (.string F) rfl (by kernel_rfl) (fun _ _ _ h => h) (by rfl) (by assumption) ?_ ?_
 ·intro w5 s0
  go_simp
 try simp only [Act.put, List.getElem_toArray, List.getElem_cons_zero, List.getElem_cons_succ, List.setIfInBounds_toArray, List.set_cons_zero, List.set_cons_succ, List.length_cons]
 refine wpAnyH_take (i := 21) (v := .agg #[.int .i64 22, .string ⟨#[]⟩, .int .u64 a, .int .u64 0, .string ⟨#[]⟩, .slice none 0 0, .slice (some ⟨PB, 0, none⟩) 1 1, .int .i64 1]) rfl (by kernel_rfl) (by kernel_rfl) (by kernel_rfl) (fun _ _ _ h => h) ?_ (by assumption) ?_
 ·obtain ⟨⟨dd, r1, r2⟩, r3⟩ := hrd
  exact yieldsIf_load_mid rfl 29 (.tmp 11) rfl D1 0 rfl [.int .i64 22, .string ⟨#[]⟩, .int .u64 a, .int .u64 0, .string ⟨#[]⟩, .slice none 0 0, .slice (some ⟨PB, 0, none⟩) 1 1, .int .i64 1] dd (fun _ h => h.2) r1 r2 (by exact r3)
 try simp only [Act.put, List.getElem_toArray, List.getElem_cons_zero, List.getElem_cons_succ, List.setIfInBounds_toArray, List.set_cons_zero, List.set_cons_succ, List.length_cons]
 refine tk 24 (.string T) rfl (by kernel_rfl) (fun _ _ _ h => h) (by rfl) (by assumption) ?_ ?_
 ·intro w5 s0
  go_simp
 try simp only [Act.put, List.getElem_toArray, List.getElem_cons_zero, List.getElem_cons_succ, List.setIfInBounds_toArray, List.set_cons_zero, List.set_cons_succ, List.length_cons]
 obtain ⟨A2, hA2⟩ : ∃ A, A = Y2.alloc (.cells #[.int .i64 22, .string ⟨#[]⟩, .int .u64 a, .int .u64 0, .string ⟨#[]⟩, .slice none 0 0, .slice (some ⟨PB, 0, none⟩) 1 1, .int .i64 1] 29) := ⟨_, rfl⟩
 have rA2 : Blk A2 Y2.heap.size [.int .i64 22, .string ⟨#[]⟩, .int .u64 a, .int .u64 0, .string ⟨#[]⟩, .slice none 0 0, .slice (some ⟨PB, 0, none⟩) 1 1, .int .i64 1] := by rw [hA2]; exact Blk.new Y2 _ _
 have kA2 : Below Y2.heap.size Y2 A2 := by rw [hA2]; exact (Below.refl _ _).alloc (Nat.le_refl _) _
 have nA2 := nY2.up kA2
 refine rd1 22 (by kernel_rfl) rfl fun K hK => ?_
 go_simp
 rw [← hA2]
 clear hA2
 refine hK.out _ _ nA2.d (fun _ => ?_)
 clear hK
 try simp only [Act.put, List.getElem_toArray, List.getElem_cons_zero, List.getElem_cons_succ, List.setIfInBounds_toArray, List.set_cons_zero, List.set_cons_succ, List.length_cons]
 refine rd1 23 (by kernel_rfl) rfl fun K hK => ?_
 go_simp
 refine (p2 TZ _ PB A2 nA2.e nA2.z.1 nA2.z.2 rA2.b rA2.range nA2.p.1 nA2.p.2).mono ?_
 rintro e Y3 ⟨rfl, kP2⟩
 have nY3 := nA2.up kP2
 have bY3 := bY2.trans ((kA2.trans (kP2.mono kA2.size)).mono bY2.size)
 refine hK.out _ _ nY3.d (fun _ => ?_)
 clear hK
 try simp only [Act.put, List.getElem_toArray, List.getElem_cons_zero, List.getElem_cons_succ, List.setIfInBounds_toArray, List.set_cons_zero, List.set_cons_succ, List.length_cons]
 have sY3 := nY3.d
 clear nA2 rA2 kA2 kP2 nY2 bY2 sY2 p2
 refine tk 25 (.bool true) rfl (by kernel_rfl) (fun _ _ _ h => h) (by rfl) (by assumption) ?_ ?_
 ·intro w5 s0
  go_simp
 try simp only [Act.put, List.getElem_toArray, List.getElem_cons_zero, List.getElem_cons_succ, List.setIfInBounds_toArray, List.set_cons_zero, List.set_cons_succ, List.length_cons]
 refine tk 26 (.bool true) rfl (by kernel_rfl) (fun _ _ _ h => h) (by rfl) (by assumption) ?_ ?_
 ·intro w5 s0
  go_simp
 try simp only [Act.put, List.getElem_toArray, List.getElem_cons_zero, List.getElem_cons_succ, List.setIfInBounds_toArray, List.set_cons_zero, List.set_cons_succ, List.length_cons]
 refine tk 27 (.bool true) rfl (by kernel_rfl) (fun _ _ _ h => h) (by rfl) (by assumption) ?_ ?_
 ·intro w5 s0
  go_simp
 try simp only [Act.put, List.getElem_toArray, List.getElem_cons_zero, List.getElem_cons_succ, List.setIfInBounds_toArray, List.set_cons_zero, List.set_cons_succ, List.length_cons]
 refine tk 28 (.slice (some ⟨TY, 0, none⟩) 1 1) rfl (by kernel_rfl) (fun _ _ _ h => h) (by rfl) (by assumption) ?_ ?_
 ·intro w5 s0
  go_simp
 try simp only [Act.put, List.getElem_toArray, List.getElem_cons_zero, List.getElem_cons_succ, List.setIfInBounds_toArray, List.set_cons_zero, List.set_cons_succ, List.length_cons]
 refine tk 29 (.string ⟨#[x]⟩) rfl (by kernel_rfl) (fun _ _ _ h => h) (by rfl) (by assumption) ?_ ?_
 ·intro w5 s0
  go_simp
 try simp only [Act.put, List.getElem_toArray, List.getElem_cons_zero, List.getElem_cons_succ, List.setIfInBounds_toArray, List.set_cons_zero, List.set_cons_succ, List.length_cons]
 refine tk 30 (.string F) rfl (by kernel_rfl) (fun _ _ _ h => h) (by rfl) (by assumption) ?_ ?_
 ·intro w5 s0
  go_simp
 try simp only [Act.put, List.getElem_toArray, List.getElem_cons_zero, List.getElem_cons_succ, List.setIfInBounds_toArray, List.set_cons_zero, List.set_cons_succ, List.length_cons]
 refine wpAnyH_take (i := 31) (v := .agg #[.int .i64 22, .string ⟨#[]⟩, .int .u64 a, .int .u64 0, .string ⟨#[]⟩, .slice none 0 0, .slice (some ⟨PB, 0, none⟩) 1 1, .int .i64 1]) rfl (by kernel_rfl) (by kernel_rfl) (by kernel_rfl) (fun _ _ _ h => h) ?_ (by assumption) ?_
 ·obtain ⟨⟨dd, r1, r2⟩, r3⟩ := hrd
  exact yieldsIf_load_mid rfl 29 (.tmp 11) rfl D1 0 rfl [.int .i64 22, .string ⟨#[]⟩, .int .u64 a, .int .u64 0, .string ⟨#[]⟩, .slice none 0 0, .slice (some ⟨PB, 0, none⟩) 1 1, .int .i64 1] dd (fun _ h => h.2) r1 r2 (by exact r3)
 try simp only [Act.put, List.getElem_toArray, List.getElem_cons_zero, List.getElem_cons_succ, List.setIfInBounds_toArray, List.set_cons_zero, List.set_cons_succ, List.length_cons]
 refine tk 34 (.string ⟨#[x]⟩) rfl (by kernel_rfl) (fun _ _ _ h => h) (by rfl) (by assumption) ?_ ?_
 ·intro w5 s0
  go_simp
 try simp only [Act.put, List.getElem_toArray, List.getElem_cons_zero, List.getElem_cons_succ, List.setIfInBounds_toArray, List.set_cons_zero, List.set_cons_succ, List.length_cons]
 refine tk 35 (.int .u8 c) rfl (by kernel_rfl) (fun _ _ _ h => h) (by rfl) (by assumption) ?_ ?_
 ·intro w5 s0
  go_simp
 try simp only [Act.put, List.getElem_toArray, List.getElem_cons_zero, List.getElem_cons_succ, List.setIfInBounds_toArray, List.set_cons_zero, List.set_cons_succ, List.length_cons]
 refine tk 36 (.int .i32 c) rfl (by kernel_rfl) (fun _ _ _ h => h) (by rfl) (by assumption) ?_ ?_
 ·intro w5 s0
  go_simp
 try simp only [Act.put, List.getElem_toArray, List.getElem_cons_zero, List.getElem_cons_succ, List.setIfInBounds_toArray, List.set_cons_zero, List.set_cons_succ, List.length_cons]
 refine tk 37 (.string u) rfl (by kernel_rfl) (fun _ _ _ h => h) (by rfl) (by assumption) ?_ ?_
 ·intro w5 s0
  go_simp
 try simp only [Act.put, List.getElem_toArray, List.getElem_cons_zero, List.getElem_cons_succ, List.setIfInBounds_toArray, List.set_cons_zero, List.set_cons_succ, List.length_cons]
 obtain ⟨A3, hA3⟩ : ∃ A, A = Y3.alloc (.cells #[.int .i64 22, .string ⟨#[]⟩, .int .u64 a, .int .u64 0, .string ⟨#[]⟩, .slice none 0 0, .slice (some ⟨PB, 0, none⟩) 1 1, .int .i64 1] 29) := ⟨_, rfl⟩
 have rA3 : Blk A3 Y3.heap.size [.int .i64 22, .string ⟨#[]⟩, .int .u64 a, .int .u64 0, .string ⟨#[]⟩, .slice none 0 0, .slice (some ⟨PB, 0, none⟩) 1 1, .int .i64 1] := by rw [hA3]; exact Blk.new Y3 _ _
 have kA3 : Below Y3.heap.size Y3 A3 := by rw [hA3]; exact (Below.refl _ _).alloc (Nat.le_refl _) _
 have nA3 := nY3.up kA3
 refine rd1 32 (by kernel_rfl) rfl fun K hK => ?_
 go_simp
 rw [← hA3]
 clear hA3
 refine hK.out _ _ nA3.d (fun _ => ?_)
 clear hK
 try simp only [Act.put, List.getElem_toArray, List.getElem_cons_zero, List.getElem_cons_succ, List.setIfInBounds_toArray, List.set_cons_zero, List.set_cons_succ, List.length_cons]
 refine rd1 33 (by kernel_rfl) rfl fun K hK => ?_
 go_simp
 refine (p3 TY _ PB A3 nA3.e nA3.y.1 nA3.y.2 rA3.b rA3.range nA3.p.1 nA3.p.2).mono ?_
 rintro e Y4 ⟨rfl, kP3⟩
 have nY4 := nA3.up kP3
 have bY4 := bY3.trans ((kA3.trans (kP3.mono kA3.size)).mono bY3.size)
 refine hK.out _ _ nY4.d (fun _ => ?_)
 clear hK
 try simp only [Act.put, List.getElem_toArray, List.getElem_cons_zero, List.getElem_cons_succ, List.setIfInBounds_toArray, List.set_cons_zero, List.set_cons_succ, List.length_cons]
 have sY4 := nY4.d
 clear nA3 rA3 kA3 kP3 nY3 bY3 sY3 p3
 refine rd1 38 (by kernel_rfl) rfl fun K hK => ?_
 go_simp
 refine (pP _).mono ?_
 rintro e Y5 ⟨rfl, k5⟩
 have nY5 := nY4.up k5
 have bY5 := bY4.trans (k5.mono bY4.size)
 refine hK.out _ _ nY5.d (fun _ => ?_)
 clear hK
 try simp only [Act.put, List.getElem_toArray, List.getElem_cons_zero, List.getElem_cons_succ, List.setIfInBounds_toArray, List.set_cons_zero, List.set_cons_succ, List.length_cons]
 have sY5 := nY5.d
 clear nY4 bY4 sY4 k5 pP
 refine tk 39 (.bool true) rfl (by kernel_rfl) (fun _ _ _ h => h) (by rfl) (by assumption) ?_ ?_
 ·intro w5 s0
  go_simp
 try simp only [Act.put, List.getElem_toArray, List.getElem_cons_zero, List.getElem_cons_succ, List.setIfInBounds_toArray, List.set_cons_zero, List.set_cons_succ, List.length_cons]
 refine tk 40 (.bool true) rfl (by kernel_rfl) (fun _ _ _ h => h) (by rfl) (by assumption) ?_ ?_
 ·intro w5 s0
  go_simp
 try simp only [Act.put, List.getElem_toArray, List.getElem_cons_zero, List.getElem_cons_succ, List.setIfInBounds_toArray, List.set_cons_zero, List.set_cons_succ, List.length_cons]
 refine tk 41 (.bool true) rfl (by kernel_rfl) (fun _ _ _ h => h) (by rfl) (by assumption) ?_ ?_
 ·intro w5 s0
  go_simp
 try simp only [Act.put, List.getElem_toArray, List.getElem_cons_zero, List.getElem_cons_succ, List.setIfInBounds_toArray, List.set_cons_zero, List.set_cons_succ, List.length_cons]
 refine rd1 42 (by kernel_rfl) rfl fun K hK => ?_
 go_simp
 refine (hL _ nY5.e.1 nY5.e.2).mono ?_
 rintro e Y6 ⟨rfl, k6⟩
 have bY6 := bY5.trans (k6.mono bY5.size)
 have nY6 := nY5.up k6
 refine hK.out _ _ nY6.d (fun _ => ?_)
 clear hK
 try simp only [Act.put, List.getElem_toArray, List.getElem_cons_zero, List.getElem_cons_succ, List.setIfInBounds_toArray, List.set_cons_zero, List.set_cons_succ, List.length_cons]
 have sY6 := nY6.d
 refine tk 43 (.bool true) rfl (by kernel_rfl) (fun _ _ _ h => h) (by rfl) (by assumption) ?_ ?_
 ·intro w5 s0
  go_simp
 try simp only [Act.put, List.getElem_toArray, List.getElem_cons_zero, List.getElem_cons_succ, List.setIfInBounds_toArray, List.set_cons_zero, List.set_cons_succ, List.length_cons]
 refine tk 44 (.bool true) rfl (by kernel_rfl) (fun _ _ _ h => h) (by rfl) (by assumption) ?_ ?_
 ·intro w5 s0
  go_simp
 try simp only [Act.put, List.getElem_toArray, List.getElem_cons_zero, List.getElem_cons_succ, List.setIfInBounds_toArray, List.set_cons_zero, List.set_cons_succ, List.length_cons]
 refine wpAnyH_done (by kernel_rfl) ?_ _
 go_wp2_with fail
 go_ret
 exact ⟨rfl, bY6⟩
theorem rd_num1 (W : World) : RdC 1 W (.slice none 0 0) (.slice none 0 0) (D0 6 1 0 0 ⟨#[]⟩ ⟨#[]⟩) := rd0 6 1 0 0 ⟨#[]⟩ ⟨#[]⟩ W ⟨by decide, by decide, by decide, by decide, Nat.zero_le _, Nat.zero_le _⟩
theorem fit_pt (a : Int) (ha : 0 ≤ a ∧ a ≤ 18446744073709551615) (one : Bool) : Fit (dPt a one) := ⟨⟨by show (-9223372036854775808 : Int) ≤ 22; decide, by show (22 : Int) ≤ 9223372036854775807; decide⟩, ha, ⟨by show (0 : Int) ≤ 0; decide, by show (0 : Int) ≤ 18446744073709551615; decide⟩, ⟨by show (-9223372036854775808 : Int) ≤ 1; decide, by show (1 : Int) ≤ 9223372036854775807; decide⟩, Nat.zero_le _, Nat.zero_le _⟩
theorem rd_none (a : Int) (ha : 0 ≤ a ∧ a ≤ 18446744073709551615) (W : World) : RdC 2 W (.slice none 0 0) (.slice none 0 0) (dPt a false) :=
 ⟨fit_pt a ha false, ⟨none, 0, rfl, Nat.le_refl _, Nat.zero_le _, fun i s h => by simp at h⟩, none, 0, rfl, Nat.le_refl _, Nat.zero_le _, fun i x h => by simp at h⟩
theorem rd_some (a : Int) (ha : 0 ≤ a ∧ a ≤ 18446744073709551615) (PB : Nat) (W : World) (h : W.rangeAt PB 0 [.int .i64 6, .string ⟨#[]⟩, .int .u64 1, .int .u64 0, .string ⟨#[]⟩, .slice none 0 0, .slice none 0 0, .int .i64 0]) : RdC 2 W (.slice none 0 0) (.slice (some ⟨PB, 0, none⟩) 1 1) (dPt a true) :=
 ⟨fit_pt a ha true, ⟨none, 0, rfl, Nat.le_refl _, Nat.zero_le _, fun i s h => by simp at h⟩, some ⟨PB, 0, none⟩, 1, rfl, Nat.le_refl _, by decide, fun i x hx => by
  have hi : i = 0 := by
   have := (List.getElem?_eq_some_iff.1 hx).1
   simp at this
   exact this
  subst hi
  obtain rfl : D0 6 1 0 0 ⟨#[]⟩ ⟨#[]⟩ = x := by simpa using hx
  have g := fun j v hj => h j v hj
  exact ⟨PB, 0, .slice none 0 0, .slice none 0 0, rfl, ⟨by simpa using g 0 _ rfl, by simpa using g 1 _ rfl, by simpa using g 2 _ rfl, by simpa using g 3 _ rfl, by simpa using g 4 _ rfl, by simpa using g 5 _ rfl, by simpa using g 6 _ rfl, by simpa using g 7 _ rfl⟩, rd_num1 W⟩⟩
theorem zK : ¬ ((18 : Int) ≤ 0 ∧ (0 : Int) ≤ 22) := by decide
theorem hkY_pl (u : ByteArray) : PlH (hkY u) := ⟨⟨rfl, rfl, rfl, zK⟩, ⟨rfl, rfl, rfl, zK⟩, ⟨rfl, rfl, rfl, by show ¬ ((18 : Int) ≤ 16 ∧ (16 : Int) ≤ 22); decide⟩, ⟨rfl, rfl, rfl, zK⟩⟩
theorem hkZ_pl (u : ByteArray) : PlH (hkZ u) := ⟨⟨rfl, rfl, rfl, zK⟩, ⟨rfl, rfl, rfl, zK⟩, ⟨rfl, rfl, rfl, by show ¬ ((18 : Int) ≤ 0 ∧ (0 : Int) ≤ 22); decide⟩, ⟨rfl, rfl, rfl, zK⟩⟩
theorem wh_c {h : Hk} (ha : thB h.a = false) (hc : thB h.c = true) {c : Int} (hnm : hnmB c = true) : whN h c false = 3 := by
 unfold whN fst34
 rw [if_neg (by rw [ha]; decide), if_neg (by simp), if_pos hnm, if_pos hc]
theorem thY0 : thB Ac.no = false := by decide
theorem thY (u : ByteArray) : thB (acY u) = true := by unfold thB; rfl
theorem thZ (u : ByteArray) : thB (acZ u) = true := by unfold thB; rfl
theorem wf64z (n : Int) (h : (Lit.int .u64 n).wf = true) : 0 ≤ n ∧ n ≤ 18446744073709551615 := by
 have e1 : IntKind.u64.min = 0 := by decide
 have e2 : IntKind.u64.max = 18446744073709551615 := by decide
 simp [Lit.wf] at h
 omega
theorem topNil_walk (s : ByteArray) (_hs : s.size ≤ maxLen) (a : Int) (ha0 : (Lit.int .u64 a).wf = true) (k0 : Int) (hk0 : (Lit.int .u64 k0).wf = true) (w : World) (hk : KN w) (he : Esc w) :
  Calls Tryz.prog 4 #[.string s, .int .u64 a, .int .u64 k0] w fun e w' => e = .returned (.bool true) ∧ Below w.heap.size w w' := by
 have ha := wf64z a ha0
 obtain ⟨g0, -⟩ := wf64z k0 hk0
 obtain ⟨k, rfl⟩ := Int.eq_ofNat_of_zero_le g0
 obtain ⟨u, hu, hC⟩ := tcut_any s 200 (by decide)
 have key : ∀ (j c : Nat) (F T : ByteArray) (p : Pc), k % 3 = j → j < 3 → (ByteArray.mk #[118, 115, 113]).extract j (j + 1) = ⟨#[UInt8.ofNat c]⟩ → ((UInt8.ofNat c).toNat : Int) = c → (⟨#[37]⟩ : ByteArray) ++ ⟨#[UInt8.ofNat c]⟩ = F → prs F.data.toList = [p] → F.size ≤ 1000 → p.kind = 1 → p.wid.k = 0 → p.prec.k = 0 → p.arg.k = 0 → p.wid.a.k = 0 → p.prec.a.k = 0 → spQ p = bareQ c → ¬ (c : Int) = 37 → ¬ (c : Int) = 84 → hnmB c = true → T.size ≤ 4096 → Qt c u T → PrOf F 16 u T → Calls Tryz.prog 4 #[.string s, .int .u64 a, .int .u64 k] w fun e w' => e = .returned (.bool true) ∧ Below w.heap.size w w' := fun j c F T p g1 g2 g3 g4 g5 g6 g7 g8 g9 g10 g11 g12 g13 g14 g15 g16 g17 g18 g19 g20 => by
  have hX := pnX_size (c : Int) u
  have hv : ¬ (spQ p).verb = 37 := by rw [g14]; exact g15
  have w3 : ∀ h : Hk, thB h.a = false → thB h.c = true → whN h (spQ p).verb (spQ p).sh = 3 := fun h q1 q2 => by rw [g14]; exact wh_c q1 q2 g17
  have hv8 : ¬ (spQ p).verb = 84 := by rw [g14]; exact g16
  have hQt : ∀ W, Esc W → Calls Tryz.prog 110 #[.string u, SV (spQ p)] W fun e w' => e = .returned (.tuple #[.string T, .bool true]) ∧ Below W.heap.size W w' := by rw [g14]; exact g19
  have hnil : ∀ g W, EK W → Calls Tryz.prog 114 #[.agg (hkY u).v.toArray, SV (spQ p), .bool true, FP g, FS g] W fun e W' => e = .returned (.tuple #[.string nilS, .bool true]) ∧ Below W.heap.size W W' := fun g W e =>
   (sayF_3 (tn_ek W e) (x := (hkY u).c) rfl (w3 (hkY u) thY0 (thY u)) (do_nilJ (tn_ek W e) g (hkY u).c rfl) W (Nat.le_refl _) e).mono fun e' W' ⟨h1, h2, h3⟩ => ⟨h1, kx_below h3⟩
  have htell : ∀ (np : Bool) g W, EK W → Calls Tryz.prog 114 #[.agg (hkZ u).v.toArray, SV (spQ p), .bool np, FP g, FS g] W fun e W' => e = .returned (.tuple #[.string T, .bool true]) ∧ Below W.heap.size W W' := fun np g W e =>
   say_3 (np := np) g (w3 (hkZ u) thY0 (thZ u)) rfl hQt W e
  refine tnil_x (X := pnJ c (mT 3) u) (T := T) g1 g2 g3 g4 g5 hC (fun B A W e lB rB lA rA => ?_) (fun B A W e lB rB lA rA => ?_) (fun B A PB W e lB rB lA rA lP rP => ?_) (fun B A PB W e lB rB lA rA lP rP => ?_) (fun A W e lA rA => ?_) (fun W => bpanic_big c E5 (by decide) u (by omega) W) w hk he
  ·exact print_P (hkY_pl u) B 1 (by decide) F p g6 g7 g8 g9 g10 g11 g12 g13 hv A a ha false none 0 nilS (by decide) W e lA lB rB rA (rd_none a ha W) (fun hJ hP hC hM hlv hQ => (shown_pt (hkY_pl u) (one := false) hv8 hnil hJ.j1 hP hM hlv hQ).mono fun _ _ h => ⟨h.1, h.2.1, h.2.2.mono fun _ _ q => Or.inr q⟩)
  ·exact print_P (hkZ_pl u) B 1 (by decide) F p g6 g7 g8 g9 g10 g11 g12 g13 hv A a ha false none 0 T g18 W e lA lB rB rA (rd_none a ha W) (fun hJ hP hC hM hlv hQ => (shown_pt (hkZ_pl u) (one := false) hv8 (htell _) hJ.j1 hP hM hlv hQ).mono fun _ _ h => ⟨h.1, h.2.1, h.2.2.mono fun _ _ q => Or.inr q⟩)
  ·exact print_P (hkZ_pl u) B 1 (by decide) F p g6 g7 g8 g9 g10 g11 g12 g13 hv A a ha true (some ⟨PB, 0, none⟩) 1 T g18 W e lA lB rB rA (rd_some a ha PB W rP) (fun hJ hP hC hM hlv hQ => (shown_pt (hkZ_pl u) (one := true) hv8 (htell _) hJ.j1 hP hM hlv hQ).mono fun _ _ h => ⟨h.1, h.2.1, h.2.2.mono fun _ _ q => Or.inr q⟩)
  ·refine print_P (hkY_pl u) B 1 (by decide) F p g6 g7 g8 g9 g10 g11 g12 g13 hv A a ha true (some ⟨PB, 0, none⟩) 1 _ (by omega) W e lA lB rB rA (rd_some a ha PB W rP) (fun {lv v W g C M b k l av nx} hJ hP hC hM hlv hQ => ?_)
   have := shown_thX (hkY_pl u) (by rfl) (s := u) rfl (by omega) hv8 (w3 (hkY u) thY0 (thY u)) W hJ hP hC hM hlv hQ
   rw [show (spQ p).verb = (c : Int) by rw [g14]; rfl] at this
   exact this
  ·exact g20 W A e.1 e.2 ⟨by simpa using rA 0 _ rfl, by simpa using rA 1 _ rfl, by simpa using rA 2 _ rfl, by simpa using rA 3 _ rfl, by simpa using rA 4 _ rfl, by simpa using rA 5 _ rfl, by simpa using rA 6 _ rfl, by simpa using rA 7 _ rfl⟩
 have hq4 := quoS_size4 u false
 have h3 : k % 3 = 0 ∨ k % 3 = 1 ∨ k % 3 = 2 := by omega
 rcases h3 with h3 | h3 | h3
 ·exact key 0 118 ⟨#[37, 118]⟩ u ⟨1, [37, 118], fl0, -1, 118, nb0, nb0, ix0⟩ h3 (by decide) (by decide) (by decide) (by decide) rfl (by decide) rfl rfl rfl rfl rfl rfl rfl (by decide) (by decide) (by decide) (by omega) (qt_v u (by omega)) (pr_v u (by omega))
 ·exact key 1 115 ⟨#[37, 115]⟩ u ⟨1, [37, 115], fl0, -1, 115, nb0, nb0, ix0⟩ h3 (by decide) (by decide) (by decide) (by decide) rfl (by decide) rfl rfl rfl rfl rfl rfl rfl (by decide) (by decide) (by decide) (by omega) (qt_s u (by omega)) (pr_s u (by omega))
 ·exact key 2 113 ⟨#[37, 113]⟩ (quoS u false) ⟨1, [37, 113], fl0, -1, 113, nb0, nb0, ix0⟩ h3 (by decide) (by decide) (by decide) (by decide) rfl (by decide) rfl rfl rfl rfl rfl rfl rfl (by decide) (by decide) (by decide) (by omega) (qt_q u (by omega)) (pr_q u (by omega))
end Go.Proofs.YtdlnmnipnkeabaaGreatDoor
