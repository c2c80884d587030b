/- PrinterDeep: hooks that print again and again end with the depth's text. -/
import Derived.Test.YtjfmhghpkefihaaGreatDoorPt27
namespace Go.Proofs.YtjfmhghpkefihaaGreatDoor
open Go.RowKit
set_option linter.unusedVariables false
set_option linter.unusedSimpArgs false
set_option maxRecDepth 100000 in
theorem bsl_hk (h : Hk) (w : World) : (Instr.buildSlice 34 1 #[(0, .agg h.v.toArray)]).run Tryz.prog w = .ok (.slice (some ⟨w.heap.size, 0, none⟩) 1 1) (w.alloc (.cells h.v.toArray 33)) := by
 obtain ⟨⟨k, t, f, ⟨la, ln, lc⟩, ⟨a0, a1, a2, a3, a4, ⟨na, nn, nc⟩, ⟨pa, pn, pc⟩, a7⟩⟩, ⟨k', t', f', ⟨la', ln', lc'⟩, ⟨a0', a1', a2', a3', a4', ⟨na', nn', nc'⟩, ⟨pa', pn', pc'⟩, a7'⟩⟩, ⟨k2, t2, f2, ⟨la2, ln2, lc2⟩, ⟨a02, a12, a22, a32, a42, ⟨na2, nn2, nc2⟩, ⟨pa2, pn2, pc2⟩, a72⟩⟩, ⟨k3, t3, f3, ⟨la3, ln3, lc3⟩, ⟨a03, a13, a23, a33, a43, ⟨na3, nn3, nc3⟩, ⟨pa3, pn3, pc3⟩, a73⟩⟩⟩ := h
 kernel_rfl
theorem wpl_bs1 {t e : TypeId} {vs : List Value} (hr : ∀ w, (Instr.buildSlice t 1 #[(0, .agg vs.toArray)]).run Tryz.prog w = .ok (.slice (some ⟨w.heap.size, 0, none⟩) 1 1) (w.alloc (.cells vs.toArray e))) {ops : Array Oper} {rest : List Oper} {o : Oper} {a : Act} {w : World} {Q : Exit → Act → World → Prop} (hg : o.guard = none) (p : Operand) (ho : o.op = .buildSlice t 1 #[(0, p)]) (hx : a.eval p = .agg vs.toArray)
  (h : wpList Tryz.prog ops Q rest (a.put o.dst (.slice (some ⟨w.heap.size, 0, none⟩) 1 1)) (w.alloc (.cells vs.toArray e))) : wpList Tryz.prog ops Q (o :: rest) a w := by
 refine wpList_plain hg fun K hK => ?_
 unfold Oper.wp execOp
 simp only [ho, List.map_toArray, List.map_cons, List.map_nil, hx, Sem.run_bind, Sem.run_pure, hr, Result.andThen_ok]
 exact hK _ _ h
set_option maxRecDepth 1000000 in
set_option maxHeartbeats 8000000 in
theorem printerDeep_walk (depth : Int) (hd : (Lit.int .i64 depth).wf = true) (text : ByteArray) (w : World) (hk : KN w) (he : Esc w) : Calls Tryz.prog 4 #[.int .i64 depth, .string text] w fun e w' => e = .returned (.bool true) ∧ Below w.heap.size w w' := by
 have hL := fun W (hW : Below w.heap.size w W) => lives14_any W (he.below hW) (hk.up hW)
 obtain ⟨q, hq⟩ : ∃ q, max (-5) (min depth 9) = q := ⟨_, rfl⟩
 have hq1 : -5 ≤ q := by omega
 have hq2 : q ≤ 9 := by omega
 obtain ⟨m, hm⟩ : ∃ m, max 0 q = m := ⟨_, rfl⟩
 have hm0 : 0 ≤ m := by omega
 have hmq : max q 0 = m := by omega
 have Hmq : Hid (max q 0 = m) := hmq
 have Hm : Hid (max 0 q = m) := hm
 clear hd hmq
 go_enter Tryz.func4, Tryz.ntmps4
 go_upto_if 13 with fail
 go_cut [1] (fun z wx => ∃ S : ByteArray, z = .string S ∧ S.size ≤ 200 ∧ w = wx)
 case first =>
  by_cases h2 : (200 : Int) < text.size
  ·go_wp2
   go_meet
   exact ⟨text.extract 0 200, rfl, by simp; omega, rfl⟩
  ·go_wp2
   go_meet
   exact ⟨text, rfl, by omega, rfl⟩
 case rest =>
  obtain ⟨S, rfl, hS, rfl⟩ := hcut
  have hSI : (S.size : Int) ≤ 200 := by omega
  go_wp2
  go_loopg [5, 6] 200 (fun gg z5 z6 wr => ∃ (T : ByteArray) (i : Nat), z5 = .string T ∧ z6 = .int .i64 i ∧ w = wr ∧ i + gg = 200 ∧ NoP T ∧ T.size ≤ i)
  case atStart => exact ⟨⟨#[]⟩, 0, rfl, rfl, rfl, rfl, fun x hx => by simp at hx, Nat.le_refl _⟩
  case round =>
   obtain ⟨T, i, rfl, rfl, rfl, hig, hT, hTs⟩ := hrel
   have hiI : (i : Int) ≤ 200 := by omega
   have hTI : (T.size : Int) ≤ 200 := by omega
   by_cases hi : i < S.size
   ·have hiS : (i : Int) < S.size := by omega
    by_cases hb : (S[i]).toNat = 37
    ·have hbI : (((S[i]).toNat : Int) != 37) = false := by simp [hb]
     have HB : Hid ((S[i]).toNat = 37) := hb
     clear hb
     go_wp2
     go_roundg (gk - 1)
     case measure => omega
     case rel => exact ⟨T, i + 1, rfl, by go_num, rfl, by omega, hT, by omega⟩
    ·have hbI : (((S[i]).toNat : Int) != 37) = true := by simp; omega
     have hE1 : (S.extract i (i + 1)).size = 1 := by simp; omega
     have hU2 := hT.add S i hi hb
     have hU3 : (T ++ S.extract i (i + 1)).size ≤ i + 1 := by rw [ByteArray.size_append, hE1]; omega
     have hsum : ¬ 9223372036854775807 < T.size + (S.extract i (i + 1)).size := by omega
     clear hE1
     go_wp2
     go_roundg (gk - 1)
     case measure => omega
     case rel => exact ⟨_, i + 1, rfl, by go_num, rfl, by omega, hU2, hU3⟩
   ·have hiS : ¬ (i : Int) < S.size := by omega
    obtain ⟨W1, hW1⟩ : ∃ W1, W1 = w.alloc (.cells #[.int .i64 6, .string ⟨#[]⟩, .int .u64 0, .int .u64 0, .string ⟨#[]⟩, .slice none 0 0, .slice none 0 0, .int .i64 1] 29) := ⟨_, rfl⟩
    have b1 : Below w.heap.size w W1 := by rw [hW1]; exact (Below.refl _ _).alloc (Nat.le_refl _) _
    have k1 : Blk W1 w.heap.size dH.v := by rw [hW1]; exact Blk.new w _ 29
    obtain ⟨W2, hW2⟩ : ∃ W2, W2 = W1.alloc (.cells #[.int .i64 6, .string ⟨#[]⟩, .int .u64 0, .int .u64 0, .string ⟨#[]⟩, .slice none 0 0, .slice none 0 0, .int .i64 1] 29) := ⟨_, rfl⟩
    have b2 : Below W1.heap.size W1 W2 := by rw [hW2]; exact (Below.refl _ _).alloc (Nat.le_refl _) _
    have k2 : Blk W2 W1.heap.size dH.v := by rw [hW2]; exact Blk.new W1 _ 29
    obtain ⟨f, hf⟩ : ∃ f, f = T ++ ⟨#[60, 37, 118, 62]⟩ := ⟨_, rfl⟩
    obtain ⟨H, hH⟩ : ∃ H, H = (hkP f ⟨some ⟨W1.heap.size, 0, none⟩, 1, 1⟩).v := ⟨_, rfl⟩
    have hlA := bldA f W1.heap.size
    have hlK := bldK f W1.heap.size
    rw [← hH] at hlK
    obtain ⟨XA, hXA⟩ : ∃ XA, XA = Ac.v ⟨3, ⟨#[]⟩, f, ⟨some ⟨W1.heap.size, 0, none⟩, 1, 1⟩, .no⟩ := ⟨_, rfl⟩
    rw [← hXA] at hlA hlK
    have HF : Hid (f = T ++ ⟨#[60, 37, 118, 62]⟩) := hf
    have hbs : ∀ w, (Instr.buildSlice 34 1 #[(0, .agg H.toArray)]).run Tryz.prog w = .ok (.slice (some ⟨w.heap.size, 0, none⟩) 1 1) (w.alloc (.cells H.toArray 33)) := fun w => by rw [hH]; exact bsl_hk _ w
    have HH : Hid (H = _) := hH
    have hHl : H.length = 48 := by rw [hH]; rfl
    have hsum : ¬ 9223372036854775807 < T.size + 4 := by omega
    have c0 : W1.cell? ⟨w.heap.size, 0, none⟩ = some (.int .i64 6) := k1.c 0 _ rfl
    have c1 : W1.cell? ⟨w.heap.size, 1, none⟩ = some (.string ⟨#[]⟩) := k1.c 1 _ rfl
    have c2 : W1.cell? ⟨w.heap.size, 2, none⟩ = some (.int .u64 0) := k1.c 2 _ rfl
    have c3 : W1.cell? ⟨w.heap.size, 3, none⟩ = some (.int .u64 0) := k1.c 3 _ rfl
    have c4 : W1.cell? ⟨w.heap.size, 4, none⟩ = some (.string ⟨#[]⟩) := k1.c 4 _ rfl
    have c5 : W1.cell? ⟨w.heap.size, 5, none⟩ = some (.slice none 0 0) := k1.c 5 _ rfl
    have c6 : W1.cell? ⟨w.heap.size, 6, none⟩ = some (.slice none 0 0) := k1.c 6 _ rfl
    have c7 : W1.cell? ⟨w.heap.size, 7, none⟩ = some (.int .i64 1) := k1.c 7 _ rfl
    go_upto_region 10 with fail
    rw [← hW1]
    clear hf hH hXA hW1
    go_upto_region 11 with (first
     | (rw [← hW2]; clear hW2; refine wpl_bld rfl _ _ rfl [(0, .int .i64 3), (2, .string f), (3, .slice (some ⟨W1.heap.size, 0, none⟩) 1 1)] (by rw [HF.out]; rfl) (hlA _) ?_)
     | (refine wpl_bld rfl _ _ rfl [(3, .agg XA.toArray)] rfl (hlK _) ?_)
     | (refine wpl_bs1 hbs rfl _ rfl rfl ?_))
    obtain ⟨W3, hW3⟩ : ∃ W3, W3 = W2.alloc (.cells H.toArray 33) := ⟨_, rfl⟩
    have b3 : Below W2.heap.size W2 W3 := by rw [hW3]; exact (Below.refl _ _).alloc (Nat.le_refl _) _
    have k3 : Blk W3 W2.heap.size H := by rw [hW3]; exact Blk.new W2 H 33
    rw [← hW3]
    clear hW3 hbs hlA hlK c0 c1 c2 c3 c4 c5 c6 c7
    have s1 := b1.size
    have s2 := b2.size
    have s3 := b3.size
    have x1 := (k1.up b2).up b3
    have x2 := k2.up b3
    have bw3 : Below w.heap.size w W3 := (b1.trans (b2.mono s1)).trans (b3.mono (by omega))
    have hAB := k2.b
    obtain ⟨AB, hABe⟩ : ∃ AB, W1.heap.size = AB := ⟨_, rfl⟩
    obtain ⟨TB, hTBe⟩ : ∃ TB, W2.heap.size = TB := ⟨_, rfl⟩
    have hfl : f.data.toList = T.data.toList ++ [60, 37, 118, 62] := by rw [HF.out]; simp [ByteArray.data_append]
    have hLl : T.data.toList.length ≤ 200 := by have : T.size = T.data.size := rfl; rw [Array.length_toList]; omega
    have hno : ∀ x ∈ T.data.toList, noPc x = true := hT
    have hH2 : Blk W3 TB (hkP f ⟨some ⟨AB, 0, none⟩, 1, 1⟩).v := by rw [← hTBe, ← hABe, ← HH.out]; exact k3
    have x2' : Blk W3 AB dH.v := by rw [← hABe]; exact x2
    have x1' : Blk W3 w.heap.size dH.v := x1
    have hat : ∀ W, Below W3.heap.size W3 W → ∀ r : Nat, r ≤ 3 → max q 0 = 3 - (r : Int) → ∀ AR, W.rangeAt AR 0 dH.v → AR < W.heap.size → Calls Tryz.prog 8 #[.int .i64 q, .slice (some ⟨TB, 0, none⟩) 1 1, .string ⟨#[37, 118]⟩, .slice (some ⟨AR, 0, none⟩) 1 1] W fun e w' => e = .returned (.string ⟨(outT T.data.toList r).toArray⟩) ∧ Below W.heap.size W w' := fun W bW r hr3 hd AR hAR hARl =>
     at_deep T.data.toList hLl hno hfl r hr3 AR q hd W (hH2.up bW) (x2'.up bW).range (x2'.up bW).b hAR hARl ((he.below bw3).below bW) ((hk.up bw3).up bW)
    have hdp : ∀ W, 3 < max q 0 → ∀ AR, Calls Tryz.prog 8 #[.int .i64 q, .slice (some ⟨TB, 0, none⟩) 1 1, .string ⟨#[37, 118]⟩, .slice (some ⟨AR, 0, none⟩) 1 1] W fun e w' => e = .returned (.string ⟨#[37, 33, 40, 68, 69, 80, 84, 72, 41]⟩) ∧ Below W.heap.size W w' := fun W hd AR => at_deeper TB AR q hd W
    have hlv : ∀ W, Below W3.heap.size W3 W → Calls Tryz.prog 6 #[] W fun e w' => e = .returned (.bool true) ∧ Below W.heap.size W w' := fun W bW => hL W (bw3.trans (bW.mono bw3.size))
    clear hH2 x2' x1 x2 k1 k2 k3 b1 b2 b3 hT hfl HF HH hL hAB s1 s2 he hk Hm
    rw [hTBe]
    obtain ⟨B, hB⟩ : ∃ B : Nat → ByteArray, B = fun r => ⟨(outT T.data.toList r).toArray⟩ := ⟨_, rfl⟩
    have hB0 : Hid (B 0 = ⟨#[37, 33, 40, 68, 69, 80, 84, 72, 41]⟩) := by rw [hB]; rfl
    have hBs : Hid (∀ r, T ++ ⟨#[60]⟩ ++ B r ++ ⟨#[62]⟩ = B (r + 1)) := by rw [hB]; exact fun r => outT_app T r
    have hBl : ∀ r, r ≤ 3 → (B r).size ≤ 900 := by
     intro r hr
     have := outT_len T.data.toList hLl r
     rw [hB, Lib.size_eq]
     show (outT T.data.toList r).length ≤ 900
     omega
    have hat' : ∀ W, Below W3.heap.size W3 W → ∀ r : Nat, r ≤ 3 → max q 0 = 3 - (r : Int) → ∀ AR, W.rangeAt AR 0 dH.v → AR < W.heap.size → Calls Tryz.prog 8 #[.int .i64 q, .slice (some ⟨TB, 0, none⟩) 1 1, .string ⟨#[37, 118]⟩, .slice (some ⟨AR, 0, none⟩) 1 1] W fun e w' => e = .returned (.string (B r)) ∧ Below W.heap.size W w' := by rw [hB]; exact hat
    clear hat hB hLl hno
    go_wp2_with (go_at_call 7; refine (bdepth_ex _).mono ?_; rintro e W4 ⟨rfl, b4⟩)
    have y4 := x1'.up b4
    clear x1'
    have d0 : W4.cell? ⟨w.heap.size, 0, none⟩ = some (.int .i64 6) := y4.c 0 _ rfl
    have d1 : W4.cell? ⟨w.heap.size, 1, none⟩ = some (.string ⟨#[]⟩) := y4.c 1 _ rfl
    have d2 : W4.cell? ⟨w.heap.size, 2, none⟩ = some (.int .u64 0) := y4.c 2 _ rfl
    have d3 : W4.cell? ⟨w.heap.size, 3, none⟩ = some (.int .u64 0) := y4.c 3 _ rfl
    have d4 : W4.cell? ⟨w.heap.size, 4, none⟩ = some (.string ⟨#[]⟩) := y4.c 4 _ rfl
    have d5 : W4.cell? ⟨w.heap.size, 5, none⟩ = some (.slice none 0 0) := y4.c 5 _ rfl
    have d6 : W4.cell? ⟨w.heap.size, 6, none⟩ = some (.slice none 0 0) := y4.c 6 _ rfl
    have d7 : W4.cell? ⟨w.heap.size, 7, none⟩ = some (.int .i64 1) := y4.c 7 _ rfl
    have b3w : Below w.heap.size w W3 := bw3
    have s3 := b3w.size
    have s4 := b4.size
    obtain ⟨W5, hW5⟩ : ∃ W5, W5 = W4.alloc (.cells #[.int .i64 6, .string ⟨#[]⟩, .int .u64 0, .int .u64 0, .string ⟨#[]⟩, .slice none 0 0, .slice none 0 0, .int .i64 1] 29) := ⟨_, rfl⟩
    have b5 : Below W4.heap.size W4 W5 := by rw [hW5]; exact (Below.refl _ _).alloc (Nat.le_refl _) _
    have y5 : Blk W5 W4.heap.size dH.v := by rw [hW5]; exact Blk.new W4 dH.v _
    have b35 : Below W3.heap.size W3 W5 := b4.trans (b5.mono s4)
    have hW5' : Hid (W5 = _) := hW5
    clear hW5 y4
    go_loopg [9, 10] 5 (fun gg z9 z10 wr => ∃ (r : Nat) (k : Int), z9 = .string (B r) ∧ z10 = .int .i64 k ∧ W4 = wr ∧ r ≤ 3 ∧ (gg : Int) = k + 2 ∧ k ≤ 3 ∧ (((r : Int) = 3 - k ∧ (m ≤ k ∨ k = 3)) ∨ (k = m - 1 ∧ (r : Int) = 3 - m)))
    case atStart => exact ⟨0, 3, by rw [hB0.out], rfl, rfl, by omega, by omega, by omega, Or.inl ⟨by omega, Or.inr rfl⟩⟩
    case round =>
     obtain ⟨r, k, rfl, rfl, rfl, hr3, hgk, hk3, hrk⟩ := hrel
     have hBr := hBl r hr3
     have hBrI : ((B r).size : Int) ≤ 900 := by omega
     have hB1 := hBs.out r
     obtain ⟨R, hR⟩ : ∃ R, B r = R := ⟨_, rfl⟩
     have HR : Hid (B r = R) := hR
     rw [hR] at hBr hBrI hB1 ⊢
     clear hR
     have HB1 : Hid (T ++ ⟨#[60]⟩ ++ R ++ ⟨#[62]⟩ = B (r + 1)) := hB1
     clear hB1
     by_cases hmk : m ≤ k
     ·by_cases hm2 : m < k
      ·have hk0 : 0 ≤ k := by omega
       go_wp2
       go_roundg (gk - 1)
       case measure => omega
       case rel => exact ⟨r + 1, k - 1, by rw [← HB1.out], by go_num, rfl, by omega, by omega, by omega, Or.inl ⟨by omega, Or.inl (by omega)⟩⟩
      ·have hk0 : 0 ≤ k := by omega
       go_wp2
       go_roundg (gk - 1)
       case measure => omega
       case rel => exact ⟨r, k - 1, by rw [HR.out], by go_num, rfl, by omega, by omega, by omega, Or.inr ⟨by omega, by omega⟩⟩
     ·by_cases hq3 : 3 < q
      ·have hA := hdp W5 (by have := Hmq.out; omega) W4.heap.size
       have hq3' : (q > 3) = True := by simp [hq3]
       clear hat'
       go_wp2_with (first
        | (go_at_call 8; rw [← hW5'.out]; refine hA.mono ?_; rintro e W6 ⟨rfl, b6⟩)
        | (go_at_call 7; refine (bdepth_ex _).mono ?_; rintro e W7 ⟨rfl, b7⟩; have hl7 := hlv W7 ((b35.trans (b6.mono b35.size)).trans (b7.mono (by have := b35.size; have := b6.size; omega))))
        | (go_at_call 6; refine hl7.mono ?_; rintro e W8 ⟨rfl, b8⟩))
       go_ret
       have z5 := b35.size
       have z6 := b6.size
       have z7 := b7.size
       exact ⟨rfl, ((((b3w.trans (b35.mono s3)).trans (b6.mono (by omega))).trans (b7.mono (by omega))).trans (b8.mono (by omega)))⟩
      ·have hmr : (r : Int) = 3 - m := by omega
       have hA := hat' W5 b35 r hr3 (by have := Hmq.out; omega) W4.heap.size y5.range y5.b
       rw [HR.out] at hA
       clear hdp hat'
       go_wp2_with (first
        | (go_at_call 8; rw [← hW5'.out]; refine hA.mono ?_; rintro e W6 ⟨rfl, b6⟩; have hl6 := hlv W6 (b35.trans (b6.mono b35.size)))
        | (go_at_call 6; refine hl6.mono ?_; rintro e W8 ⟨rfl, b8⟩))
       go_ret
       have z5 := b35.size
       have z6 := b6.size
       exact ⟨rfl, (((b3w.trans (b35.mono s3)).trans (b6.mono (by omega))).trans (b8.mono (by omega)))⟩
end Go.Proofs.YtjfmhghpkefihaaGreatDoor
