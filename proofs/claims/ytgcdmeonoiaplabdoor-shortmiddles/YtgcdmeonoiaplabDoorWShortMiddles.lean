/- The walk of the law ShortMiddles. -/
import Derived.Test.YtgcdmeonoiaplabDoorSLaw
import Derived.Test.YtgcdmeonoiaplabDoorSMid
import Derived.Lib.ConvBytes
import Derived.Lib.AtoiErrMem
import Derived.Laws.BytesArg
namespace Go.Proofs.YtgcdmeonoiaplabDoor
open Go.RowKit
set_option linter.unusedVariables false
set_option linter.unusedSimpArgs false

theorem box_past1 {W : World} {B C i : Nat} {x y : Value} (h : BoxD W B x y) (hne : C ≠ B) (x' : Value) : BoxD (W.setCell ⟨C, i, none⟩ x') B x y :=
  ⟨set_past hne h.1, set_past hne h.2.1, by rw [World.frozen?_setCell]; exact h.2.2.1, by rw [World.frozen?_setCell]; exact h.2.2.2⟩
/-- A text of k same signs. -/
def sames (x : UInt8) (k : Nat) : ByteArray := ⟨(List.replicate k x).toArray⟩
theorem sames_succ (x : UInt8) (k : Nat) : sames x k ++ ⟨#[x]⟩ = sames x (k + 1) := by
  apply ByteArray.ext
  apply Array.ext'
  simp [sames, List.replicate_succ']
theorem sames_size (x : UInt8) (k : Nat) : (sames x k).size = k := by simp [sames, ByteArray.size]
/-- The text with its last sign one less. -/
def lessS (S : ByteArray) (x : UInt8) : ByteArray := ⟨(S.data.toList.dropLast ++ [x - 1]).toArray⟩
abbrev BW (w : World) (S : ByteArray) : World := Lib.bytesWorld w 5 S
theorem bw_froz (w : World) (S : ByteArray) (j : Nat) (hj : j < S.size) : (BW w S).frozen? ⟨w.heap.size, j, none⟩ = false := by
  have h := Lib.bytesWorld_at_new w 5 S
  have hc := Lib.bytesWorld_cell w 5 S j hj
  have hs : j < (Lib.bytesCells w 5 S).size := by
    unfold World.cell? at hc
    rw [h] at hc
    simp at hc
    exact (Array.getElem?_eq_some_iff.1 hc).1
  simp only [World.frozen?, h]
  simp
  omega
theorem conv_list (W : World) (g N cap : Nat) (ds : List UInt8) (hl : ds.length = N) (h : ∀ i (hi : i < ds.length), W.cell? ⟨g, i, none⟩ = some (.int .u8 ((ds[i].toNat : Nat) : Int))) :
    (convert 39 9 (.slice (some ⟨g, 0, none⟩) N cap)).run Tryd.prog W = .ok (.string ⟨ds.toArray⟩) W := by
  have := run_convert_bytes_arg W 39 5 Tryd.underlying39 Tryd.underlying5 g 0 N cap (ds.map fun x => (x.toNat : Int)) (by simp; omega) (fun i hi => by
    have hi' : i < ds.length := by omega
    rw [Nat.zero_add, h i hi']
    simp [hi', List.getD]) 9 Tryd.underlying9
  rw [this]
  have e : strOfNums (ds.map fun x => (x.toNat : Int)) = ⟨ds.toArray⟩ := by
    apply ByteArray.ext
    have : (ds.map fun x => (x.toNat : Int)).map (fun n : Int => UInt8.ofNat n.toNat) = ds := by
      rw [List.map_map]
      conv => rhs; rw [← List.map_id ds]
      exact List.map_congr_left fun x _ => by simp
    show ((ds.map fun x => (x.toNat : Int)).map (fun n : Int => UInt8.ofNat n.toNat)).toArray = _
    rw [this]
  rw [e]
theorem conv_less (w : World) (S : ByteArray) (N cap : Nat) (x : UInt8) (hS : S.size = N + 1) (hx : S.data.toList.getD N 0 = x) (hx1 : 1 ≤ x.toNat) :
    (convert 39 9 (.slice (some ⟨w.heap.size, 0, none⟩) (N + 1) cap)).run Tryd.prog ((BW w S).setCell ⟨w.heap.size, N, none⟩ (.int .u8 ((x.toNat : Int) - 1))) = .ok (.string (lessS S x)) ((BW w S).setCell ⟨w.heap.size, N, none⟩ (.int .u8 ((x.toNat : Int) - 1))) := by
  have hll : S.data.toList.length = N + 1 := by rw [list_len]; exact hS
  have hx2 : (x - 1).toNat = x.toNat - 1 := by
    rw [UInt8.toNat_sub_of_le]
    · rfl
    · rw [UInt8.le_iff_toNat_le]; show 1 ≤ x.toNat; omega
  refine conv_list _ _ _ _ (S.data.toList.dropLast ++ [x - 1]) (by simp [hll]) fun i hi => ?_
  have hi2 : i < N + 1 := by simpa [hll] using hi
  rcases Nat.lt_or_ge i N with h | h
  · rw [World.cell?_setCell_other _ _ _ _ (by intro e; have := congrArg Addr.off e; simp at this; omega), Lib.bytesWorld_cell w 5 S i (by omega)]
    rw [List.getElem_append_left (by simp [hll]; omega), List.getElem_dropLast]
    rw [List.getD_eq_getElem?_getD, List.getElem?_eq_getElem (by omega), Option.getD_some]
  · obtain rfl : i = N := by omega
    rw [World.cell?_setCell_same _ _ _ (Lib.bytesWorld_cell w 5 S i (by omega))]
    rw [List.getElem_append_right (by simp [hll])]
    simp only [List.getElem_singleton, hx2]
    congr 2
    omega
set_option maxRecDepth 1000000 in
set_option maxHeartbeats 3200000 in
theorem middles_walk {bits p m N : Nat} {n e : Int} {b sg : Bool} {S : ByteArray} {P : Int} {x : UInt8} (hZ : SizC b n) (hF : FinC bits n p) (hP : PtC p n sg m e 0) (hX : ExC (2 * m + 1) (e - 1) S P)
    (hm : m < 9007199254740992) (he0 : -1199 ≤ e) (he1 : e ≤ 1200) (hp : p < 9300000000000000000) (hS : S.size = N + 1) (hN : N ≤ 100000) (hx : S.data.toList.getD N 0 = x) (hx1 : 1 ≤ x.toNat)
    (hR0 : ReadC S P n (p + p % 2) 0) (hR1 : ReadC (S ++ sames 48 25 ++ ⟨#[49]⟩) P n (p + 1) 0) (hR2 : ReadC (lessS S x ++ sames 57 25) P n p 0) (w : World) :
    Calls Tryd.prog 5 #[.int .u64 bits, .bool b] w fun e w' => e = .returned (.bool true) ∧ Below w.heap.size w w' := by
  have hL := lives5_any
  have hX' : ∀ w, Calls Tryd.prog 10 #[.int .u64 (2 * (m : Int) + 1), .int .i64 (e - 1)] w fun x w' => x = .returned (.tuple #[.agg #[.string S, .int .i64 P], .int .i64 0]) ∧ Below w.heap.size w w' := fun w => by
    have := hX w
    rw [show ((2 * m + 1 : Nat) : Int) = 2 * (m : Int) + 1 by omega] at this
    exact this
  have hR0' : ∀ w, Calls Tryd.prog 11 #[.agg #[.string S, .int .i64 P], .int .i64 n] w fun e w' => e = .returned (.tuple #[.int .u64 ((p : Int) + (p : Int) % 2), .int .i64 0]) ∧ Below w.heap.size w w' := fun w => by
    have := hR0 w
    rw [show ((p + p % 2 : Nat) : Int) = (p : Int) + (p : Int) % 2 by omega] at this
    exact this
  have hR1' : ∀ w, Calls Tryd.prog 11 #[.agg #[.string (S ++ sames 48 25 ++ ⟨#[49]⟩), .int .i64 P], .int .i64 n] w fun e w' => e = .returned (.tuple #[.int .u64 ((p : Int) + 1), .int .i64 0]) ∧ Below w.heap.size w w' := fun w => by
    have := hR1 w
    rw [show ((p + 1 : Nat) : Int) = (p : Int) + 1 by omega] at this
    exact this
  clear hX hR0 hR1
  have HS : Hid (S.size = N + 1) := hS
  have HQ : Hid (∀ (w : World) (cap : Nat), (convert 39 9 (.slice (some ⟨w.heap.size, 0, none⟩) (N + 1) cap)).run Tryd.prog ((BW w S).setCell ⟨w.heap.size, N, none⟩ (.int .u8 ((x.toNat : Int) - 1))) = .ok (.string (lessS S x)) ((BW w S).setCell ⟨w.heap.size, N, none⟩ (.int .u8 ((x.toNat : Int) - 1)))) := fun w cap => conv_less w S N cap x hS hx hx1
  have HSL : Hid ((lessS S x).size ≤ 100001) := by
    show (lessS S x).size ≤ 100001
    have : S.data.toList.length = N + 1 := by rw [list_len]; exact hS
    simp [lessS, ByteArray.size, this]; omega
  have hSI : (S.size : Int) = N + 1 := by omega
  have b1 : S.toList.isEmpty = false := empty_no S (by omega)
  clear hS
  have hpI : (p : Int) < 9300000000000000000 := by omega
  have hcv : ∀ w, (convert 9 39 (.string S)).run Tryd.prog w = .ok (.slice (some ⟨w.heap.size, 0, none⟩) S.size (grownCap w S.size 0 5)) (BW w S) := fun w => Lib.run_convert_string_bytes w 9 39 5 S Tryd.underlying9 Tryd.underlying39 Tryd.underlying5
  have HZ0 : Hid (sames 48 0 = ⟨#[]⟩ ∧ sames 57 0 = ⟨#[]⟩) := ⟨rfl, rfl⟩
  have HZ : Hid ((∀ k : Nat, sames 48 k ++ ⟨#[48]⟩ = sames 48 (k + 1)) ∧ (∀ k : Nat, sames 57 k ++ ⟨#[57]⟩ = sames 57 (k + 1))) := ⟨sames_succ 48, sames_succ 57⟩
  have HZz : Hid (∀ k : Nat, (sames 48 k).size = k ∧ (sames 57 k).size = k) := fun k => ⟨sames_size 48 k, sames_size 57 k⟩
  generalize sames 48 = Z at *
  generalize sames 57 = Y at *
  have HX : Hid (S.data.toList.getD N 0 = x) := hx
  have HC : Hid (∀ w, (convert 9 39 (.string S)).run Tryd.prog w = .ok (.slice (some ⟨w.heap.size, 0, none⟩) S.size (grownCap w S.size 0 5)) (BW w S)) := hcv
  clear hx hcv
  generalize lessS S x = SL at *
  go_enter Tryd.func5, Tryd.ntmps5
  go_wp2_with (first
    | (go_at_call 8; refine (hZ _).mono ?_; rintro e w9 ⟨rfl, rfl⟩)
    | (go_at_call 7; refine (hF _).mono ?_; rintro e w9 ⟨rfl, rfl⟩)
    | (go_at_call 9; refine (hP _).mono ?_; rintro e w2 ⟨rfl, hb2⟩)
    | (go_at_call 10; refine (hX' _).mono ?_; rintro e w3 ⟨rfl, hb3⟩)
    | (go_at_call 11; (with_reducible refine (hR0' _).mono ?_); rintro e w4 ⟨rfl, hb4⟩; have bD := keepb hb4 (B := w3.heap.size) (x := .string S) (y := .int .i64 P) (by simp [BoxD, go_sem])))
  obtain ⟨a0, a1, a2, a3⟩ := id bD
  have hbw4 : Below w9.heap.size w9 w4 := by
    have h1 := bel_call hb2 hb3 (Nat.le_refl _)
    exact bel_call (h1.alloc h1.size _) hb4 (Nat.le_refl _)
  go_loopg [16, 17, 18] 25 (fun g tv nv iv wr => wr = w4 ∧ ∃ k : Nat, tv = .string (Z k) ∧ nv = .string (Y k) ∧ iv = .int .i64 k ∧ k + g = 25)
  case atStart => exact ⟨rfl, 0, by rw [HZ0.out.1], by rw [HZ0.out.2], rfl, rfl⟩
  case round =>
    obtain ⟨rfl, k, rfl, rfl, rfl, hkg⟩ := hrel
    obtain ⟨zk, yk⟩ : (Z k).size ≤ 25 ∧ (Y k).size ≤ 25 := by have := HZz.out k; omega
    have zkI : ((Z k).size : Int) ≤ 25 := by omega
    have ykI : ((Y k).size : Int) ≤ 25 := by omega
    by_cases hk : k < 25
    · have hkI : (k : Int) < 25 := by omega
      go_wp2
      go_roundg (gk - 1)
      case measure => omega
      case rel => exact ⟨rfl, k + 1, by rw [HZ.out.1], by rw [HZ.out.2], by go_num, by omega⟩
    · have hkI : ¬ (k : Int) < 25 := by omega
      obtain rfl : k = 25 := by omega
      have hSN : (S.size : Int) ≤ 100001 := by omega
      have hS3 : ((S ++ Z 25).size : Int) ≤ 100026 := by rw [ByteArray.size_append]; omega
      go_upto_region 15 with (first
        | (go_at_call 11; (with_reducible refine (hR1' _).mono ?_); rintro e w5 ⟨rfl, hb5⟩; have bD5 := keepb hb5 bD; obtain ⟨c0, c1, c2, c3⟩ := id bD5; have hcv := HC.out))
      have hf0 : (BW w5 S).cell? ⟨w5.heap.size, N, none⟩ = some (.int .u8 (x.toNat : Int)) := by
        have e1 := HS.out
        rw [Lib.bytesWorld_cell w5 5 S N (by omega), HX.out]
      have hf1 : (BW w5 S).frozen? ⟨w5.heap.size, N, none⟩ = false := bw_froz w5 S N (by have e1 := HS.out; omega)
      have hbB : Below w5.heap.size w5 (BW w5 S) := Lib.bytesWorld_below w5 5 S
      have bDB := keepb hbB bD5
      have hq := HQ.out w5
      have hl5 : w3.heap.size < w5.heap.size := World.block_lt_of_cell? w5 _ bD5.1
      have bDC : BoxD ((BW w5 S).setCell ⟨w5.heap.size, N, none⟩ (.int .u8 ((x.toNat : Int) - 1))) w3.heap.size (.string S) (.int .i64 P) := box_past1 bDB (by omega) _
      have hbC : Below w9.heap.size w9 ((BW w5 S).setCell ⟨w5.heap.size, N, none⟩ (.int .u8 ((x.toNat : Int) - 1))) := by
        have h1 := bel_call (bel_call hbw4 hb5 (Nat.le_refl _)) hbB (Nat.le_refl _)
        exact h1.setCell (by have := (bel_call hbw4 hb5 (Nat.le_refl _)).size; exact this) _
      obtain ⟨q0, q1, q2, q3⟩ := id bDC
      rw [HS.out]
      have hsl := HSL.out
      have hslI : (SL.size : Int) ≤ 100001 := by omega
      generalize grownCap w5 (N + 1) 0 5 = cap at *
      clear bDB hbB c0 c1 c2 c3 hcv HC
      generalize BW w5 S = Wb at *
      have hx2 : 1 ≤ (x.toNat : Int) := by omega
      have hx3 : (x.toNat : Int) < 256 := by have := x.toNat_lt; omega
      generalize (x.toNat : Int) = xv at *
      go_wp2_with (first
        | (go_at_call 11; (with_reducible refine (hR2 _).mono ?_); rintro e w6 ⟨rfl, hb6⟩)
        | (go_at_call 12; refine (hL _).mono ?_; rintro e w7 ⟨rfl, hb7⟩))
      go_ret
      exact ⟨rfl, bel_call (bel_call hbC hb6 (Nat.le_refl _)) hb7 (Nat.le_refl _)⟩
theorem bytes_list (a b : ByteArray) : (a ++ b).data.toList = a.data.toList ++ b.data.toList := by simp
theorem sames_list (x : UInt8) (k : Nat) : (sames x k).data.toList = List.replicate k x := rfl
theorem shortMiddles_walk (m0 : Int) (hm0 : (Lit.int .u64 m0).wf = true) (b : Bool) (w : World) :
    Calls Tryd.prog 5 #[.int .u64 m0, .bool b] w fun e w' => e = .returned (.bool true) ∧ Below w.heap.size w w' := by
  obtain ⟨bits, n, f, ww, least, I, p, rfl, h, hp, hZ, hF, -, -⟩ := pat_law m0 hm0 b
  obtain ⟨sg, hP⟩ := partsD h hp
  obtain ⟨h0, h1, hI, hI2, hI3, -, -, -, h2⟩ := h.pk
  have h3 := h2 p hp
  have h4 := h.pm p
  have hu := un_pos least
  have em : exU (2 * pm f p + 1) (least + pk f p - 1) = mid f least p := exU_mid (by omega) (by omega)
  have hX := exC (m := 2 * pm f p + 1) (e := least + pk f p - 1) (by omega) (by omega) (by omega)
  have hfine := fine_ex (m := 2 * pm f p + 1) (e := least + pk f p - 1) (by omega) (by omega) (by omega)
  rw [em] at hX hfine
  have e1 : exU 1 (least + pk f p - 1) = 2 ^ pk f p * un least := by
    have := exU_shift 1 (least - 1) (pk f p) (by omega) (by omega)
    rw [show least - 1 + (pk f p : Int) = least + pk f p - 1 by omega, Nat.one_mul] at this
    exact this
  have hM : pa f p * un least = mid f least p := rfl
  have hM1 : pa f (p + 1) * un least = mid f least (p + 1) := rfl
  have hgM := hfine.good
  have hlen := hfine.len
  have hp0 := hfine.p0
  have hp1 := hfine.p1
  obtain ⟨K, hK⟩ : ∃ K : Nat, (K : Int) = oP (mid f least p) - (oL (mid f least p)).length + 10000 := ⟨(oP (mid f least p) - (oL (mid f least p)).length + 10000).toNat, by omega⟩
  have hKn : (oP (mid f least p) - (oL (mid f least p)).length + 10000).toNat = K := by omega
  have hval := (o_dec (mid f least p)).val
  rw [hKn] at hval
  have hlast := mid_last (m := pm f p) (K := K) (n := num (oL (mid f least p))) (E := least + pk f p - 1) (by omega) (by omega) (by rw [em, hval]) (by omega)
  rw [e1] at hlast
  have hne : mid f least p ≠ 0 := by
    have a := pa_eq f p
    have b := pow_pos2 (pk f p)
    have : 0 < pa f p * un least := Nat.mul_pos (by omega) hu
    rw [hM] at this; omega
  have hl0 := (o_dec (mid f least p)).ne hne
  obtain ⟨l, x, hlx⟩ : ∃ l x, oL (mid f least p) = l ++ [x] := ⟨_, _, (List.dropLast_concat_getLast hl0).symm⟩
  have hll : (oL (mid f least p)).length = l.length + 1 := by rw [hlx]; simp
  have hz := oS_size (mid f least p)
  have hd := (o_dec (mid f least p)).dig
  have hxd : isD x = true := by
    rw [hlx] at hd
    exact allD_mem hd (by simp)
  have hxr := (isD_iff x).1 hxd
  obtain ⟨hV2, hD2⟩ := less_V hlx (by omega)
  have hV1 := more_V (v := mid f least p) (by omega)
  rw [hKn] at hV1 hV2
  have hsl : (oS (mid f least p)).data.toList = oL (mid f least p) := rfl
  have hlt26 : (10 : Nat) ^ (K - 26) ≤ 10 ^ (K - 25) := Nat.pow_le_pow_right (by decide) (by omega)
  have hT25 := pow_pos10 (K - 25)
  have hT26 := pow_pos10 (K - 26)
  have hmore := mid_more (f := f) (p := p) (u := un least) (T := 10 ^ (K - 26)) (by omega)
  have hless : p = 0 ∨ pa f (p - 1) * un least < mid f least p - 10 ^ (K - 25) := by
    by_cases h0 : p = 0
    · exact .inl h0
    · exact .inr (mid_less h0 hlast)
  rw [hM, hM1] at hmore
  have hR0 : ReadC (oS (mid f least p)) (oP (mid f least p)) n (p + p % 2) 0 := readD h hgM (RD_mid hu hp hI3)
  have l1 : (oS (mid f least p) ++ sames 48 25 ++ ⟨#[49]⟩).data.toList = oL (mid f least p) ++ List.replicate 25 48 ++ [49] := by
    rw [bytes_list, bytes_list, hsl, sames_list]
  have z1 : (oS (mid f least p) ++ sames 48 25 ++ ⟨#[49]⟩).size = (oL (mid f least p)).length + 26 := by
    rw [← list_len, l1]; simp
  have n1 : normE (oS (mid f least p) ++ sames 48 25 ++ ⟨#[49]⟩) (oP (mid f least p)) = 0 := by
    refine normE_ok (by omega) ?_ (by omega) (by omega)
    rw [l1, allD_append, allD_append, (o_dec (mid f least p)).dig]; rfl
  have hR1 : ReadC (oS (mid f least p) ++ sames 48 25 ++ ⟨#[49]⟩) (oP (mid f least p)) n (p + 1) 0 := fun w => by
    refine read_ok h (by omega) n1 ?_ w
    rw [normV_ok n1, l1, hV1]
    exact RD_more hu hp (by rw [hM]; omega) (by rw [hM1]; exact hmore)
  have l2 : (lessS (oS (mid f least p)) x ++ sames 57 25).data.toList = l ++ [x - 1] ++ List.replicate 25 57 := by
    rw [bytes_list, sames_list]
    show (oL (mid f least p)).dropLast ++ [x - 1] ++ _ = _
    rw [hlx, List.dropLast_concat]
  have z2 : (lessS (oS (mid f least p)) x ++ sames 57 25).size = (oL (mid f least p)).length + 25 := by
    rw [← list_len, l2, hll]; simp
  have n2 : normE (lessS (oS (mid f least p)) x ++ sames 57 25) (oP (mid f least p)) = 0 := by
    refine normE_ok (by omega) ?_ (by omega) (by omega)
    rw [l2]; exact hD2
  have hR2 : ReadC (lessS (oS (mid f least p)) x ++ sames 57 25) (oP (mid f least p)) n p 0 := fun w => by
    refine read_ok h (by omega) n2 ?_ w
    rw [normV_ok n2, l2]
    generalize V (l ++ [x - 1] ++ List.replicate 25 57) (oP (mid f least p)) = vv at *
    have hvv : vv = mid f least p - 10 ^ (K - 25) := by omega
    refine RD_less hp ?_ (by rw [hM]; omega)
    rw [hvv]; exact hless
  exact middles_walk (N := l.length) hZ hF hP hX h4 (by omega) (by omega) (by omega) (by omega) (by omega) (by rw [hsl, hlx]; simp) (by omega) hR0 hR1 hR2 w
end Go.Proofs.YtgcdmeonoiaplabDoor
