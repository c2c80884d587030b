/- GtN, GtO, RRune, ABad: these texts in one. -/
import Derived.Test.YtlgieoabellbmaaGreatDoorPt18
import Derived.Test.YtlgieoabellbmaaGreatDoorPt2
import Derived.Test.YtlgieoabellbmaaGreatDoorPt1
import Derived.Test.YtlgieoabellbmaaGreatDoorPt4
import Derived.Test.YtlgieoabellbmaaGreatDoorShelf
import Derived.Handy
namespace Go.Proofs.YtlgieoabellbmaaGreatDoor
open Go.RowKit
set_option linter.unusedVariables false
set_option linter.unusedSimpArgs false
def dI : D := ⟨6, ⟨#[]⟩, 1, 0, ⟨#[]⟩, [], [], 0⟩
def dX : D := ⟨16, ⟨#[]⟩, 0, 0, ⟨#[120]⟩, [], [], 0⟩
def dS : D := ⟨18, ⟨#[84]⟩, 0, 0, ⟨#[]⟩, [⟨#[65]⟩, ⟨#[66]⟩], [dI, dX], 0⟩
def dP : D := ⟨22, ⟨#[]⟩, 0, 0, ⟨#[]⟩, [], [dS], 0⟩
theorem inF_I : inF dI = dI := by rw [inF_eq]; simp [dI, inBits, inImag, inText]; decide +kernel
theorem inF_X : inF dX = dX := by rw [inF_eq]; simp [dX, inBits, inImag, inText]
theorem inF_S : inF dS = dS := by
 rw [inF_eq]
 have h : dS.parts.map inF = dS.parts := by show [inF dI, inF dX] = [dI, dX]; rw [inF_I, inF_X]
 rw [h]
 simp [dS, inBits, inImag, inText, great]
theorem inF_P : inF dP = dP := by
 rw [inF_eq]
 have h : dP.parts.map inF = dP.parts := by show [inF dS] = [dS]; rw [inF_S]
 rw [h]
 simp [dP, inBits, inImag, inText, great]
theorem chk_ok (d : D) (L : List (D × Int)) (hL : pre d 0 = L) (h1 : L.length ≤ 64) (h2 : (L.all fun p => fitsB p.1 && decide (p.2 < 8) && decide (0 ≤ p.1.kind) && decide (p.1.kind ≤ 22) && frmB p.1) = true) (h3 : dupA d = false) : bErr d = 0 := by
 refine (bErr_zero d).2 ⟨?_, h3⟩
 have key : ∀ p ∈ L, fitsB p.1 = true ∧ p.2 < 8 ∧ 0 ≤ p.1.kind ∧ p.1.kind ≤ 22 ∧ frmB p.1 = true := by
  intro p hp
  have := List.all_eq_true.1 h2 p hp
  simpa [Bool.and_eq_true, and_assoc] using this
 rw [chk0_eq, hL, if_neg, if_neg, if_neg, if_neg]
 ·rintro ⟨p, hp, h⟩; have := (key p hp).2.2.2.2; rw [h] at this; cases this
 ·rintro ⟨p, hp, h⟩; exact h ⟨(key p hp).2.2.1, (key p hp).2.2.2.1⟩
 ·rintro ⟨p, hp, h⟩; have := (key p hp).2.1; omega
 ·rintro (h | ⟨p, hp, h⟩)
  ·omega
  ·have := (key p hp).1; rw [h] at this; cases this
theorem pre_I (k : Int) : pre dI k = [(dI, k)] := by rw [pre_eq]; simp [dI, great]
theorem pre_X (k : Int) : pre dX k = [(dX, k)] := by rw [pre_eq]; simp [dX, great]
theorem pre_S (k : Int) : pre dS k = [(dS, k), (dI, k + 1), (dX, k + 1)] := by
 rw [pre_eq, if_pos (by decide)]
 show _ :: (preAll [dI, dX] (k + 1)) = _
 simp [preAll, pre_I, pre_X]
theorem pre_P (k : Int) : pre dP k = [(dP, k), (dS, k + 1), (dI, k + 1 + 1), (dX, k + 1 + 1)] := by
 rw [pre_eq, if_pos (by decide)]
 show _ :: (preAll [dS] (k + 1)) = _
 simp [preAll, pre_S]
theorem dup_I : dupA dI = false := by rw [dupA_eq]; decide +kernel
theorem dup_X : dupA dX = false := by rw [dupA_eq]; decide +kernel
theorem dup_S : dupA dS = false := by
 rw [dupA_eq]
 have h : dS.parts.any dupA = false := by show ([dI, dX].any dupA) = false; simp [dup_I, dup_X]
 rw [h]
 decide +kernel
theorem dup_P : dupA dP = false := by
 rw [dupA_eq]
 have h : dP.parts.any dupA = false := by show ([dS].any dupA) = false; simp [dup_S]
 rw [h]
 decide +kernel
theorem bErr_I : bErr dI = 0 := chk_ok _ _ (pre_I 0) (by decide) (by decide +kernel) dup_I
theorem bErr_X : bErr dX = 0 := chk_ok _ _ (pre_X 0) (by decide) (by decide +kernel) dup_X
theorem bErr_S : bErr dS = 0 := chk_ok _ _ (pre_S 0) (by decide) (by decide +kernel) dup_S
theorem bErr_P : bErr dP = 0 := chk_ok _ _ (pre_P 0) (by decide) (by decide +kernel) dup_P
theorem num_1a : numT 1 (bareQ 118) = ⟨#[49]⟩ := by decide +kernel
theorem num_1b : numT 1 ⟨false, false, true, false, false, -1, -1, 118⟩ = ⟨#[49]⟩ := by decide +kernel
theorem txt_a : padS (cutS ⟨#[120]⟩ (min (-1) 1000)) false false (-1) = ⟨#[120]⟩ := by decide +kernel
theorem txt_b : padS (quoS ⟨#[120]⟩ false) false false (-1) = ⟨#[34, 120, 34]⟩ := by decide +kernel
end Go.Proofs.YtlgieoabellbmaaGreatDoor
namespace Go.Proofs.YtlgieoabellbmaaGreatDoor
open Go.RowKit
set_option linter.unusedVariables false
set_option linter.unusedSimpArgs false
def sB : Sq := ⟨false, false, true, false, false, -1, -1, 118⟩
theorem lw_int (f : Sq) (hf : f = bareQ 118 ∨ f = sB) (n : Nat) (depth : Int) (hg : Good8 dI) (w : World) (v : Value) (hE : Esc w) (hK : KN w) (hv : VlC srt n (fun _ => True) w v dI) :
  Calls Tryz.prog 25 #[WV f .nilFunc, v, .int .i64 depth] w fun e W' => e = .returned (.string ⟨#[49]⟩) ∧ Below w.heap.size w W' := by
 obtain ⟨ty, hty⟩ := type_there (inF dI).kind (inF dI).ty (by rw [inF_I]; decide) (by rw [inF_I]; decide)
 have h := written_int f (by rcases hf with rfl | rfl <;> decide +kernel) n dI rfl hg depth w v ty hE hK hv hty (by rw [inF_I]; rfl) (by rw [inF_I]; decide) (by rw [inF_I]; decide) (by rw [inF_I]; decide +kernel) (by rw [inF_I]; decide +kernel)
 have e : numT (wrap64 (inF dI).bits) f = ⟨#[49]⟩ := by
  rw [inF_I, show wrap64 dI.bits = 1 by decide +kernel]
  rcases hf with rfl | rfl
  ·exact num_1a
  ·exact num_1b
 rw [e] at h
 exact h
theorem lw_text0 (n : Nat) (depth : Int) (hg : Good8 dX) (w : World) (v : Value) (hE : Esc w) (hK : KN w) (hv : VlC srt n (fun _ => True) w v dX) :
  Calls Tryz.prog 25 #[WV (bareQ 118) .nilFunc, v, .int .i64 depth] w fun e W' => e = .returned (.string ⟨#[120]⟩) ∧ Below w.heap.size w W' := by
 obtain ⟨ty, hty⟩ := type_there (inF dX).kind (inF dX).ty (by rw [inF_X]; decide) (by rw [inF_X]; decide)
 have h := written_text0 (bareQ 118) rfl rfl (by decide) n dX hg depth w v ty hE hv hK hty (by decide) (by rw [inF_X]; decide) (by rw [inF_X]; decide) (by rw [inF_X]; rfl) (by rw [inF_X]; decide)
 have e : padS (cutS (inF dX).text (min (bareQ 118).prec 1000)) (bareQ 118).mi (bareQ 118).z (bareQ 118).wid = ⟨#[120]⟩ := by rw [inF_X]; exact txt_a
 rw [e] at h
 exact h
theorem lw_text1 (n : Nat) (depth : Int) (hg : Good8 dX) (w : World) (v : Value) (hE : Esc w) (hK : KN w) (hv : VlC srt n (fun _ => True) w v dX) :
  Calls Tryz.prog 25 #[WV sB .nilFunc, v, .int .i64 depth] w fun e W' => e = .returned (.string ⟨#[34, 120, 34]⟩) ∧ Below w.heap.size w W' := by
 obtain ⟨ty, hty⟩ := type_there (inF dX).kind (inF dX).ty (by rw [inF_X]; decide) (by rw [inF_X]; decide)
 have h := written_text1 sB rfl rfl (by decide) n dX hg depth w v ty hE hv hK hty (by decide) (by rw [inF_X]; decide) (by rw [inF_X]; decide) (by rw [inF_X]; rfl) (by rw [inF_X]; decide)
 have e : padS (quoS (inF dX).text false) sB.mi sB.z sB.wid = ⟨#[34, 120, 34]⟩ := by rw [inF_X]; exact txt_b
 rw [e] at h
 exact h
theorem lw_S1 (n : Nat) (hn : n ≤ 1000) (hg : Good8 dS) (hgI : Good8 dI) (hgX : Good8 dX) (w : World) (v : Value) (hE : Esc w) (hK : KN w) (hv : VlC srt (n + 1) (fun _ => True) w v dS) :
  Calls Tryz.prog 25 #[WV (bareQ 118) .nilFunc, v, .int .i64 1] w fun e W' => e = .returned (.string ⟨#[123, 49, 32, 120, 125]⟩) ∧ Below w.heap.size w W' := by
 refine written_struct1 (bareQ 118) n dS hg w v ⟨#[84]⟩ hK hv (by rw [inF_S, if_neg (by decide)]; rfl) (by decide) (by rw [inF_S]; rfl) (by rw [inF_S]; decide) (by rw [inF_S]; decide) hn (by decide) [⟨#[49]⟩, ⟨#[120]⟩] [⟨⟨#[49]⟩, by decide⟩, ⟨⟨#[120]⟩, by decide⟩] ?_ (by rw [inF_S]; rfl) (by rw [inF_S]; rfl) ?_ ?_ ?_ _ (by decide +kernel)
 ·rw [inF_S]; decide +kernel
 ·rw [inF_S]; intro s hs; simp [dS] at hs; rcases hs with rfl | rfl <;> decide
 ·intro t ht; simp at ht; rcases ht with rfl | rfl <;> decide
 ·rw [inF_S]
  intro i y t hy ht
  match i, hy, ht with
  | 0, hy, ht =>
    obtain rfl : dI = y := Option.some.inj hy
    obtain rfl : (⟨#[49]⟩ : ByteArray) = t := Option.some.inj ht
    exact ⟨bErr_I, fun W v' hW hv' => lw_int _ (.inl rfl) n 2 hgI W v' (hE.below hW) (hK.up hW) hv'⟩
  | 1, hy, ht =>
    obtain rfl : dX = y := Option.some.inj hy
    obtain rfl : (⟨#[120]⟩ : ByteArray) = t := Option.some.inj ht
    exact ⟨bErr_X, fun W v' hW hv' => lw_text0 n 2 hgX W v' (hE.below hW) (hK.up hW) hv'⟩
  | i + 2, hy, ht => cases hy
theorem lw_S0 (n : Nat) (hn : n ≤ 1000) (hg : Good8 dS) (hgI : Good8 dI) (hgX : Good8 dX) (w : World) (v : Value) (hE : Esc w) (hK : KN w) (hv : VlC srt (n + 1) (fun _ => True) w v dS) :
  Calls Tryz.prog 25 #[WV sB .nilFunc, v, .int .i64 0] w fun e W' => e = .returned (.string ⟨#[84, 123, 65, 58, 49, 44, 32, 66, 58, 34, 120, 34, 125]⟩) ∧ Below w.heap.size w W' := by
 refine written_struct0 sB n dS hg w v ⟨#[84]⟩ hK hv (by rw [inF_S, if_neg (by decide)]; rfl) (by decide) (by rw [inF_S]; rfl) (by rw [inF_S]; decide) (by rw [inF_S]; decide) hn (by decide) [⟨#[49]⟩, ⟨#[34, 120, 34]⟩] [⟨⟨#[65, 58, 49]⟩, by decide⟩, ⟨⟨#[66, 58, 34, 120, 34]⟩, by decide⟩] ?_ (by rw [inF_S]; rfl) (by rw [inF_S]; rfl) ?_ ?_ ?_ _ (by decide +kernel)
 ·rw [inF_S]; decide +kernel
 ·rw [inF_S]; intro s hs; simp [dS] at hs; rcases hs with rfl | rfl <;> decide
 ·intro t ht; simp at ht; rcases ht with rfl | rfl <;> decide
 ·rw [inF_S]
  intro i y t hy ht
  match i, hy, ht with
  | 0, hy, ht =>
    obtain rfl : dI = y := Option.some.inj hy
    obtain rfl : (⟨#[49]⟩ : ByteArray) = t := Option.some.inj ht
    exact ⟨bErr_I, fun W v' hW hv' => lw_int _ (.inr rfl) n 1 hgI W v' (hE.below hW) (hK.up hW) hv'⟩
  | 1, hy, ht =>
    obtain rfl : dX = y := Option.some.inj hy
    obtain rfl : (⟨#[34, 120, 34]⟩ : ByteArray) = t := Option.some.inj ht
    exact ⟨bErr_X, fun W v' hW hv' => lw_text1 n 1 hgX W v' (hE.below hW) (hK.up hW) hv'⟩
  | i + 2, hy, ht => cases hy
theorem lw_P (n : Nat) (hn : n + 1 ≤ 1000) (hg : Good8 dP) (hgS : Good8 dS) (hgI : Good8 dI) (hgX : Good8 dX) (w : World) (v : Value) (hE : Esc w) (hK : KN w) (hv : VlC srt (n + 1 + 1) (fun _ => True) w v dP) :
  Calls Tryz.prog 25 #[WV (bareQ 118) .nilFunc, v, .int .i64 0] w fun e W' => e = .returned (.string ⟨#[38, 123, 49, 32, 120, 125]⟩) ∧ Below w.heap.size w W' := by
 obtain ⟨ty, hty⟩ := type_there (inF dP).kind (inF dP).ty (by rw [inF_P]; decide) (by rw [inF_P]; decide)
 have h := written_ptr (bareQ 118) rfl (n + 1) dP dS hg w v ty ⟨#[123, 49, 32, 120, 125]⟩ hv hK hty (by decide) (by rw [inF_P]; decide) (by rw [inF_P]; decide) (by rw [inF_P]; rfl) hn (by rw [inF_P]; rfl) rfl (by decide) ⟨bErr_S, fun W v' hW hv' => lw_S1 n (by omega) hgS hgI hgX W v' (hE.below hW) (hK.up hW) hv'⟩
 exact h
end Go.Proofs.YtlgieoabellbmaaGreatDoor
namespace Go.Proofs.YtlgieoabellbmaaGreatDoor
open Go.RowKit
end Go.Proofs.YtlgieoabellbmaaGreatDoor
namespace Go.Proofs.YtlgieoabellbmaaGreatDoor
open Go.RowKit
set_option linter.unusedVariables false
set_option linter.unusedSimpArgs false
theorem ba_extB {a b : ByteArray} (h : a.data.toList = b.data.toList) : a = b := by
 apply ByteArray.ext; apply Array.ext'; exact h
def bT (V L : List UInt8) : ByteArray := ⟨([37, 33] ++ V ++ [40] ++ L ++ [41]).toArray⟩
theorem bT_list (V L : List UInt8) : (bT V L).data.toList = [37, 33] ++ V ++ [40] ++ L ++ [41] := by simp [bT]
theorem bT_size (V L : List UInt8) : (bT V L).size = V.length + L.length + 4 := by rw [← list_len, bT_list]; simp; omega
theorem join_none (xs : List (List UInt8)) : Lib.join xs [] = xs.flatten := by
 cases xs with
 | nil => rfl
 | cons x r => rw [Lib.join_cons]; simp [Lib.joinTail]
abbrev BtC (v : ByteArray) (w : World) (bk n c : Nat) (L : List UInt8) : Prop := Calls Tryz.prog 95 #[.string v, .slice (some ⟨bk, 0, none⟩) n c] w fun e w' => e = .returned (.string (bT v.data.toList L)) ∧ Below w.heap.size w w'
set_option maxRecDepth 1000000 in
set_option maxHeartbeats 2000000 in
theorem btext_any {v : ByteArray} {xs : List ByteArray} {bk c : Nat} {w : World} {L : List UInt8} (hv : v.size ≤ 1000) (hc : ∀ (j : Nat) x, xs[j]? = some x → w.cell? ⟨bk, j, none⟩ = some (.string x)) (hbk : bk < w.heap.size) (hN : xs.length ≤ 1000) (hcap : xs.length ≤ c) (hL : xs.flatMap (·.data.toList) = L) (hz : L.length ≤ 100000) : BtC v w bk xs.length c L := by
 have hj : Lib.join (xs.map (·.data.toList)) [] = L := by rw [join_none, ← hL]; rfl
 have hJ := Tryz.strings_Join bk 0 c xs ⟨#[]⟩ w (fun j x h => by rw [Nat.zero_add]; exact hc j x h) hbk (by omega) hcap (by rw [show (⟨#[]⟩ : ByteArray).data.toList = [] from rfl, hj]; omega)
 rw [show (⟨#[]⟩ : ByteArray).data.toList = [] from rfl, hj] at hJ
 have hs : (⟨L.toArray⟩ : ByteArray).size = L.length := by rw [← list_len]
 have HF : Hid ((((⟨#[37, 33]⟩ ++ v) ++ ⟨#[40]⟩) ++ (⟨L.toArray⟩ : ByteArray)) ++ ⟨#[41]⟩ = bT v.data.toList L) := by
  refine ba_extB ?_
  rw [bT_list]
  simp only [app_list]
 have hvI : (v.size : Int) ≤ 1000 := by omega
 have hlI : ((⟨L.toArray⟩ : ByteArray).size : Int) ≤ 100000 := by omega
 generalize (⟨L.toArray⟩ : ByteArray) = J at *
 clear hj hL hc hs hv
 go_enter Tryz.func95, Tryz.ntmps95
 go_wp2_with (go_at_call 137; refine hJ.mono ?_; rintro e w2 ⟨rfl, hb2⟩)
 go_ret
 rw [HF.out]
 exact ⟨rfl, hb2⟩
def vB (c : Int) : List UInt8 := (Utf8.encode c).data.toList
theorem vB_size (c : Int) : (Utf8.encode c).size ≤ 4 := enc_size_le c
set_option maxRecDepth 1000000 in
set_option maxHeartbeats 2000000 in
theorem bverb_any (c : Int) (a : ByteArray) (ha : a.size ≤ 1000) (b : ByteArray) (hb : b.size ≤ 1000) (w : World) : Calls Tryz.prog 47 #[.int .i32 c, .string a, .string b] w fun e w' => e = .returned (.string (bT (vB c) (a.data.toList ++ [61] ++ b.data.toList))) ∧ Below w.heap.size w w' := by
 have hR := fun w => rune_any c w
 have hv := vB_size c
 obtain ⟨W1, hW1⟩ : ∃ W1, W1 = w.alloc (.cells #[.string a, .string ⟨#[61]⟩, .string b] 9) := ⟨_, rfl⟩
 have hb1 : Below w.heap.size w W1 := by rw [hW1]; exact (Below.refl _ _).alloc (Nat.le_refl _) _
 have hT : BtC (Utf8.encode c) W1 w.heap.size 3 3 (a.data.toList ++ [61] ++ b.data.toList) := btext_any (xs := [(a : ByteArray), (⟨#[61]⟩ : ByteArray), (b : ByteArray)]) (by omega) (fun j x hj => by
   have hblk : W1.heap[w.heap.size]? = some (.cells #[.string a, .string ⟨#[61]⟩, .string b] 9) := by rw [hW1]; exact heap_alloc_new w _
   rw [cell_of_row W1 w.heap.size j _ _ (0, 0) hblk]
   show (([(a : ByteArray), (⟨#[61]⟩ : ByteArray), (b : ByteArray)].map Value.string).toArray)[j]? = _
   rw [List.getElem?_toArray, List.getElem?_map, hj]
   rfl) (by rw [hW1]; simp) (by simp) (by simp) (by simp) (by have := list_len a; have := list_len b;  first | (simp; done) | (simp; omega))
 unfold BtC at hT
 change Calls Tryz.prog 95 #[.string (Utf8.encode c), .slice (some ⟨w.heap.size, 0, none⟩) 3 3] W1 fun e w' => e = .returned (.string (bT (vB c) (a.data.toList ++ [61] ++ b.data.toList))) ∧ Below W1.heap.size W1 w' at hT
 generalize Utf8.encode c = E at *
 generalize bT (vB c) (a.data.toList ++ [61] ++ b.data.toList) = RR at *
 go_enter Tryz.func47, Tryz.ntmps47
 go_wp2_with (first
  | (go_at_call 96; refine (hR _).mono ?_; rintro e w2 ⟨rfl, hw2⟩; subst w2)
  | (go_at_call 95; rw [← hW1]; refine hT.mono ?_; rintro e w3 ⟨rfl, hb3⟩))
 go_ret
 exact ⟨rfl, hb1.trans (hb3.mono hb1.size)⟩
set_option maxRecDepth 1000000 in
set_option maxHeartbeats 2000000 in
theorem bnil_any (c : Int) (w : World) : Calls Tryz.prog 46 #[.int .i32 c] w fun e w' => e = .returned (.string (bT (vB c) ([60, 110, 105, 108, 62]))) ∧ Below w.heap.size w w' := by
 have hR := fun w => rune_any c w
 have hv := vB_size c
 obtain ⟨W1, hW1⟩ : ∃ W1, W1 = w.alloc (.cells #[.string ⟨#[60, 110, 105, 108, 62]⟩] 9) := ⟨_, rfl⟩
 have hb1 : Below w.heap.size w W1 := by rw [hW1]; exact (Below.refl _ _).alloc (Nat.le_refl _) _
 have hT : BtC (Utf8.encode c) W1 w.heap.size 1 1 ([60, 110, 105, 108, 62]) := btext_any (xs := [(⟨#[60, 110, 105, 108, 62]⟩ : ByteArray)]) (by omega) (fun j x hj => by
   have hblk : W1.heap[w.heap.size]? = some (.cells #[.string ⟨#[60, 110, 105, 108, 62]⟩] 9) := by rw [hW1]; exact heap_alloc_new w _
   rw [cell_of_row W1 w.heap.size j _ _ (0, 0) hblk]
   show (([(⟨#[60, 110, 105, 108, 62]⟩ : ByteArray)].map Value.string).toArray)[j]? = _
   rw [List.getElem?_toArray, List.getElem?_map, hj]
   rfl) (by rw [hW1]; simp) (by simp) (by simp) (by simp) (by  first | (simp; done) | (simp; omega))
 unfold BtC at hT
 change Calls Tryz.prog 95 #[.string (Utf8.encode c), .slice (some ⟨w.heap.size, 0, none⟩) 1 1] W1 fun e w' => e = .returned (.string (bT (vB c) ([60, 110, 105, 108, 62]))) ∧ Below W1.heap.size W1 w' at hT
 generalize Utf8.encode c = E at *
 generalize bT (vB c) ([60, 110, 105, 108, 62]) = RR at *
 go_enter Tryz.func46, Tryz.ntmps46
 go_wp2_with (first
  | (go_at_call 96; refine (hR _).mono ?_; rintro e w2 ⟨rfl, hw2⟩; subst w2)
  | (go_at_call 95; rw [← hW1]; refine hT.mono ?_; rintro e w3 ⟨rfl, hb3⟩))
 go_ret
 exact ⟨rfl, hb1.trans (hb3.mono hb1.size)⟩
end Go.Proofs.YtlgieoabellbmaaGreatDoor
