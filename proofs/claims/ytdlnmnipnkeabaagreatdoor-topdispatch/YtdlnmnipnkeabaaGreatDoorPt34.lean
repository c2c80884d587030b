/- JBool, PPureB, JSay: these texts in one. -/
import Derived.Test.YtdlnmnipnkeabaaGreatDoorPt25
import Derived.Test.YtdlnmnipnkeabaaGreatDoorPt33
import Derived.Test.YtdlnmnipnkeabaaGreatDoorPt11
namespace Go.Proofs.YtdlnmnipnkeabaaGreatDoor
open Go.RowKit
set_option linter.unusedVariables false
set_option linter.unusedSimpArgs false
abbrev VT1 : Value := .iface 157 (.agg #[.int .i64 1, .string ⟨#[]⟩, .int .i64 1, .bool true])
theorem chk_T : chk0 (D0 1 1 0 1 ⟨#[]⟩ ⟨#[]⟩) = 0 := by
 unfold chk0
 rw [pre0]
 simp [runV, ok1, ok2, ok3, ok4, fitsB, frmB, typedB, allB, sz_nil]
theorem flat_T : Flat VT1 (.int .i64 1) (.string ⟨#[]⟩) (.int .u64 1) (.int .u64 0) (.string ⟨#[]⟩) (.int .i64 1) 1 1 255 (.bool true) := by
 refine ⟨fun W => valueOf_of _ _ _ _ _ _ _ _ _ _ W (fun V => ?_) ⟨rfl, rfl, rfl, rfl, rfl, rfl, rfl, rfl⟩, fun W => markof_truth 1 1 _ true W, fun W => shape_raw VT1 1 1 0 1 ⟨#[]⟩ 255 (.bool true) (.inr (.inr (.inr (.inr (.inr ⟨rfl, rfl, rfl⟩))))) (by decide) (fun V => raw_flat VT1 1 1 1 0 ⟨#[]⟩ ⟨#[]⟩ V fun V2 => rawof_truth 1 1 ⟨#[]⟩ true V2) W⟩
 have hb := build0 1 1 0 1 ⟨#[]⟩ ⟨#[]⟩ V ⟨by simp, by simp, by simp, by simp, Nat.zero_le _, Nat.zero_le _⟩ (by decide) (by decide) chk_T
 have md : mdV (D0 1 1 0 1 ⟨#[]⟩ ⟨#[]⟩) = VT1 := by unfold mdV; simp
 rw [md] at hb
 exact hb
theorem kq_T : KdQ 157 (.agg #[.int .i64 1, .string ⟨#[]⟩, .int .i64 1, .bool true]) 1 := ⟨⟨#[]⟩, 1, fun Z => by kernel_rfl⟩
set_option maxRecDepth 1000000 in
set_option maxHeartbeats 4000000 in
theorem nilp_T (w : World) : Calls Tryz.prog 115 #[VT1] w fun e w' => e = .returned (.bool false) ∧ Below w.heap.size w w' := by
 obtain ⟨y1, h1, hk1⟩ := kq_T
 go_enter Tryz.func115, Tryz.ntmps115
 go_wp2
 go_ret
 exact ⟨rfl, by go_grown⟩
set_option maxRecDepth 1000000 in
theorem asked_nilT (f : Sq) (v : Value) (w : World) : Calls Tryz.prog 137 #[WV f .nilFunc, v] w fun e w' => e = .returned (.tuple #[.string ⟨#[]⟩, .bool false]) ∧ Below w.heap.size w w' := by
 obtain ⟨p, mi, sh, sp, z, wid, prec, verb⟩ := f
 have hq : ∀ w, (binOp .eql 151 .nilFunc .nilFunc).run Tryz.prog w = .ok (.bool true) w := fun w => by kernel_rfl
 go_enter_defers Tryz.func137, Tryz.ntmps137
 go_wp2
 refine ⟨.tuple #[.string ⟨#[]⟩, .bool false], by simp [results, Tryz.results137, go_sem], rfl, ?_⟩
 exact (((Below.refl _ _).alloc (Nat.le_refl _) _).alloc (by simp) _).alloc (by simp; omega) _
abbrev trS : ByteArray := ⟨#[116, 114, 117, 101]⟩
abbrev boolS : ByteArray := ⟨#[98, 111, 111, 108]⟩
set_option maxRecDepth 1000000 in
set_option maxHeartbeats 4000000 in
theorem show_T (w : World) (he : EK w) : Calls Tryz.prog 85 #[VT1, SV (bareQ 118), .nilFunc] w fun e w' => e = .returned (.string trS) ∧ Below w.heap.size w w' := by
 obtain ⟨W1, hW1⟩ : ∃ W1, W1 = w.alloc (.cells #[.bool false, .bool false, .bool false, .bool false, .bool false, .int .i64 (-1), .int .i64 (-1), .int .i32 118] 113) := ⟨_, rfl⟩
 have b1 : Below w.heap.size w W1 := by rw [hW1]; exact (Below.refl _ _).alloc (Nat.le_refl _) _
 have k1 : Blk W1 w.heap.size [.bool false, .bool false, .bool false, .bool false, .bool false, .int .i64 (-1), .int .i64 (-1), .int .i32 118] := by rw [hW1]; exact Blk.new w _ 113
 have e1 := he.up b1
 have hW : Calls Tryz.prog 111 #[.agg #[.bool false, .bool false, .bool false, .bool false, .bool false, .int .i64 (-1), .int .i64 (-1), .int .i32 118, .nilFunc], VT1, .int .i64 0] W1 fun e w' => e = .returned (.string trS) ∧ EK w' ∧ Kx (fun _ => False) W1 w' :=
  written_n (B := EK) (P := fun _ => False) (bareQ 118) .nilFunc VT1 0 W1 boolS trS 255 (.bool true) (fun _ h => h.elim) (fun _ _ h b => h.up b)
   (fun W hW => (asked_nilT (bareQ 118) VT1 W).mono fun e W' ⟨h1, h2⟩ => ⟨h1, (e1.up hW).up h2, .of_below h2⟩) (fun W _ => flat_T.sh W) (fun W h => type_own VT1 1 1 W boolS rfl h.2 flat_T.mr)
   (fun W h => by
    refine shaped_truth (bareQ 118) .nilFunc boolS 0 trS true W fun V => ?_
    have := truth_v false false false false false (-1) (-1) 118 .nilFunc rfl V
    rw [pad_off] at this
    exact this)
 have c0 := k1.c 0 _ rfl
 have c1 := k1.c 1 _ rfl
 have c2 := k1.c 2 _ rfl
 have c3 := k1.c 3 _ rfl
 have c4 := k1.c 4 _ rfl
 have c5 := k1.c 5 _ rfl
 have c6 := k1.c 6 _ rfl
 have c7 := k1.c 7 _ rfl
 change Calls Tryz.prog 85 #[VT1, .agg #[.bool false, .bool false, .bool false, .bool false, .bool false, .int .i64 (-1), .int .i64 (-1), .int .i32 118], .nilFunc] w _
 generalize VT1 = v at *
 go_enter Tryz.func85, Tryz.ntmps85
 go_upto_region 1 with fail
 rw [← hW1]
 clear hW1
 go_wp2_with (go_at_call 111; refine hW.mono ?_; rintro e W2 ⟨rfl, h2, r2⟩)
 go_ret
 exact ⟨rfl, b1.trans ((kx_below r2).mono b1.size)⟩
abbrev badS (c : Int) : ByteArray := bT (vB c) (boolS.data.toList ++ [61] ++ trS.data.toList)
set_option maxRecDepth 1000000 in
set_option maxHeartbeats 4000000 in
theorem bad_T (c : Int) (w : World) (he : EK w) : Calls Tryz.prog 139 #[VT1, .int .i32 c] w fun e w' => e = .returned (.string (badS c)) ∧ Below w.heap.size w w' := by
 have hne : ∀ w, (binOp .eql 20 (.iface 255 (.bool true)) .nilIface).run Tryz.prog w = .ok (.bool false) w := fun w => by kernel_rfl
 have hSp : ∀ W, Calls Tryz.prog 135 #[VT1] W fun e W' => e = .returned (.iface 255 (.bool true)) ∧ Below W.heap.size W W' := flat_T.sh
 have hTy : ∀ W, EK W → Calls Tryz.prog 68 #[VT1] W fun e W' => e = .returned (.string boolS) ∧ Below W.heap.size W W' := fun W h => type_own VT1 1 1 W boolS rfl h.2 flat_T.mr
 have hSh : ∀ W, EK W → Calls Tryz.prog 85 #[VT1, .agg #[.bool false, .bool false, .bool false, .bool false, .bool false, .int .i64 (-1), .int .i64 (-1), .int .i32 118], .nilFunc] W fun e w' => e = .returned (.string trS) ∧ Below W.heap.size W w' := fun W h => show_T W h
 unfold badS
 have hV := fun W => bverb_any c boolS (by decide) trS (by decide) W
 generalize VT1 = v at *
 generalize boolS = ty at *
 generalize trS = tr at *
 generalize bT (vB c) (ty.data.toList ++ [61] ++ tr.data.toList) = R at *
 go_enter Tryz.func139, Tryz.ntmps139
 go_upto_region 4 with (go_at_call 135; refine (hSp _).mono ?_; rintro e W1 ⟨rfl, b1⟩)
 obtain ⟨W2, hW2⟩ : ∃ W2, W2 = W1.alloc (.cells #[.bool false, .bool false, .bool false, .bool false, .bool false, .int .i64 (-1), .int .i64 (-1), .int .i32 118] 113) := ⟨_, rfl⟩
 have b2 : Below W1.heap.size W1 W2 := by rw [hW2]; exact (Below.refl _ _).alloc (Nat.le_refl _) _
 have k2 : Blk W2 W1.heap.size [.bool false, .bool false, .bool false, .bool false, .bool false, .int .i64 (-1), .int .i64 (-1), .int .i32 118] := by rw [hW2]; exact Blk.new W1 _ 113
 have w2 : Below w.heap.size w W2 := b1.trans (b2.mono b1.size)
 rw [← hW2]
 clear hW2
 obtain ⟨Y, hY⟩ : ∃ Y, Y = W2.drew := ⟨_, rfl⟩
 have bY : Below W2.heap.size W2 Y := by rw [hY]; exact (Below.refl _ _).drew
 have kY := k2.up bY
 have wY : Below w.heap.size w Y := w2.trans (bY.mono w2.size)
 have eY : EK Y := he.up wY
 generalize W1.heap.size = B at *
 refine wp_region_held_drew (S := fun w' : World => Blk w' B [.bool false, .bool false, .bool false, .bool false, .bool false, .int .i64 (-1), .int .i64 (-1), .int .i32 118]) (by kernel_rfl) (by rw [← hY]; exact kY) ?_
 rw [← hY]
 clear hY
 intro hS0
 clear hS0
 refine tk 0 (.int .i32 c) rfl (by kernel_rfl) (fun _ _ _ h => h) (by rfl) (by assumption) ?_ ?_
 ·intro w5 s0
  go_simp
 try simp only [Act.put, List.getElem_toArray, List.getElem_cons_zero, List.getElem_cons_succ, List.setIfInBounds_toArray, List.set_cons_zero, List.set_cons_succ, List.length_cons]
 refine tk 1 (v) rfl (by kernel_rfl) (fun _ _ _ h => h) (by rfl) (by assumption) ?_ ?_
 ·intro w5 s0
  go_simp
 try simp only [Act.put, List.getElem_toArray, List.getElem_cons_zero, List.getElem_cons_succ, List.setIfInBounds_toArray, List.set_cons_zero, List.set_cons_succ, List.length_cons]
 refine tk 3 (v) rfl (by kernel_rfl) (fun _ _ _ h => h) (by rfl) (by assumption) ?_ ?_
 ·intro w5 s0
  go_simp
 try simp only [Act.put, List.getElem_toArray, List.getElem_cons_zero, List.getElem_cons_succ, List.setIfInBounds_toArray, List.set_cons_zero, List.set_cons_succ, List.length_cons]
 refine tk 4 (.agg #[.bool false, .bool false, .bool false, .bool false, .bool false, .int .i64 (-1), .int .i64 (-1), .int .i32 118]) rfl (by kernel_rfl) (fun _ _ _ h => h) (by rfl) (by assumption) ?_ ?_
 ·intro w5 s0
  have q0 := s0.c 0 _ rfl
  have q1 := s0.c 1 _ rfl
  have q2 := s0.c 2 _ rfl
  have q3 := s0.c 3 _ rfl
  have q4 := s0.c 4 _ rfl
  have q5 := s0.c 5 _ rfl
  have q6 := s0.c 6 _ rfl
  have q7 := s0.c 7 _ rfl
  go_simp
 try simp only [Act.put, List.getElem_toArray, List.getElem_cons_zero, List.getElem_cons_succ, List.setIfInBounds_toArray, List.set_cons_zero, List.set_cons_succ, List.length_cons]
 refine rd1 2 (by kernel_rfl) rfl fun K2 hK2 => ?_
 go_simp
 refine (hTy Y eY).mono ?_
 rintro e Z1 ⟨rfl, bZ1⟩
 have kZ1 := kY.up bZ1
 have eZ1 := eY.up bZ1
 have wZ1 : Below w.heap.size w Z1 := wY.trans (bZ1.mono wY.size)
 refine hK2.out _ _ kZ1 (fun _ => ?_)
 clear hK2
 try simp only [Act.put, List.getElem_toArray, List.getElem_cons_zero, List.getElem_cons_succ, List.setIfInBounds_toArray, List.set_cons_zero, List.set_cons_succ, List.length_cons]
 refine rd1 5 (by kernel_rfl) rfl fun K5 hK5 => ?_
 go_simp
 refine (hSh Z1 eZ1).mono ?_
 rintro e Z2 ⟨rfl, bZ2⟩
 have kZ2 := kZ1.up bZ2
 have eZ2 := eZ1.up bZ2
 have wZ2 : Below w.heap.size w Z2 := wZ1.trans (bZ2.mono wZ1.size)
 refine hK5.out _ _ kZ2 (fun _ => ?_)
 clear hK5
 try simp only [Act.put, List.getElem_toArray, List.getElem_cons_zero, List.getElem_cons_succ, List.setIfInBounds_toArray, List.set_cons_zero, List.set_cons_succ, List.length_cons]
 refine rd1 6 (by kernel_rfl) rfl fun K6 hK6 => ?_
 go_simp
 refine (hV Z2).mono ?_
 rintro e Z3 ⟨rfl, bZ3⟩
 have kZ3 := kZ2.up bZ3
 have eZ3 := eZ2.up bZ3
 have wZ3 : Below w.heap.size w Z3 := wZ2.trans (bZ3.mono wZ2.size)
 refine hK6.out _ _ kZ3 (fun _ => ?_)
 clear hK6
 try simp only [Act.put, List.getElem_toArray, List.getElem_cons_zero, List.getElem_cons_succ, List.setIfInBounds_toArray, List.set_cons_zero, List.set_cons_succ, List.length_cons]
 refine tk 7 (.string R) rfl (by kernel_rfl) (fun _ _ _ h => h) (by rfl) (by assumption) ?_ ?_
 ·intro w5 s0
  go_simp
 try simp only [Act.put, List.getElem_toArray, List.getElem_cons_zero, List.getElem_cons_succ, List.setIfInBounds_toArray, List.set_cons_zero, List.set_cons_succ, List.length_cons]
 refine wpAnyH_done (by kernel_rfl) ?_ _
 go_wp2
 go_ret
 exact ⟨rfl, wZ3⟩
end Go.Proofs.YtdlnmnipnkeabaaGreatDoor
namespace Go.Proofs.YtdlnmnipnkeabaaGreatDoor
open Go.RowKit
set_option linter.unusedVariables false
set_option linter.unusedSimpArgs false
theorem idx_no {l : Bs} (h : hd l ≠ 91) : idx l = (ix0, l) := if_neg h
def vb (l : Bs) : Prop := hd l ≠ 43 ∧ hd l ≠ 45 ∧ hd l ≠ 35 ∧ hd l ≠ 32 ∧ hd l ≠ 42 ∧ hd l ≠ 46 ∧ hd l ≠ 91 ∧ ¬ dg (hd l)
theorem flg_vb {l : Bs} {f : Fl} (h : vb l) : flg l f = (f, l) := by
 obtain ⟨h1, h2, h3, h4, -, -, -, h8⟩ := h
 have h48 : hd l ≠ 48 := fun e => h8 (by rw [e]; exact ⟨by omega, by omega⟩)
 cases l with
 | nil => rfl
 | cons x t =>
   unfold hd at h1 h2 h3 h4 h48
   dsimp only at h1 h2 h3 h4 h48
   unfold flg
   rw [if_neg h1, if_neg h2, if_neg h3, if_neg h4, if_neg h48]
theorem wdh_vb {l : Bs} (h : vb l) : wdh l = (nb0, ix0, l) := by
 obtain ⟨h1, h2, h3, h4, h5, h6, h7, h8⟩ := h
 unfold wdh
 rw [idx_no h7]
 rw [if_neg h5, if_neg (fun k => h8 ⟨Nat.le_trans (by omega) k.1, k.2⟩)]
theorem mid_vb {l : Bs} (h : vb l) : mid l = (nb0, ix0, nb0, ix0, l) := by
 unfold mid
 rw [wdh_vb h]
 rw [if_neg h.2.2.2.2.2.1]
theorem ahd_vb {l : Bs} (h : vb l) : ahd l = l := by
 unfold ahd
 rw [flg_vb h]
 dsimp only
 rw [mid_vb h]
 dsimp only
 rw [idx_no h.2.2.2.2.2.2.1]
theorem dir_vb {l t : Bs} (h : vb l) : dir l t = ⟨if (nxt l).2 = 0 then 2 else 1, t, fl0, -1, (nxt l).1, nb0, nb0, ix0⟩ := by
 unfold dir
 rw [ahd_vb h, flg_vb h]
 dsimp only
 rw [mid_vb h]
 dsimp only
 rw [idx_no h.2.2.2.2.2.2.1]
 rfl
theorem prs_vb {l : Bs} (h : vb l) (hne : l ≠ []) : prs (37 :: l) = ⟨1, 37 :: l.take (nxt l).2, fl0, -1, (nxt l).1, nb0, nb0, ix0⟩ :: prs (l.drop (nxt l).2) := by
 have h0 := nxt_pos hne
 have hle := nxt_le l
 have e : prest (37 :: l) = l.drop (nxt l).2 := by
  unfold prest
  rw [if_pos (show hd (37 :: l) = 37 from rfl)]
  show drest l = _
  unfold drest
  rw [ahd_vb h]
 rw [prs_step (by simp), e]
 congr 1
 unfold pce
 rw [if_pos (show hd (37 :: l) = 37 from rfl)]
 show dir l _ = _
 rw [dir_vb h, if_neg (by omega), List.length_cons, List.length_drop, show l.length + 1 - (l.length - (nxt l).2) = (nxt l).2 + 1 by omega, List.take_succ_cons]
end Go.Proofs.YtdlnmnipnkeabaaGreatDoor
namespace Go.Proofs.YtdlnmnipnkeabaaGreatDoor
open Go.RowKit
set_option linter.unusedVariables false
set_option linter.unusedSimpArgs false
abbrev vcS (c : Nat) : ByteArray := ⟨#[37, UInt8.ofNat c]⟩
abbrev vcP (c : Nat) : Pc := ⟨1, [37, UInt8.ofNat c], fl0, -1, c, nb0, nb0, ix0⟩
theorem vc_prs (c : Nat) (h1 : 65 ≤ c) (h2 : c ≤ 122) (h3 : ¬ c = 91) : prs (vcS c).data.toList = [vcP c] := by
 have hb : (UInt8.ofNat c).toNat = c := by
  rw [UInt8.toNat_ofNat']
  omega
 have hn := nxt_ascii (UInt8.ofNat c) [] (by omega)
 have hv : vb [UInt8.ofNat c] := by
  unfold vb dg
  rw [show hd [UInt8.ofNat c] = c from hb]
  omega
 show prs (37 :: [UInt8.ofNat c]) = _
 rw [prs_vb hv (by simp), hn, hb]
 rfl
abbrev vsP : Pc := ⟨1, [37, 35, 118], ⟨false, false, true, false, false⟩, -1, 118, nb0, nb0, ix0⟩
def acT (on : Bool) (s : ByteArray) : Ac := if on then ⟨1, s, ⟨#[]⟩, .no, .no⟩ else .no
theorem acT_pl (on : Bool) (s : ByteArray) : PlA (acT on s) := by
 unfold acT
 cases on
 ·exact ⟨rfl, rfl, rfl, by show ¬ ((18 : Int) ≤ 0 ∧ (0 : Int) ≤ 22); decide⟩
 ·exact ⟨rfl, rfl, rfl, by show ¬ ((18 : Int) ≤ 0 ∧ (0 : Int) ≤ 22); decide⟩
theorem acT_th (on : Bool) (s : ByteArray) : thB (acT on s) = on := by
 unfold acT
 cases on <;> rfl
abbrev hkT (fo sy fa st : Bool) : Hk := ⟨acT fo ⟨#[70]⟩, acT sy ⟨#[71]⟩, acT fa ⟨#[69]⟩, acT st ⟨#[83]⟩⟩
theorem hkT_pl (fo sy fa st : Bool) : PlH (hkT fo sy fa st) := ⟨acT_pl _ _, acT_pl _ _, acT_pl _ _, acT_pl _ _⟩
abbrev dT : List Value := [.int .i64 1, .string ⟨#[]⟩, .int .u64 1, .int .u64 0, .string ⟨#[]⟩, .slice none 0 0, .slice none 0 0, .int .i64 1]
abbrev PrH (h : Hk) (s T : ByteArray) : Prop := ∀ (tb A : Nat) (W : World), EK W → tb < W.heap.size → W.rangeAt tb 0 h.v → A < W.heap.size → W.rangeAt A 0 dT → Calls Tryz.prog 9 #[.slice (some ⟨tb, 0, none⟩) 1 1, .string s, .slice (some ⟨A, 0, none⟩) 1 1] W fun e w' => e = .returned (.string T) ∧ Below W.heap.size W w'
abbrev PrN (s T : ByteArray) : Prop := ∀ (A : Nat) (W : World), EK W → A < W.heap.size → W.rangeAt A 0 dT → Calls Tryz.prog 9 #[.slice none 0 0, .string s, .slice (some ⟨A, 0, none⟩) 1 1] W fun e w' => e = .returned (.string T) ∧ Below W.heap.size W w'
theorem prH {h : Hk} (hh : PlH h) (s : ByteArray) (p : Pc) (hps : prs s.data.toList = [p]) (hs : s.size ≤ 1000) (hk : p.kind = 1) (hw : p.wid.k = 0) (hp : p.prec.k = 0) (hx : p.arg.k = 0) (hx2 : p.wid.a.k = 0) (hx3 : p.prec.a.k = 0) (hv : ¬ p.verb = 37) {T : ByteArray} (hT : T.size ≤ 4096) (hSh : ShH h VT1 (spQ p) T) : PrH h s T := fun tb A W e htb hr hA hd => by
 have := print_H hh tb 1 (Nat.le_refl _) s p hps hs hk hw hp hx hx2 hx3 hv A 1 (Nat.le_refl _) (by unfold maxLen; omega) 1 1 0 1 ⟨#[]⟩ ⟨#[]⟩ _ _ T (by omega) W e hA htb hr hd flat_T.vo hSh
 rw [txt_in hT] at this
 exact this
def bareT (c : Nat) : ByteArray := if c = 116 ∨ c = 118 then trS else badS c
set_option maxRecDepth 100000 in
theorem bareT_size (c : Nat) : (bareT c).size ≤ 4096 := by
 have h1 : trS.size = 4 := rfl
 have h := vB_size c
 have h2 := list_len (Utf8.encode (c : Int))
 have h4 : (badS c).size = (vB c).length + (boolS.data.toList ++ [61] ++ trS.data.toList).length + 4 := bT_size _ _
 have h3 : (boolS.data.toList ++ [61] ++ trS.data.toList).length = 9 := rfl
 have h5 : (vB c).length = (Utf8.encode (c : Int)).data.toList.length := rfl
 unfold bareT
 split
 ·rw [h1]; omega
 ·rw [h4, h3, h5]; omega
theorem tr_shape (f : Sq) (hf : f.mi = false ∧ f.z = false ∧ f.wid = -1) (c : Nat) (hc : f.verb = c) (ask : Value) (W : World) : Calls Tryz.prog 138 #[WV f ask, .iface 255 (.bool true), .string boolS, .int .i64 0] W fun e W' => e = .returned (.tuple #[.string (if c = 116 ∨ c = 118 then trS else ⟨#[]⟩), .bool (decide (c = 116 ∨ c = 118))]) ∧ Below W.heap.size W W' := by
 obtain ⟨p, mi, sh, sp, z, wid, prec, verb⟩ := f
 obtain ⟨h1, h2, h3⟩ := hf
 dsimp only at h1 h2 h3 hc
 subst h1 h2 h3 hc
 refine shaped_truth _ ask boolS 0 _ _ W fun V => ?_
 by_cases h : c = 116 ∨ c = 118
 ·rw [if_pos h, decide_eq_true h]
  rcases h with h | h
  ·have := truth_t p false sh sp false (-1) prec c ask (by omega) V
   rw [pad_off] at this
   exact this
  ·have := truth_v p false sh sp false (-1) prec c ask (by omega) V
   rw [pad_off] at this
   exact this
 ·rw [if_neg h, decide_eq_false h]
  exact truth_n p false sh sp false (-1) prec c ask ⟨by omega, by omega⟩ V
theorem pick_bare (c : Nat) : (if decide (c = 116 ∨ c = 118) = true then (if c = 116 ∨ c = 118 then trS else ⟨#[]⟩) else badS c) = bareT c := by
 unfold bareT
 by_cases h : c = 116 ∨ c = 118
 ·rw [if_pos (decide_eq_true h), if_pos h]
  exact (if_pos h).symm
 ·rw [if_neg (by rw [decide_eq_false h]; decide)]
  exact (if_neg h).symm
theorem sh_none {h : Hk} (hh : PlH h) (f : Sq) (hf : f.mi = false ∧ f.z = false ∧ f.wid = -1) (c : Nat) (hc : f.verb = c) (h84 : ¬ c = 84) (hn : whN h f.verb f.sh = 0) : ShH h VT1 f (bareT c) := by
 rw [← pick_bare]
 exact shown_no hh flat_T boolS rfl (by omega) nilp_T hn (fun g W _ => tr_shape f hf c hc (FA g) W) (fun _ W e => by rw [hc]; exact bad_T c W e)
theorem pr_none (c : Nat) (h1 : 65 ≤ c) (h2 : c ≤ 122) (h3 : ¬ c = 91) (h84 : ¬ c = 84) : PrN (vcS c) (bareT c) := fun A W e hA hd => by
 have := print_1 (vcS c) (vcP c) (vc_prs c h1 h2 h3) (by show (vcS c).size ≤ 1000; show 2 ≤ 1000; decide) rfl rfl rfl rfl rfl rfl (by show ¬ c = 37; omega) A 1 (Nat.le_refl _) (by unfold maxLen; omega) 1 1 0 1 ⟨#[]⟩ ⟨#[]⟩ _ _ (bareT c) (Nat.le_trans (bareT_size c) (by decide)) W e.1 e.2 hA hd flat_T.vo (fun {V g C M l m dp av nx} hE => by
  have hA : ∀ V1, Below V.heap.size V V1 → ∀ V2, Below V1.heap.size V1 V2 → Calls Tryz.prog 137 #[WV (bareQ c) (FA g), VT1] V2 fun e W' => e = .returned (.tuple #[.string ⟨#[]⟩, .bool false]) ∧ EK W' ∧ Kx (fun _ => False) V2 W' := fun V1 b1 V2 b2 => by
   have E2 := (hE.up b1).up b2
   exact (asked_no (bareQ c) VT1 g V2 fun V3 b3 => ask_h (.inr rfl) g C M l dp m av nx VT1 1 ⟨#[]⟩ (bareQ c) V3 (E2.up b3).p (E2.up b3).c hE.n flat_T.mr).mono fun e W' ⟨h1, h2⟩ => ⟨h1, EK.up ⟨E2.e, E2.k⟩ h2, .of_below h2⟩
  have hTy : ∀ V, EK V → Calls Tryz.prog 68 #[VT1] V fun e W' => e = .returned (.string boolS) ∧ Below V.heap.size V W' := fun V e => type_own VT1 1 1 V boolS rfl e.2 flat_T.mr
  have hS := fun W (_ : EK W) => tr_shape (bareQ c) ⟨rfl, rfl, rfl⟩ c rfl (FA g) W
  have hw : ∀ V1, Below V.heap.size V V1 → Calls Tryz.prog 111 #[WV (bareQ c) (FA g), VT1, .int .i64 0] V1 fun e w' => e = .returned (.string (bareT c)) ∧ EK w' ∧ Kx (fun _ => False) V1 w' := fun V1 b1 => by
   by_cases h : c = 116 ∨ c = 118
   ·rw [if_pos h, decide_eq_true h] at hS
    rw [show bareT c = trS from if_pos h]
    exact written_n (bareQ c) (FA g) VT1 0 V1 boolS trS 255 (.bool true) (fun _ h => h.elim) (fun _ _ h b => h.up b) (hA V1 b1) (fun V2 _ => flat_T.sh V2) hTy hS
   ·rw [if_neg h, decide_eq_false h] at hS
    rw [show bareT c = badS c from if_neg h]
    exact written_nb (bareQ c) (FA g) VT1 0 V1 boolS ⟨#[]⟩ (badS c) 255 (.bool true) (fun _ h => h.elim) (fun _ _ h b => h.up b) (hA V1 b1) (fun V2 _ => flat_T.sh V2) hTy hS (fun W e => bad_T c W e)
  exact (shown_q (bareQ c) (by show ¬ (c : Int) = 84; omega) VT1 g (bareT c) V hw).mono fun e w' ⟨h1, _, h3⟩ => ⟨h1, kx_below h3⟩)
 rw [txt_in (bareT_size c)] at this
 exact this
theorem qt_named (u : ByteArray) (hu : u.size ≤ 100) (hX : (hexS u false false true (-1)).size ≤ 1000) (c : Nat) (hc : hnmB c = true) : ∃ T : ByteArray, T.size ≤ 1000 ∧ ∀ W, Esc W → Calls Tryz.prog 110 #[.string u, SV (bareQ c)] W fun e w' => e = .returned (.tuple #[.string T, .bool true]) ∧ Below W.heap.size W w' := by
 have h5 : c = 118 ∨ c = 115 ∨ c = 120 ∨ c = 88 ∨ c = 113 := by
  unfold hnmB at hc
  simp only [Bool.or_eq_true, beq_iff_eq] at hc
  omega
 rcases h5 with rfl | rfl | rfl | rfl | rfl
 ·refine ⟨u, by omega, fun W hE => ?_⟩
  have := text_v0 u false false false false (-1) (-1) W hE (by omega) (by decide)
  rw [pad_off, cut_off] at this
  exact this
 ·refine ⟨u, by omega, fun W hE => ?_⟩
  have := text_s0 u false false false false (-1) (-1) W hE (by omega) (by decide)
  rw [pad_off, cut_off] at this
  exact this
 ·have h4 := hexS_size u
  refine ⟨hexS u false false false (-1), by omega, fun W hE => ?_⟩
  have := text_x u false false false false false (-1) (-1) W hE (by omega) (by decide)
  rw [pad_off] at this
  exact this
 ·refine ⟨hexS u false false true (-1), hX, fun W hE => ?_⟩
  have := text_X u false false false false false (-1) (-1) W hE (by omega) (by decide)
  rw [pad_off] at this
  exact this
 ·have h4 := quoS_size4 u false
  refine ⟨quoS u false, by omega, fun W hE => ?_⟩
  have := text_q u false false false false false (-1) (-1) W hE (by omega) (by decide)
  rw [pad_off, cut_off] at this
  exact this
abbrev dX (u : ByteArray) : List Value := [.int .i64 16, .string ⟨#[]⟩, .int .u64 0, .int .u64 0, .string u, .slice none 0 0, .slice none 0 0, .int .i64 0]
abbrev PrX (s u T : ByteArray) : Prop := ∀ (A : Nat) (W : World), EK W → A < W.heap.size → W.rangeAt A 0 (dX u) → Calls Tryz.prog 9 #[.slice none 0 0, .string s, .slice (some ⟨A, 0, none⟩) 1 1] W fun e w' => e = .returned (.string T) ∧ Below W.heap.size W w'
theorem pr_named (u : ByteArray) (hu : u.size ≤ 100) (c : Nat) (h1 : 65 ≤ c) (h2 : c ≤ 122) (h3 : ¬ c = 91) (h84 : ¬ c = 84) {T : ByteArray} (hT : T.size ≤ 1000) (hq : ∀ W, Esc W → Calls Tryz.prog 110 #[.string u, SV (bareQ c)] W fun e w' => e = .returned (.tuple #[.string T, .bool true]) ∧ Below W.heap.size W w') : PrX (vcS c) u T := fun A W e hA hd => by
 have := print_1 (vcS c) (vcP c) (vc_prs c h1 h2 h3) (by show 2 ≤ 1000; decide) rfl rfl rfl rfl rfl rfl (by show ¬ c = 37; omega) A 1 (Nat.le_refl _) (by unfold maxLen; omega) 16 0 0 0 ⟨#[]⟩ u _ _ T (by omega) W e.1 e.2 hA hd (flat_X u (by omega)).vo (fun {_ _ _ _ _ _ _ _ _} hE => shown_flat (flat_X u (by omega)) _ rfl (bareQ c) (by show ¬ (c : Int) = 84; omega) T hE (fun V hV => shaped_text (bareQ c) _ _ u 0 T true V hV hq))
 rw [txt_in (by omega)] at this
 exact this
set_option maxRecDepth 1000000 in
theorem disp_prints (c : Nat) (h1 : 65 ≤ c) (h2 : c ≤ 122) (h3 : ¬ c = 91) (h84 : ¬ c = 84) (fo sy fa st : Bool) :
  ∃ S G : ByteArray, PrH (hkT fo sy fa st) (vcS c) S ∧ PrH (hkT fo sy fa st) ⟨#[37, 35, 118]⟩ G ∧ PrN (vcS c) (bareT c)
    ∧ (fo = true → S = ⟨#[70]⟩ ∧ G = ⟨#[70]⟩) ∧ (fo = false → sy = true → G = ⟨#[71]⟩) ∧ (fo = false → sy = false → G = trS)
    ∧ (fo = false → hnmB c = true → fa = true → PrX (vcS c) ⟨#[69]⟩ S) ∧ (fo = false → hnmB c = true → fa = false → st = true → PrX (vcS c) ⟨#[83]⟩ S)
    ∧ (fo = false → (hnmB c = false ∨ (fa = false ∧ st = false)) → S = bareT c) := by
 have hpl := hkT_pl fo sy fa st
 have ta : thB (hkT fo sy fa st).a = fo := acT_th _ _
 have tb : thB (hkT fo sy fa st).b = sy := acT_th _ _
 have tc : thB (hkT fo sy fa st).c = fa := acT_th _ _
 have td : thB (hkT fo sy fa st).d = st := acT_th _ _
 have hB := pr_none c h1 h2 h3 h84
 have hc84 : ¬ ((c : Nat) : Int) = 84 := by omega
 have pS := fun {T : ByteArray} (hT : T.size ≤ 4096) (h : ShH (hkT fo sy fa st) VT1 (bareQ c) T) => prH hpl (vcS c) (vcP c) (vc_prs c h1 h2 h3) (by show 2 ≤ 1000; decide) rfl rfl rfl rfl rfl rfl (by show ¬ c = 37; omega) hT h
 have pG := fun {T : ByteArray} (hT : T.size ≤ 4096) (h : ShH (hkT fo sy fa st) VT1 ⟨false, false, true, false, false, -1, -1, 118⟩ T) => prH hpl ⟨#[37, 35, 118]⟩ vsP rfl (by decide) rfl rfl rfl rfl rfl rfl (by decide) hT h
 have w1 : ∀ v s, fo = true → whN (hkT fo sy fa st) v s = 1 := fun v s h => by unfold whN; rw [if_pos (by rw [ta]; exact h)]
 have wS : fo = false → whN (hkT fo sy fa st) c false = if hnmB c = true then (if fa then 3 else if st then 4 else 0) else 0 := fun h => by
  unfold whN fst34
  rw [if_neg (by rw [ta, h]; decide), if_neg (by simp), tc, td]
 have wG : fo = false → whN (hkT fo sy fa st) 118 true = if sy then 2 else 0 := fun h => by
  unfold whN fst2
  rw [if_neg (by rw [ta, h]; decide), if_pos ⟨rfl, rfl⟩, tb]
 cases fo with
 | true =>
   have sa : ∀ f, whN (hkT true sy fa st) f.verb f.sh = 1 → ¬ f.verb = 84 → ShH (hkT true sy fa st) VT1 f ⟨#[70]⟩ := fun f hn hv => shown_say hpl flat_T hv nilp_T (fun g W e => say_1 g hn rfl W e)
   exact ⟨_, _, pS (by decide) (sa (bareQ c) (w1 _ _ rfl) hc84), pG (by decide) (sa ⟨false, false, true, false, false, -1, -1, 118⟩ (w1 _ _ rfl) (by decide)), hB, fun _ => ⟨rfl, rfl⟩, fun h => (by cases h), fun h => (by cases h), fun h => (by cases h), fun h => (by cases h), fun h => (by cases h)⟩
 | false =>
   have wS := wS rfl
   have wG := wG rfl
   obtain ⟨G, hG, g1, g2⟩ : ∃ G, PrH (hkT false sy fa st) ⟨#[37, 35, 118]⟩ G ∧ (sy = true → G = ⟨#[71]⟩) ∧ (sy = false → G = trS) := by
    cases sy with
    | true => exact ⟨_, pG (T := ⟨#[71]⟩) (by decide) (shown_say hpl flat_T (by decide) nilp_T (fun g W e => say_2 g (by exact wG) rfl W e)), fun _ => rfl, fun h => (by cases h)⟩
    | false => exact ⟨_, pG (T := bareT 118) (by decide) (sh_none hpl ⟨false, false, true, false, false, -1, -1, 118⟩ ⟨rfl, rfl, rfl⟩ 118 rfl (by decide) (by exact wG)), fun h => (by cases h), fun _ => rfl⟩
   have hno : whN (hkT false sy fa st) c false = 0 → PrH (hkT false sy fa st) (vcS c) (bareT c) := fun h => pS (bareT_size c) (sh_none hpl (bareQ c) ⟨rfl, rfl, rfl⟩ c rfl h84 h)
   by_cases hN : hnmB c = true
   ·rw [if_pos hN] at wS
    cases fa with
    | true =>
      obtain ⟨T, zT, qT⟩ := qt_named ⟨#[69]⟩ (by decide) (by decide +kernel) c hN
      have w3 : whN (hkT false sy true st) (bareQ c).verb (bareQ c).sh = 3 := wS.trans (by rfl)
      have k3 : (hkT false sy true st).c.k = 1 := rfl
      have t3 : (hkT false sy true st).c.t = ⟨#[69]⟩ := rfl
      have q3 : ∀ W, Esc W → Calls Tryz.prog 110 #[.string (hkT false sy true st).c.t, SV (bareQ c)] W fun e w' => e = .returned (.tuple #[.string T, .bool true]) ∧ Below W.heap.size W w' := by rw [t3]; exact qT
      exact ⟨T, G, pS (by omega) (shown_say (f := bareQ c) hpl flat_T hc84 nilp_T (fun g W e => say_3 g w3 k3 q3 W e)), hG, hB, fun h => (by cases h), fun _ => g1, fun _ => g2, fun _ _ _ => pr_named _ (by decide) c h1 h2 h3 h84 zT qT, fun _ _ h => (by cases h), fun _ h => h.elim (fun h => (by rw [hN] at h; cases h)) (fun h => (by cases h.1))⟩
    | false =>
      cases st with
      | true =>
        obtain ⟨T, zT, qT⟩ := qt_named ⟨#[83]⟩ (by decide) (by decide +kernel) c hN
        have w4 : whN (hkT false sy false true) (bareQ c).verb (bareQ c).sh = 4 := wS.trans (by rfl)
        have k4 : (hkT false sy false true).d.k = 1 := rfl
        have t4 : (hkT false sy false true).d.t = ⟨#[83]⟩ := rfl
        have q4 : ∀ W, Esc W → Calls Tryz.prog 110 #[.string (hkT false sy false true).d.t, SV (bareQ c)] W fun e w' => e = .returned (.tuple #[.string T, .bool true]) ∧ Below W.heap.size W w' := by rw [t4]; exact qT
        exact ⟨T, G, pS (by omega) (shown_say (f := bareQ c) hpl flat_T hc84 nilp_T (fun g W e => say_4 g w4 k4 q4 W e)), hG, hB, fun h => (by cases h), fun _ => g1, fun _ => g2, fun _ _ h => (by cases h), fun _ _ _ _ => pr_named _ (by decide) c h1 h2 h3 h84 zT qT, fun _ h => h.elim (fun h => (by rw [hN] at h; cases h)) (fun h => (by cases h.2))⟩
      | false => exact ⟨bareT c, G, hno wS, hG, hB, fun h => (by cases h), fun _ => g1, fun _ => g2, fun _ _ h => (by cases h), fun _ _ _ h => (by cases h), fun _ _ => rfl⟩
   ·rw [if_neg hN] at wS
    exact ⟨bareT c, G, hno wS, hG, hB, fun h => (by cases h), fun _ => g1, fun _ => g2, fun _ h => absurd h hN, fun _ h => absurd h hN, fun _ _ => rfl⟩
end Go.Proofs.YtdlnmnipnkeabaaGreatDoor
