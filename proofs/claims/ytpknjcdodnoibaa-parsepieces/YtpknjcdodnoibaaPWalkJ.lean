/- Package parse: the directive, whatever stands there; the piece. -/
import Derived.Test.YtpknjcdodnoibaaPWalkI
namespace Go.Proofs.Ytpknjcdodnoibaa
open Go.RowKit
set_option linter.unusedVariables false
set_option linter.unusedSimpArgs false

theorem directive_any (s : ByteArray) (R F P : Nat) (l : Bs) : DrC s R F P l := fun w h => by
  have hF := flags_any s R F P l
  have hW := fun P => width_any s R F P (flg l fl0).2
  have hS := fun a b c => single_any a b c
  by_cases hp : hd (wdh (flg l fl0).2).2.2 = 46
  · have hm : mid (flg l fl0).2 = ((wdh (flg l fl0).2).1, spl (wdh (flg l fl0).2).2.1, (prc (wdh (flg l fl0).2).2.2.tail).1, (prc (wdh (flg l fl0).2).2.2.tail).2.1, (prc (wdh (flg l fl0).2).2.2.tail).2.2) := if_pos hp
    unfold drest dir ahd pcV
    rw [hm]
    dsimp only
    exact dir_point hF hW hp (spoilt_any _) (fun P => prec_any s R F P _) (fun P => index_any s R F P _) (single_any _ _ _) rfl rfl w h
  · have hm : mid (flg l fl0).2 = ((wdh (flg l fl0).2).1, (wdh (flg l fl0).2).2.1, nb0, ix0, (wdh (flg l fl0).2).2.2) := if_neg hp
    unfold drest dir ahd pcV
    rw [hm]
    dsimp only
    exact dir_plain hF hW hp rfl rfl (fun P => index_any s R F P _) (single_any _ _ _) rfl rfl w h

abbrev PiC (s : ByteArray) (R F P : Nat) (l : Bs) : Prop := ∀ w, RdW s R F P l w → Calls Try.prog 11 #[.pointer (some ⟨R, 0, none⟩)] w fun e w' => e = .returned (.agg (pcV (pce l []) ⟨#[]⟩).toArray) ∧ (∃ P', RdW s R F P' (prest l) w') ∧ w.grownBy w' (some R)
set_option maxRecDepth 1000000 in
set_option maxHeartbeats 4000000 in
theorem piece_dir {s : ByteArray} {R F P : Nat} {l l2 : Bs} {pv : List Value} (hh : hd l = 37) (hD : ∀ P w, RdW s R F P l.tail w → Calls Try.prog 15 #[.pointer (some ⟨R, 0, none⟩)] w fun e w' => e = .returned (.agg pv.toArray) ∧ (∃ P', RdW s R F P' l2 w') ∧ w.grownBy w' (some R)) (hl : pv.length = 20) (h1 : ∀ v ∈ pv, v.oneCell' = true)
    (w : World) (h : RdW s R F P l w) : Calls Try.prog 11 #[.pointer (some ⟨R, 0, none⟩)] w fun e w' => e = .returned (.agg pv.toArray) ∧ (∃ P', RdW s R F P' l2 w') ∧ w.grownBy w' (some R) := by
  have hT := take_yes (s := s) (R := R) (F := F) (P := P) (l := l) (c := 37) (by omega) (by omega) hh
  obtain ⟨W1, hW1⟩ : ∃ W1, W1 = w.alloc (.cells #[.int .i64 0, .string ⟨#[]⟩, .bool false, .bool false, .bool false, .bool false, .bool false, .int .i64 0, .int .i64 0, .int .i32 0, .int .i64 0, .int .i64 0, .int .i64 0, .int .i64 0, .int .i64 0, .int .i64 0, .int .i64 0, .int .i64 0, .int .i64 0, .int .i64 0] 40) := ⟨_, rfl⟩
  have hx1 : Bx W1 w.heap.size (pieceV 0 ⟨#[]⟩ fl0 0 0 nb0 nb0 ix0) := by rw [hW1]; exact Bx.new _ _ _
  have hb1 : Below w.heap.size w W1 := by rw [hW1]; exact (Below.refl _ _).alloc (Nat.le_refl _) _
  have h2 := h.up hb1
  have hRw : R < w.heap.size := lt_of_cell9 h.a
  have hFw : F < w.heap.size := lt_of_cell9 h.f
  have n1 : w.heap.size ≠ R := by omega
  have n2 : w.heap.size ≠ F := by omega
  go_enter Try.func11, Try.ntmps11
  go_upto_region 1 with fail
  rw [← hW1]
  clear hW1
  go_upto_region 2 with (go_at_call 14; refine (hT _ h2).mono ?_; rintro e w3 ⟨rfl, h3, g3⟩; have hx3 := hx1.grown g3 n1)
  go_wp2_with (first
    | (go_at_call 15; refine (hD _ _ h3).mono ?_; rintro e w4 ⟨rfl, ⟨P4, h4⟩, g4⟩; have hx4 := hx3.grown g4 n1; generalize hpv : pv.toArray = pa at *)
    | (refine wpl_store20 rfl (.tmp 2) (.tmp 6) rfl (us := pv) rfl (by rw [hpv]; rfl) hx4 rfl hl h1 ?_; have fA : Bx (w4.setCells w.heap.size 0 pv) w.heap.size pv := hx4.all _ hl; have fR : RdW s R F P4 l2 (w4.setCells w.heap.size 0 pv) := h4.sc n1 n2 _ _; have fG : w.grownBy (w4.setCells w.heap.size 0 pv) (some R) := gr_sc ((gr_below hb1 _).trans (g3.trans g4)) (Nat.le_refl _) _ _; generalize w4.setCells w.heap.size 0 pv = Wf at *))
  refine bodyPost_ret (res20 Try.results11 rfl fA hl) rfl ?_
  rw [hpv]
  exact ⟨rfl, ⟨P4, fR⟩, fG⟩
set_option maxRecDepth 1000000 in
set_option maxHeartbeats 4000000 in
theorem piece_lit {s : ByteArray} {R F P : Nat} {l : Bs} (hh : hd l ≠ 37) (w : World) (h : RdW s R F P l w) : Calls Try.prog 11 #[.pointer (some ⟨R, 0, none⟩)] w fun e w' => e = .returned (.agg (pieceV 0 ⟨#[]⟩ fl0 0 0 nb0 nb0 ix0).toArray) ∧ (∃ P', RdW s R F P' (l.dropWhile noPc) w') ∧ w.grownBy w' (some R) := by
  have hT := take_no (s := s) (R := R) (F := F) (P := P) (l := l) (c := 37) (by omega) (by omega) hh
  have hL := literal_any s R F P l
  obtain ⟨W1, hW1⟩ : ∃ W1, W1 = w.alloc (.cells #[.int .i64 0, .string ⟨#[]⟩, .bool false, .bool false, .bool false, .bool false, .bool false, .int .i64 0, .int .i64 0, .int .i32 0, .int .i64 0, .int .i64 0, .int .i64 0, .int .i64 0, .int .i64 0, .int .i64 0, .int .i64 0, .int .i64 0, .int .i64 0, .int .i64 0] 40) := ⟨_, rfl⟩
  have hx1 : Bx W1 w.heap.size (pieceV 0 ⟨#[]⟩ fl0 0 0 nb0 nb0 ix0) := by rw [hW1]; exact Bx.new _ _ _
  have hb1 : Below w.heap.size w W1 := by rw [hW1]; exact (Below.refl _ _).alloc (Nat.le_refl _) _
  have h2 := h.up hb1
  have hRw : R < w.heap.size := lt_of_cell9 h.a
  have hFw : F < w.heap.size := lt_of_cell9 h.f
  have n1 : w.heap.size ≠ R := by omega
  have n2 : w.heap.size ≠ F := by omega
  go_enter Try.func11, Try.ntmps11
  go_upto_region 1 with fail
  rw [← hW1]
  clear hW1
  go_upto_region 4 with (first
    | (go_at_call 14; refine (hT _ h2).mono ?_; rintro e w3 ⟨rfl, h3, g3⟩; have hx3 := hx1.grown g3 n1)
    | (go_at_call 16; refine (hL _ h3).mono ?_; rintro e w4 ⟨rfl, ⟨P4, h4⟩, g4⟩; have hx4 := hx3.grown g4 n1))
  go_wp2_with (refine wpl_store20 rfl (.tmp 2) (.tmp 9) rfl (us := pieceV 0 ⟨#[]⟩ fl0 0 0 nb0 nb0 ix0) rfl rfl hx4 rfl rfl (pv_one _ _ _ _ _ _ _ _) ?_; have fA : Bx (w4.setCells w.heap.size 0 (pieceV 0 ⟨#[]⟩ fl0 0 0 nb0 nb0 ix0)) w.heap.size (pieceV 0 ⟨#[]⟩ fl0 0 0 nb0 nb0 ix0) := hx4.all _ rfl; have fR : RdW s R F P4 (l.dropWhile noPc) (w4.setCells w.heap.size 0 (pieceV 0 ⟨#[]⟩ fl0 0 0 nb0 nb0 ix0)) := h4.sc n1 n2 _ _; have fG : w.grownBy (w4.setCells w.heap.size 0 (pieceV 0 ⟨#[]⟩ fl0 0 0 nb0 nb0 ix0)) (some R) := gr_sc ((gr_below hb1 _).trans (g3.trans g4)) (Nat.le_refl _) _ _; generalize w4.setCells w.heap.size 0 (pieceV 0 ⟨#[]⟩ fl0 0 0 nb0 nb0 ix0) = Wf at *)
  refine bodyPost_ret (res20 Try.results11 rfl fA rfl) rfl ?_
  exact ⟨rfl, ⟨P4, fR⟩, fG⟩
theorem piece_any (s : ByteArray) (R F P : Nat) (l : Bs) : PiC s R F P l := fun w h => by
  unfold pce prest
  by_cases hh : hd l = 37
  · rw [if_pos hh, if_pos hh]
    exact piece_dir hh (fun P => directive_any s R F P l.tail) rfl (pv_one _ _ _ _ _ _ _ _) w h
  · rw [if_neg hh, if_neg hh]
    exact piece_lit hh w h
end Go.Proofs.Ytpknjcdodnoibaa
