/- PWalkJ, PWalkK, PLive, ZPc, ZDir, ZStar: these texts in one. -/
import Derived.Test.YtdlnmnipnkeabaaGreatDoorPt16
import Derived.Great.BuildSlice
import Derived.OwnWalk
import Derived.Laws.EntriesVeiled
import Derived.Test.YtdlnmnipnkeabaaGreatDoorPt12
namespace Go.Proofs.YtdlnmnipnkeabaaGreatDoor
open Go.RowKit
set_option linter.unusedVariables false
set_option linter.unusedSimpArgs false
theorem directive_any (s : ByteArray) (R F P : Nat) (l : Bs) : DrC s R F P l := fun w h => by
 have hF := flags_any s R F P l
 have hW := fun P => pwidth_any s R F P (flg l fl0).2
 have hS := fun a b c => single_any a b c
 by_cases hp : hd (wdh (flg l fl0).2).2.2 = 46
 ·have hm : mid (flg l fl0).2 = ((wdh (flg l fl0).2).1, spl (wdh (flg l fl0).2).2.1, (prc (wdh (flg l fl0).2).2.2.tail).1, (prc (wdh (flg l fl0).2).2.2.tail).2.1, (prc (wdh (flg l fl0).2).2.2.tail).2.2) := if_pos hp
  unfold drest dir ahd pcV
  rw [hm]
  dsimp only
  exact dir_point hF hW hp (spoilt_any _) (fun P => pprec_any s R F P _) (fun P => index_any s R F P _) (single_any _ _ _) rfl rfl w h
 ·have hm : mid (flg l fl0).2 = ((wdh (flg l fl0).2).1, (wdh (flg l fl0).2).2.1, nb0, ix0, (wdh (flg l fl0).2).2.2) := if_neg hp
  unfold drest dir ahd pcV
  rw [hm]
  dsimp only
  exact dir_plain hF hW hp rfl rfl (fun P => index_any s R F P _) (single_any _ _ _) rfl rfl w h
abbrev PiC (s : ByteArray) (R F P : Nat) (l : Bs) : Prop := ∀ w, RdW s R F P l w → Calls Tryz.prog 63 #[.pointer (some ⟨R, 0, none⟩)] w fun e w' => e = .returned (.agg (pcV (pce l []) ⟨#[]⟩).toArray) ∧ (∃ P', RdW s R F P' (prest l) w') ∧ w.grownBy w' (some R)
set_option maxRecDepth 1000000 in
set_option maxHeartbeats 4000000 in
theorem piece_dir {s : ByteArray} {R F P : Nat} {l l2 : Bs} {pv : List Value} (hh : hd l = 37) (hD : ∀ P w, RdW s R F P l.tail w → Calls Tryz.prog 77 #[.pointer (some ⟨R, 0, none⟩)] w fun e w' => e = .returned (.agg pv.toArray) ∧ (∃ P', RdW s R F P' l2 w') ∧ w.grownBy w' (some R)) (hl : pv.length = 20) (h1 : ∀ v ∈ pv, v.oneCell' = true)
  (w : World) (h : RdW s R F P l w) : Calls Tryz.prog 63 #[.pointer (some ⟨R, 0, none⟩)] w fun e w' => e = .returned (.agg pv.toArray) ∧ (∃ P', RdW s R F P' l2 w') ∧ w.grownBy w' (some R) := by
 have hT := take_yes (s := s) (R := R) (F := F) (P := P) (l := l) (c := 37) (by omega) (by omega) hh
 obtain ⟨W1, hW1⟩ : ∃ W1, W1 = w.alloc (.cells #[.int .i64 0, .string ⟨#[]⟩, .bool false, .bool false, .bool false, .bool false, .bool false, .int .i64 0, .int .i64 0, .int .i32 0, .int .i64 0, .int .i64 0, .int .i64 0, .int .i64 0, .int .i64 0, .int .i64 0, .int .i64 0, .int .i64 0, .int .i64 0, .int .i64 0] 119) := ⟨_, rfl⟩
 have hx1 : Bx W1 w.heap.size (pieceV 0 ⟨#[]⟩ fl0 0 0 nb0 nb0 ix0) := by rw [hW1]; exact Bx.new _ _ _
 have hb1 : Below w.heap.size w W1 := by rw [hW1]; exact (Below.refl _ _).alloc (Nat.le_refl _) _
 have h2 := h.up hb1
 have hRw : R < w.heap.size := lt_of_cell9 h.a
 have hFw : F < w.heap.size := lt_of_cell9 h.f
 have n1 : w.heap.size ≠ R := by omega
 have n2 : w.heap.size ≠ F := by omega
 go_enter Tryz.func63, Tryz.ntmps63
 go_upto_region 1 with fail
 rw [← hW1]
 clear hW1
 go_upto_region 2 with (go_at_call 76; refine (hT _ h2).mono ?_; rintro e w3 ⟨rfl, h3, g3⟩; have hx3 := hx1.grown g3 n1)
 go_wp2_with (first
  | (go_at_call 77; refine (hD _ _ h3).mono ?_; rintro e w4 ⟨rfl, ⟨P4, h4⟩, g4⟩; have hx4 := hx3.grown g4 n1; generalize hpv : pv.toArray = pa at *)
  | (refine wpl_store20 rfl (.tmp 2) (.tmp 6) rfl (us := pv) rfl (by rw [hpv]; rfl) hx4 rfl hl h1 ?_; have fA : Bx (w4.setCells w.heap.size 0 pv) w.heap.size pv := hx4.all _ hl; have fR : RdW s R F P4 l2 (w4.setCells w.heap.size 0 pv) := h4.sc n1 n2 _ _; have fG : w.grownBy (w4.setCells w.heap.size 0 pv) (some R) := gr_sc ((gr_below hb1 _).trans (g3.trans g4)) (Nat.le_refl _) _ _; generalize w4.setCells w.heap.size 0 pv = Wf at *))
 refine bodyPost_ret (res20 Tryz.results63 rfl fA hl) rfl ?_
 rw [hpv]
 exact ⟨rfl, ⟨P4, fR⟩, fG⟩
set_option maxRecDepth 1000000 in
set_option maxHeartbeats 4000000 in
theorem piece_lit {s : ByteArray} {R F P : Nat} {l : Bs} (hh : hd l ≠ 37) (w : World) (h : RdW s R F P l w) : Calls Tryz.prog 63 #[.pointer (some ⟨R, 0, none⟩)] w fun e w' => e = .returned (.agg (pieceV 0 ⟨#[]⟩ fl0 0 0 nb0 nb0 ix0).toArray) ∧ (∃ P', RdW s R F P' (l.dropWhile noPc) w') ∧ w.grownBy w' (some R) := by
 have hT := take_no (s := s) (R := R) (F := F) (P := P) (l := l) (c := 37) (by omega) (by omega) hh
 have hL := literal_any s R F P l
 obtain ⟨W1, hW1⟩ : ∃ W1, W1 = w.alloc (.cells #[.int .i64 0, .string ⟨#[]⟩, .bool false, .bool false, .bool false, .bool false, .bool false, .int .i64 0, .int .i64 0, .int .i32 0, .int .i64 0, .int .i64 0, .int .i64 0, .int .i64 0, .int .i64 0, .int .i64 0, .int .i64 0, .int .i64 0, .int .i64 0, .int .i64 0] 119) := ⟨_, rfl⟩
 have hx1 : Bx W1 w.heap.size (pieceV 0 ⟨#[]⟩ fl0 0 0 nb0 nb0 ix0) := by rw [hW1]; exact Bx.new _ _ _
 have hb1 : Below w.heap.size w W1 := by rw [hW1]; exact (Below.refl _ _).alloc (Nat.le_refl _) _
 have h2 := h.up hb1
 have hRw : R < w.heap.size := lt_of_cell9 h.a
 have hFw : F < w.heap.size := lt_of_cell9 h.f
 have n1 : w.heap.size ≠ R := by omega
 have n2 : w.heap.size ≠ F := by omega
 go_enter Tryz.func63, Tryz.ntmps63
 go_upto_region 1 with fail
 rw [← hW1]
 clear hW1
 go_upto_region 4 with (first
  | (go_at_call 76; refine (hT _ h2).mono ?_; rintro e w3 ⟨rfl, h3, g3⟩; have hx3 := hx1.grown g3 n1)
  | (go_at_call 78; refine (hL _ h3).mono ?_; rintro e w4 ⟨rfl, ⟨P4, h4⟩, g4⟩; have hx4 := hx3.grown g4 n1))
 go_wp2_with (refine wpl_store20 rfl (.tmp 2) (.tmp 9) rfl (us := pieceV 0 ⟨#[]⟩ fl0 0 0 nb0 nb0 ix0) rfl rfl hx4 rfl rfl (pv_one _ _ _ _ _ _ _ _) ?_; have fA : Bx (w4.setCells w.heap.size 0 (pieceV 0 ⟨#[]⟩ fl0 0 0 nb0 nb0 ix0)) w.heap.size (pieceV 0 ⟨#[]⟩ fl0 0 0 nb0 nb0 ix0) := hx4.all _ rfl; have fR : RdW s R F P4 (l.dropWhile noPc) (w4.setCells w.heap.size 0 (pieceV 0 ⟨#[]⟩ fl0 0 0 nb0 nb0 ix0)) := h4.sc n1 n2 _ _; have fG : w.grownBy (w4.setCells w.heap.size 0 (pieceV 0 ⟨#[]⟩ fl0 0 0 nb0 nb0 ix0)) (some R) := gr_sc ((gr_below hb1 _).trans (g3.trans g4)) (Nat.le_refl _) _ _; generalize w4.setCells w.heap.size 0 (pieceV 0 ⟨#[]⟩ fl0 0 0 nb0 nb0 ix0) = Wf at *)
 refine bodyPost_ret (res20 Tryz.results63 rfl fA rfl) rfl ?_
 exact ⟨rfl, ⟨P4, fR⟩, fG⟩
theorem piece_any (s : ByteArray) (R F P : Nat) (l : Bs) : PiC s R F P l := fun w h => by
 unfold pce prest
 by_cases hh : hd l = 37
 ·rw [if_pos hh, if_pos hh]
  exact piece_dir hh (fun P => directive_any s R F P l.tail) rfl (pv_one _ _ _ _ _ _ _ _) w h
 ·rw [if_neg hh, if_neg hh]
  exact piece_lit hh w h
end Go.Proofs.YtdlnmnipnkeabaaGreatDoor
namespace Go.Proofs.YtdlnmnipnkeabaaGreatDoor
open Go.RowKit
set_option linter.unusedVariables false
set_option linter.unusedSimpArgs false
def ba (l : Bs) : ByteArray := ⟨l.toArray⟩
def rowP : List Pc → List Value
 | [] => []
 | p :: t => pcV p (ba p.text) ++ rowP t
theorem rowP_snoc : ∀ (ps : List Pc) (p : Pc), rowP (ps ++ [p]) = rowP ps ++ pcV p (ba p.text)
 | [], p => by simp [rowP]
 | q :: t, p => by rw [List.cons_append, rowP, rowP, rowP_snoc t p, List.append_assoc]
theorem pcV_one (p : Pc) (t : ByteArray) : ∀ u ∈ pcV p t, u.oneCell' = true := pv_one _ _ _ _ _ _ _ _
theorem pcV_text (l a b : Bs) (t : ByteArray) : pcV (pce l a) t = pcV (pce l b) t := by
 unfold pce
 split <;> rfl
theorem pce_text (l a : Bs) : (pce l a).text = a := by
 unfold pce
 split <;> rfl
theorem ext_at {s : ByteArray} {P P' : Nat} {l l' : Bs} (hd : s.data.toList.drop P = l) (he : P + l.length = s.size) (he' : P' + l'.length = s.size) : s.extract P P' = ba (l.take (l.length - l'.length)) := by
 have hl : (s.extract P P').data.toList = l.take (l.length - l'.length) := by
  rw [← hd]
  rw [show (s.extract P P').data = s.data.extract P P' by simp [ByteArray.data_extract]]
  rw [Array.toList_extract]
  rw [List.extract_eq_take_drop, hd]
  congr 1
  omega
 unfold ba
 rw [← hl]
theorem build20 (p : Pc) (t : ByteArray) : ∀ (ie : TypeInfo) (z : Value), Tryz.prog.info? 119 = some ie → ie.zero = some z → Instr.fill (fun i => some (i * ie.size, ie.size)) ((Array.range (1 * ie.size)).map (z.cells[· % z.cells.size]!)) [(0, .agg (pcV p t).toArray)] = some (pcV p t).toArray := by
 intro ie z h1 h2
 have hs : ie.size = 20 := by have := info20; rw [h1] at this; exact Option.some.inj this
 have hz : z = .agg (pieceV 0 ⟨#[]⟩ fl0 0 0 nb0 nb0 ix0).toArray := by
  have : (Tryz.prog.info? 119).bind (·.zero) = some (.agg (pieceV 0 ⟨#[]⟩ fl0 0 0 nb0 nb0 ix0).toArray) := by kernel_rfl
  rw [h1] at this
  exact Option.some.inj (h2.symm.trans this)
 rw [hs]
 have h := Great.fill_whole (s := 20) (by omega) [Value.agg (pcV p t).toArray] ((Array.range (1 * 20)).map (z.cells[· % z.cells.size]!)) (fun v hv => by simp at hv; subst hv; rfl) (by simp)
 simpa [Value.cells] using h
theorem wpl_build20 {ops : Array Oper} {rest : List Oper} {op : Oper} {a : Act} {w : World} {Q : Exit → Act → World → Prop} (hgd : op.guard = none) (x : Operand) (ho : op.op = .buildSlice 110 1 #[(0, x)]) (p : Pc) (t : ByteArray)
  (hx : a.eval x = .agg (pcV p t).toArray)
  (h : wpList Tryz.prog ops Q rest (a.put op.dst (.slice (some ⟨w.heap.size, 0, none⟩) 1 1)) (w.alloc (.cells (pcV p t).toArray 119))) : wpList Tryz.prog ops Q (op :: rest) a w := by
 obtain ⟨ie, hi, -⟩ := Option.map_eq_some_iff.1 info20
 have hs : ie.size = 20 := by have := info20; rw [hi] at this; exact Option.some.inj this
 obtain ⟨z, hz⟩ : ∃ z, ie.zero = some z := by
  have : (Tryz.prog.info? 119).bind (·.zero) = some (.agg (pieceV 0 ⟨#[]⟩ fl0 0 0 nb0 nb0 ix0).toArray) := by kernel_rfl
  rw [hi] at this
  exact ⟨_, this⟩
 refine wpList_buildSlice hgd 110 119 1 #[(0, x)] ho _ ie z Tryz.underlying110 hi hz (by rw [hs]; decide) (by rw [hs]; decide) ?_ h
 have := build20 p t ie z hi hz
 simpa [hx] using this
def PsC (s : ByteArray) : Prop := ∀ w : World, Calls Tryz.prog 54 #[.string s] w fun e w' => ∃ v, e = .returned v ∧ w'.ownsRow w.heap.size 119 20 v (prs s.data.toList).length (rowP (prs s.data.toList)) ∧ Below w.heap.size w w'
theorem own_mono9 {w : World} {b b' : Nat} {e : TypeId} {z : Nat} {v : Value} {n : Nat} {xs : List Value} (h : w.ownsRow b e z v n xs) (hb : b' ≤ b) : w.ownsRow b' e z v n xs := by
 obtain ⟨h1, h2⟩ := h
 refine ⟨h1, ?_⟩
 rcases h2 with h2 | ⟨g, cap, cur, hv, hg, r⟩
 ·exact .inl h2
 ·exact .inr ⟨g, cap, cur, hv, Nat.le_trans hb hg, r⟩
theorem own_slice9 {w : World} {b : Nat} {e : TypeId} {z : Nat} {v : Value} {n : Nat} {xs : List Value} (h : w.ownsRow b e z v n xs) : ∃ a c, v = .slice a n c ∧ n ≤ c ∧ c ≤ maxLen := by
 rcases h.2 with ⟨rfl, rfl⟩ | ⟨g, cap, cur, rfl, -, -, h4, h5, -⟩
 ·exact ⟨none, 0, rfl, by omega, by omega⟩
 ·exact ⟨_, _, rfl, h4, h5⟩
theorem gr_scs (w : World) (B o : Nat) (vs : List Value) : w.grownBy (w.setCells B o vs) (some B) := by
 obtain ⟨h1, h2, h3⟩ := sc_rest B vs w o
 exact ⟨h1, h2, h3, by rw [sc_size]; exact Nat.le_refl _, fun k hk hne => sc_heap B k (fun e => hne (by rw [e])) _ _ _⟩
theorem gr_sets (w : World) (B o : Nat) (v : Value) : w.grownBy (w.setCell ⟨B, o, none⟩ v) (some B) := gr_put (gr_refl _ _) _
theorem own_far {w w' : World} {b B : Nat} {e : TypeId} {z : Nat} {v : Value} {n : Nat} {xs : List Value} (h : w.ownsRow b e z v n xs) (hg : w.grownBy w' (some B)) (hB : B < b ∨ w.heap.size ≤ B) : w'.ownsRow b e z v n xs :=
 h.kept hg (.inr fun e => by
  have := h.lt B e
  omega)
set_option maxRecDepth 1000000 in
set_option maxHeartbeats 4000000 in
theorem parse_any (s : ByteArray) (hs : s.size ≤ 1000000) : PsC s := fun w => by
 obtain ⟨i0, hi⟩ : ∃ i0, Tryz.prog.info? 119 = some i0 := ⟨_, rfl⟩
 have hz0 : i0.zero = some (.agg (pieceV 0 ⟨#[]⟩ fl0 0 0 nb0 nb0 ix0).toArray) := by
  have : (Tryz.prog.info? 119).bind (·.zero) = some (.agg (pieceV 0 ⟨#[]⟩ fl0 0 0 nb0 nb0 ix0).toArray) := by kernel_rfl
  rw [hi] at this; exact this
 have hz1 : i0.size = 20 := by
  have := info20
  rw [hi] at this; exact Option.some.inj this
 have hz2 : i0.bytes = 136 := by
  have : (Tryz.prog.info? 119).map (·.bytes) = some 136 := by kernel_rfl
  rw [hi] at this; exact Option.some.inj this
 obtain ⟨W1, hW1⟩ : ∃ W1, W1 = (w.alloc (.cells #[.string s] 9)).alloc (.cells #[.int .i64 0, .func (.func 61) #[] #[.pointer (some ⟨w.heap.size, 0, none⟩)]] 131) := ⟨_, rfl⟩
 have hb1 : Below w.heap.size w W1 := by rw [hW1]; go_grown
 have hr1 : RdW s (w.heap.size + 1) w.heap.size 0 s.data.toList W1 := by
  rw [hW1]
  exact ⟨by simp, by simp, by simp, by simp, rfl, by rw [list_len]; omega, by omega, by omega⟩
 have hsz1 : W1.heap.size = w.heap.size + 2 := by rw [hW1]; simp
 have hlen := list_len s
 have hsI : (s.size : Int) ≤ 1000000 := by omega
 go_enter Tryz.func54, Tryz.ntmps54
 go_wp2
 rw [← hW1]
 clear hW1
 have HL : Hid (s.data.toList.length = s.size) := hlen
 clear hlen
 generalize hR : w.heap.size + 1 = R at *
 generalize hF : w.heap.size = F at *
 go_loopg [4, 5, 6] s.size (fun g pv bv qv wr => ∃ (P : Nat) (l : Bs) (ps : List Pc), RdW s R F P l wr ∧ l.length ≤ g ∧ Hid (prs s.data.toList = ps ++ prs l) ∧ ps.length ≤ P ∧ wr.ownsRow (F + 2) 119 20 pv ps.length (rowP ps) ∧ Below F w wr ∧ F + 2 ≤ wr.heap.size)
 case atStart => exact ⟨0, s.data.toList, [], hr1, by rw [HL.out]; exact Nat.le_refl _, rfl, Nat.le_refl _, World.ownsRow_nil _ _ _ _, hb1, by omega⟩
 case round =>
  obtain ⟨P, l, ps, h, hg, HP, hpl, hown, hbl, hsz⟩ := hrel
  clear hr1 hsz1 hb1
  obtain ⟨ao, ca, rfl, -, -⟩ := own_slice9 hown
  have r0 := h.a
  have f0 := h.f
  have he := h.e
  by_cases hl : l = []
  ·have hPs : ¬ (P : Int) < s.size := by rw [hl] at he; simp at he; omega
   have HF : Hid (prs s.data.toList = ps) := by
    show _ = _
    rw [HP.out, hl, prs_nil, List.append_nil]
   go_wp2
   go_ret
   rw [HF.out]
   exact ⟨_, rfl, own_mono9 hown (by omega), hbl⟩
  ·have hll := List.length_pos_iff.2 hl
   have hPs : (P : Int) < s.size := by omega
   have hlt := prest_lt hl
   have hFR : F ≠ R := h.ne
   have hPc := piece_any s R F P l
   obtain ⟨l1, hl1⟩ : ∃ l1, prest l = l1 := ⟨_, rfl⟩
   have HN : Hid (prs s.data.toList = (ps ++ [pce l (l.take (l.length - l1.length))]) ++ prs l1) := by
    show _ = _
    rw [HP.out, prs_step hl, hl1, List.append_assoc]
    rfl
   have HT := fun t => pcV_text l [] (l.take (l.length - l1.length)) t
   have HX := pce_text l (l.take (l.length - l1.length))
   unfold PiC at hPc
   rw [hl1] at hPc hlt
   generalize pce l (l.take (l.length - l1.length)) = pq at *
   generalize pce l [] = pc at *
   have HT' : Hid (∀ t, pcV pc t = pcV pq t) := HT
   have HX' : Hid (pq.text = l.take (l.length - l1.length)) := HX
   clear HT HX hl1 HP
   have hRb : R < F + 2 := by omega
   go_upto_region 6 with (first
    | (go_at_call 63; refine (hPc _ h).mono ?_; rintro e w1 ⟨rfl, ⟨P1, h1⟩, g1⟩; have o1 := own_far hown g1 (.inl hRb); have b1 : Below F w w1 := hbl.trans ⟨g1.os, g1.tape, g1.output, g1.size, fun k hk => g1.block k (by omega) (by simp; omega)⟩; have z1 := g1.size)
    | (refine wpl_store20 rfl (.tmp 6) (.tmp 16) rfl (us := pcV pc ⟨#[]⟩) rfl rfl (Bx.new w1 (pieceV 0 ⟨#[]⟩ fl0 0 0 nb0 nb0 ix0) 119) rfl rfl (pcV_one _ _) ?_))
   have al : Below w1.heap.size w1 (w1.alloc (.cells #[.int .i64 0, .string ⟨#[]⟩, .bool false, .bool false, .bool false, .bool false, .bool false, .int .i64 0, .int .i64 0, .int .i32 0, .int .i64 0, .int .i64 0, .int .i64 0, .int .i64 0, .int .i64 0, .int .i64 0, .int .i64 0, .int .i64 0, .int .i64 0, .int .i64 0] 119)) := (Below.refl _ _).alloc (Nat.le_refl _) _
   have q1 : ∀ k, (Value.slice ao ps.length ca).ownBlock = some k → k < w1.heap.size := fun k e => (o1.lt k e).2
   have lF : F < w1.heap.size := by omega
   have lR : R < w1.heap.size := by omega
   have p2 : Bx ((w1.alloc (.cells #[.int .i64 0, .string ⟨#[]⟩, .bool false, .bool false, .bool false, .bool false, .bool false, .int .i64 0, .int .i64 0, .int .i32 0, .int .i64 0, .int .i64 0, .int .i64 0, .int .i64 0, .int .i64 0, .int .i64 0, .int .i64 0, .int .i64 0, .int .i64 0, .int .i64 0] 119)).setCells w1.heap.size 0 (pcV pc ⟨#[]⟩)) w1.heap.size (pcV pc ⟨#[]⟩) := Bx.all (Bx.new w1 (pieceV 0 ⟨#[]⟩ fl0 0 0 nb0 nb0 ix0) 119) _ rfl
   have r2 : RdW s R F P1 l1 ((w1.alloc (.cells #[.int .i64 0, .string ⟨#[]⟩, .bool false, .bool false, .bool false, .bool false, .bool false, .int .i64 0, .int .i64 0, .int .i32 0, .int .i64 0, .int .i64 0, .int .i64 0, .int .i64 0, .int .i64 0, .int .i64 0, .int .i64 0, .int .i64 0, .int .i64 0, .int .i64 0] 119)).setCells w1.heap.size 0 (pcV pc ⟨#[]⟩)) := (h1.up al).sc (by omega) (by omega) _ _
   have o2 : ((w1.alloc (.cells #[.int .i64 0, .string ⟨#[]⟩, .bool false, .bool false, .bool false, .bool false, .bool false, .int .i64 0, .int .i64 0, .int .i32 0, .int .i64 0, .int .i64 0, .int .i64 0, .int .i64 0, .int .i64 0, .int .i64 0, .int .i64 0, .int .i64 0, .int .i64 0, .int .i64 0] 119)).setCells w1.heap.size 0 (pcV pc ⟨#[]⟩)).ownsRow (F + 2) 119 20 (.slice ao ps.length ca) ps.length (rowP ps) := (o1.alloc _).kept (gr_scs _ _ _ _) (.inr fun e => by have := q1 _ e; omega)
   have b2 : Below F w ((w1.alloc (.cells #[.int .i64 0, .string ⟨#[]⟩, .bool false, .bool false, .bool false, .bool false, .bool false, .int .i64 0, .int .i64 0, .int .i32 0, .int .i64 0, .int .i64 0, .int .i64 0, .int .i64 0, .int .i64 0, .int .i64 0, .int .i64 0, .int .i64 0, .int .i64 0, .int .i64 0] 119)).setCells w1.heap.size 0 (pcV pc ⟨#[]⟩)) := below_sc (b1.alloc (by omega) _) (by omega) _ _
   have z2 : F + 2 ≤ ((w1.alloc (.cells #[.int .i64 0, .string ⟨#[]⟩, .bool false, .bool false, .bool false, .bool false, .bool false, .int .i64 0, .int .i64 0, .int .i32 0, .int .i64 0, .int .i64 0, .int .i64 0, .int .i64 0, .int .i64 0, .int .i64 0, .int .i64 0, .int .i64 0, .int .i64 0, .int .i64 0] 119)).setCells w1.heap.size 0 (pcV pc ⟨#[]⟩)).heap.size := by rw [sc_size]; simp; omega
   generalize (w1.alloc (.cells #[.int .i64 0, .string ⟨#[]⟩, .bool false, .bool false, .bool false, .bool false, .bool false, .int .i64 0, .int .i64 0, .int .i32 0, .int .i64 0, .int .i64 0, .int .i64 0, .int .i64 0, .int .i64 0, .int .i64 0, .int .i64 0, .int .i64 0, .int .i64 0, .int .i64 0] 119)).setCells w1.heap.size 0 (pcV pc ⟨#[]⟩) = W2 at *
   generalize w1.heap.size = Bp at *
   generalize Value.agg (pcV pc ⟨#[]⟩).toArray = pav
   have a2 := r2.a
   have f2 := r2.f
   have t2 := p2.c 1 _ rfl
   have tz := p2.z
   have he2 := r2.e
   have hPP : (P : Int) ≤ P1 := by omega
   have hPS : (P1 : Int) ≤ s.size := by omega
   clear r0 f0 o1 b1 z1 h1 g1 al hPc hown hbl hsz
   go_upto_region 7 with fail
   have p3 : Bx (W2.setCell ⟨Bp, 1, none⟩ (.string (s.extract P P1))) Bp (pcV pc (s.extract P P1)) := p2.set 1 (by simp [pcV, pieceV]) _
   have r3 : RdW s R F P1 l1 (W2.setCell ⟨Bp, 1, none⟩ (.string (s.extract P P1))) := r2.grown (by omega) (by omega) _
   have o3 : (W2.setCell ⟨Bp, 1, none⟩ (.string (s.extract P P1))).ownsRow (F + 2) 119 20 (.slice ao ps.length ca) ps.length (rowP ps) := o2.kept (gr_sets _ _ _ _) (.inr fun e => by have := q1 _ e; omega)
   have b3 : Below F w (W2.setCell ⟨Bp, 1, none⟩ (.string (s.extract P P1))) := b2.setCell (by dsimp only; omega) _
   have z3 : F + 2 ≤ (W2.setCell ⟨Bp, 1, none⟩ (.string (s.extract P P1))).heap.size := by simpa [World.setCell] using z2
   generalize W2.setCell ⟨Bp, 1, none⟩ (.string (s.extract P P1)) = W3 at *
   have hext : s.extract P P1 = ba pq.text := by rw [HX'.out]; exact ext_at h.d h.e he2
   generalize s.extract P P1 = T at *
   have HE : Hid (T = ba pq.text) := hext
   clear hext a2 f2 t2 tz r2 b2 z2 o2 p2 q1
   have hpl2 : ps.length ≤ 1000000 := by omega
   go_wp2_with (first
    | (refine wpl_load20 rfl (.tmp 6) rfl rfl p3 rfl ?_)
    | (refine wpl_build20 rfl (.tmp 24) rfl pc T rfl ?_; generalize Value.agg (pcV pc T).toArray = pbv)
    | (at_builtin; refine wpList_append_own_at _ rfl _ _ 110 rfl (F + 2) 119 i0 _ 20 136 Tryz.underlying110 hi hz0 hz1 hz2 rfl (by decide) _ _ _ rfl (o3.alloc _) ⟨W3.heap.size, 0, none⟩ 1 1 (pcV pc T) rfl rfl ?c1 ?c2 ?c3 ?c4 ?c5 ?_))
   case c1 =>
    intro j u hj
    rw [Addr.add_mid, Nat.zero_add]
    exact (Bx.new W3 (pcV pc T) 119).c j u hj
   case c2 => exact pcV_one _ _
   case c3 => unfold maxLen; omega
   case c4 => omega
   case c5 => simp; omega
   intro v' w4 o4 g4 _ hat
   have b4 : Below F w w4 := (b3.alloc (by omega) _).grown g4 (by simp; omega) (fun k hk => by have := (o3.lt k hk).1; omega)
   have r4 : RdW s R F P1 l1 w4 := by
    have r3' := r3.up ((Below.refl W3.heap.size W3).alloc (Nat.le_refl _) (.cells (pcV pc T).toArray 119))
    have hne : ∀ k, k < F + 2 → some k ≠ (Value.slice ao ps.length ca).ownBlock := fun k hk e => by have := (o3.lt k e.symm).1; omega
    have kR := g4.block R (by simp; have := lt_of_cell9 r3.a; dsimp only at this; omega) (hne R hRb)
    have kF := g4.block F (by simp; omega) (hne F (by omega))
    exact ⟨(World.cell?_of_block (a := ⟨R, 0, none⟩) kR).trans r3'.a, (World.cell?_of_block (a := ⟨R, 1, none⟩) kR).trans r3'.n, (World.cell?_of_block (a := ⟨F, 0, none⟩) kF).trans r3'.f, (World.frozen?_of_block (a := ⟨R, 0, none⟩) kR).trans r3'.z, r3.d, r3.e, r3.ne, r3.m⟩
   have z4 : F + 2 ≤ w4.heap.size := by have := g4.size; simp at this; omega
   have o5 : w4.ownsRow (F + 2) 119 20 v' (ps ++ [pq]).length (rowP (ps ++ [pq])) := by
    rw [rowP_snoc, List.length_append, ← HE.out, ← HT'.out]
    exact o4
   obtain ⟨ao', c', rfl, -, -⟩ := own_slice9 o4
   clear o4 g4 hat o3 p3 r3 b3 z3
   go_wp2
   go_roundg (gk - 1)
   case measure => omega
   case rel => exact ⟨P1, l1, ps ++ [pq], r4, by omega, HN, by simp; omega, o5, b4, z4⟩
end Go.Proofs.YtdlnmnipnkeabaaGreatDoor
namespace Go.Proofs.YtdlnmnipnkeabaaGreatDoor
open Go.RowKit
set_option linter.unusedVariables false
set_option linter.unusedSimpArgs false
theorem own_cell9 {w : World} {b : Nat} {e : TypeId} {z : Nat} {a : Option Addr} {n c : Nat} {xs : List Value} (h : w.ownsRow b e z (.slice a n c) n xs) (hn : 0 < n) : ∃ g, a = some ⟨g, 0, none⟩ ∧ b ≤ g ∧ g < w.heap.size ∧ ∀ j v, xs[j]? = some v → w.cell? ⟨g, j, none⟩ = some v := by
 rcases h.2 with ⟨e, h0⟩ | ⟨g, cap, cur, e, hb, hg, -, -, -, ht⟩
 ·omega
 ·obtain ⟨rfl, -, rfl⟩ := Value.slice.inj e
  have hl := h.lt g rfl
  refine ⟨g, rfl, hb, hl.2, fun j v hv => ?_⟩
  have := h.cells (g := g) rfl j v hv
  rwa [Addr.add_mid, Nat.zero_add] at this
end Go.Proofs.YtdlnmnipnkeabaaGreatDoor
namespace Go.Proofs.YtdlnmnipnkeabaaGreatDoor
open Go.RowKit
set_option linter.unusedVariables false
set_option linter.unusedSimpArgs false
def RowAt (w : World) (g : Nat) (ps : List Pc) : Prop := ∀ (j : Nat) (p : Pc), ps[j]? = some p → w.rangeAt g (j * 20) (pcV p (ba p.text))
theorem rowP_at : ∀ (ps : List Pc) (j : Nat) (p : Pc), ps[j]? = some p → ∀ i v, (pcV p (ba p.text))[i]? = some v → (rowP ps)[j * 20 + i]? = some v
 | [], _, _, h, _, _, _ => by simp at h
 | q :: t, 0, p, h, i, v, hv => by
   simp at h
   subst h
   have hi : i < (pcV q (ba q.text)).length := (List.getElem?_eq_some_iff.1 hv).1
   rw [rowP, Nat.zero_mul, Nat.zero_add, List.getElem?_append_left hi]
   exact hv
 | q :: t, j + 1, p, h, i, v, hv => by
   have hl : (pcV q (ba q.text)).length = 20 := rfl
   rw [rowP, List.getElem?_append_right (by rw [hl]; omega), hl, show (j + 1) * 20 + i - 20 = j * 20 + i by omega]
   exact rowP_at t j p (by simpa using h) i v hv
theorem own_row {w : World} {b : Nat} {a : Option Addr} {c : Nat} {ps : List Pc} (h : w.ownsRow b 119 20 (.slice a ps.length c) ps.length (rowP ps)) (hn : 0 < ps.length) : ∃ g, a = some ⟨g, 0, none⟩ ∧ b ≤ g ∧ g < w.heap.size ∧ RowAt w g ps := by
 obtain ⟨g, rfl, h1, h2, h3⟩ := own_cell9 h hn
 exact ⟨g, rfl, h1, h2, fun j p hj i v hv => h3 _ _ (rowP_at ps j p hj i v hv)⟩
theorem RowAt.up {w w' : World} {g : Nat} {ps : List Pc} (h : RowAt w g ps) (hg : g < w.heap.size) (hb : Below w.heap.size w w') : RowAt w' g ps := fun j p hj i v hv => (hb.cell (p := ⟨g, j * 20 + i, none⟩) hg).trans (h j p hj i v hv)
theorem RowAt.kept {w w' : World} {g : Nat} {ps : List Pc} (h : RowAt w g ps) (hb : w'.heap[g]? = w.heap[g]?) : RowAt w' g ps := fun j p hj i v hv => (World.cell?_of_block (a := ⟨g, j * 20 + i, none⟩) hb).trans (h j p hj i v hv)
theorem row_Piece : Row 119 20 := ⟨⟨_, Tryz.underlying119, rfl⟩, by kernel_rfl⟩
structure Cls (p : Pc) (t : ByteArray) (H : List Value) : Prop where
 l : H.length = 20
 one : ∀ u ∈ H, u.oneCell' = true
 e : H = pcV p t
theorem Cls.at {p : Pc} {t : ByteArray} {H : List Value} (h : Cls p t H) (w : World) : Blk (w.alloc (.cells H.toArray 119)) w.heap.size H := Blk.new w H 119
set_option maxRecDepth 1000000 in
theorem hasIndex_no (p : Pc) (t : ByteArray) (h1 : p.arg.k = 0) (h2 : p.wid.a.k = 0) (h3 : p.prec.a.k = 0) (w : World) :
  Calls Tryz.prog 58 #[.agg (pcV p t).toArray] w fun e w' => e = .returned (.bool false) ∧ Below w.heap.size w w' := by
 have c1 : (pcV p t)[18]? = some (.int .i64 0) := by unfold pcV pieceV; rw [h1]; rfl
 have c2 : (pcV p t)[12]? = some (.int .i64 0) := by unfold pcV pieceV; rw [h2]; rfl
 have c3 : (pcV p t)[16]? = some (.int .i64 0) := by unfold pcV pieceV; rw [h3]; rfl
 generalize pcV p t = H at *
 obtain ⟨W1, hW1⟩ : ∃ W1, W1 = w.alloc (.cells H.toArray 119) := ⟨_, rfl⟩
 have hB : Blk W1 w.heap.size H := by rw [hW1]; exact Blk.new w H 119
 have b1 : Below w.heap.size w W1 := by rw [hW1]; exact (Below.refl _ _).alloc (Nat.le_refl _) _
 have d1 := hB.c _ _ c1
 have d2 := hB.c _ _ c2
 have d3 := hB.c _ _ c3
 clear hB h1 h2 h3
 go_enter Tryz.func58, Tryz.ntmps58
 go_upto_region 1 with fail
 rw [← hW1]
 clear hW1
 go_wp2
 go_ret
 exact ⟨rfl, b1⟩
set_option maxRecDepth 1000000 in
set_option maxHeartbeats 1000000 in
theorem indexF_no (ps : List Pc) (a : Option Addr) (c : Nat) (w : World) (hlen : ps.length ≤ 100000) (hrow : 0 < ps.length → ∃ g, a = some ⟨g, 0, none⟩ ∧ g < w.heap.size ∧ RowAt w g ps) (hno : ∀ p ∈ ps, p.arg.k = 0 ∧ p.wid.a.k = 0 ∧ p.prec.a.k = 0) :
  Calls Tryz.prog 67 #[.slice a ps.length c, .func (.func 58) #[] #[]] w fun e w' => e = .returned (.int .i64 (-1)) ∧ Below w.heap.size w w' := by
 have hlI : (ps.length : Int) ≤ 100000 := by omega
 go_enter Tryz.func67, Tryz.ntmps67
 go_wp2
 go_loopg [5, 8] ps.length (fun gg z i wr => ∃ j : Nat, i = .int .i64 j ∧ j + gg = ps.length ∧ Below w.heap.size w wr)
 case atStart => exact ⟨0, rfl, Nat.zero_add _, Below.refl _ _⟩
 case round =>
  obtain ⟨j, rfl, hjg, hb⟩ := hrel
  by_cases hlt : j < ps.length
  ·have hltI : (j : Int) < ps.length := by omega
   obtain ⟨g, rfl, hg, hR⟩ := hrow (by omega)
   obtain ⟨p, hp⟩ : ∃ p, ps[j]? = some p := ⟨ps[j], List.getElem?_eq_getElem hlt⟩
   have hr : wr.rangeAt g (j * 20) (pcV p (ba p.text)) := fun i v hv => (hb.cell (p := ⟨g, j * 20 + i, none⟩) hg).trans (hR j p hp i v hv)
   obtain ⟨n1, n2, n3⟩ := hno p (List.mem_of_getElem? hp)
   have hC := hasIndex_no p (ba p.text) n1 n2 n3 wr
   have hl : (pcV p (ba p.text)).length = 20 := rfl
   clear hp hR hno hrow n1 n2 n3
   generalize pcV p (ba p.text) = H at *
   go_wp2_with (first | (refine wpl_ld row_Piece rfl (.tmp 14) rfl rfl hr hl ?_) | (go_at_call 58; refine hC.mono ?_; rintro e V ⟨rfl, bV⟩))
   go_roundg (gk - 1)
   case measure => omega
   case rel => exact ⟨j + 1, by go_num, by omega, hb.trans (bV.mono hb.size)⟩
  ·have hltI : ¬ (j : Int) < ps.length := by omega
   go_wp2
   go_ret
   exact ⟨rfl, hb⟩
theorem contains_no (ps : List Pc) (a : Option Addr) (c : Nat) (w : World) (hlen : ps.length ≤ 100000) (hrow : 0 < ps.length → ∃ g, a = some ⟨g, 0, none⟩ ∧ g < w.heap.size ∧ RowAt w g ps) (hno : ∀ p ∈ ps, p.arg.k = 0 ∧ p.wid.a.k = 0 ∧ p.prec.a.k = 0) :
  Calls Tryz.prog 57 #[.slice a ps.length c, .func (.func 58) #[] #[]] w fun e w' => e = .returned (.bool false) ∧ Below w.heap.size w w' := by
 have hI := indexF_no ps a c w hlen hrow hno
 clear hrow hno
 go_enter Tryz.func57, Tryz.ntmps57
 go_wp2_with (go_at_call 67; refine hI.mono ?_; rintro e V ⟨rfl, bV⟩)
 go_ret
 exact ⟨rfl, bV⟩
end Go.Proofs.YtdlnmnipnkeabaaGreatDoor
namespace Go.Proofs.YtdlnmnipnkeabaaGreatDoor
open Go.RowKit
set_option linter.unusedVariables false
set_option linter.unusedSimpArgs false
def spQ (p : Pc) : Sq := ⟨p.fl.p, p.fl.m, p.fl.s, p.fl.b, p.fl.z, p.sz, p.sz, p.verb⟩
set_option maxRecDepth 1000000 in
set_option maxHeartbeats 1000000 in
theorem sized_none (p : Pc) (t : ByteArray) (hw : p.wid.k = 0) (hp : p.prec.k = 0) (g : Nat) (w : World) :
  Calls Tryz.prog 79 #[.pointer (some ⟨g, 0, none⟩), .agg (pcV p t).toArray] w fun e w' => e = .returned (SV (spQ p)) ∧ Below w.heap.size w w' := by
 have c2 : (pcV p t)[2]? = some (.bool (spQ p).p) := rfl
 have c3 : (pcV p t)[3]? = some (.bool (spQ p).mi) := rfl
 have c4 : (pcV p t)[4]? = some (.bool (spQ p).sh) := rfl
 have c5 : (pcV p t)[5]? = some (.bool (spQ p).sp) := rfl
 have c6 : (pcV p t)[6]? = some (.bool (spQ p).z) := rfl
 have c7 : (pcV p t)[7]? = some (.int .i64 (spQ p).wid) := rfl
 have c8 : (pcV p t)[8]? = some (.int .i64 (spQ p).prec) := rfl
 have c9 : (pcV p t)[9]? = some (.int .i32 (spQ p).verb) := rfl
 have c10 : (pcV p t)[10]? = some (.int .i64 0) := by unfold pcV pieceV; rw [hw]; rfl
 have c14 : (pcV p t)[14]? = some (.int .i64 0) := by unfold pcV pieceV; rw [hp]; rfl
 generalize spQ p = f at *
 generalize pcV p t = H at *
 obtain ⟨W1, hW1⟩ : ∃ W1, W1 = w.alloc (.cells H.toArray 119) := ⟨_, rfl⟩
 have hB : Blk W1 w.heap.size H := by rw [hW1]; exact Blk.new w H 119
 have b1 : Below w.heap.size w W1 := by rw [hW1]; exact (Below.refl _ _).alloc (Nat.le_refl _) _
 have s1 : W1.heap.size = w.heap.size + 1 := by rw [hW1]; simp
 have hl : w.heap.size < W1.heap.size := by omega
 have hup : ∀ (i : Nat) (v : Value), H[i]? = some v → ∀ X, Below W1.heap.size W1 X → X.cell? ⟨w.heap.size, i, none⟩ = some v := fun i v h X hX => up_cell hX (hB.c i v h)
 have d2 := hup _ _ c2
 have d3 := hup _ _ c3
 have d4 := hup _ _ c4
 have d5 := hup _ _ c5
 have d6 := hup _ _ c6
 have d7 := hup _ _ c7
 have d8 := hup _ _ c8
 have d9 := hup _ _ c9
 have d10 := hup _ _ c10
 have d14 := hup _ _ c14
 obtain ⟨W2, hW2⟩ : ∃ W2, W2 = W1.alloc (.cells #[.bool false, .bool false, .bool false, .bool false, .bool false, .int .i64 0, .int .i64 0, .int .i32 0] 113) := ⟨_, rfl⟩
 have b2 : Below W1.heap.size W1 W2 := by rw [hW2]; exact (Below.refl _ _).alloc (Nat.le_refl _) _
 obtain ⟨W3, hW3⟩ : ∃ W3, W3 = W2.alloc (.cells #[.bool f.p, .bool f.mi, .bool f.sh, .bool f.sp, .bool f.z, .int .i64 f.wid, .int .i64 f.prec, .int .i32 f.verb] 113) := ⟨_, rfl⟩
 have b3 : Below W2.heap.size W2 W3 := by rw [hW3]; exact (Below.refl _ _).alloc (Nat.le_refl _) _
 have b13 : Below W1.heap.size W1 W3 := b2.trans (b3.mono b2.size)
 have e2 := d2 _ b2
 have e3 := d3 _ b2
 have e4 := d4 _ b2
 have e5 := d5 _ b2
 have e6 := d6 _ b2
 have e7 := d7 _ b2
 have e8 := d8 _ b2
 have e9 := d9 _ b2
 have e10 := d10 _ b13
 have e14 := d14 _ b13
 have z2 : W1.heap.size < W2.heap.size := by rw [hW2]; simp
 clear hB c2 c3 c4 c5 c6 c7 c8 c9 c10 c14 hw hp hup d2 d3 d4 d5 d6 d7 d8 d9 d10 d14
 go_enter Tryz.func79, Tryz.ntmps79
 go_upto_region 1 with fail
 rw [← hW1, ← s1, ← hW2]
 have HW2 : Hid (W2 = _) := hW2
 have HW3 : Hid (W3 = _) := hW3
 have HS : Hid (W1.heap.size = _) := s1
 clear hW1 hW2 hW3 s1
 go_upto_region 2 with fail
 rw [← HW3.out]
 go_upto_region 14 with fail
 clear e2 e3 e4 e5 e6 e7 e8 e9 e10 e14
 rw [HW3.out, HW2.out]
 clear HW3 HW2
 go_wp2
 go_returns
 refine ⟨rfl, ?_⟩
 have : w.heap.size ≤ W1.heap.size := by omega
 go_grown
end Go.Proofs.YtdlnmnipnkeabaaGreatDoor
namespace Go.Proofs.YtdlnmnipnkeabaaGreatDoor
open Go.RowKit
set_option linter.unusedVariables false
set_option linter.unusedSimpArgs false
theorem Blk.one {w : World} {B : Nat} {vs : List Value} (h : Blk w B vs) (j : Nat) (v : Value) (hj : j < vs.length) : Blk (w.setCell ⟨B, j, none⟩ v) B (vs.set j v) := by
 refine ⟨fun i u hu => ?_, fun i => by rw [World.frozen?_setCell]; exact h.z i, by simpa using h.b⟩
 by_cases e : j = i
 ·subst e
  rw [List.getElem?_set_self hj] at hu
  obtain rfl := Option.some.inj hu
  exact World.cell?_setCell_same w ⟨B, j, none⟩ _ (h.c j _ (List.getElem?_eq_getElem hj))
 ·rw [List.getElem?_set_ne e] at hu
  exact (World.cell?_setCell_other w ⟨B, j, none⟩ ⟨B, i, none⟩ v (fun e' => e (Addr.mk.inj e').2.1)).trans (h.c i u hu)
theorem Blk.far {w : World} {B : Nat} {vs : List Value} (h : Blk w B vs) {B' : Nat} (hne : B' ≠ B) (j : Nat) (v : Value) : Blk (w.setCell ⟨B', j, none⟩ v) B vs :=
 ⟨fun i u hu => (World.cell?_setCell_far w ⟨B', j, none⟩ ⟨B, i, none⟩ v hne).trans (h.c i u hu), fun i => by rw [World.frozen?_setCell]; exact h.z i, by simpa using h.b⟩
theorem Blk.kx {P : Nat → Prop} {w w' : World} {B : Nat} {vs : List Value} (h : Blk w B vs) (k : Kx P w w') (hB : ¬ P B) : Blk w' B vs :=
 ⟨fun i u hu => k.cell (h.c i u hu) hB, fun i => (World.frozen?_of_block (w := w) (a := ⟨B, i, none⟩) (k.block B h.b hB)).trans (h.z i), Nat.lt_of_lt_of_le h.b k.size⟩
theorem Kx.setCells {P : Nat → Prop} {a : World} (B : Nat) (hB : P B ∨ a.heap.size ≤ B) : ∀ (vs : List Value) (o : Nat) (b : World), Kx P a b → Kx P a (b.setCells B o vs)
 | [], _, _, h => h
 | v :: t, o, b, h => Kx.setCells B hB t (o + 1) _ (h.setCell B o hB v)
end Go.Proofs.YtdlnmnipnkeabaaGreatDoor
