/- KShort, KShortT: these texts in one. -/
import Derived.Test.YthbabhbfpcfenaaGreatDoorPkK2
import Derived.Test.YthbabhbfpcfenaaGreatDoorPkM12
import Derived.Test.YthbabhbfpcfenaaGreatDoorPkF19
import Derived.Test.YthbabhbfpcfenaaGreatDoorPkM10
/- The document's Value, Bare, Shortest. -/
namespace Go.Proofs.YthbabhbfpcfenaaGreatDoor
open Go.RowKit
set_option linter.unusedVariables false
set_option linter.unusedSimpArgs false

abbrev KbC (bits : Nat) (size : Int) (p : Nat) : Prop := ∀ w, Calls Tryz.prog 131 #[.int .u64 bits, .int .i64 size] w fun e w' => e = .returned (.int .u64 (p : Nat)) ∧ w' = w
abbrev KvC (bits : Nat) (size : Int) (S : ByteArray) (P : Int) : Prop := ∀ w, Calls Tryz.prog 132 #[.int .u64 bits, .int .i64 size] w fun e w' => e = .returned (.agg #[.string S, .int .i64 P]) ∧ Below w.heap.size w w'
abbrev KshC (bits : Nat) (size : Int) (S : ByteArray) (P er : Int) : Prop := ∀ w, Calls Tryz.prog 111 #[.int .u64 bits, .int .i64 size] w fun e w' => e = .returned (.tuple #[.agg #[.string S, .int .i64 P], .int .i64 er]) ∧ Below w.heap.size w w'
set_option maxRecDepth 1000000 in
theorem kbare_run {bits F : Nat} {size least : Int} {f ww : Nat} (hh : KhC size f ww least) (hp : PowC ((f : Int) + (ww : Int)) F) (hF : 0 < F) (hf : f ≤ 60) (hw : ww ≤ 60) (hb : bits < 18446744073709551616) : KbC bits size (bits % F) := fun w => by
  have hFI : (F : Int) ≠ 0 := by omega
  have hFI2 : 0 < (F : Int) := by omega
  have hRI : (bits : Int) % (F : Int) = ((bits % F : Nat) : Int) := rfl
  have hlt : bits % F < 18446744073709551616 := Nat.lt_of_le_of_lt (Nat.mod_le _ _) hb
  generalize bits % F = R at *
  go_enter Tryz.func131, Tryz.ntmps131
  go_wp2_with (first
    | (go_at_call 57; (with_reducible refine (hh _).mono ?_); rintro x w1 ⟨rfl, hw1⟩; subst w1)
    | (go_at_call 58; (with_reducible refine (hp _).mono ?_); rintro x w1 ⟨rfl, hw1⟩; subst w1))
  go_ret
  refine ⟨?_, rfl⟩
  show Ending.returned (.int .u64 ((bits : Int) % (F : Int))) = _
  rw [hRI]
set_option maxRecDepth 1000000 in
set_option maxHeartbeats 1000000 in
theorem kvalue_run {bits m : Nat} {size x : Int} {sg : Bool} {S : ByteArray} {P : Int} (hP : KpC bits size sg m x 0) (hX : HxC m x S P) : KvC bits size S P := fun w => by
  go_enter Tryz.func132, Tryz.ntmps132
  go_wp2_with (first
    | (go_at_call 30; (with_reducible refine (hP _).mono ?_); rintro y w2 ⟨rfl, hb2⟩; have bR := keepb hb2 (B := w.heap.size) (x := .string ⟨#[]⟩) (y := .int .i64 0) (by simp [BoxD, go_sem]); have hbw := bel_call (B := w.heap.size) (w := w) ((Below.refl _ _).alloc (Nat.le_refl _) _) hb2 (Nat.le_refl _))
    | (go_at_call 60; (with_reducible refine (hX _).mono ?_); rintro y w3 ⟨rfl, hb3⟩; have bR3 := keepb hb3 bR; obtain ⟨r0, r1, r2, r3⟩ := id bR3; have hbw3 := bel_call hbw hb3 (Nat.le_refl _); have hlt3 : w.heap.size < w3.heap.size := World.block_lt_of_cell? w3 _ r0))
  refine bodyPost_ret (by simp [results, Tryz.results132, go_sem, cs_same, r0, r1, hlt3]; rfl) rfl ?_
  refine ⟨rfl, ?_⟩
  have hs := (hbw3.setCell (p := ⟨w.heap.size, 0, none⟩) (Nat.le_refl _) (.string S)).setCell (p := ⟨w.heap.size, 1, none⟩) (Nat.le_refl _) (.int .i64 P)
  exact hs.alloc hs.size _
set_option maxRecDepth 1000000 in
theorem kshort_size {bits : Nat} {size : Int} (h : KsC size false) : KshC bits size ⟨#[]⟩ 0 1 := fun w => by
  go_enter Tryz.func111, Tryz.ntmps111
  go_wp2_with (go_at_call 56; (with_reducible refine (h _).mono ?_); rintro x w1 ⟨rfl, rfl⟩)
  refine bodyPost_ret (by simp [results, Tryz.results111, go_sem, cs_same]; rfl) rfl ?_
  exact ⟨rfl, by go_grown⟩
set_option maxRecDepth 1000000 in
set_option maxHeartbeats 1000000 in
theorem kshort_odd {bits m : Nat} {size x k : Int} {sg : Bool} (h : KsC size true) (hP : KpC bits size sg m x k) (hk : ¬ k = 0) : KshC bits size ⟨#[]⟩ 0 1 := fun w => by
  have b1 : (k == 0) = false := beq_eq_false_iff_ne.2 hk
  go_enter Tryz.func111, Tryz.ntmps111
  go_wp2_with (first
    | (go_at_call 56; (with_reducible refine (h _).mono ?_); rintro x w1 ⟨rfl, rfl⟩)
    | (go_at_call 30; (with_reducible refine (hP _).mono ?_); rintro y w2 ⟨rfl, hb2⟩; obtain ⟨r0, r1, r2, r3⟩ := keepb hb2 (B := w.heap.size) (x := .string ⟨#[]⟩) (y := .int .i64 0) (by simp [BoxD, go_sem]); have hbw := bel_call (B := w.heap.size) (w := w) ((Below.refl _ _).alloc (Nat.le_refl _) _) hb2 (Nat.le_refl _)))
  refine bodyPost_ret (by simp [results, Tryz.results111, go_sem, cs_same, r0, r1]; rfl) rfl ?_
  refine ⟨rfl, ?_⟩
  iterate 2 (refine Below.setCell ?_ (by dsimp only; omega) _)
  exact hbw
theorem ba_ne {a b : ByteArray} (h : ¬ a = b) : ¬ a.toList = b.toList := fun e => h (by
  rw [Lib.toList_data, Lib.toList_data] at e
  apply ByteArray.ext; apply Array.ext'; exact e)
theorem o_inj5 {x y : Nat} (h1 : oS x = oS y) (h2 : oP x = oP y) : x = y := by
  have e : oL x = oL y := by
    have : (oS x).data.toList = (oS y).data.toList := by rw [h1]
    exact this
  rw [← o_val x, ← o_val y, e, h2]
set_option maxRecDepth 1000000 in
set_option maxHeartbeats 8000000 in
theorem kshort_run {bits m p v d L : Nat} {size x : Int} {sg : Bool} {R : Nat → Prop} (h : KsC size true) (hP : KpC bits size sg m x 0) (hB : KbC bits size p) (hV : KvC bits size (oS v) (oP v)) (hL : (oS v).size = L) (hL2 : L ≤ 900) (hq0 : -1300 ≤ oP v) (hq1 : oP v ≤ 900)
    (HI : Hid (∀ n, 1 ≤ n → n < L → HInC ((oS v).extract 0 n) (oP v) (oS (Bn v n)) (oP (Bn v n)) ∧ HSumC (oS (Bn v n)) (oP (Bn v n)) ⟨#[49]⟩ (oP v - n + 1) (oS (An v n)) (oP (An v n)) ∧ HNearC (oS v) (oP v) (oP v - n) (oS (near v (Qn v n))) (oP (near v (Qn v n)))))
    (HR : Hid (∀ n, 1 ≤ n → n < L → ∃ r1 r2 : Nat, KrC (oS (Bn v n)) (oP (Bn v n)) size r1 0 ∧ KrC (oS (An v n)) (oP (An v n)) size r2 0 ∧ (r1 = p ↔ R (Bn v n)) ∧ (r2 = p ↔ R (An v n)))) (hd : SH R v d) : KshC bits size (oS d) (oP d) 0 := fun w => by
  have hlen : L = (oL v).length := by rw [← hL, oS_size]
  have HA : Hid ((∀ j, 1 ≤ j → j < L → failN R v j) → d = v) := fun hf => hd.all fun j h1 h2 => hf j h1 (by omega)
  have HPk : Hid (∀ n, 1 ≤ n → n < L → (∀ j, 1 ≤ j → j < n → failN R v j) → ¬ failN R v n → pickN R v n d) := fun n h1 h2 hf hn => hd.at h1 (by omega) hf hn
  clear hd hlen
  go_enter Tryz.func111, Tryz.ntmps111
  go_wp2_with (first
    | (go_at_call 56; (with_reducible refine (h _).mono ?_); rintro x w1 ⟨rfl, rfl⟩)
    | (go_at_call 30; (with_reducible refine (hP _).mono ?_); rintro y w2 ⟨rfl, hb2⟩; have bR2 := keepb hb2 (B := w.heap.size) (x := .string ⟨#[]⟩) (y := .int .i64 0) (by simp [BoxD, go_sem]); have hbw2 := bel_call (B := w.heap.size) (w := w) ((Below.refl _ _).alloc (Nat.le_refl _) _) hb2 (Nat.le_refl _))
    | (go_at_call 131; (with_reducible refine (hB _).mono ?_); rintro y w3 ⟨rfl, hw3⟩; subst w3)
    | (go_at_call 132; (with_reducible refine (hV _).mono ?_); rintro y w3 ⟨rfl, hb3⟩; have bR3 := keepb hb3 bR2; have hbw3 := bel_call hbw2 hb3 (Nat.le_refl _)))
  obtain ⟨W, hWe⟩ : ∃ W, w3.alloc (.cells #[.string (oS v), .int .i64 (oP v)] 91) = W := ⟨_, rfl⟩
  have bV : BoxD W w3.heap.size (.string (oS v)) (.int .i64 (oP v)) := by rw [← hWe]; simp [BoxD, go_sem]
  have hlt3 : w.heap.size < w3.heap.size := World.block_lt_of_cell? w3 _ bR3.1
  have bR : BoxD W w.heap.size (.string ⟨#[]⟩) (.int .i64 0) := by obtain ⟨r0, r1, r2, r3⟩ := bR3; rw [← hWe]; simp [BoxD, go_sem, r0, r1, r2, r3, hlt3]
  have hbW : Below w.heap.size w W := by rw [← hWe]; exact hbw3.alloc hbw3.size _
  have hXw : w.heap.size < w3.heap.size := hlt3
  generalize w3.heap.size = X at *
  rw [hWe]
  clear hWe hb2 hb3 bR2 bR3 hbw2 hbw3 hlt3 h hP hB hV
  have hLI : ((oS v).size : Int) ≤ 900 := by omega
  have HS : Hid ((oS v).size = L) := hL
  clear hL
  generalize hSe : oS v = S at *
  generalize hPe : oP v = P at *
  have HSe : Hid (oS v = S ∧ oP v = P) := ⟨hSe, hPe⟩
  clear hSe hPe
  go_loopg [12, 13, 14, 15, 16, 17, 18] L (fun g nv bv av xv xe yv ye wr => ∃ n : Nat, nv = .int .i64 n ∧ 1 ≤ n ∧ n + g = L + 1 ∧ BoxD wr w.heap.size (.string ⟨#[]⟩) (.int .i64 0) ∧ BoxD wr X (.string S) (.int .i64 P) ∧ Below w.heap.size w wr ∧ Hid (∀ j, 1 ≤ j → j < n → failN R v j))
  case atStart => exact ⟨1, rfl, Nat.le_refl _, by omega, bR, bV, hbW, fun j h1 h2 => by omega⟩
  case round =>
    obtain ⟨n, rfl, hn1, hng, bR, bV, hbl, HFl⟩ := hrel
    clear hbW
    obtain ⟨v0, v1, v2, v3⟩ := id bV
    obtain ⟨r0, r1, r2, r3⟩ := id bR
    have hXr : X < wr.heap.size := World.block_lt_of_cell? wr _ v0
    have hwr : w.heap.size < wr.heap.size := World.block_lt_of_cell? wr _ r0
    by_cases hnL : n < L
    · have hnS : n ≤ S.size := by have := HS.out; omega
      have hnI : (n : Int) < S.size := by have := HS.out; omega
      have hnI2 : (n : Int) ≤ S.size := by omega
      have hn9 : n ≤ 900 := by omega
      obtain ⟨hI, hSm, hNr⟩ := HI.out n hn1 hnL
      obtain ⟨q1, q2, hK1, hK2, e1, e2⟩ := HR.out n hn1 hnL
      have HE1 : Hid (q1 = p ↔ R (Bn v n)) := e1
      have HE2 : Hid (q2 = p ↔ R (An v n)) := e2
      have HPn : Hid (¬ failN R v n → pickN R v n d) := HPk.out n hn1 hnL HFl.out
      clear e1 e2 HI HR HPk HA
      obtain ⟨T, hT⟩ : ∃ T, S.extract 0 n = T := ⟨_, rfl⟩
      obtain ⟨SB, hSB⟩ : ∃ SB, oS (Bn v n) = SB := ⟨_, rfl⟩
      obtain ⟨PB, hPB⟩ : ∃ PB, oP (Bn v n) = PB := ⟨_, rfl⟩
      obtain ⟨SA, hSA⟩ : ∃ SA, oS (An v n) = SA := ⟨_, rfl⟩
      obtain ⟨PA, hPA⟩ : ∃ PA, oP (An v n) = PA := ⟨_, rfl⟩
      obtain ⟨SN, hSN⟩ : ∃ SN, oS (near v (Qn v n)) = SN := ⟨_, rfl⟩
      obtain ⟨PN, hPN⟩ : ∃ PN, oP (near v (Qn v n)) = PN := ⟨_, rfl⟩
      rw [hT, hSB, hPB] at hI
      rw [hSB, hPB, hSA, hPA] at hSm
      rw [hSB, hPB] at hK1
      rw [hSA, hPA] at hK2
      rw [hSN, hPN] at hNr
      have HB : Hid (oS (Bn v n) = SB ∧ oP (Bn v n) = PB) := ⟨hSB, hPB⟩
      have HAn : Hid (oS (An v n) = SA ∧ oP (An v n) = PA) := ⟨hSA, hPA⟩
      have HN : Hid (oS (near v (Qn v n)) = SN ∧ oP (near v (Qn v n)) = PN) := ⟨hSN, hPN⟩
      clear hSB hPB hSA hPA hSN hPN
      go_upto_region 11 with fail
      go_cut [13] (fun b wx => ∃ B6, b = .pointer (some ⟨B6, 0, none⟩) ∧ BoxD wx B6 (.string SB) (.int .i64 PB) ∧ BoxD wx w.heap.size (.string ⟨#[]⟩) (.int .i64 0) ∧ BoxD wx X (.string S) (.int .i64 P) ∧ Below w.heap.size w wx)
      case first =>
        as_aux_lemma =>
        have hZ : ∀ x, Below (wr.alloc (Obj.cells #[Value.string ⟨#[]⟩, Value.int IntKind.i64 0] 91)).drew.heap.size (wr.alloc (Obj.cells #[Value.string ⟨#[]⟩, Value.int IntKind.i64 0] 91)).drew x → BoxD x wr.heap.size (.string ⟨#[]⟩) (.int .i64 0) ∧ BoxD x X (.string S) (.int .i64 P) ∧ BoxD x w.heap.size (.string ⟨#[]⟩) (.int .i64 0) ∧ Below w.heap.size w x := fun x hx =>
          ⟨keepb hx (by simp [BoxD, go_sem]), keepb hx (by simp [BoxD, go_sem, v0, v1, v2, v3, hXr]), keepb hx (by simp [BoxD, go_sem, r0, r1, r2, r3, hwr]), bel_call ((hbl.alloc hbl.size _).drew) hx (Nat.le_refl _)⟩
        have hY : ∀ x, Below wr.drew.heap.size wr.drew x → BoxD (x.alloc (Obj.cells #[Value.string SB, Value.int IntKind.i64 PB] 91)) x.heap.size (.string SB) (.int .i64 PB) ∧ BoxD (x.alloc (Obj.cells #[Value.string SB, Value.int IntKind.i64 PB] 91)) X (.string S) (.int .i64 P) ∧ BoxD (x.alloc (Obj.cells #[Value.string SB, Value.int IntKind.i64 PB] 91)) w.heap.size (.string ⟨#[]⟩) (.int .i64 0) ∧ Below w.heap.size w (x.alloc (Obj.cells #[Value.string SB, Value.int IntKind.i64 PB] 91)) := fun x hx => by
          have hx2 := hx.size
          have hsx : X < x.heap.size := Nat.lt_of_lt_of_le hXr hx2
          have hsx0 : w.heap.size < x.heap.size := Nat.lt_of_lt_of_le hwr hx2
          obtain ⟨q0, q1, q2, q3⟩ : BoxD x X (.string S) (.int .i64 P) := keepb hx bV
          obtain ⟨t0, t1, t2, t3⟩ : BoxD x w.heap.size (.string ⟨#[]⟩) (.int .i64 0) := keepb hx bR
          have hbx := bel_call hbl.drew hx (Nat.le_refl _)
          exact ⟨by simp [BoxD, go_sem], by simp [BoxD, go_sem, q0, q1, q2, q3, hsx], by simp [BoxD, go_sem, t0, t1, t2, t3, hsx0], hbx.alloc hbx.size _⟩
        clear hSm hK1 hK2 hNr HE1 HE2 HPn HB HAn HN HFl
        go_region_with (first | (go_at_call 103; refine (hI _).mono ?_; rintro e w3 ⟨rfl, hb3⟩; guard_hyp hb3 : Below (wr.alloc (Obj.cells #[Value.string ⟨#[]⟩, Value.int IntKind.i64 0] 91)).drew.heap.size (wr.alloc (Obj.cells #[Value.string ⟨#[]⟩, Value.int IntKind.i64 0] 91)).drew w3; obtain ⟨z0, z1, z2, z3⟩ := (hZ w3 hb3).1) | (go_at_call 103; refine (hI _).mono ?_; rintro e w3 ⟨rfl, hb3⟩))
        all_goals go_wp2_with fail
        all_goals go_meet
        all_goals first
          | (guard_hyp hb3 : Below (wr.alloc (Obj.cells #[Value.string ⟨#[]⟩, Value.int IntKind.i64 0] 91)).drew.heap.size (wr.alloc (Obj.cells #[Value.string ⟨#[]⟩, Value.int IntKind.i64 0] 91)).drew w3; obtain ⟨k1, k2, k3, k4⟩ := hZ w3 hb3; exact ⟨wr.heap.size, rfl, k1.put _ _, k3.past (by omega) _ _, k2.past (by omega) _ _, (k4.setCell (by dsimp only; omega) _).setCell (by dsimp only; omega) _⟩)
          | (obtain ⟨k1, k2, k3, k4⟩ := hY w3 hb3; exact ⟨w3.heap.size, rfl, k1, k3, k2, k4⟩)
      case rest =>
      obtain ⟨B6, rfl, b6, bR6, bV6, hbl6⟩ := hcut
      rename World => W6
      clear bR bV v0 v1 v2 v3 r0 r1 r2 r3 hXr hwr hbl hI
      obtain ⟨t0, t1, t2, t3⟩ := id b6
      obtain ⟨v0, v1, v2, v3⟩ := id bV6
      go_upto_region 13 with (go_at_call 128; refine (hSm _).mono ?_; rintro e w7 ⟨rfl, hb7⟩; have b67 := keepb hb7 b6; have bR7 := keepb hb7 bR6; have bV7 := keepb hb7 bV6; have hbl7 := bel_call hbl6 hb7 (Nat.le_refl _))
      obtain ⟨W7, hW7⟩ : ∃ W7, w7.alloc (Obj.cells #[Value.string SA, Value.int IntKind.i64 PA] 91) = W7 := ⟨_, rfl⟩
      have hlt6 : B6 < w7.heap.size := World.block_lt_of_cell? w7 _ b67.1
      have hltV : X < w7.heap.size := World.block_lt_of_cell? w7 _ bV7.1
      have hltR : w.heap.size < w7.heap.size := World.block_lt_of_cell? w7 _ bR7.1
      have b6w : BoxD W7 B6 (.string SB) (.int .i64 PB) := by obtain ⟨q0, q1, q2, q3⟩ := b67; rw [← hW7]; simp [BoxD, go_sem, q0, q1, q2, q3, hlt6]
      have bVw : BoxD W7 X (.string S) (.int .i64 P) := by obtain ⟨q0, q1, q2, q3⟩ := bV7; rw [← hW7]; simp [BoxD, go_sem, q0, q1, q2, q3, hltV]
      have bRw : BoxD W7 w.heap.size (.string ⟨#[]⟩) (.int .i64 0) := by obtain ⟨q0, q1, q2, q3⟩ := bR7; rw [← hW7]; simp [BoxD, go_sem, q0, q1, q2, q3, hltR]
      have b7w : BoxD W7 w7.heap.size (.string SA) (.int .i64 PA) := by rw [← hW7]; simp [BoxD, go_sem]
      have hblw : Below w.heap.size w W7 := by rw [← hW7]; exact hbl7.alloc hbl7.size _
      rw [hW7]
      clear hW7 hlt6 hltV hltR b67 bV7 bR7 hbl7 hb7 b6 bR6 bV6 hbl6 hSm t0 t1 t2 t3 v0 v1 v2 v3
      generalize w7.heap.size = B7 at *
      clear w7
      obtain ⟨t0, t1, t2, t3⟩ := id b6w
      obtain ⟨s0, s1, s2, s3⟩ := id b7w
      go_upto_region 15 with (first
        | (go_at_call_of 133 SB; (with_reducible refine (hK1 _).mono ?_); rintro e w8 ⟨rfl, hb8⟩; have b68 := keepb hb8 b6w; have b78 := keepb hb8 b7w; have bR8 := keepb hb8 bRw; have bV8 := keepb hb8 bVw; have hbl8 := bel_call hblw hb8 (Nat.le_refl _); obtain ⟨m0, m1, m2, m3⟩ := id b78)
        | (go_at_call 133; (with_reducible refine (hK2 _).mono ?_); rintro e w9 ⟨rfl, hb9⟩; have b69 := keepb hb9 b68; have b79 := keepb hb9 b78; have bR9 := keepb hb9 bR8; have bV9 := keepb hb9 bV8; have hbl9 := bel_call hbl8 hb9 (Nat.le_refl _)))
      clear t0 t1 t2 t3 s0 s1 s2 s3 m0 m1 m2 m3 b6w b7w bRw bVw hblw b68 b78 bR8 bV8 hbl8 hb8 hb9 hK1 hK2
      obtain ⟨t0, t1, t2, t3⟩ := id b69
      obtain ⟨s0, s1, s2, s3⟩ := id b79
      obtain ⟨r0, r1, r2, r3⟩ := id bR9
      obtain ⟨v0, v1, v2, v3⟩ := id bV9
      by_cases c1 : q1 = p
      · have d1 : ((q1 : Int) == (p : Int)) = true := by rw [c1]; exact beq_self_eq_true _
        have d1' : ((q1 : Int) != (p : Int)) = false := by rw [c1]; exact bne_self_eq_false _
        have HRB : Hid (R (Bn v n)) := HE1.out.1 c1
        by_cases c2 : q2 = p
        · have d2 : ((q2 : Int) != (p : Int)) = false := by rw [c2]; exact bne_self_eq_false _
          go_upto_region 16 with fail
          by_cases hnb : near v (Qn v n) = Bn v n
          · have e : Hid (oS d = SB ∧ oP d = PB) := by
              have h2 := HPn.out (fun h => h.1 HRB.out)
              rcases h2 with ⟨-, -, h3⟩ | ⟨h3, -⟩
              · exact ⟨by rw [h3]; exact HB.out.1, by rw [h3]; exact HB.out.2⟩
              · exact absurd ⟨HRB.out, .inr hnb⟩ h3
            have eS : SN = SB := by rw [← HN.out.1, ← HB.out.1, hnb]
            have eP : PN = PB := by rw [← HN.out.2, ← HB.out.2, hnb]
            rw [eS, eP] at hNr
            clear HE1 HE2 HPn HB HAn HN HFl HRB c1 c2 eS eP hnb
            refine wp_region_above w9 (Below.refl _ _) (by kernel_rfl) (by kernel_rfl) ?_
            intro hCl
            have k0 : ∀ x : Cl w9, x.w.cell? ⟨X, 0, none⟩ = some (.string S) := fun x => x.cell v0
            have k1 : ∀ x : Cl w9, x.w.cell? ⟨X, 1, none⟩ = some (.int .i64 P) := fun x => x.cell v1
            have k2 : ∀ x : Cl w9, x.w.cell? ⟨B6, 0, none⟩ = some (.string SB) := fun x => x.cell t0
            have k3 : ∀ x : Cl w9, x.w.cell? ⟨B6, 1, none⟩ = some (.int .i64 PB) := fun x => x.cell t1
            repeat (go_big_quiet_step ((go_at_call 109; exact Cl.call (hNr _))))
            refine wpQuiet_nil ?_
            intro _ hw'
            obtain ⟨y, hx⟩ := hw'
            subst hx
            have b6y := keepb y.below b69
            have b7y := keepb y.below b79
            have bRy := keepb y.below bR9
            have hbly := bel_call hbl9 y.below (Nat.le_refl _)
            clear k0 k1 k2 k3 hCl t0 t1 t2 t3 s0 s1 s2 s3 r0 r1 r2 r3 v0 v1 v2 v3
            generalize y.w = w10 at *
            clear y
            obtain ⟨t0, t1, t2, t3⟩ := id b6y
            obtain ⟨s0, s1, s2, s3⟩ := id b7y
            obtain ⟨r0, r1, r2, r3⟩ := id bRy
            go_wp2
            refine bodyPost_ret (by simp [results, Tryz.results111, go_sem, cs_same, r0, r1]; rfl) rfl ?_
            rw [e.out.1, e.out.2]
            refine ⟨rfl, ?_⟩
            iterate 2 (refine Below.setCell ?_ (by dsimp only; omega) _)
            exact hbly
          · have e : Hid (oS d = SA ∧ oP d = PA) := by
              have h2 := HPn.out (fun h => h.1 HRB.out)
              rcases h2 with ⟨-, h4, -⟩ | ⟨-, h3⟩
              · rcases h4 with h4 | h4
                · exact absurd (HE2.out.1 c2) h4
                · exact absurd h4 hnb
              · exact ⟨by rw [h3]; exact HAn.out.1, by rw [h3]; exact HAn.out.2⟩
            by_cases eS : SN = SB
            · have eP : ¬ PN = PB := fun eP => hnb (o_inj5 (by rw [HN.out.1, HB.out.1, eS]) (by rw [HN.out.2, HB.out.2, eP]))
              have dP : (PN == PB) = false := beq_eq_false_iff_ne.2 eP
              rw [eS] at hNr
              clear HE1 HE2 HPn HB HAn HN HFl HRB c1 c2 eS hnb
              refine wp_region_above w9 (Below.refl _ _) (by kernel_rfl) (by kernel_rfl) ?_
              intro hCl
              have k0 : ∀ x : Cl w9, x.w.cell? ⟨X, 0, none⟩ = some (.string S) := fun x => x.cell v0
              have k1 : ∀ x : Cl w9, x.w.cell? ⟨X, 1, none⟩ = some (.int .i64 P) := fun x => x.cell v1
              have k2 : ∀ x : Cl w9, x.w.cell? ⟨B6, 0, none⟩ = some (.string SB) := fun x => x.cell t0
              have k3 : ∀ x : Cl w9, x.w.cell? ⟨B6, 1, none⟩ = some (.int .i64 PB) := fun x => x.cell t1
              repeat (go_big_quiet_step ((go_at_call 109; exact Cl.call (hNr _))))
              refine wpQuiet_nil ?_
              intro _ hw'
              obtain ⟨y, hx⟩ := hw'
              subst hx
              have b6y := keepb y.below b69
              have b7y := keepb y.below b79
              have bRy := keepb y.below bR9
              have hbly := bel_call hbl9 y.below (Nat.le_refl _)
              clear k0 k1 k2 k3 hCl t0 t1 t2 t3 s0 s1 s2 s3 r0 r1 r2 r3 v0 v1 v2 v3
              generalize y.w = w10 at *
              clear y
              obtain ⟨t0, t1, t2, t3⟩ := id b6y
              obtain ⟨s0, s1, s2, s3⟩ := id b7y
              obtain ⟨r0, r1, r2, r3⟩ := id bRy
              go_wp2
              refine bodyPost_ret (by simp [results, Tryz.results111, go_sem, cs_same, r0, r1]; rfl) rfl ?_
              rw [e.out.1, e.out.2]
              refine ⟨rfl, ?_⟩
              iterate 2 (refine Below.setCell ?_ (by dsimp only; omega) _)
              exact hbly
            · have dS : ¬ SN.toList = SB.toList := ba_ne eS
              have dS2 : (SN.toList == SB.toList) = false := beq_eq_false_iff_ne.2 dS
              clear HE1 HE2 HPn HB HAn HN HFl HRB c1 c2 hnb
              refine wp_region_above w9 (Below.refl _ _) (by kernel_rfl) (by kernel_rfl) ?_
              intro hCl
              have k0 : ∀ x : Cl w9, x.w.cell? ⟨X, 0, none⟩ = some (.string S) := fun x => x.cell v0
              have k1 : ∀ x : Cl w9, x.w.cell? ⟨X, 1, none⟩ = some (.int .i64 P) := fun x => x.cell v1
              have k2 : ∀ x : Cl w9, x.w.cell? ⟨B6, 0, none⟩ = some (.string SB) := fun x => x.cell t0
              have k3 : ∀ x : Cl w9, x.w.cell? ⟨B6, 1, none⟩ = some (.int .i64 PB) := fun x => x.cell t1
              repeat (go_big_quiet_step ((go_at_call 109; exact Cl.call (hNr _))))
              refine wpQuiet_nil ?_
              intro _ hw'
              obtain ⟨y, hx⟩ := hw'
              subst hx
              have b6y := keepb y.below b69
              have b7y := keepb y.below b79
              have bRy := keepb y.below bR9
              have hbly := bel_call hbl9 y.below (Nat.le_refl _)
              clear k0 k1 k2 k3 hCl t0 t1 t2 t3 s0 s1 s2 s3 r0 r1 r2 r3 v0 v1 v2 v3
              generalize y.w = w10 at *
              clear y
              obtain ⟨t0, t1, t2, t3⟩ := id b6y
              obtain ⟨s0, s1, s2, s3⟩ := id b7y
              obtain ⟨r0, r1, r2, r3⟩ := id bRy
              go_wp2
              refine bodyPost_ret (by simp [results, Tryz.results111, go_sem, cs_same, r0, r1]; rfl) rfl ?_
              rw [e.out.1, e.out.2]
              refine ⟨rfl, ?_⟩
              iterate 2 (refine Below.setCell ?_ (by dsimp only; omega) _)
              exact hbly
        · have d2 : ((q2 : Int) != (p : Int)) = true := by rw [bne_iff_ne]; omega
          have e : Hid (oS d = SB ∧ oP d = PB) := by
            have h1 : ¬ R (An v n) := fun h => c2 (HE2.out.2 h)
            have h2 := HPn.out (fun h => h.1 HRB.out)
            rcases h2 with ⟨-, -, h3⟩ | ⟨h3, -⟩
            · exact ⟨by rw [h3]; exact HB.out.1, by rw [h3]; exact HB.out.2⟩
            · exact absurd ⟨HRB.out, .inl h1⟩ h3
          clear HE1 HE2 HPn HB HAn HN HFl HRB c1 c2 hNr
          go_wp2
          refine wp_region_above w9 (Below.refl _ _) (by kernel_rfl) (by kernel_rfl) ?_
          intro hCl
          have k0 : ∀ x : Cl w9, x.w.cell? ⟨X, 0, none⟩ = some (.string S) := fun x => x.cell v0
          have k1 : ∀ x : Cl w9, x.w.cell? ⟨X, 1, none⟩ = some (.int .i64 P) := fun x => x.cell v1
          have k2 : ∀ x : Cl w9, x.w.cell? ⟨B6, 0, none⟩ = some (.string SB) := fun x => x.cell t0
          have k3 : ∀ x : Cl w9, x.w.cell? ⟨B6, 1, none⟩ = some (.int .i64 PB) := fun x => x.cell t1
          repeat (go_big_quiet_step (fail))
          refine wpQuiet_nil ?_
          intro _ hw'
          obtain ⟨y, hx⟩ := hw'
          subst hx
          have b6y := keepb y.below b69
          have b7y := keepb y.below b79
          have bRy := keepb y.below bR9
          have hbly := bel_call hbl9 y.below (Nat.le_refl _)
          clear k0 k1 k2 k3 hCl t0 t1 t2 t3 s0 s1 s2 s3 r0 r1 r2 r3 v0 v1 v2 v3
          generalize y.w = w10 at *
          clear y
          obtain ⟨t0, t1, t2, t3⟩ := id b6y
          obtain ⟨s0, s1, s2, s3⟩ := id b7y
          obtain ⟨r0, r1, r2, r3⟩ := id bRy
          go_wp2
          refine bodyPost_ret (by simp [results, Tryz.results111, go_sem, cs_same, r0, r1]; rfl) rfl ?_
          rw [e.out.1, e.out.2]
          refine ⟨rfl, ?_⟩
          iterate 2 (refine Below.setCell ?_ (by dsimp only; omega) _)
          exact hbly
      · have d1 : ((q1 : Int) == (p : Int)) = false := by rw [beq_eq_false_iff_ne]; omega
        have d1' : ((q1 : Int) != (p : Int)) = true := by rw [bne_iff_ne]; omega
        have HRB : Hid (¬ R (Bn v n)) := fun h => c1 (HE1.out.2 h)
        by_cases c2 : q2 = p
        · have d2 : ((q2 : Int) != (p : Int)) = false := by rw [c2]; exact bne_self_eq_false _
          have e : Hid (oS d = SA ∧ oP d = PA) := by
            have h2 := HPn.out (fun h => h.2 (HE2.out.1 c2))
            rcases h2 with ⟨h3, -, -⟩ | ⟨-, h3⟩
            · exact absurd h3 HRB.out
            · exact ⟨by rw [h3]; exact HAn.out.1, by rw [h3]; exact HAn.out.2⟩
          clear HE1 HE2 HPn HB HAn HN HFl HRB c1 c2 hNr
          go_wp2
          refine wp_region_above w9 (Below.refl _ _) (by kernel_rfl) (by kernel_rfl) ?_
          intro hCl
          have k0 : ∀ x : Cl w9, x.w.cell? ⟨X, 0, none⟩ = some (.string S) := fun x => x.cell v0
          have k1 : ∀ x : Cl w9, x.w.cell? ⟨X, 1, none⟩ = some (.int .i64 P) := fun x => x.cell v1
          have k2 : ∀ x : Cl w9, x.w.cell? ⟨B6, 0, none⟩ = some (.string SB) := fun x => x.cell t0
          have k3 : ∀ x : Cl w9, x.w.cell? ⟨B6, 1, none⟩ = some (.int .i64 PB) := fun x => x.cell t1
          repeat (go_big_quiet_step (fail))
          refine wpQuiet_nil ?_
          intro _ hw'
          obtain ⟨y, hx⟩ := hw'
          subst hx
          have b6y := keepb y.below b69
          have b7y := keepb y.below b79
          have bRy := keepb y.below bR9
          have hbly := bel_call hbl9 y.below (Nat.le_refl _)
          clear k0 k1 k2 k3 hCl t0 t1 t2 t3 s0 s1 s2 s3 r0 r1 r2 r3 v0 v1 v2 v3
          generalize y.w = w10 at *
          clear y
          obtain ⟨t0, t1, t2, t3⟩ := id b6y
          obtain ⟨s0, s1, s2, s3⟩ := id b7y
          obtain ⟨r0, r1, r2, r3⟩ := id bRy
          go_wp2
          refine bodyPost_ret (by simp [results, Tryz.results111, go_sem, cs_same, r0, r1]; rfl) rfl ?_
          rw [e.out.1, e.out.2]
          refine ⟨rfl, ?_⟩
          iterate 2 (refine Below.setCell ?_ (by dsimp only; omega) _)
          exact hbly
        · have d2 : ((q2 : Int) != (p : Int)) = true := by rw [bne_iff_ne]; omega
          have HFn : Hid (failN R v n) := ⟨HRB.out, fun h => c2 (HE2.out.2 h)⟩
          clear HE1 HE2 HPn HB HAn HN HRB c1 c2 hNr
          go_wp2
          go_roundg (gk - 1)
          case measure => omega
          case rel =>
            refine ⟨n + 1, by go_num, by omega, by omega, bR9, bV9, hbl9, fun j h1 h2 => ?_⟩
            rcases Nat.lt_or_ge j n with h | h
            · exact HFl.out j h1 h
            · obtain rfl : j = n := by omega
              exact HFn.out
    · have hnI : ¬ (n : Int) < S.size := by have := HS.out; omega
      have e : Hid (oS d = S ∧ oP d = P) := by
        have h1 := HA.out fun j h1 h2 => HFl.out j h1 (by omega)
        exact ⟨by rw [h1]; exact HSe.out.1, by rw [h1]; exact HSe.out.2⟩
      clear HI HR HA HPk HFl
      go_wp2
      refine bodyPost_ret (by simp [results, Tryz.results111, go_sem, cs_same, r0, r1]; rfl) rfl ?_
      rw [e.out.1, e.out.2]
      refine ⟨rfl, ?_⟩
      iterate 2 (refine Below.setCell ?_ (by dsimp only; omega) _)
      exact hbl
end Go.Proofs.YthbabhbfpcfenaaGreatDoor

/- The document's Shortest, whatever it is asked for. -/
namespace Go.Proofs.YthbabhbfpcfenaaGreatDoor
open Go.RowKit
set_option linter.unusedVariables false
set_option linter.unusedSimpArgs false

theorem kbare_any {bits : Nat} {size : Int} {f ww : Nat} {least : Int} {I : Nat} (h : Ly size f ww least I) (hb : bits < 18446744073709551616) : KbC bits size (bare f ww bits) := by
  have hp : PowC ((f : Int) + (ww : Int)) (2 ^ (f + ww) : Nat) := fun w => kpow_any (f + ww) w (by rcases h with ⟨-, rfl, rfl, -, -⟩ | ⟨-, rfl, rfl, -, -⟩ <;> decide)
  exact kbare_run (fun w => kshape_any h w) hp (Nat.pow_pos (by decide)) (by rcases h with ⟨-, rfl, rfl, -, -⟩ | ⟨-, rfl, rfl, -, -⟩ <;> decide) (by rcases h with ⟨-, rfl, rfl, -, -⟩ | ⟨-, rfl, rfl, -, -⟩ <;> decide) hb
theorem kshort_fin {bits : Nat} {size : Int} {f ww : Nat} {least : Int} {I d : Nat} (h : Ly size f ww least I) (hb : bits < 18446744073709551616) (hp : bare f ww bits < I) (hd : SH (fun x => RD f I (un least) x (bare f ww bits)) (val f least (bare f ww bits)) d) : KshC bits size (oS d) (oP d) 0 := by
  obtain ⟨q0, q1, hI2, hI0, -, hf1, hf2, -, q2⟩ := h.pk
  have q3 := q2 _ hp
  have q4 := h.pm (bare f ww bits)
  obtain ⟨hv, fv⟩ := val_ex h hp
  have e1 : ptM f ww I bits = pm f (bare f ww bits) := by unfold ptM; rw [if_pos hp]
  have e2 : ptE f ww I least bits = least + pk f (bare f ww bits) := by unfold ptE; rw [if_pos hp]
  have e3 : ptK f ww I bits = 0 := by unfold ptK; rw [if_pos hp]
  have hP : KpC bits size (sgn f ww bits) (ptM f ww I bits) (ptE f ww I least bits) (ptK f ww I bits) := fun w => kparts_any h hb w
  rw [e1, e2, e3] at hP
  have hX : HxC (pm f (bare f ww bits)) (least + pk f (bare f ww bits)) (oS (val f least (bare f ww bits))) (oP (val f least (bare f ww bits))) := hxC (by omega) (by omega) (by omega) hv
  have hu := un_pos least
  generalize hve : val f least (bare f ww bits) = v at *
  have hl := fv.len
  have hp0 := fv.p0
  have hp1 := fv.p1
  have hsz := oS_size v
  refine kshort_run (R := fun x => RD f I (un least) x (bare f ww bits)) (L := (oL v).length) (fun w => ksized_yes h w) hP (kbare_any h hb) (kvalue_run hP hX) hsz hl hp0 hp1 (fun n h1 h2 => ?_) (fun n h1 h2 => ?_) hd
  · obtain ⟨c1, c2, c3⟩ := cutV (Nat.le_of_lt h2)
    obtain ⟨gB, gA, g1, -⟩ := An_good fv h1 (Nat.le_of_lt h2)
    have q := Qn_eq (Nat.le_of_lt h2)
    refine ⟨fun w => ?_, fun w => ?_, ?_⟩
    · have := hin_any ((oS v).extract 0 n) (oP v) w c2 (by omega) (by omega) (by omega)
      rw [c1] at this
      exact this
    · obtain ⟨o1, o2⟩ := one_G (oP v - n) (Qn v n) (by omega)
      have := hsum_any (Bn v n) (10 ^ Qn v n) w (by have := gB.len; omega) (by have := g1.len; omega) (by have := gB.p1; omega) (by have := g1.p1; omega)
      rw [o1, o2] at this
      exact this
    · have := hnearC (v := v) ⟨by omega, by omega, by omega⟩ (oP v - n) (by omega) (by omega)
      rw [nst_rnd, rnd_near (Q := Qn v n) (by omega)] at this
      exact this
  · obtain ⟨gB, gA, -, -⟩ := An_good fv h1 (Nat.le_of_lt h2)
    have key : ∀ x, Good x → ∃ r : Nat, KrC (oS x) (oP x) size r 0 ∧ (r = bare f ww bits ↔ RD f I (un least) x (bare f ww bits)) := fun x gx => by
      obtain ⟨r, hr⟩ := rd_ex f I (un least) x hu
      refine ⟨r, kread_ok h (by have := gx.len; have := oS_size x; omega) gx.normE (by rw [gx.normV]; exact hr), fun e => by rw [← e]; exact hr, fun k => hr.uniq hu k⟩
    obtain ⟨r1, a1, a2⟩ := key _ gB
    obtain ⟨r2, b1, b2⟩ := key _ gA
    exact ⟨r1, r2, a1, b1, a2, b2⟩
end Go.Proofs.YthbabhbfpcfenaaGreatDoor
