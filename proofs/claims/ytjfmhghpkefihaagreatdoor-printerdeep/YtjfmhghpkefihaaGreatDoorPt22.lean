/- ZDirB, ZLit, ZFmt, RRune: these texts in one. -/
import Derived.Test.YtjfmhghpkefihaaGreatDoorPt19
import Derived.Test.YtjfmhghpkefihaaGreatDoorPt4
namespace Go.Proofs.YtjfmhghpkefihaaGreatDoor
open Go.RowKit
set_option linter.unusedVariables false
set_option linter.unusedSimpArgs false
theorem pcV_len (p : Pc) (t : ByteArray) : (pcV p t).length = 20 := rfl
set_option maxRecDepth 1000000 in
set_option maxHeartbeats 1000000 in
theorem dir_pct (p : Pc) (t : ByteArray) (hv : p.verb = 37) (hw : p.wid.k = 0) (hp : p.prec.k = 0) {w : World} {g C M : Nat} {l : List UInt8} {dp : Int} {av : Value} {vs : List Value} {nx : Int} (hE : En w g C M l dp av vs nx) (hl : l.length ≤ 900000000) :
  Calls Tryz.prog 45 #[.pointer (some ⟨g, 0, none⟩), .agg (pcV p t).toArray] w fun e w' => e = .returned (.tuple #[]) ∧ En w' g C M (l ++ [37]) dp av vs nx ∧ Kx (fun k => k = g) w w' := by
 have hS := sized_none p t hw hp g
 have hvf : (spQ p).verb = 37 := by show (p.verb : Int) = 37; rw [hv]; rfl
 have hlen := pcV_len p t
 generalize spQ p = f at *
 generalize pcV p t = H at *
 obtain ⟨f0, f1, f2, f3, f4, f5, f6, f7⟩ := f
 dsimp only at hvf
 subst hvf
 obtain ⟨W1, hW1⟩ : ∃ W1, W1 = w.alloc (.cells H.toArray 86) := ⟨_, rfl⟩
 have hB : Blk W1 w.heap.size H := by rw [hW1]; exact Blk.new w H 86
 have b1 : Below w.heap.size w W1 := by rw [hW1]; exact (Below.refl _ _).alloc (Nat.le_refl _) _
 have hg := hE.lt
 have E1 := hE.up b1
 clear hw hp hv
 have hPR := fun W (h : IsPr W g l (prT C dp av nx)) => putRune_any g l _ 37 W h hl
 rw [show (Utf8.encode 37).data.toList = [37] by decide +kernel] at hPR
 go_enter Tryz.func45, Tryz.ntmps45
 go_upto_region 1 with fail
 rw [← hW1]
 clear hW1
 go_upto_region 2 with (first | (refine wpl_ld row_Piece rfl (.tmp 3) rfl rfl hB.range hlen ?_) | (go_at_call 66; refine (hS _).mono ?_; rintro e V ⟨rfl, bV⟩))
 go_upto_region 3 with fail
 obtain ⟨W4, hW4⟩ : ∃ W4, W4 = V.alloc (.cells #[.bool f0, .bool f1, .bool f2, .bool f3, .bool f4, .int .i64 f5, .int .i64 f6, .int .i32 37] 67) := ⟨_, rfl⟩
 have b4 : Below w.heap.size w W4 := by rw [hW4]; exact (b1.trans (bV.mono b1.size)).alloc (Nat.le_trans b1.size bV.size) _
 have p4 := (hE.up b4).v.p
 rw [← hW4]
 clear hW4 bV hB E1
 go_wp2_with (go_at_call 22; refine (hPR _ p4).mono ?_; rintro e V5 ⟨rfl, p5, k5⟩)
 refine bodyPost_ret (results_none rfl _ _ _) rfl ?_
 have kk : Kx (fun k => k = g) w V5 := (Kx.of_below b4).trans k5
 exact ⟨rfl, hE.kept kk p5, kk⟩
set_option maxRecDepth 1000000 in
set_option maxHeartbeats 1000000 in
theorem dir_show (p : Pc) (t : ByteArray) (f : Sq) (i : Nat) (tt : TypeId) (x : Value) (T : ByteArray) (m : Int) {w : World} {g C M : Nat} {l : List UInt8} {dp : Int} {av : Value} {vs : List Value} {nx : Int} (hE : En w g C M l dp av vs nx)
  (hS : ∀ W, En W g C M l dp av vs nx → Calls Tryz.prog 66 #[.pointer (some ⟨g, 0, none⟩), .agg (pcV p t).toArray] W fun e w' => e = .returned (SV f) ∧ En w' g C M l dp av vs ((i : Int) + 1) ∧ Kx (fun k => k = g) W w')
  (hv : ¬ f.verb = 37) (ha : (pcV p t)[18]? = some (.int .i64 0)) (ha1 : (pcV p t)[19]? = some (.int .i64 m)) (hi : vs[i]? = some (.iface tt x)) (hlen : vs.length ≤ 1000)
  (hSh : ∀ W, En W g C M l dp av vs ((i : Int) + 2) → Calls Tryz.prog 24 #[.pointer (some ⟨g, 0, none⟩), .iface tt x, SV f] W fun e w' => e = .returned (.string T) ∧ Below W.heap.size W w') (hl : l.length + T.size ≤ 1000000000) :
  Calls Tryz.prog 45 #[.pointer (some ⟨g, 0, none⟩), .agg (pcV p t).toArray] w fun e w' => e = .returned (.tuple #[]) ∧ En w' g C M (l ++ T.data.toList) dp av vs ((i : Int) + 2) ∧ Kx (fun k => k = g) w w' := by
 have hlp := pcV_len p t
 generalize pcV p t = H at *
 obtain ⟨W1, hW1⟩ : ∃ W1, W1 = w.alloc (.cells H.toArray 86) := ⟨_, rfl⟩
 have hB : Blk W1 w.heap.size H := by rw [hW1]; exact Blk.new w H 86
 have b1 : Below w.heap.size w W1 := by rw [hW1]; exact (Below.refl _ _).alloc (Nat.le_refl _) _
 have hg := hE.lt
 have E1 := hE.up b1
 have hS1 := hS _ E1
 clear hS
 go_enter Tryz.func45, Tryz.ntmps45
 go_upto_region 1 with fail
 rw [← hW1]
 clear hW1
 go_upto_region 2 with (first | (refine wpl_ld row_Piece rfl (.tmp 3) rfl rfl hB.range hlp ?_) | (go_at_call 66; refine hS1.mono ?_; rintro e V ⟨rfl, eV, kV⟩))
 have hBV := hB.kx kV (by omega)
 obtain ⟨W4, hW4⟩ : ∃ W4, W4 = V.alloc (.cells #[.bool f.p, .bool f.mi, .bool f.sh, .bool f.sp, .bool f.z, .int .i64 f.wid, .int .i64 f.prec, .int .i32 f.verb] 67) := ⟨_, rfl⟩
 have b4 : Below V.heap.size V W4 := by rw [hW4]; exact (Below.refl _ _).alloc (Nat.le_refl _) _
 have hB4 := hBV.up b4
 have E4 := eV.up b4
 have q4 : W4.cell? ⟨V.heap.size, 0, none⟩ = some (.bool f.p) ∧ W4.cell? ⟨V.heap.size, 1, none⟩ = some (.bool f.mi) ∧ W4.cell? ⟨V.heap.size, 2, none⟩ = some (.bool f.sh) ∧ W4.cell? ⟨V.heap.size, 3, none⟩ = some (.bool f.sp) ∧ W4.cell? ⟨V.heap.size, 4, none⟩ = some (.bool f.z) ∧ W4.cell? ⟨V.heap.size, 5, none⟩ = some (.int .i64 f.wid) ∧ W4.cell? ⟨V.heap.size, 6, none⟩ = some (.int .i64 f.prec) ∧ W4.cell? ⟨V.heap.size, 7, none⟩ = some (.int .i32 f.verb) := by
  rw [hW4]
  refine ⟨?_, ?_, ?_, ?_, ?_, ?_, ?_, ?_⟩
  all_goals simp [go_sem]
 have d0 := hB4.c _ _ ha
 have d1 := hB4.c _ _ ha1
 have hgV : g < V.heap.size := eV.lt
 have k4 : Kx (fun k => k = g) w W4 := ((Kx.of_below b1).trans kV).trans (.of_below b4)
 have hT := take_next i E4 _ _ hi m hlen
 have v7 := q4.2.2.2.2.2.2.2
 rw [← hW4]
 clear hW4 hB hBV hB4 hS1 b1 kV eV E1 ha ha1 hE
 go_upto_region 6 with (go_at_call 67; refine hT.mono ?_; rintro e V5 ⟨rfl, E5, k5⟩)
 clear d0 d1 v7 E4 hT
 have k5' : Kx (fun k => k = g) w V5 := k4.trans k5
 have s5 : V5.cell? ⟨V.heap.size, 0, none⟩ = some (.bool f.p) ∧ V5.cell? ⟨V.heap.size, 1, none⟩ = some (.bool f.mi) ∧ V5.cell? ⟨V.heap.size, 2, none⟩ = some (.bool f.sh) ∧ V5.cell? ⟨V.heap.size, 3, none⟩ = some (.bool f.sp) ∧ V5.cell? ⟨V.heap.size, 4, none⟩ = some (.bool f.z) ∧ V5.cell? ⟨V.heap.size, 5, none⟩ = some (.int .i64 f.wid) ∧ V5.cell? ⟨V.heap.size, 6, none⟩ = some (.int .i64 f.prec) ∧ V5.cell? ⟨V.heap.size, 7, none⟩ = some (.int .i32 f.verb) := by
  obtain ⟨a0, a1, a2, a3, a4, a5, a6, a7⟩ := q4
  exact ⟨k5.cell a0 (by dsimp only; omega), k5.cell a1 (by dsimp only; omega), k5.cell a2 (by dsimp only; omega), k5.cell a3 (by dsimp only; omega), k5.cell a4 (by dsimp only; omega), k5.cell a5 (by dsimp only; omega), k5.cell a6 (by dsimp only; omega), k5.cell a7 (by dsimp only; omega)⟩
 clear q4 k4 k5
 go_upto_region 7 with fail
 obtain ⟨Yd, hYd⟩ : ∃ Yd, Yd = V5.drew := ⟨_, rfl⟩
 have bY : Below V5.heap.size V5 Yd := by rw [hYd]; exact (Below.refl _ _).drew
 have EY : En Yd g C M l dp av vs ((i : Int) + 2) := E5.up bY
 have kY : Kx (fun k => k = g) w Yd := k5'.trans (.of_below bY)
 have sY : Yd.cell? ⟨V.heap.size, 0, none⟩ = some (.bool f.p) ∧ Yd.cell? ⟨V.heap.size, 1, none⟩ = some (.bool f.mi) ∧ Yd.cell? ⟨V.heap.size, 2, none⟩ = some (.bool f.sh) ∧ Yd.cell? ⟨V.heap.size, 3, none⟩ = some (.bool f.sp) ∧ Yd.cell? ⟨V.heap.size, 4, none⟩ = some (.bool f.z) ∧ Yd.cell? ⟨V.heap.size, 5, none⟩ = some (.int .i64 f.wid) ∧ Yd.cell? ⟨V.heap.size, 6, none⟩ = some (.int .i64 f.prec) ∧ Yd.cell? ⟨V.heap.size, 7, none⟩ = some (.int .i32 f.verb) := by rw [hYd]; exact s5
 refine wp_region_held_drew (S := fun w' : World => w'.cell? ⟨V.heap.size, 0, none⟩ = some (.bool f.p) ∧ w'.cell? ⟨V.heap.size, 1, none⟩ = some (.bool f.mi) ∧ w'.cell? ⟨V.heap.size, 2, none⟩ = some (.bool f.sh) ∧ w'.cell? ⟨V.heap.size, 3, none⟩ = some (.bool f.sp) ∧ w'.cell? ⟨V.heap.size, 4, none⟩ = some (.bool f.z) ∧ w'.cell? ⟨V.heap.size, 5, none⟩ = some (.int .i64 f.wid) ∧ w'.cell? ⟨V.heap.size, 6, none⟩ = some (.int .i64 f.prec) ∧ w'.cell? ⟨V.heap.size, 7, none⟩ = some (.int .i32 f.verb)) (by kernel_rfl) (by exact s5) ?_
 rw [← hYd]
 clear hYd E5 s5 k5' bY
 intro hS
 refine tk 0 (.pointer (some ⟨g, 0, none⟩)) rfl (by kernel_rfl) (fun _ _ _ h => h) (by rfl) (by assumption) ?_ ?_
 ·intro w5 s0
  go_simp
 try simp only [Act.put, lys]
 refine tk 1 (.pointer (some ⟨g, 0, none⟩)) rfl (by kernel_rfl) (fun _ _ _ h => h) (by rfl) (by assumption) ?_ ?_
 ·intro w5 s0
  go_simp
 try simp only [Act.put, lys]
 refine tk 2 (.pointer (some ⟨g, 0, none⟩)) rfl (by kernel_rfl) (fun _ _ _ h => h) (by rfl) (by assumption) ?_ ?_
 ·intro w5 s0
  go_simp
 try simp only [Act.put, lys]
 refine tk 3 (.pointer (some ⟨g, 0, none⟩)) rfl (by kernel_rfl) (fun _ _ _ h => h) (by rfl) (by assumption) ?_ ?_
 ·intro w5 s0
  go_simp
 try simp only [Act.put, lys]
 refine tk 4 (.iface tt x) rfl (by kernel_rfl) (fun _ _ _ h => h) (by rfl) (by assumption) ?_ ?_
 ·intro w5 s0
  go_simp
 try simp only [Act.put, lys]
 refine tk 5 (SV f) rfl (by kernel_rfl) (fun _ _ _ h => h) (by rfl) (by assumption) ?_ ?_
 ·intro w5 s0
  obtain ⟨a0, a1, a2, a3, a4, a5, a6, a7⟩ := s0
  go_simp
 try simp only [Act.put, lys]
 refine rd1 6 (by kernel_rfl) rfl fun K6 hK6 => ?_
 go_simp
 refine (hSh Yd EY).mono ?_
 rintro e W6 ⟨rfl, b6⟩
 have sW6 : W6.cell? ⟨V.heap.size, 0, none⟩ = some (.bool f.p) ∧ W6.cell? ⟨V.heap.size, 1, none⟩ = some (.bool f.mi) ∧ W6.cell? ⟨V.heap.size, 2, none⟩ = some (.bool f.sh) ∧ W6.cell? ⟨V.heap.size, 3, none⟩ = some (.bool f.sp) ∧ W6.cell? ⟨V.heap.size, 4, none⟩ = some (.bool f.z) ∧ W6.cell? ⟨V.heap.size, 5, none⟩ = some (.int .i64 f.wid) ∧ W6.cell? ⟨V.heap.size, 6, none⟩ = some (.int .i64 f.prec) ∧ W6.cell? ⟨V.heap.size, 7, none⟩ = some (.int .i32 f.verb) := by
  obtain ⟨a0, a1, a2, a3, a4, a5, a6, a7⟩ := sY
  exact ⟨up_cell b6 a0, up_cell b6 a1, up_cell b6 a2, up_cell b6 a3, up_cell b6 a4, up_cell b6 a5, up_cell b6 a6, up_cell b6 a7⟩
 refine hK6.out _ _ sW6 (fun _ => ?_)
 clear hK6
 try simp only [Act.put, lys]
 have E6 := EY.up b6
 have k6 : Kx (fun k => k = g) w W6 := kY.trans (.of_below b6)
 clear EY sY b6 kY hSh
 refine rd1 7 (by kernel_rfl) rfl fun K7 hK7 => ?_
 go_simp
 refine (put_any g l _ T W6 E6.v.p hl).mono ?_
 rintro e W7 ⟨rfl, p7, k7⟩
 have sW7 : W7.cell? ⟨V.heap.size, 0, none⟩ = some (.bool f.p) ∧ W7.cell? ⟨V.heap.size, 1, none⟩ = some (.bool f.mi) ∧ W7.cell? ⟨V.heap.size, 2, none⟩ = some (.bool f.sh) ∧ W7.cell? ⟨V.heap.size, 3, none⟩ = some (.bool f.sp) ∧ W7.cell? ⟨V.heap.size, 4, none⟩ = some (.bool f.z) ∧ W7.cell? ⟨V.heap.size, 5, none⟩ = some (.int .i64 f.wid) ∧ W7.cell? ⟨V.heap.size, 6, none⟩ = some (.int .i64 f.prec) ∧ W7.cell? ⟨V.heap.size, 7, none⟩ = some (.int .i32 f.verb) := by
  obtain ⟨a0, a1, a2, a3, a4, a5, a6, a7⟩ := sW6
  exact ⟨k7.cell a0 (by dsimp only; omega), k7.cell a1 (by dsimp only; omega), k7.cell a2 (by dsimp only; omega), k7.cell a3 (by dsimp only; omega), k7.cell a4 (by dsimp only; omega), k7.cell a5 (by dsimp only; omega), k7.cell a6 (by dsimp only; omega), k7.cell a7 (by dsimp only; omega)⟩
 refine hK7.out _ _ sW7 (fun _ => ?_)
 clear hK7
 try simp only [Act.put, lys]
 refine wpAnyH_done (by kernel_rfl) ?_ _
 have E7 := E6.kept k7 p7
 have kk : Kx (fun k => k = g) w W7 := k6.trans k7
 clear E6 sW6 sW7 p7 k7 k6
 go_wp2
 go_end0
 exact ⟨rfl, E7, kk⟩
set_option maxRecDepth 1000000 in
set_option maxHeartbeats 1000000 in
theorem lpiece_dir (p : Pc) (t : ByteArray) (hk : p.kind = 1) (o : List UInt8) (nx' : Int) {w : World} {g C M : Nat} {l : List UInt8} {dp : Int} {av : Value} {vs : List Value} {nx : Int} (hE : En w g C M l dp av vs nx)
  (hD : ∀ W, En W g C M l dp av vs nx → Calls Tryz.prog 45 #[.pointer (some ⟨g, 0, none⟩), .agg (pcV p t).toArray] W fun e w' => e = .returned (.tuple #[]) ∧ En w' g C M (l ++ o) dp av vs nx' ∧ Kx (fun k => k = g) W w') :
  Calls Tryz.prog 31 #[.pointer (some ⟨g, 0, none⟩), .agg (pcV p t).toArray] w fun e w' => e = .returned (.tuple #[]) ∧ En w' g C M (l ++ o) dp av vs nx' ∧ Kx (fun k => k = g) w w' := by
 have c0 : (pcV p t)[0]? = some (.int .i64 1) := by unfold pcV pieceV; rw [hk]; rfl
 have hlp := pcV_len p t
 generalize pcV p t = H at *
 obtain ⟨W1, hW1⟩ : ∃ W1, W1 = w.alloc (.cells H.toArray 86) := ⟨_, rfl⟩
 have hB : Blk W1 w.heap.size H := by rw [hW1]; exact Blk.new w H 86
 have b1 : Below w.heap.size w W1 := by rw [hW1]; exact (Below.refl _ _).alloc (Nat.le_refl _) _
 have hg := hE.lt
 have E1 := hE.up b1
 have d0 := hB.c _ _ c0
 have hD1 := hD _ E1
 clear hD c0 hk
 go_enter Tryz.func31, Tryz.ntmps31
 go_upto_region 1 with fail
 rw [← hW1]
 clear hW1
 go_wp2_with (first | (refine wpl_ld row_Piece rfl (.tmp 3) rfl rfl hB.range hlp ?_) | (go_at_call 45; refine hD1.mono ?_; rintro e V ⟨rfl, eV, kV⟩))
 go_end0
 exact ⟨rfl, eV, (Kx.of_below b1).trans kV⟩
end Go.Proofs.YtjfmhghpkefihaaGreatDoor
namespace Go.Proofs.YtjfmhghpkefihaaGreatDoor
open Go.RowKit
set_option linter.unusedVariables false
set_option linter.unusedSimpArgs false
set_option maxRecDepth 1000000 in
set_option maxHeartbeats 1000000 in
theorem lpiece_lit (p : Pc) (t : ByteArray) (hk : p.kind = 0) {w : World} {g C M : Nat} {l : List UInt8} {dp : Int} {av : Value} {vs : List Value} {nx : Int} (hE : En w g C M l dp av vs nx) (hl : l.length + t.size ≤ 1000000000) :
  Calls Tryz.prog 31 #[.pointer (some ⟨g, 0, none⟩), .agg (pcV p t).toArray] w fun e w' => e = .returned (.tuple #[]) ∧ En w' g C M (l ++ t.data.toList) dp av vs nx ∧ Kx (fun k => k = g) w w' := by
 have c0 : (pcV p t)[0]? = some (.int .i64 0) := by unfold pcV pieceV; rw [hk]; rfl
 have c1 : (pcV p t)[1]? = some (.string t) := rfl
 generalize pcV p t = H at *
 obtain ⟨W1, hW1⟩ : ∃ W1, W1 = w.alloc (.cells H.toArray 86) := ⟨_, rfl⟩
 have hB : Blk W1 w.heap.size H := by rw [hW1]; exact Blk.new w H 86
 have b1 : Below w.heap.size w W1 := by rw [hW1]; exact (Below.refl _ _).alloc (Nat.le_refl _) _
 have d0 := hB.c _ _ c0
 have d1 := hB.c _ _ c1
 have hg := hE.lt
 have E1 := hE.up b1
 clear hB c0 c1 hk
 go_enter Tryz.func31, Tryz.ntmps31
 go_upto_region 1 with fail
 rw [← hW1]
 clear hW1
 go_upto_region 3 with fail
 obtain ⟨Yd, hYd⟩ : ∃ Yd, Yd = W1.drew := ⟨_, rfl⟩
 have bY : Below w.heap.size w Yd := by rw [hYd]; exact b1.drew
 have EY : En Yd g C M l dp av vs nx := hE.up bY
 have sY : Yd.cell? ⟨w.heap.size, 1, none⟩ = some (.string t) := by rw [hYd]; exact d1
 refine wp_region_held_drew (S := fun w' : World => w'.cell? ⟨w.heap.size, 1, none⟩ = some (.string t)) (by kernel_rfl) (by exact d1) ?_
 rw [← hYd]
 clear hYd E1 d0 d1 b1
 intro hS
 refine tk 0 (.pointer (some ⟨g, 0, none⟩)) rfl (by kernel_rfl) (fun _ _ _ h => h) (by rfl) (by assumption) ?_ ?_
 ·intro w5 s0
  go_simp
 try simp only [Act.put, lys]
 refine tk 1 (.pointer (some ⟨g, 0, none⟩)) rfl (by kernel_rfl) (fun _ _ _ h => h) (by rfl) (by assumption) ?_ ?_
 ·intro w5 s0
  go_simp
 try simp only [Act.put, lys]
 refine tk 2 (.pointer (some ⟨g, 0, none⟩)) rfl (by kernel_rfl) (fun _ _ _ h => h) (by rfl) (by assumption) ?_ ?_
 ·intro w5 s0
  go_simp
 try simp only [Act.put, lys]
 refine tk 3 (.pointer (some ⟨w.heap.size, 1, none⟩)) rfl (by kernel_rfl) (fun _ _ _ h => h) (by rfl) (by assumption) ?_ ?_
 ·intro w5 s0
  go_simp
 try simp only [Act.put, lys]
 refine tk 4 (.string t) rfl (by kernel_rfl) (fun _ _ _ h => h) (by rfl) (by assumption) ?_ ?_
 ·intro w5 s0
  go_simp
 try simp only [Act.put, lys]
 refine rd1 5 (by kernel_rfl) rfl fun K5 hK5 => ?_
 go_simp
 refine (put_any g l _ t Yd EY.v.p hl).mono ?_
 rintro e W2 ⟨rfl, p2, k2⟩
 have s2 : W2.cell? ⟨w.heap.size, 1, none⟩ = some (.string t) := k2.cell sY (by dsimp only; omega)
 refine hK5.out _ _ s2 (fun _ => ?_)
 clear hK5
 try simp only [Act.put, lys]
 refine wpAnyH_done (by kernel_rfl) ?_ _
 have E2 := EY.kept k2 p2
 have kk : Kx (fun k => k = g) w W2 := (Kx.of_below bY).trans k2
 clear EY sY s2 p2 k2 hE
 go_wp2
 go_end0
 exact ⟨rfl, E2, kk⟩
end Go.Proofs.YtjfmhghpkefihaaGreatDoor
namespace Go.Proofs.YtjfmhghpkefihaaGreatDoor
open Go.RowKit
set_option linter.unusedVariables false
set_option linter.unusedSimpArgs false
def PcOK (g C M : Nat) (dp : Int) (av : Value) (vs : List Value) (p : Pc) (nx nx' : Int) (o : List UInt8) : Prop :=
 ∀ (w : World) (l : List UInt8), En w g C M l dp av vs nx → l.length + o.length ≤ 900000000 → Calls Tryz.prog 31 #[.pointer (some ⟨g, 0, none⟩), .agg (pcV p (ba p.text)).toArray] w fun e w' => e = .returned (.tuple #[]) ∧ En w' g C M (l ++ o) dp av vs nx' ∧ Kx (fun k => k = g) w w'
def PsOK (g C M : Nat) (dp : Int) (av : Value) (vs : List Value) : List Pc → Int → Int → List UInt8 → Prop
 | [], nx, nx', o => o = [] ∧ nx = nx'
 | p :: t, nx, nx', o => ∃ o1 o2 n1, PcOK g C M dp av vs p nx n1 o1 ∧ PsOK g C M dp av vs t n1 nx' o2 ∧ o = o1 ++ o2
theorem ps_next {g C M : Nat} {dp : Int} {av : Value} {vs : List Value} {ps : List Pc} {j : Nat} {p : Pc} {nx nx' : Int} {o : List UInt8} (hp : ps[j]? = some p) (h : PsOK g C M dp av vs (ps.drop j) nx nx' o) :
  ∃ o1 o2 n1, PcOK g C M dp av vs p nx n1 o1 ∧ PsOK g C M dp av vs (ps.drop (j + 1)) n1 nx' o2 ∧ o = o1 ++ o2 := by
 obtain ⟨hj, rfl⟩ := List.getElem?_eq_some_iff.1 hp
 rw [List.drop_eq_getElem_cons hj] at h
 exact h
theorem zero_pc (w : World) : (zeroValue 86).run Tryz.prog w = .ok (.agg (pieceV 0 ⟨#[]⟩ fl0 0 0 nb0 nb0 ix0).toArray) w := by kernel_rfl
def noIx (p : Pc) : Prop := p.arg.k = 0 ∧ p.wid.a.k = 0 ∧ p.prec.a.k = 0
set_option maxRecDepth 1000000 in
set_option maxHeartbeats 2000000 in
theorem format_of (s : ByteArray) (hs : s.size ≤ 100000) (ps : List Pc) (hps : prs s.data.toList = ps) (hno : ∀ p ∈ ps, noIx p) (o ox : List UInt8) {w : World} {g C M : Nat} {dp : Int} {av : Value} {vs : List Value} {nx nx' : Int} (hE : En w g C M [] dp av vs nx)
  (hP : PsOK g C M dp av vs ps nx nx' o) (hov : ps.length ≤ 1 ∨ o.length ≤ 4096) (ho : o.length ≤ 100000) (hX : ∀ W, En W g C M o dp av vs nx' → Calls Tryz.prog 34 #[.pointer (some ⟨g, 0, none⟩)] W fun e w' => e = .returned (.tuple #[]) ∧ IsPr w' g (o ++ ox) (prT C dp av nx') ∧ Kx (fun k => k = g) W w') :
  Calls Tryz.prog 20 #[.pointer (some ⟨g, 0, none⟩), .string s] w fun e w' => e = .returned (.tuple #[]) ∧ IsPr w' g (o ++ ox) (prT C dp av nx') ∧ Kx (fun k => k = g) w w' := by
 have hPS := parse_any s (by omega) w
 have hlen : ps.length ≤ 100000 := by
  have := prs_len s.data.toList
  rw [hps] at this
  have e : s.size = s.data.toList.length := by rw [Array.length_toList]; rfl
  omega
 rw [hps] at hPS
 clear hps hs
 have hlI : (ps.length : Int) ≤ 100000 := by omega
 have hg := hE.lt
 have hz0 := zero_pc
 have hzl : (pieceV 0 ⟨#[]⟩ fl0 0 0 nb0 nb0 ix0).length = 20 := rfl
 generalize pieceV 0 ⟨#[]⟩ fl0 0 0 nb0 nb0 ix0 = ZV at *
 go_enter Tryz.func20, Tryz.ntmps20
 go_upto_region 1 with (go_at_call 30; refine hPS.mono ?_; rintro e W1 ⟨v, rfl, hrow, bW⟩)
 obtain ⟨a, c, rfl, hc1, hc2⟩ := own_slice9 hrow
 have hcI : (ps.length : Int) ≤ c := by omega
 have hra : 0 < ps.length → ∃ G, a = some ⟨G, 0, none⟩ ∧ w.heap.size ≤ G ∧ G < W1.heap.size ∧ RowAt W1 G ps := fun h => own_row hrow h
 have E1 := hE.up bW
 have k1 : Kx (fun k => k = g) w W1 := .of_below bW
 clear hrow hPS hE
 go_wp2
 go_loopg [6, 11] ps.length (fun gg z i wr => ∃ (j : Nat) (o1 o2 : List UInt8) (nj : Int), i = .int .i64 j ∧ j + gg = ps.length ∧ Kx (fun k => k = g) W1 wr ∧ En wr g C M o1 dp av vs nj ∧ PsOK g C M dp av vs (ps.drop j) nj nx' o2 ∧ Hid (o1 ++ o2 = o) ∧ Hid (j = 0 → o1 = []))
 case atStart => exact ⟨0, [], o, nx, rfl, Nat.zero_add _, Kx.refl _ _, E1, hP, (rfl : _ = _), (fun _ => rfl : _ → _)⟩
 case round =>
  obtain ⟨j, o1, o2, nj, rfl, hjg, kj, Ej, hPj, hoo, hj0⟩ := hrel
  by_cases hlt : j < ps.length
  ·have hltI : (j : Int) < ps.length := by omega
   obtain ⟨G, rfl, hG0, hG, hR⟩ := hra (by omega)
   obtain ⟨p, hp⟩ : ∃ p, ps[j]? = some p := ⟨ps[j], List.getElem?_eq_getElem hlt⟩
   obtain ⟨q1, q2, n1, hp1, hp2, rfl⟩ := ps_next hp hPj
   have hR' := hR.kept (kj.block G hG (by omega))
   have hr : wr.rangeAt G (j * 20) (pcV p (ba p.text)) := hR' j p hp
   have hsz : o1.length + (q1 ++ q2).length = o.length := by rw [← hoo.out]; simp only [List.length_append]
   rw [List.length_append] at hsz
   have ho1 : ¬ (4096 : Int) < o1.length := by
    rcases hov with h | h
    ·have : o1 = [] := hj0.out (by omega)
     rw [this]; decide
    ·omega
   have hl : (pcV p (ba p.text)).length = 20 := rfl
   have h1 := pcV_one p (ba p.text)
   unfold PcOK at hp1
   have hoo' : Hid (o1 ++ q1 ++ q2 = o) := by have := hoo.out; rw [← List.append_assoc] at this; exact this
   clear hR hR' hra hp hPj hoo hj0
   generalize pcV p (ba p.text) = H at *
   have k2 : Blk (wr.alloc (.cells ZV.toArray 86)) wr.heap.size ZV := Blk.new wr ZV 86
   have b3 : Below wr.heap.size wr ((wr.alloc (.cells ZV.toArray 86)).setCells wr.heap.size 0 H) := xbelow_sc ((Below.refl _ _).alloc (Nat.le_refl _) _) (Nat.le_refl _) _ _
   have k3 : Blk ((wr.alloc (.cells ZV.toArray 86)).setCells wr.heap.size 0 H) wr.heap.size H := k2.all _ (by rw [hl, hzl])
   go_upto_region 4 with (first | (refine wpl_ld row_Piece rfl (.tmp 13) rfl rfl hr hl ?_) | (refine wpl_allocz hz0 rfl rfl ?_) | (refine wpl_st row_Piece rfl (.tmp 6) (.tmp 14) rfl (us := H) rfl rfl k2 hzl hl h1 ?_; generalize (wr.alloc (.cells ZV.toArray 86)).setCells wr.heap.size 0 H = W3 at *))
   have E3 := Ej.up b3
   have hOv := over_any g o1 _ W3 E3.v.p
   have hC := hp1 W3 o1 E3 (by omega)
   clear Ej hr k2 hp1 E3
   go_wp2_with (first | (refine wpl_ld row_Piece rfl (.tmp 6) rfl rfl k3.range hl ?_) | (go_at_call 26; refine hOv.mono ?_; rintro e w9 ⟨rfl, q9⟩; subst q9) | (go_at_call 31; refine hC.mono ?_; rintro e W4 ⟨rfl, E4, k4⟩))
   go_roundg (gk - 1)
   case measure => omega
   case rel => exact ⟨j + 1, o1 ++ q1, q2, n1, by go_num, by omega, (kj.trans (.of_below b3)).trans k4, E4, hp2, hoo', (fun h => by omega : _ → _)⟩
  ·have hltI : ¬ (j : Int) < ps.length := by omega
   have hd : ps.drop j = [] := List.drop_eq_nil_of_le (by omega)
   rw [hd] at hPj
   obtain ⟨rfl, rfl⟩ := hPj
   have hoo2 : o1 = o := by have := hoo.out; rwa [List.append_nil] at this
   subst hoo2
   have hC := contains_no ps a c wr hlen (fun h => by
    obtain ⟨G, h1, h2, h3, h4⟩ := hra h
    exact ⟨G, h1, Nat.lt_of_lt_of_le h3 kj.size, h4.kept (kj.block G h3 (by omega))⟩) hno
   clear hra hno hj0 hoo
   go_wp2_with (first | (go_at_call 32; refine hC.mono ?_; rintro e W3 ⟨rfl, b3⟩; have hX3 := hX W3 (Ej.up b3)) | (go_at_call 34; refine hX3.mono ?_; rintro e W4 ⟨rfl, p4, k4⟩))
   go_end0
   exact ⟨rfl, p4, ((k1.trans kj).trans (.of_below b3)).trans k4⟩
end Go.Proofs.YtjfmhghpkefihaaGreatDoor
namespace Go.Proofs.YtjfmhghpkefihaaGreatDoor
open Go.RowKit
end Go.Proofs.YtjfmhghpkefihaaGreatDoor
