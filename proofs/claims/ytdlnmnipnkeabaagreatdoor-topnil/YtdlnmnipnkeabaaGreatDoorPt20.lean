/- ZBeg, ZLive: these texts in one. -/
import Derived.Test.YtdlnmnipnkeabaaGreatDoorPt12
import Derived.Test.YtdlnmnipnkeabaaGreatDoorPt19
import Derived.Test.YtdlnmnipnkeabaaGreatDoorPt17
namespace Go.Proofs.YtdlnmnipnkeabaaGreatDoor
open Go.RowKit
set_option linter.unusedVariables false
set_option linter.unusedSimpArgs false
set_option maxRecDepth 1000000 in
theorem zc_pr (C : Nat) (dp : Int) : ((Tryz.zeroCells106.setIfInBounds 4097 (.pointer (some ⟨C, 0, none⟩))).setIfInBounds 4098 (.int .i64 dp)).setIfInBounds 4100 (.int .i64 1) = (prCells zeroK 0 (prT C dp (.slice none 0 0) 1)).toArray := by kernel_rfl
theorem kn_lt {w : World} (h : KN w) : 1 < w.heap.size := lt_of_cell (h 0 _ rfl)
def BgR (w : World) (C g : Nat) (dp : Int) (vs : List Value) : Prop := ∃ ao cc, IsPr w g [] (prT C dp (.slice ao vs.length cc) 1) ∧ vs.length ≤ cc ∧ cc ≤ maxLen ∧ ∀ (j : Nat) (u : Value), vs[j]? = some u → ∃ A, ao = some ⟨A, 0, none⟩ ∧ g < A ∧ w.cell? ⟨A, j, none⟩ = some u
set_option maxRecDepth 1000000 in
set_option maxHeartbeats 4000000 in
theorem begun_raw (w : World) (C : Nat) (dp : Int) (A c : Nat) (ds : List (List Value)) (vs : List Value) (hA : A < w.heap.size) (hl : ds.length = vs.length) (h16 : vs.length ≤ 16) (hcap : vs.length ≤ c) (hc2 : c ≤ maxLen)
  (hd : ∀ (i : Nat) (d : List Value), ds[i]? = some d → (∃ (kk : Int) (ty : ByteArray) (bt im : Int) (tx : ByteArray) (hk' : Int), d = [.int .i64 kk, .string ty, .int .u64 bt, .int .u64 im, .string tx, .slice none 0 0, .slice none 0 0, .int .i64 hk']) ∧ ∀ (j : Nat) (u : Value), d[j]? = some u → w.cell? ⟨A, i * 8 + j, none⟩ = some u)
  (hv : ∀ (i : Nat) (d : List Value) (u : Value), ds[i]? = some d → vs[i]? = some u → (∃ t x, u = .iface t x) ∧ ∀ W, Calls Tryz.prog 53 #[.agg d.toArray] W fun e w' => e = .returned u ∧ Below W.heap.size W w') :
  Calls Tryz.prog 50 #[.pointer (some ⟨C, 0, none⟩), .int .i64 dp, .slice (some ⟨A, 0, none⟩) vs.length c] w fun e w' => ∃ g, e = .returned (.pointer (some ⟨g, 0, none⟩)) ∧ w.heap.size ≤ g ∧ BgR w' C g dp vs ∧ Below w.heap.size w w' := by
 obtain ⟨i0, hi⟩ : ∃ i0, Tryz.prog.info? 108 = some i0 := ⟨_, rfl⟩
 have hz0 : i0.zero = some .nilIface := by
  have : (Tryz.prog.info? 108).map (·.zero) = some (some .nilIface) := by kernel_rfl
  rw [hi] at this; exact Option.some.inj this
 have hz1 : i0.size = 1 := by
  have : (Tryz.prog.info? 108).map (·.size) = some 1 := by kernel_rfl
  rw [hi] at this; exact Option.some.inj this
 have hz2 : i0.bytes = 16 := by
  have : (Tryz.prog.info? 108).map (·.bytes) = some 16 := by kernel_rfl
  rw [hi] at this; exact Option.some.inj this
 have hb := zc_pr C dp
 have hn := isPr_new w (prT C dp (.slice none 0 0) 1)
 have h16I : (vs.length : Int) ≤ 16 := by omega
 have hcI : (vs.length : Int) ≤ c := by omega
 generalize prCells zeroK 0 (prT C dp (.slice none 0 0) 1) = ZP at *
 obtain ⟨W1, hW1⟩ : ∃ W1, W1 = w.alloc (.cells ZP.toArray 106) := ⟨_, rfl⟩
 rw [← hW1] at hn
 have b1 : Below w.heap.size w W1 := by rw [hW1]; exact (Below.refl _ _).alloc (Nat.le_refl _) _
 have s1 : w.heap.size < W1.heap.size := by rw [hW1]; simp
 have HB : Hid (_ = _) := hb
 clear hb
 go_enter Tryz.func50, Tryz.ntmps50
 go_upto_region 2 with fail
 rw [HB.out, ← hW1]
 clear hW1 HB
 generalize ZP.toArray = ZA
 obtain ⟨g, hg⟩ : ∃ g, g = w.heap.size := ⟨_, rfl⟩
 have hgl : g < W1.heap.size := by omega
 have HG : Hid (g = w.heap.size) := hg
 rw [← hg] at hn ⊢
 clear hg
 go_wp2
 simp only [show (min (vs.length : Int) 16) = vs.length by omega, show max (vs.length : Int) 0 = vs.length by omega, Int.toNat_natCast]
 go_loopg [9, 20] vs.length (fun gg z i wr => ∃ (j cc : Nat) (ao : Option Addr), i = .int .i64 j ∧ j + gg = vs.length ∧ IsPr wr g [] (prT C dp (.slice ao j cc) 1) ∧ wr.ownsRow W1.heap.size 108 1 (.slice ao j cc) j (vs.take j) ∧ Kx (fun k => k = g) W1 wr)
 case atStart => exact ⟨0, 0, none, rfl, Nat.zero_add _, hn, World.ownsRow_nil _ _ _ _, Kx.refl _ _⟩
 case round =>
  obtain ⟨j, cc, ao, rfl, hjg, hP, hown, hkx⟩ := hrel
  by_cases hlt : j < vs.length
  ·have hltI : (j : Int) < vs.length := by omega
   obtain ⟨d, hdj⟩ : ∃ d, ds[j]? = some d := ⟨ds[j], List.getElem?_eq_getElem (by omega)⟩
   obtain ⟨u, huj⟩ : ∃ u, vs[j]? = some u := ⟨vs[j], List.getElem?_eq_getElem hlt⟩
   obtain ⟨⟨kk, ty, bt, im, tx, hk', rfl⟩, hcl⟩ := hd j d hdj
   obtain ⟨⟨t, x, rfl⟩, hV⟩ := hv j _ _ hdj huj
   have up : ∀ (k : Nat) (v : Value), [.int .i64 kk, .string ty, .int .u64 bt, .int .u64 im, .string tx, .slice none 0 0, .slice none 0 0, .int .i64 hk'][k]? = some v → wr.cell? ⟨A, j * 8 + k, none⟩ = some v := fun k v h => hkx.cell (up_cell b1 (hcl k v h)) (by have := HG.out; dsimp only; omega)
   have c0 : wr.cell? ⟨A, j * 8, none⟩ = some (.int .i64 kk) := up 0 _ rfl
   have c1 := up 1 _ rfl
   have c2 := up 2 _ rfl
   have c3 := up 3 _ rfl
   have c4 := up 4 _ rfl
   have c5 := up 5 _ rfl
   have c6 := up 6 _ rfl
   have c7 := up 7 _ rfl
   clear up hcl hd hv
   obtain ⟨Y2, hY2⟩ : ∃ Y2, Y2 = wr.alloc (.cells #[.int .i64 kk, .string ty, .int .u64 bt, .int .u64 im, .string tx, .slice none 0 0, .slice none 0 0, .int .i64 hk'] 29) := ⟨_, rfl⟩
   have bY : Below wr.heap.size wr Y2 := by rw [hY2]; exact (Below.refl _ _).alloc (Nat.le_refl _) _
   have q : Y2.cell? ⟨wr.heap.size, 0, none⟩ = some (.int .i64 kk) ∧ Y2.cell? ⟨wr.heap.size, 1, none⟩ = some (.string ty) ∧ Y2.cell? ⟨wr.heap.size, 2, none⟩ = some (.int .u64 bt) ∧ Y2.cell? ⟨wr.heap.size, 3, none⟩ = some (.int .u64 im) ∧ Y2.cell? ⟨wr.heap.size, 4, none⟩ = some (.string tx) ∧ Y2.cell? ⟨wr.heap.size, 5, none⟩ = some (.slice none 0 0) ∧ Y2.cell? ⟨wr.heap.size, 6, none⟩ = some (.slice none 0 0) ∧ Y2.cell? ⟨wr.heap.size, 7, none⟩ = some (.int .i64 hk') := by
    rw [hY2]
    refine ⟨?_, ?_, ?_, ?_, ?_, ?_, ?_, ?_⟩
    all_goals simp [go_sem]
   have hgr : g < wr.heap.size := hP.lt
   have hlt8 := own_lt8 hown
   have PY := hP.below bY
   have oY := own_up8 hown bY
   go_upto_region 5 with fail
   rw [← hY2]
   have hsY : wr.heap.size < Y2.heap.size := by rw [hY2]; simp
   clear hY2 hP hown c0 c1 c2 c3 c4 c5 c6 c7
   obtain ⟨Yd, hYd⟩ : ∃ Yd, Yd = Y2.drew := ⟨_, rfl⟩
   have bYd : Below wr.heap.size wr Yd := by rw [hYd]; exact bY.drew
   have PYd : IsPr Yd g [] (prT C dp (.slice ao j cc) 1) := by rw [hYd]; exact PY
   have oYd : Yd.ownsRow W1.heap.size 108 1 (.slice ao j cc) j (vs.take j) := by rw [hYd]; exact oY
   have hz : Yd.heap.size = Y2.heap.size := by rw [hYd]; rfl
   refine wp_region_held_drew (S := fun w' : World => w'.cell? ⟨wr.heap.size, 0, none⟩ = some (.int .i64 kk) ∧ w'.cell? ⟨wr.heap.size, 1, none⟩ = some (.string ty) ∧ w'.cell? ⟨wr.heap.size, 2, none⟩ = some (.int .u64 bt) ∧ w'.cell? ⟨wr.heap.size, 3, none⟩ = some (.int .u64 im) ∧ w'.cell? ⟨wr.heap.size, 4, none⟩ = some (.string tx) ∧ w'.cell? ⟨wr.heap.size, 5, none⟩ = some (.slice none 0 0) ∧ w'.cell? ⟨wr.heap.size, 6, none⟩ = some (.slice none 0 0) ∧ w'.cell? ⟨wr.heap.size, 7, none⟩ = some (.int .i64 hk')) (by kernel_rfl) (by exact q) ?_
   rw [← hYd]
   have sY : Yd.cell? ⟨wr.heap.size, 0, none⟩ = some (.int .i64 kk) ∧ Yd.cell? ⟨wr.heap.size, 1, none⟩ = some (.string ty) ∧ Yd.cell? ⟨wr.heap.size, 2, none⟩ = some (.int .u64 bt) ∧ Yd.cell? ⟨wr.heap.size, 3, none⟩ = some (.int .u64 im) ∧ Yd.cell? ⟨wr.heap.size, 4, none⟩ = some (.string tx) ∧ Yd.cell? ⟨wr.heap.size, 5, none⟩ = some (.slice none 0 0) ∧ Yd.cell? ⟨wr.heap.size, 6, none⟩ = some (.slice none 0 0) ∧ Yd.cell? ⟨wr.heap.size, 7, none⟩ = some (.int .i64 hk') := by rw [hYd]; exact q
   have sG : Yd.cell? ⟨g, 4099, none⟩ = some (.slice ao j cc) := PYd.tl (i := 2) rfl
   have hc1 : ∀ {w1 w2 : World} {o : Nat} {v : Value}, w2.heap[wr.heap.size]? = w1.heap[wr.heap.size]? → w1.cell? ⟨wr.heap.size, o, none⟩ = some v → w2.cell? ⟨wr.heap.size, o, none⟩ = some v := fun hb h => (World.cell?_of_block hb).trans h
   have hup : ∀ {w1 w2 : World}, (w1.cell? ⟨wr.heap.size, 0, none⟩ = some (.int .i64 kk) ∧ w1.cell? ⟨wr.heap.size, 1, none⟩ = some (.string ty) ∧ w1.cell? ⟨wr.heap.size, 2, none⟩ = some (.int .u64 bt) ∧ w1.cell? ⟨wr.heap.size, 3, none⟩ = some (.int .u64 im) ∧ w1.cell? ⟨wr.heap.size, 4, none⟩ = some (.string tx) ∧ w1.cell? ⟨wr.heap.size, 5, none⟩ = some (.slice none 0 0) ∧ w1.cell? ⟨wr.heap.size, 6, none⟩ = some (.slice none 0 0) ∧ w1.cell? ⟨wr.heap.size, 7, none⟩ = some (.int .i64 hk')) → w2.heap[wr.heap.size]? = w1.heap[wr.heap.size]? → (w2.cell? ⟨wr.heap.size, 0, none⟩ = some (.int .i64 kk) ∧ w2.cell? ⟨wr.heap.size, 1, none⟩ = some (.string ty) ∧ w2.cell? ⟨wr.heap.size, 2, none⟩ = some (.int .u64 bt) ∧ w2.cell? ⟨wr.heap.size, 3, none⟩ = some (.int .u64 im) ∧ w2.cell? ⟨wr.heap.size, 4, none⟩ = some (.string tx) ∧ w2.cell? ⟨wr.heap.size, 5, none⟩ = some (.slice none 0 0) ∧ w2.cell? ⟨wr.heap.size, 6, none⟩ = some (.slice none 0 0) ∧ w2.cell? ⟨wr.heap.size, 7, none⟩ = some (.int .i64 hk')) := fun h hb =>
    ⟨hc1 hb h.1, hc1 hb h.2.1, hc1 hb h.2.2.1, hc1 hb h.2.2.2.1, hc1 hb h.2.2.2.2.1, hc1 hb h.2.2.2.2.2.1, hc1 hb h.2.2.2.2.2.2.1, hc1 hb h.2.2.2.2.2.2.2⟩
   have hl8 : wr.heap.size < Yd.heap.size := by omega
   clear PY q oY hYd bY
   intro hS
   refine tk 0 (.pointer (some ⟨g, 0, none⟩)) rfl (by kernel_rfl) (fun _ _ _ h => h) (by rfl) (by assumption) ?_ ?_
   ·intro w5 s0
    go_simp
   try simp only [Act.put, lys]
   refine tk 1 (.pointer (some ⟨g, 0, none⟩)) rfl (by kernel_rfl) (fun _ _ _ h => h) (by rfl) (by assumption) ?_ ?_
   ·intro w5 s0
    go_simp
   try simp only [Act.put, lys]
   refine tk 2 (.pointer (some ⟨g, 0, none⟩)) rfl (by kernel_rfl) (fun _ _ _ h => h) (by rfl) (by assumption) ?_ ?_
   ·intro w5 s0
    go_simp
   try simp only [Act.put, lys]
   refine tk 3 (.pointer (some ⟨g, 4099, none⟩)) rfl (by kernel_rfl) (fun _ _ _ h => h) (by rfl) (by assumption) ?_ ?_
   ·intro w5 s0
    go_simp
   try simp only [Act.put, lys]
   refine tk 5 (.agg #[.int .i64 kk, .string ty, .int .u64 bt, .int .u64 im, .string tx, .slice none 0 0, .slice none 0 0, .int .i64 hk']) rfl (by kernel_rfl) (fun _ _ _ h => h) (by rfl) (by assumption) ?_ ?_
   ·intro w5 s0
    obtain ⟨t1, t2, t3, t4, t5, t6, t7, t8⟩ := s0
    go_simp
   try simp only [Act.put, lys]
   refine wpAnyH_ready (rs := [4, 6]) (by kernel_rfl) (by simp) ?_
   refine AllReadyH.cons rfl (fun K4 hK4 => ?_) (AllReadyH.cons rfl (fun K6 hK6 => ?_) AllReadyH.nil)
   ·go_simp
    refine hK4.out _ _ sY (fun _ => ?_)
    clear hK4
    try simp only [Act.put, lys]
    refine rd1 6 (by kernel_rfl) rfl fun K6 hK6 => ?_
    go_simp
    refine (hV Yd).mono ?_
    rintro e W2 ⟨rfl, b2⟩
    have sW2 := hup sY (b2.block _ hl8)
    refine hK6.out _ _ sW2 (fun _ => ?_)
    clear hK6
    try simp only [Act.put, lys]
    have PW2 := PYd.below b2
    have sG2 : W2.cell? ⟨g, 4099, none⟩ = some (.slice ao j cc) := PW2.tl (i := 2) rfl
    refine rd1 7 (by kernel_rfl) rfl fun K7 hK7 => ?_
    have oW2 := own_up8 oYd b2
    have bw2 : Below wr.heap.size wr W2 := bYd.trans (b2.mono bYd.size)
    obtain ⟨W3, hW3⟩ : ∃ W3, W3 = W2.alloc (.cells #[.iface t x] 108) := ⟨_, rfl⟩
    have b3 : Below W2.heap.size W2 W3 := by rw [hW3]; exact (Below.refl _ _).alloc (Nat.le_refl _) _
    have z2 := bw2.size
    have zY := b2.size
    have sW3 := hup sW2 (b3.block _ (by omega))
    have cW3 : W3.cell? ⟨W2.heap.size, 0, none⟩ = some (.iface t x) := by rw [hW3]; simp [go_sem]
    have zW3 : W2.heap.size < W3.heap.size := by rw [hW3]; simp
    go_simp
    rw [← hW3]
    refine hK7.out _ _ sW3 (fun _ => ?_)
    clear hK7 hW3
    try simp only [Act.put, lys]
    have oW3 := own_up8 oW2 b3
    have PW3 := PW2.below b3
    have bw3 : Below wr.heap.size wr W3 := bw2.trans (b3.mono bw2.size)
    have hge := own_ge8 oW3
    have hW1r := hkx.size
    refine rd1 8 (by kernel_rfl) rfl fun K8 hK8 => ?_
    rw [if_pos (by rfl)]
    refine wp_append_own _ _ _ 104 rfl W1.heap.size 108 i0 .nilIface 1 16 Tryz.underlying104 hi hz0 hz1 hz2 rfl (by decide) _ _ _ rfl oW3 ⟨W2.heap.size, 0, none⟩ 1 1 [.iface t x] rfl rfl ?d1 ?d2 ?d3 ?d4 ?d5 ?_
    case d1 =>
     intro j u hj
     match j, hj with
     | 0, hj => simp at hj; subst hj; simpa [Addr.add] using cW3
    case d2 => intro u hu; simp at hu; subst hu; rfl
    case d3 => unfold maxLen; omega
    case d4 => omega
    case d5 => omega
    intro v' W4 o4 g4 _
    obtain ⟨ao', cc', rfl, -, -⟩ := own_slice8 o4
    have b34 : Below W1.heap.size W3 W4 := (Below.refl _ _).grown g4 (by omega) hge
    have k4 : W4.heap[wr.heap.size]? = W3.heap[wr.heap.size]? := g4.block _ (by omega) (fun h => by have := hlt8 _ h.symm; omega)
    have P4 : IsPr W4 g [] (prT C dp (.slice ao j cc) 1) := by
     obtain ⟨kb, p1, p2, p3⟩ := PW3
     exact ⟨kb, p1, p2, (b34.block g hgl).trans p3⟩
    have f4 := P4.mid.frozen 4099
    have sG4 : W4.cell? ⟨g, 4099, none⟩ = some (.slice ao j cc) := P4.tl (i := 2) rfl
    have sW4 := hup sW3 k4
    refine hK8.out _ _ sW4 (fun _ => ?_)
    clear hK8
    try simp only [Act.put, lys]
    refine tk 9 (.pointer (some ⟨g, 0, none⟩)) rfl (by kernel_rfl) (fun _ _ _ h => h) (by rfl) (by assumption) ?_ ?_
    ·intro w5 s0
     go_simp
    try simp only [Act.put, lys]
    refine tk 10 (.pointer (some ⟨g, 4099, none⟩)) rfl (by kernel_rfl) (fun _ _ _ h => h) (by rfl) (by assumption) ?_ ?_
    ·intro w5 s0
     go_simp
    try simp only [Act.put, lys]
    obtain ⟨W5, hW5⟩ : ∃ W5, W5 = W4.setCell ⟨g, 4099, none⟩ (.slice ao' (j + 1) cc') := ⟨_, rfl⟩
    have P5 : IsPr W5 g [] (prT C dp (.slice ao' (j + 1) cc') 1) := by rw [hW5]; exact P4.put 2 (.slice ao' (j + 1) cc')
    have k5 : Kx (fun k => k = g) W1 W5 := by
     rw [hW5]
     refine Kx.setCell (P := fun k => k = g) ⟨b34.os.trans (bw3.os.trans hkx.os), b34.tape.trans (bw3.tape.trans hkx.tape), b34.output.trans (bw3.output.trans hkx.output), by have := b34.size; have := bw3.size; omega, fun k hk hp => (b34.block k hk).trans ((bw3.block k (by omega)).trans (hkx.block k hk hp))⟩ g 4099 (Or.inl rfl) _
    have o5 : W5.ownsRow W1.heap.size 108 1 (.slice ao' (j + 1) cc') (j + 1) (vs.take (j + 1)) := by
     rw [hW5, List.take_add_one, huj]
     exact own_far o4 (gr_sets W4 g 4099 _) (Or.inl hgl)
    have s5 : _ := hup sW4 (w2 := W5) (by rw [hW5]; exact Below.heap_setCell _ _ _ _ (by dsimp only; omega))
    refine rd1 11 (by kernel_rfl) rfl fun K11 hK11 => ?_
    go_simp
    rw [← hW5]
    refine hK11.out _ _ s5 (fun _ => ?_)
    clear hK11 hW5
    try simp only [Act.put, lys]
    refine wpAnyH_done (by kernel_rfl) ?_ _
    clear o4 g4 b34 k4 P4 f4 sG4 sW4 sW3 sW2 sY hS hup hc1
    go_wp2
    go_roundg (gk - 1)
    case measure => omega
    case rel => exact ⟨j + 1, cc', ao', by go_num, by omega, P5, o5, k5⟩
   ·go_simp
    refine (hV Yd).mono ?_
    rintro e W2 ⟨rfl, b2⟩
    have sW2 := hup sY (b2.block _ hl8)
    refine hK6.out _ _ sW2 (fun _ => ?_)
    clear hK6
    try simp only [Act.put, lys]
    have PW2 := PYd.below b2
    have sG2 : W2.cell? ⟨g, 4099, none⟩ = some (.slice ao j cc) := PW2.tl (i := 2) rfl
    refine wpAnyH_ready (rs := [4, 7]) (by kernel_rfl) (by simp) ?_
    refine AllReadyH.cons rfl (fun K4 hK4 => ?_) (AllReadyH.cons rfl (fun K7 hK7 => ?_) AllReadyH.nil)
    ·go_simp
     refine hK4.out _ _ sW2 (fun _ => ?_)
     clear hK4
     try simp only [Act.put, lys]
     refine rd1 7 (by kernel_rfl) rfl fun K7 hK7 => ?_
     have oW2 := own_up8 oYd b2
     have bw2 : Below wr.heap.size wr W2 := bYd.trans (b2.mono bYd.size)
     obtain ⟨W3, hW3⟩ : ∃ W3, W3 = W2.alloc (.cells #[.iface t x] 108) := ⟨_, rfl⟩
     have b3 : Below W2.heap.size W2 W3 := by rw [hW3]; exact (Below.refl _ _).alloc (Nat.le_refl _) _
     have z2 := bw2.size
     have zY := b2.size
     have sW3 := hup sW2 (b3.block _ (by omega))
     have cW3 : W3.cell? ⟨W2.heap.size, 0, none⟩ = some (.iface t x) := by rw [hW3]; simp [go_sem]
     have zW3 : W2.heap.size < W3.heap.size := by rw [hW3]; simp
     go_simp
     rw [← hW3]
     refine hK7.out _ _ sW3 (fun _ => ?_)
     clear hK7 hW3
     try simp only [Act.put, lys]
     have oW3 := own_up8 oW2 b3
     have PW3 := PW2.below b3
     have bw3 : Below wr.heap.size wr W3 := bw2.trans (b3.mono bw2.size)
     have hge := own_ge8 oW3
     have hW1r := hkx.size
     refine rd1 8 (by kernel_rfl) rfl fun K8 hK8 => ?_
     rw [if_pos (by rfl)]
     refine wp_append_own _ _ _ 104 rfl W1.heap.size 108 i0 .nilIface 1 16 Tryz.underlying104 hi hz0 hz1 hz2 rfl (by decide) _ _ _ rfl oW3 ⟨W2.heap.size, 0, none⟩ 1 1 [.iface t x] rfl rfl ?d1 ?d2 ?d3 ?d4 ?d5 ?_
     case d1 =>
      intro j u hj
      match j, hj with
      | 0, hj => simp at hj; subst hj; simpa [Addr.add] using cW3
     case d2 => intro u hu; simp at hu; subst hu; rfl
     case d3 => unfold maxLen; omega
     case d4 => omega
     case d5 => omega
     intro v' W4 o4 g4 _
     obtain ⟨ao', cc', rfl, -, -⟩ := own_slice8 o4
     have b34 : Below W1.heap.size W3 W4 := (Below.refl _ _).grown g4 (by omega) hge
     have k4 : W4.heap[wr.heap.size]? = W3.heap[wr.heap.size]? := g4.block _ (by omega) (fun h => by have := hlt8 _ h.symm; omega)
     have P4 : IsPr W4 g [] (prT C dp (.slice ao j cc) 1) := by
      obtain ⟨kb, p1, p2, p3⟩ := PW3
      exact ⟨kb, p1, p2, (b34.block g hgl).trans p3⟩
     have f4 := P4.mid.frozen 4099
     have sG4 : W4.cell? ⟨g, 4099, none⟩ = some (.slice ao j cc) := P4.tl (i := 2) rfl
     have sW4 := hup sW3 k4
     refine hK8.out _ _ sW4 (fun _ => ?_)
     clear hK8
     try simp only [Act.put, lys]
     refine tk 9 (.pointer (some ⟨g, 0, none⟩)) rfl (by kernel_rfl) (fun _ _ _ h => h) (by rfl) (by assumption) ?_ ?_
     ·intro w5 s0
      go_simp
     try simp only [Act.put, lys]
     refine tk 10 (.pointer (some ⟨g, 4099, none⟩)) rfl (by kernel_rfl) (fun _ _ _ h => h) (by rfl) (by assumption) ?_ ?_
     ·intro w5 s0
      go_simp
     try simp only [Act.put, lys]
     obtain ⟨W5, hW5⟩ : ∃ W5, W5 = W4.setCell ⟨g, 4099, none⟩ (.slice ao' (j + 1) cc') := ⟨_, rfl⟩
     have P5 : IsPr W5 g [] (prT C dp (.slice ao' (j + 1) cc') 1) := by rw [hW5]; exact P4.put 2 (.slice ao' (j + 1) cc')
     have k5 : Kx (fun k => k = g) W1 W5 := by
      rw [hW5]
      refine Kx.setCell (P := fun k => k = g) ⟨b34.os.trans (bw3.os.trans hkx.os), b34.tape.trans (bw3.tape.trans hkx.tape), b34.output.trans (bw3.output.trans hkx.output), by have := b34.size; have := bw3.size; omega, fun k hk hp => (b34.block k hk).trans ((bw3.block k (by omega)).trans (hkx.block k hk hp))⟩ g 4099 (Or.inl rfl) _
     have o5 : W5.ownsRow W1.heap.size 108 1 (.slice ao' (j + 1) cc') (j + 1) (vs.take (j + 1)) := by
      rw [hW5, List.take_add_one, huj]
      exact own_far o4 (gr_sets W4 g 4099 _) (Or.inl hgl)
     have s5 : _ := hup sW4 (w2 := W5) (by rw [hW5]; exact Below.heap_setCell _ _ _ _ (by dsimp only; omega))
     refine rd1 11 (by kernel_rfl) rfl fun K11 hK11 => ?_
     go_simp
     rw [← hW5]
     refine hK11.out _ _ s5 (fun _ => ?_)
     clear hK11 hW5
     try simp only [Act.put, lys]
     refine wpAnyH_done (by kernel_rfl) ?_ _
     clear o4 g4 b34 k4 P4 f4 sG4 sW4 sW3 sW2 sY hS hup hc1
     go_wp2
     go_roundg (gk - 1)
     case measure => omega
     case rel => exact ⟨j + 1, cc', ao', by go_num, by omega, P5, o5, k5⟩
    ·have oW2 := own_up8 oYd b2
     have bw2 : Below wr.heap.size wr W2 := bYd.trans (b2.mono bYd.size)
     obtain ⟨W3, hW3⟩ : ∃ W3, W3 = W2.alloc (.cells #[.iface t x] 108) := ⟨_, rfl⟩
     have b3 : Below W2.heap.size W2 W3 := by rw [hW3]; exact (Below.refl _ _).alloc (Nat.le_refl _) _
     have z2 := bw2.size
     have zY := b2.size
     have sW3 := hup sW2 (b3.block _ (by omega))
     have cW3 : W3.cell? ⟨W2.heap.size, 0, none⟩ = some (.iface t x) := by rw [hW3]; simp [go_sem]
     have zW3 : W2.heap.size < W3.heap.size := by rw [hW3]; simp
     go_simp
     rw [← hW3]
     refine hK7.out _ _ sW3 (fun _ => ?_)
     clear hK7 hW3
     try simp only [Act.put, lys]
     have sG3 := up_cell b3 sG2
     refine rd1 4 (by kernel_rfl) rfl fun K4 hK4 => ?_
     go_simp
     refine hK4.out _ _ sW3 (fun _ => ?_)
     clear hK4
     try simp only [Act.put, lys]
     have oW3 := own_up8 oW2 b3
     have PW3 := PW2.below b3
     have bw3 : Below wr.heap.size wr W3 := bw2.trans (b3.mono bw2.size)
     have hge := own_ge8 oW3
     have hW1r := hkx.size
     refine rd1 8 (by kernel_rfl) rfl fun K8 hK8 => ?_
     rw [if_pos (by rfl)]
     refine wp_append_own _ _ _ 104 rfl W1.heap.size 108 i0 .nilIface 1 16 Tryz.underlying104 hi hz0 hz1 hz2 rfl (by decide) _ _ _ rfl oW3 ⟨W2.heap.size, 0, none⟩ 1 1 [.iface t x] rfl rfl ?d1 ?d2 ?d3 ?d4 ?d5 ?_
     case d1 =>
      intro j u hj
      match j, hj with
      | 0, hj => simp at hj; subst hj; simpa [Addr.add] using cW3
     case d2 => intro u hu; simp at hu; subst hu; rfl
     case d3 => unfold maxLen; omega
     case d4 => omega
     case d5 => omega
     intro v' W4 o4 g4 _
     obtain ⟨ao', cc', rfl, -, -⟩ := own_slice8 o4
     have b34 : Below W1.heap.size W3 W4 := (Below.refl _ _).grown g4 (by omega) hge
     have k4 : W4.heap[wr.heap.size]? = W3.heap[wr.heap.size]? := g4.block _ (by omega) (fun h => by have := hlt8 _ h.symm; omega)
     have P4 : IsPr W4 g [] (prT C dp (.slice ao j cc) 1) := by
      obtain ⟨kb, p1, p2, p3⟩ := PW3
      exact ⟨kb, p1, p2, (b34.block g hgl).trans p3⟩
     have f4 := P4.mid.frozen 4099
     have sG4 : W4.cell? ⟨g, 4099, none⟩ = some (.slice ao j cc) := P4.tl (i := 2) rfl
     have sW4 := hup sW3 k4
     refine hK8.out _ _ sW4 (fun _ => ?_)
     clear hK8
     try simp only [Act.put, lys]
     refine tk 9 (.pointer (some ⟨g, 0, none⟩)) rfl (by kernel_rfl) (fun _ _ _ h => h) (by rfl) (by assumption) ?_ ?_
     ·intro w5 s0
      go_simp
     try simp only [Act.put, lys]
     refine tk 10 (.pointer (some ⟨g, 4099, none⟩)) rfl (by kernel_rfl) (fun _ _ _ h => h) (by rfl) (by assumption) ?_ ?_
     ·intro w5 s0
      go_simp
     try simp only [Act.put, lys]
     obtain ⟨W5, hW5⟩ : ∃ W5, W5 = W4.setCell ⟨g, 4099, none⟩ (.slice ao' (j + 1) cc') := ⟨_, rfl⟩
     have P5 : IsPr W5 g [] (prT C dp (.slice ao' (j + 1) cc') 1) := by rw [hW5]; exact P4.put 2 (.slice ao' (j + 1) cc')
     have k5 : Kx (fun k => k = g) W1 W5 := by
      rw [hW5]
      refine Kx.setCell (P := fun k => k = g) ⟨b34.os.trans (bw3.os.trans hkx.os), b34.tape.trans (bw3.tape.trans hkx.tape), b34.output.trans (bw3.output.trans hkx.output), by have := b34.size; have := bw3.size; omega, fun k hk hp => (b34.block k hk).trans ((bw3.block k (by omega)).trans (hkx.block k hk hp))⟩ g 4099 (Or.inl rfl) _
     have o5 : W5.ownsRow W1.heap.size 108 1 (.slice ao' (j + 1) cc') (j + 1) (vs.take (j + 1)) := by
      rw [hW5, List.take_add_one, huj]
      exact own_far o4 (gr_sets W4 g 4099 _) (Or.inl hgl)
     have s5 : _ := hup sW4 (w2 := W5) (by rw [hW5]; exact Below.heap_setCell _ _ _ _ (by dsimp only; omega))
     refine rd1 11 (by kernel_rfl) rfl fun K11 hK11 => ?_
     go_simp
     rw [← hW5]
     refine hK11.out _ _ s5 (fun _ => ?_)
     clear hK11 hW5
     try simp only [Act.put, lys]
     refine wpAnyH_done (by kernel_rfl) ?_ _
     clear o4 g4 b34 k4 P4 f4 sG4 sW4 sW3 sW2 sY hS hup hc1
     go_wp2
     go_roundg (gk - 1)
     case measure => omega
     case rel => exact ⟨j + 1, cc', ao', by go_num, by omega, P5, o5, k5⟩
  ·have hltI : ¬ (j : Int) < vs.length := by omega
   have hj : j = vs.length := by omega
   subst hj
   have hE : BgR wr C g dp vs := by
    have hG := HG.out
    obtain ⟨ao', c', he1, k1, k2⟩ := own_slice8 hown
    obtain ⟨rfl, -, rfl⟩ := Value.slice.inj he1
    refine ⟨ao, cc, hP, k1, k2, fun i u hu => ?_⟩
    have hil : i < vs.length := (List.getElem?_eq_some_iff.1 hu).1
    rcases hown.2 with ⟨-, h0⟩ | ⟨g', cap', cur, hg1, hB, hg', -⟩
    ·omega
    ·obtain ⟨rfl, -, -⟩ := Value.slice.inj hg1
     refine ⟨g', rfl, by omega, ?_⟩
     rw [hown.cellAt i (by omega), List.take_length, hu]
   have hb' : Below w.heap.size w wr := ⟨hkx.os.trans b1.os, hkx.tape.trans b1.tape, hkx.output.trans b1.output, Nat.le_trans b1.size hkx.size, fun k hk' => (hkx.block k (by omega) (by have := HG.out; omega)).trans (b1.block k hk')⟩
   have hgw : w.heap.size ≤ g := by have := HG.out; omega
   clear hP hown hkx hd hv hn
   go_wp2
   go_ret
   exact ⟨g, rfl, hgw, hE, hb'⟩
end Go.Proofs.YtdlnmnipnkeabaaGreatDoor
namespace Go.Proofs.YtdlnmnipnkeabaaGreatDoor
open Go.RowKit
set_option linter.unusedVariables false
set_option linter.unusedSimpArgs false
set_option maxRecDepth 1000000 in
theorem sprintf_of (s : ByteArray) (args : Value) (T : ByteArray) (w : World)
  (hA : ∀ W C M, Below w.heap.size w W → IsCall W C M 0 → C < W.heap.size → M < W.heap.size → Calls Tryz.prog 44 #[.pointer (some ⟨C, 0, none⟩), .int .i64 0, .string s, args] W fun e w' => e = .returned (.string T) ∧ Below W.heap.size W w') :
  Calls Tryz.prog 29 #[.slice none 0 0, .string s, args] w fun e w' => e = .returned (.string T) ∧ Below w.heap.size w w' := by
 have hN := newCall_nil w
 have hAt : Calls Tryz.prog 37 #[.int .i64 0, .slice none 0 0, .string s, args] w fun e w' => e = .returned (.string T) ∧ Below w.heap.size w w' := by
  go_enter Tryz.func37, Tryz.ntmps37
  go_wp2_with (first | (go_at_call 43; refine hN.mono ?_; rintro e W ⟨C, M, rfl, c1, c2, c3, c4, c5, bW⟩; have hA1 := hA W C M bW c5 c3 c4) | (go_at_call 44; refine hA1.mono ?_; rintro e W2 ⟨rfl, b2⟩))
  go_ret
  exact ⟨rfl, bW.trans (b2.mono bW.size)⟩
 go_enter Tryz.func29, Tryz.ntmps29
 go_wp2_with (go_at_call 37; refine hAt.mono ?_; rintro e W2 ⟨rfl, b2⟩)
 go_ret
 exact ⟨rfl, b2⟩
end Go.Proofs.YtdlnmnipnkeabaaGreatDoor
