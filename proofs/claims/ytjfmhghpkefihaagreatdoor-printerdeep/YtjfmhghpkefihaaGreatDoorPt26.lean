/- DDeep, DDeepB, DDeepC, DDeepD: these texts in one. -/
import Derived.Test.YtjfmhghpkefihaaGreatDoorPt25
namespace Go.Proofs.YtjfmhghpkefihaaGreatDoor
open Go.RowKit
set_option linter.unusedVariables false
set_option linter.unusedSimpArgs false
def dH : Ds := ⟨6, ⟨#[]⟩, 0, 0, ⟨#[]⟩, .no, .no, 1⟩
structure Cx where
 C : Nat
 M : Nat
 AB : Nat
 B0 : Nat
 c : Nat
 f : ByteArray
abbrev Cx.l (X : Cx) : Sl := ⟨some ⟨X.AB, 0, none⟩, 1, X.c⟩
abbrev Cx.h (X : Cx) : Hk := hkP X.f X.l
structure CS (X : Cx) (b : Nat) (w : World) : Prop where
 c1 : w.cell? ⟨X.C, 1, none⟩ = some (.map (some X.M))
 c2 : ∃ n : Nat, n ≤ b ∧ w.cell? ⟨X.C, 2, none⟩ = some (.int .i64 n)
 z : w.frozen? ⟨X.C, 2, none⟩ = false
 m : w.heap[X.M]? = some (.map (oneE (.agg X.h.v.toArray)) 1)
 r : w.rangeAt X.AB 0 dH.v
 e : Esc w
 k : KN w
 o : X.C < X.B0 ∧ X.M < X.B0 ∧ X.AB < X.B0 ∧ 2 < X.B0 ∧ 0 < X.B0 ∧ X.B0 ≤ w.heap.size
 d : X.AB ≠ X.C ∧ X.M ≠ X.C ∧ 2 ≠ X.C ∧ 0 ≠ X.C
theorem CS.kx {X : Cx} {b : Nat} {w w' : World} (h : CS X b w) (k : Kx (fun k => X.B0 ≤ k) w w') : CS X b w' := by
 obtain ⟨c1, ⟨n, hn, c2⟩, z, m, r, e, kn, ⟨o1, o2, o3, o4, o5, o6⟩, d⟩ := h
 exact ⟨k.cell c1 (by dsimp only; omega), ⟨n, hn, k.cell c2 (by dsimp only; omega)⟩, (World.frozen?_of_block (w := w) (a := ⟨X.C, 2, none⟩) (k.block X.C (by omega) (by omega))).trans z, (k.block X.M (by omega) (by omega)).trans m, fun j v hv => k.cell (r j v hv) (by dsimp only; omega), ⟨Nat.lt_of_lt_of_le e.1 k.size, fun i hi => k.cell (e.2 i hi) (by dsimp only; omega)⟩, fun i s hs => k.cell (kn i s hs) (by dsimp only; omega), ⟨o1, o2, o3, o4, o5, Nat.le_trans o6 k.size⟩, d⟩
theorem CS.up {X : Cx} {b : Nat} {w w' : World} (h : CS X b w) (k : Below w.heap.size w w') : CS X b w' := h.kx (.of_below k)
theorem CS.mono {X : Cx} {b b' : Nat} {w : World} (h : CS X b w) (hb : b ≤ b') : CS X b' w := by
 obtain ⟨c1, ⟨n, hn, c2⟩, z, m, r, e, k, o, d⟩ := h
 exact ⟨c1, ⟨n, Nat.le_trans hn hb, c2⟩, z, m, r, e, k, o, d⟩
theorem CS.more {X : Cx} {b n : Nat} {w : World} (h : CS X b w) (hn : n ≤ b) (c2 : w.cell? ⟨X.C, 2, none⟩ = some (.int .i64 n)) : CS X (b + 1) (w.setCell ⟨X.C, 2, none⟩ (.int .i64 ((n : Int) + 1))) := by
 obtain ⟨c1, -, z, m, r, e, kn, ⟨o1, o2, o3, o4, o5, o6⟩, ⟨d1, d2, d3, d4⟩⟩ := h
 have k : Kx (fun k => k = X.C) w (w.setCell ⟨X.C, 2, none⟩ (.int .i64 ((n : Int) + 1))) := (Kx.refl (fun k => k = X.C) _).setCell _ _ (Or.inl rfl) _
 exact ⟨(World.cell?_setCell_other w ⟨X.C, 2, none⟩ ⟨X.C, 1, none⟩ _ (by simp)).trans c1, ⟨n + 1, by omega, by rw [World.cell?_setCell_same w ⟨X.C, 2, none⟩ _ c2]; simp⟩, by rw [World.frozen?_setCell]; exact z, (k.block X.M (by omega) d2).trans m, fun j v hv => k.cell (r j v hv) d1, ⟨by simpa using e.1, fun i hi => k.cell (e.2 i hi) d3⟩, fun i s hs => k.cell (kn i s hs) d4, ⟨o1, o2, o3, o4, o5, by simpa using o6⟩, ⟨d1, d2, d3, d4⟩⟩
theorem CS.apart {X : Cx} {b b' : Nat} {w : World} (h : CS X b w) (hr : w.rangeAt b' 0 dH.v) : b' ≠ X.C := fun e => by
 have h1 := hr 1 (.string ⟨#[]⟩) rfl
 rw [e] at h1
 have h2 := h.c1
 rw [show (⟨X.C, 0 + 1, none⟩ : Addr) = ⟨X.C, 1, none⟩ from rfl, h2] at h1
 cases h1
theorem wrapD (x : Int) (h0 : -9223372036854775808 ≤ x) (h1 : x ≤ 9223372036854775807) : IntKind.i64.wrap x = x := by
 rw [IntKind.wrap_i64]
 omega
def AtC (X : Cx) (r : Nat) (T : ByteArray) : Prop := ∀ (W : World) (b b' c' : Nat), CS X b W → b + r ≤ 1000 → W.rangeAt b' 0 dH.v → b' < W.heap.size → 1 ≤ c' → c' ≤ maxLen →
 Calls Tryz.prog 14 #[.pointer (some ⟨X.C, 0, none⟩), .int .i64 (4 - (r : Int)), .string X.f, .slice (some ⟨b', 0, none⟩) 1 c'] W fun e W' => e = .returned (.string T) ∧ CS X (b + r) W' ∧ Kx (fun k => k = X.C) W W'
set_option maxRecDepth 1000000 in
set_option maxHeartbeats 4000000 in
theorem print_q (X : Cx) (r : Nat) (hr3 : r ≤ 3) (T : ByteArray) (hAt : AtC X r T) (g : Nat) (lg : List UInt8) (dp : Int) (hdp : dp = 3 - (r : Int)) (av : Value) (nx : Int) (b : Nat) (hb : b + 1 + r ≤ 1000) (l' : Sl) (W : World) (hC : CS X b W) (hP : IsPr W g lg (prT X.C dp av nx)) (hgC : g ≠ X.C) (hl : Ro dH 0 l' W) :
  Calls Tryz.prog 59 #[.pointer (some ⟨g, 0, none⟩), .string X.f, .slice l'.a l'.n l'.c] W fun e W' => e = .returned (.string T) ∧ CS X (b + 1 + r) W' ∧ Kx (fun k => k = X.C) W W' := by
 obtain ⟨la, ln, lc⟩ := l'
 obtain ⟨h1, h2, h3, b', h4, -, h5, h6⟩ := hl
 dsimp only at h1 h2 h3 h4
 subst h1 h4
 dsimp only
 obtain ⟨n, hn, c2⟩ := hC.c2
 have zC := hC.z
 have hb'C := hC.apart h6
 obtain ⟨W2, hW2⟩ : ∃ W2, W2 = W.setCell ⟨X.C, 2, none⟩ (.int .i64 ((n : Int) + 1)) := ⟨_, rfl⟩
 have hC2 : CS X (b + 1) W2 := by rw [hW2]; exact hC.more hn c2
 have k2 : Kx (fun k => k = X.C) W W2 := by rw [hW2]; exact (Kx.refl (fun k => k = X.C) _).setCell _ _ (Or.inl rfl) _
 have p2 := hP.kept k2 (by omega)
 have q0 : W.cell? ⟨g, 4097, none⟩ = some (.pointer (some ⟨X.C, 0, none⟩)) := hP.tl (i := 0) rfl
 have r0 : W2.cell? ⟨g, 4097, none⟩ = some (.pointer (some ⟨X.C, 0, none⟩)) := p2.tl (i := 0) rfl
 have r1 : W2.cell? ⟨g, 4098, none⟩ = some (.int .i64 dp) := p2.tl (i := 1) rfl
 have hnI : (n : Int) ≤ 1000 := by omega
 have hd0 : 0 ≤ dp := by omega
 have hd3 : dp ≤ 3 := by omega
 have hA := hAt W2.drew (b + 1) b' lc (hC2.up (Below.refl _ _).drew) (by omega) (fun j v hv => k2.cell (h6 j v hv) (by dsimp only; omega)) (Nat.lt_of_lt_of_le h5 k2.size) h2 h3
 have edp : (4 - (r : Int)) = dp + 1 := by omega
 rw [edp] at hA
 clear edp hdp hAt hC hP p2 h6
 generalize X.f = f at *
 go_enter Tryz.func59, Tryz.ntmps59
 go_upto_region 2 with fail
 rw [← hW2]
 clear hW2 q0 c2 zC
 obtain ⟨Yd, hYd⟩ : ∃ Yd, Yd = W2.drew := ⟨_, rfl⟩
 refine wp_region_held_drew (S := fun w' : World => w'.cell? ⟨g, 4097, none⟩ = some (.pointer (some ⟨X.C, 0, none⟩)) ∧ w'.cell? ⟨g, 4098, none⟩ = some (.int .i64 dp)) (by kernel_rfl) (by exact ⟨r0, r1⟩) ?_
 have sY : Yd.cell? ⟨g, 4097, none⟩ = some (.pointer (some ⟨X.C, 0, none⟩)) ∧ Yd.cell? ⟨g, 4098, none⟩ = some (.int .i64 dp) := by rw [hYd]; exact ⟨r0, r1⟩
 have kY : Kx (fun k => k = X.C) W Yd := k2.trans (by rw [hYd]; exact .of_below (Below.refl _ _).drew)
 rw [← hYd] at hA ⊢
 clear hYd r0 r1
 intro hS
 refine tk 0 (.pointer (some ⟨g, 0, none⟩)) rfl (by kernel_rfl) (fun _ _ _ h => h) (by rfl) (by assumption) ?_ ?_
 ·intro w5 s0
  obtain ⟨s1, s2⟩ := s0
  go_simp
 try simp only [Act.put, List.getElem_toArray, List.getElem_cons_zero, List.getElem_cons_succ, List.setIfInBounds_toArray, List.set_cons_zero, List.set_cons_succ, List.length_cons]
 refine tk 1 (.pointer (some ⟨g, 0, none⟩)) rfl (by kernel_rfl) (fun _ _ _ h => h) (by rfl) (by assumption) ?_ ?_
 ·intro w5 s0
  obtain ⟨s1, s2⟩ := s0
  go_simp
 try simp only [Act.put, List.getElem_toArray, List.getElem_cons_zero, List.getElem_cons_succ, List.setIfInBounds_toArray, List.set_cons_zero, List.set_cons_succ, List.length_cons]
 refine tk 2 (.pointer (some ⟨g, 4097, none⟩)) rfl (by kernel_rfl) (fun _ _ _ h => h) (by rfl) (by assumption) ?_ ?_
 ·intro w5 s0
  obtain ⟨s1, s2⟩ := s0
  go_simp
 try simp only [Act.put, List.getElem_toArray, List.getElem_cons_zero, List.getElem_cons_succ, List.setIfInBounds_toArray, List.set_cons_zero, List.set_cons_succ, List.length_cons]
 refine tk 3 (.pointer (some ⟨X.C, 0, none⟩)) rfl (by kernel_rfl) (fun _ _ _ h => h) (by rfl) (by assumption) ?_ ?_
 ·intro w5 s0
  obtain ⟨s1, s2⟩ := s0
  go_simp
 try simp only [Act.put, List.getElem_toArray, List.getElem_cons_zero, List.getElem_cons_succ, List.setIfInBounds_toArray, List.set_cons_zero, List.set_cons_succ, List.length_cons]
 refine tk 4 (.pointer (some ⟨g, 0, none⟩)) rfl (by kernel_rfl) (fun _ _ _ h => h) (by rfl) (by assumption) ?_ ?_
 ·intro w5 s0
  obtain ⟨s1, s2⟩ := s0
  go_simp
 try simp only [Act.put, List.getElem_toArray, List.getElem_cons_zero, List.getElem_cons_succ, List.setIfInBounds_toArray, List.set_cons_zero, List.set_cons_succ, List.length_cons]
 refine tk 5 (.pointer (some ⟨g, 0, none⟩)) rfl (by kernel_rfl) (fun _ _ _ h => h) (by rfl) (by assumption) ?_ ?_
 ·intro w5 s0
  obtain ⟨s1, s2⟩ := s0
  go_simp
 try simp only [Act.put, List.getElem_toArray, List.getElem_cons_zero, List.getElem_cons_succ, List.setIfInBounds_toArray, List.set_cons_zero, List.set_cons_succ, List.length_cons]
 refine tk 6 (.pointer (some ⟨g, 4098, none⟩)) rfl (by kernel_rfl) (fun _ _ _ h => h) (by rfl) (by assumption) ?_ ?_
 ·intro w5 s0
  obtain ⟨s1, s2⟩ := s0
  go_simp
 try simp only [Act.put, List.getElem_toArray, List.getElem_cons_zero, List.getElem_cons_succ, List.setIfInBounds_toArray, List.set_cons_zero, List.set_cons_succ, List.length_cons]
 refine tk 7 (.int .i64 dp) rfl (by kernel_rfl) (fun _ _ _ h => h) (by rfl) (by assumption) ?_ ?_
 ·intro w5 s0
  obtain ⟨s1, s2⟩ := s0
  go_simp
 try simp only [Act.put, List.getElem_toArray, List.getElem_cons_zero, List.getElem_cons_succ, List.setIfInBounds_toArray, List.set_cons_zero, List.set_cons_succ, List.length_cons]
 refine tk 8 (.int .i64 (dp + 1)) rfl (by kernel_rfl) (fun _ _ _ h => h) (by rfl) (by assumption) ?_ ?_
 ·intro w5 s0
  obtain ⟨s1, s2⟩ := s0
  go_simp
  exact wrapD _ (by omega) (by omega)
 try simp only [Act.put, List.getElem_toArray, List.getElem_cons_zero, List.getElem_cons_succ, List.setIfInBounds_toArray, List.set_cons_zero, List.set_cons_succ, List.length_cons]
 refine tk 9 (.string f) rfl (by kernel_rfl) (fun _ _ _ h => h) (by rfl) (by assumption) ?_ ?_
 ·intro w5 s0
  obtain ⟨s1, s2⟩ := s0
  go_simp
 try simp only [Act.put, List.getElem_toArray, List.getElem_cons_zero, List.getElem_cons_succ, List.setIfInBounds_toArray, List.set_cons_zero, List.set_cons_succ, List.length_cons]
 refine tk 10 (.slice (some ⟨b', 0, none⟩) 1 lc) rfl (by kernel_rfl) (fun _ _ _ h => h) (by rfl) (by assumption) ?_ ?_
 ·intro w5 s0
  obtain ⟨s1, s2⟩ := s0
  go_simp
 try simp only [Act.put, List.getElem_toArray, List.getElem_cons_zero, List.getElem_cons_succ, List.setIfInBounds_toArray, List.set_cons_zero, List.set_cons_succ, List.length_cons]
 refine rd1 11 (by kernel_rfl) rfl fun K hK => ?_
 go_simp
 refine hA.mono ?_
 rintro e Z ⟨rfl, cZ, xZ⟩
 refine hK.out _ _ ⟨xZ.cell sY.1 (by dsimp only; omega), xZ.cell sY.2 (by dsimp only; omega)⟩ (fun _ => ?_)
 clear hK hA
 try simp only [Act.put, List.getElem_toArray, List.getElem_cons_zero, List.getElem_cons_succ, List.setIfInBounds_toArray, List.set_cons_zero, List.set_cons_succ, List.length_cons]
 refine tk 12 (.string T) rfl (by kernel_rfl) (fun _ _ _ h => h) (by rfl) (by assumption) ?_ ?_
 ·intro w5 s0
  obtain ⟨s1, s2⟩ := s0
  go_simp
 try simp only [Act.put, List.getElem_toArray, List.getElem_cons_zero, List.getElem_cons_succ, List.setIfInBounds_toArray, List.set_cons_zero, List.set_cons_succ, List.length_cons]
 refine wpAnyH_done (by kernel_rfl) ?_ _
 go_wp2
 go_ret
 exact ⟨rfl, cZ, kY.trans xZ⟩
theorem Kx.drop {P : Nat → Prop} {a b c : World} {g : Nat} (h1 : Kx P a b) (h2 : Kx (fun k => k = g ∨ P k) b c) (hg : a.heap.size ≤ g) : Kx P a c :=
 ⟨h2.os.trans h1.os, h2.tape.trans h1.tape, h2.output.trans h1.output, Nat.le_trans h1.size h2.size, fun k hk hp => (h2.block k (Nat.lt_of_lt_of_le hk h1.size) (fun h => h.elim (fun e => by omega) hp)).trans (h1.block k hk hp)⟩
set_option maxRecDepth 1000000 in
set_option maxHeartbeats 4000000 in
theorem at_J (s : ByteArray) (args : Value) (vs : List Value) (o : List UInt8) (C : Nat) (dp : Int) (h0 : 0 ≤ dp) (h3 : dp ≤ 3) {J' : World → Prop} {P : Nat → Prop} (w : World) (ho : o.length ≤ 1000000) (hJ : ∀ W W', J' W → Below W.heap.size W W' → J' W')
  (hBg : Calls Tryz.prog 15 #[.pointer (some ⟨C, 0, none⟩), .int .i64 dp, args] w fun e w' => ∃ g, e = .returned (.pointer (some ⟨g, 0, none⟩)) ∧ w.heap.size ≤ g ∧ BgR w' C g dp vs ∧ Below w.heap.size w w')
  (hF : ∀ g W, w.heap.size ≤ g → Below w.heap.size w W → BgR W C g dp vs → Calls Tryz.prog 20 #[.pointer (some ⟨g, 0, none⟩), .string s] W fun e w' => e = .returned (.tuple #[]) ∧ (∃ tl, IsPr w' g o tl) ∧ J' w' ∧ Kx (fun k => k = g ∨ P k) W w') :
  Calls Tryz.prog 14 #[.pointer (some ⟨C, 0, none⟩), .int .i64 dp, .string s, args] w fun e w' => e = .returned (.string (txt o)) ∧ J' w' ∧ Kx P w w' := by
 have h3' : ¬ 3 < dp := by omega
 go_enter Tryz.func14, Tryz.ntmps14
 go_upto_region 4 with (go_at_call 15; refine hBg.mono ?_; rintro e W ⟨g, rfl, hg, hR, bW⟩; have hF1 := hF g W hg bW hR)
 go_upto_region 5 with (go_at_call 20; refine hF1.mono ?_; rintro e W2 ⟨rfl, ⟨tl, p2⟩, j2, k2⟩; have hT := text_any g o tl W2 p2 (by omega))
 go_wp2_with (go_at_call 18; refine hT.mono ?_; rintro e W3 ⟨rfl, b3⟩)
 go_ret
 exact ⟨rfl, hJ _ _ j2 b3, ((Kx.of_below bW).drop k2 hg).trans (.of_below b3)⟩
end Go.Proofs.YtjfmhghpkefihaaGreatDoor
namespace Go.Proofs.YtjfmhghpkefihaaGreatDoor
open Go.RowKit
set_option linter.unusedVariables false
set_option linter.unusedSimpArgs false
theorem whP (f : ByteArray) (l : Sl) : whN (hkP f l) 118 false = 4 := by
 unfold whN fst34 thB
 simp [Ac.no, hnmB]
theorem say_lv (X : Cx) (r : Nat) (hr3 : r ≤ 3) (T : ByteArray) (hT : T.size ≤ 9000) (hAt : AtC X r T) (g : Nat) (lg : List UInt8) (dp : Int) (hdp : dp = 3 - (r : Int)) (av : Value) (nx : Int) (b : Nat) (hb : b + 1 + r ≤ 1000) (hgC : g ≠ X.C) (w : World) (hC : CS X b w) (hP : IsPr w g lg (prT X.C dp av nx)) :
  Calls Tryz.prog 57 #[.agg X.h.v.toArray, SV (bareQ 118), .bool false, FP g, FS g] w fun e w' => e = .returned (.tuple #[.string T, .bool true]) ∧ CS X (b + 1 + r) w' ∧ Kx (fun k => k = X.C) w w' := by
 have hTn : Tn (fun W => CS X b W ∧ IsPr W g lg (prT X.C dp av nx)) (CS X (b + 1 + r)) (fun k => k = X.C) X.B0 := ⟨fun W W' h k => ⟨h.1.up k, h.2.below k⟩, fun W W' h k => h.kx k, fun k hk => by rw [hk]; exact hC.o.1⟩
 refine say_q hTn g (whP X.f X.l) rfl (fun W hW => ?_) (fun W hW => hW.e) hT w hC.o.2.2.2.2.2 ⟨hC, hP⟩
 refine prints_q hTn g ⟨3, ⟨#[]⟩, X.f, X.l, .no⟩ (Ro dH 0) (fun V hV => ?_) (fun V l' hV hl => print_q X r hr3 T hAt g lg dp hdp av nx b hb l' V hV.1 hV.2 hgC hl) W hW.1.o.2.2.2.2.2 hW
 refine (copies1 X.AB X.c dH rfl rfl V hV.1.r).mono ?_
 rintro e V' ⟨⟨l', h1, h2⟩, h3⟩
 exact ⟨⟨l', h1, h2.mono (Nat.zero_le _)⟩, h3⟩
theorem shown_lv (X : Cx) (r : Nat) (hr3 : r ≤ 3) (T : ByteArray) (hT : T.size ≤ 9000) (hAt : AtC X r T) (g : Nat) (lg : List UInt8) (dp : Int) (hdp : dp = 3 - (r : Int)) (av : Value) (vs : List Value) (nx : Int) (b : Nat) (hb : b + 1 + r ≤ 1000) (hB : X.B0 ≤ g) (W : World) (hE : EnJ (CS X b) W g X.C lg dp av vs nx) :
  Calls Tryz.prog 24 #[.pointer (some ⟨g, 0, none⟩), VI 1 0, SV (bareQ 118)] W fun e w' => e = .returned (.string T) ∧ EnJ (CS X (b + 1 + r)) w' g X.C lg dp av vs nx ∧ Kx (fun k => k = g ∨ k = X.C) W w' := by
 have hgC : g ≠ X.C := by have := hE.c; omega
 have hC0 := hE.j
 have hg := hE.lt
 refine (shown_q (B := CS X (b + 1 + r)) (P := fun k => False ∨ k = X.C) (bareQ 118) (by decide) (VI 1 0) g T W (fun W1 b1 => ?_)).mono ?_
 ·refine written_q (bareQ 118) (FA g) (VI 1 0) 0 W1 T (fun W2 b2 => ?_) (fun W2 b2 => (shape_I 1 0 W2 (by decide) (by decide)).mono fun e w' h => ⟨⟨_, _, h.1⟩, h.2⟩)
  have b12 := b1.trans (b2.mono b1.size)
  refine asked_q (bareQ 118) (VI 1 0) g T W2 (fun k hk => ?_) (fun V V' hV k => hV.kx (k.mono fun x _ hx => ?_)) (fun W3 b3 => ?_)
  ·rcases hk with hk | hk
   ·exact hk.elim
   ·rw [hk]; have := hC0.o.1; have := hC0.o.2.2.2.2.2; have := b12.size; omega
  ·have := hC0.o.2.2.2.2.2; have := b12.size; omega
  ·have b13 := b12.trans (b3.mono b12.size)
   have C3 := hC0.up b13
   have P3 := hE.p.below b13
   have h13 := b13.size
   obtain ⟨n, hn, c2⟩ := C3.c2
   refine ask_q g X.C lg dp av nx W3 P3 n (by omega) c2 (PM := fun _ => False) (P := fun k => k = X.C) (fun h' lo hi V => h' = X.h ∧ CS X b V ∧ IsPr V g lg (prT X.C dp av nx)) (fun k h => h.elim) (fun k hk => ?_) (fun V bV => ?_) (fun h' lo hi V V' zl zh h k => ⟨h.1, h.2.1.kx (k.mono fun x _ hx => ?_), h.2.2.kept k (fun hx => ?_)⟩) (fun h' lo hi V h zl zh zv => ?_)
   ·rw [hk]; exact ⟨by have := C3.o.1; have := C3.o.2.2.2.2.2; omega, fun e => hgC e.symm⟩
   ·have CV := C3.up bV
    refine (row_hit X.C X.M X.h V CV.c1 CV.m).mono ?_
    rintro e V' ⟨rfl, bV'⟩
    exact ⟨X.h, rfl, Hid.mk' ⟨rfl, CV.up bV', (P3.below bV).below bV'⟩, .of_below bV'⟩
   ·have := C3.o.2.2.2.2.2; omega
   ·omega
   ·obtain ⟨rfl, h1, h2⟩ := h
    exact say_lv X r hr3 T hT hAt g lg dp hdp av nx b hb hgC V h1 h2
 ·rintro e w' ⟨rfl, h1, h2⟩
  exact ⟨rfl, hE.turn h2 (fun k hk => hk.elim (fun h => h.elim) (fun h => by rw [h]; exact hE.c)) h1 (fun V V' hV k => hV.kx (k.mono fun x _ hx => by omega)), h2.mono (fun k _ hk => hk.elim (fun h => h.elim) Or.inr)⟩
theorem prs_head (l : Bs) (hno : ∀ x ∈ l, noPc x = true) (hne : l ≠ []) (t : Bs) : prs (l ++ 37 :: t) = lit l :: prs (37 :: t) := by
 have hd1 : hd (l ++ 37 :: t) ≠ 37 := by
  cases l with
  | nil => exact absurd rfl hne
  | cons x r =>
    have := hno x (List.mem_cons_self ..)
    unfold noPc at this
    simpa [hd] using this
 have hdw : (l ++ 37 :: t).dropWhile noPc = 37 :: t := by
  rw [List.dropWhile_append_of_pos hno]
  rfl
 have hp : prest (l ++ 37 :: t) = 37 :: t := by unfold prest; rw [if_neg hd1, hdw]
 rw [prs_step (by simp), hp]
 unfold pce
 rw [if_neg hd1]
 congr 2
 simp
abbrev pV : Pc := ⟨1, [37, 118], fl0, -1, 118, nb0, nb0, ix0⟩
theorem prs_V (l : Bs) (hno : ∀ x ∈ l, noPc x = true) : prs (l ++ [60, 37, 118, 62]) = [lit (l ++ [60]), pV, lit [62]] := by
 have := prs_head (l ++ [60]) (fun x hx => by
  rcases List.mem_append.1 hx with h | h
  ·exact hno x h
  ·simp at h; subst h; rfl) (by simp) [118, 62]
 rw [show l ++ [60, 37, 118, 62] = (l ++ [60]) ++ 37 :: [118, 62] by simp, this]
 rfl
theorem beg_H (C : Nat) (dp : Int) (b' c' : Nat) (w : World) (hr : w.rangeAt b' 0 dH.v) (hb : b' < w.heap.size) (h1 : 1 ≤ c') (h2 : c' ≤ maxLen) :
  Calls Tryz.prog 15 #[.pointer (some ⟨C, 0, none⟩), .int .i64 dp, .slice (some ⟨b', 0, none⟩) 1 c'] w fun e w' => ∃ g, e = .returned (.pointer (some ⟨g, 0, none⟩)) ∧ w.heap.size ≤ g ∧ BgR w' C g dp [VI 1 0] ∧ Below w.heap.size w w' := by
 refine begun_raw w C dp b' c' [dH.v] [VI 1 0] hb rfl (by decide) h1 h2 (fun i d hd => ?_) (fun i d u hd hu => ?_)
 ·match i, hd with
  | 0, hd =>
    simp at hd
    subst hd
    exact ⟨⟨_, _, _, _, _, _, rfl⟩, fun j u hu => by have := hr j u hu; simpa using this⟩
 ·match i, hd, hu with
  | 0, hd, hu =>
    simp at hd hu
    subst hd hu
    exact ⟨⟨_, _, rfl⟩, fun W => valueOf_I 1 0 W (by decide) (by decide) (by decide)⟩
end Go.Proofs.YtjfmhghpkefihaaGreatDoor
namespace Go.Proofs.YtjfmhghpkefihaaGreatDoor
open Go.RowKit
set_option linter.unusedVariables false
set_option linter.unusedSimpArgs false
set_option maxRecDepth 1000000 in
set_option maxHeartbeats 2000000 in
theorem bdepth_ex (w : World) : Calls Tryz.prog 7 #[] w fun e w' => e = .returned (.string ⟨#[37, 33, 40, 68, 69, 80, 84, 72, 41]⟩) ∧ Below w.heap.size w w' := by
 obtain ⟨W1, hW1⟩ : ∃ W1, W1 = w.alloc (.cells #[.string ⟨#[68, 69, 80, 84, 72]⟩] 9) := ⟨_, rfl⟩
 have hb1 : Below w.heap.size w W1 := by rw [hW1]; exact (Below.refl _ _).alloc (Nat.le_refl _) _
 have hT : Calls Tryz.prog 12 #[.string ⟨#[]⟩, .slice (some ⟨w.heap.size, 0, none⟩) 1 1] W1 fun e w' => e = .returned (.string ⟨#[37, 33, 40, 68, 69, 80, 84, 72, 41]⟩) ∧ Below W1.heap.size W1 w' := btext_any (v := ⟨#[]⟩) (xs := [(⟨#[68, 69, 80, 84, 72]⟩ : ByteArray)]) (by decide) (fun j x hj => by
   match j, hj with
   | 0, hj => simp at hj; subst hj; rw [hW1]; simp) (by rw [hW1]; simp) (by simp) (by simp) rfl (by decide)
 go_enter Tryz.func7, Tryz.ntmps7
 go_wp2_with (go_at_call 12; rw [← hW1]; refine hT.mono ?_; rintro e w3 ⟨rfl, hb3⟩)
 go_ret
 exact ⟨rfl, hb1.trans (hb3.mono hb1.size)⟩
def outT (L : List UInt8) : Nat → List UInt8
 | 0 => [37, 33, 40, 68, 69, 80, 84, 72, 41]
 | r + 1 => (L ++ [60]) ++ (outT L r ++ [62])
theorem outT_len (L : List UInt8) (hL : L.length ≤ 200) : ∀ r, (outT L r).length ≤ 9 + 202 * r
 | 0 => by simp [outT]
 | r + 1 => by
   have := outT_len L hL r
   simp only [outT, List.length_append, List.length_cons, List.length_nil]
   omega
theorem txt_short {l : List UInt8} (h : l.length ≤ 4096) : txt l = ⟨l.toArray⟩ := by unfold txt; rw [if_neg (by omega)]
set_option maxRecDepth 1000000 in
theorem depth_lat (C : Nat) (dp : Int) (hd : 3 < dp) (s : ByteArray) (args : Value) (w : World) : Calls Tryz.prog 14 #[.pointer (some ⟨C, 0, none⟩), .int .i64 dp, .string s, args] w fun e w' => e = .returned (.string ⟨#[37, 33, 40, 68, 69, 80, 84, 72, 41]⟩) ∧ Below w.heap.size w w' := by
 have hD := bdepth_ex w
 go_enter Tryz.func14, Tryz.ntmps14
 go_wp2_with (go_at_call 7; refine hD.mono ?_; rintro e W ⟨rfl, b⟩)
 go_ret
 exact ⟨rfl, b⟩
theorem at_0 (X : Cx) (L : List UInt8) : AtC X 0 ⟨(outT L 0).toArray⟩ := by
 intro W b b' c' hC hb hr hb' h1 h2
 refine (depth_lat X.C (4 - ((0 : Nat) : Int)) (by decide) X.f _ W).mono ?_
 rintro e W' ⟨rfl, h⟩
 exact ⟨rfl, hC.up h, .of_below h⟩
theorem litJ_pc {P : Nat → Prop} {g C : Nat} (hPg : P g) (dp : Int) (av : Value) (vs : List Value) (l : List UInt8) (J : World → Prop) (nx : Int) : PcJ P g C dp av vs (lit l) J J nx nx l := by
 intro w l0 E hl
 refine (lit_J (lit l) (ba l) rfl E (by rw [Lib.size_eq]; exact Nat.le_trans hl (by decide))).mono ?_
 rintro e w' ⟨h1, h2, h3⟩
 exact ⟨h1, h2, h3.mono fun k _ h => h ▸ hPg⟩
theorem dirJ_pc {P : Nat → Prop} {g C : Nat} (hPg : P g) (hPl : ∀ k, P k → k ≤ g) (dp : Int) (av : Value) (T : ByteArray) (J J' : World → Prop) (hSh : ∀ W l, EnJ J W g C l dp av [VI 1 0] 2 → Calls Tryz.prog 24 #[.pointer (some ⟨g, 0, none⟩), VI 1 0, SV (bareQ 118)] W fun e w' => e = .returned (.string T) ∧ EnJ J' w' g C l dp av [VI 1 0] 2 ∧ Kx P W w') :
  PcJ P g C dp av [VI 1 0] pV J J' 1 2 T.data.toList := by
 intro w l E hl
 refine piece_J pV (ba pV.text) rfl _ 2 E fun W E' => dir_J pV (ba pV.text) (bareQ 118) 0 _ _ T 0 E' (fun V EV => ?_) (by decide) rfl rfl rfl (by decide) hPg hPl (fun V EV => hSh V l EV) (by rw [Lib.size_eq]; exact Nat.le_trans hl (by decide))
 refine (sized_none pV (ba pV.text) rfl rfl g V).mono ?_
 rintro e V' ⟨h1, h2⟩
 exact ⟨h1, EV.up h2, .of_below h2⟩
theorem at_step (X : Cx) (L : List UInt8) (hL : L.length ≤ 200) (hno : ∀ x ∈ L, noPc x = true) (hf : X.f.data.toList = L ++ [60, 37, 118, 62]) (r : Nat) (hr3 : r ≤ 3) (hAt : AtC X r ⟨(outT L r).toArray⟩) : AtC X (r + 1) ⟨(outT L (r + 1)).toArray⟩ := by
 intro W b b' c' hC hb hr hb' h1 h2
 have hlen := outT_len L hL r
 have hlen1 := outT_len L hL (r + 1)
 have hoo : (outT L (r + 1) ++ []) = outT L (r + 1) := List.append_nil _
 have hfs : X.f.size ≤ 100000 := by rw [Lib.size_eq, hf]; simp; omega
 have hat := at_J X.f (.slice (some ⟨b', 0, none⟩) 1 c') [VI 1 0] (outT L (r + 1) ++ []) X.C (3 - (r : Int)) (by omega) (by omega) (J' := CS X (b + 1 + r)) (P := fun k => k = X.C) W (by rw [hoo]; omega) (fun _ _ h k => h.up k) (beg_H X.C (3 - (r : Int)) b' c' W hr hb' h1 h2) (fun g V hg bV hR => ?_)
 ·rw [hoo, txt_short (by omega)] at hat
  rw [show (4 - ((r + 1 : Nat) : Int)) = 3 - (r : Int) by omega, show b + (r + 1) = b + 1 + r by omega]
  exact hat
 ·obtain ⟨ao, cc, hp, hc1, hc2, ha⟩ := hR
  have hB : X.B0 ≤ g := Nat.le_trans hC.o.2.2.2.2.2 hg
  have hCg : X.C < g := Nat.lt_of_lt_of_le hC.o.1 hB
  have hE : EnJ (CS X b) V g X.C [] (3 - (r : Int)) (.slice ao [VI 1 0].length cc) [VI 1 0] 1 := ⟨hp, hC.up bV, fun w w' h k => h.kx (k.mono fun x _ hx => by omega), hCg, ao, cc, rfl, hc1, hc2, ha⟩
  refine (format_J X.f hfs [lit (L ++ [60]), pV, lit [62]] (by rw [hf]; exact prs_V L hno) (by
   intro p hp
   simp only [List.mem_cons, List.not_mem_nil, or_false] at hp
   rcases hp with rfl | rfl | rfl
   ·exact ⟨rfl, rfl, rfl⟩
   ·exact ⟨rfl, rfl, rfl⟩
   ·exact ⟨rfl, rfl, rfl⟩) (outT L (r + 1)) [] (J' := CS X (b + 1 + r)) (P := fun k => k = g ∨ k = X.C) (Or.inl rfl) (fun k hk => by omega) hE (nx' := 2) ⟨L ++ [60], outT L r ++ [62], 1, CS X b, litJ_pc (Or.inl rfl) _ _ _ _ _ _, ⟨outT L r, [62], 2, CS X (b + 1 + r), dirJ_pc (Or.inl rfl) (fun k hk => by omega) _ _ ⟨(outT L r).toArray⟩ _ _ (fun V2 l2 E2 => shown_lv X r hr3 _ (by rw [Lib.size_eq]; show (outT L r).length ≤ 9000; omega) hAt g l2 _ rfl _ _ 2 b (by omega) hB V2 E2), ⟨[62], [], 2, CS X (b + 1 + r), litJ_pc (Or.inl rfl) _ _ _ _ _ _, ⟨rfl, rfl, rfl⟩, rfl⟩, rfl⟩, rfl⟩ (Or.inr (by omega)) (by omega) (fun V2 E2 => extra_J E2 (by decide))).mono ?_
  rintro e w' ⟨h1, h2, h3⟩
  exact ⟨h1, ⟨_, h2.p⟩, h2.j, h3⟩
theorem atC_all (X : Cx) (L : List UInt8) (hL : L.length ≤ 200) (hno : ∀ x ∈ L, noPc x = true) (hf : X.f.data.toList = L ++ [60, 37, 118, 62]) : ∀ r, r ≤ 4 → AtC X r ⟨(outT L r).toArray⟩
 | 0, _ => at_0 X L
 | r + 1, h => at_step X L hL hno hf r (by omega) (atC_all X L hL hno hf r (by omega))
end Go.Proofs.YtjfmhghpkefihaaGreatDoor
namespace Go.Proofs.YtjfmhghpkefihaaGreatDoor
open Go.RowKit
set_option linter.unusedVariables false
set_option linter.unusedSimpArgs false
structure NC (C M TB AB c : Nat) (f : ByteArray) (w : World) : Prop where
 c0 : w.cell? ⟨C, 0, none⟩ = some (.slice (some ⟨TB, 0, none⟩) 1 1)
 c1 : w.cell? ⟨C, 1, none⟩ = some (.map (some M))
 c2 : w.cell? ⟨C, 2, none⟩ = some (.int .i64 0)
 z : w.frozen? ⟨C, 2, none⟩ = false
 m : w.heap[M]? = some (.map #[] 0)
 t : Blk w TB (hkP f ⟨some ⟨AB, 0, none⟩, 1, c⟩).v
 r : w.rangeAt AB 0 dH.v
 e : Esc w
 k : KN w
def NcO (C M TB AB g : Nat) : Prop := C < g ∧ M < g ∧ TB < g ∧ AB < g ∧ 2 < g ∧ 0 < g ∧ M ≠ C ∧ 2 ≠ C ∧ 0 ≠ C ∧ 2 ≠ M ∧ 0 ≠ M
theorem NC.kx {C M TB AB c g : Nat} {f : ByteArray} {w w' : World} (ho : NcO C M TB AB g) (h : NC C M TB AB c f w) (k : Kx (fun k => g ≤ k) w w') : NC C M TB AB c f w' := by
 obtain ⟨c0, c1, c2, z, m, t, r, e, kn⟩ := h
 have hCl : C < w.heap.size := World.block_lt_of_cell? w _ c1
 have hMl := (Array.getElem?_eq_some_iff.1 m).1
 obtain ⟨o1, o2, o3, o4, o5, o6, o7⟩ := ho
 exact ⟨k.cell c0 (by dsimp only; omega), k.cell c1 (by dsimp only; omega), k.cell c2 (by dsimp only; omega), (World.frozen?_of_block (w := w) (a := ⟨C, 2, none⟩) (k.block C hCl (by omega))).trans z, (k.block M hMl (by omega)).trans m, t.kx k (by omega), fun j v hv => k.cell (r j v hv) (by dsimp only; omega), ⟨Nat.lt_of_lt_of_le e.1 k.size, fun i hi => k.cell (e.2 i hi) (by dsimp only; omega)⟩, fun i s hs => k.cell (kn i s hs) (by dsimp only; omega)⟩
structure NG (C M : Nat) (hv : Value) (w : World) : Prop where
 c1 : w.cell? ⟨C, 1, none⟩ = some (.map (some M))
 c2 : w.cell? ⟨C, 2, none⟩ = some (.int .i64 0)
 z : w.frozen? ⟨C, 2, none⟩ = false
 m : w.heap[M]? = some (.map (oneE hv) 1)
 e : Esc w
 k : KN w
theorem NG.kx {C M TB AB B : Nat} {hv : Value} {w w' : World} (ho : NcO C M TB AB B) (h : NG C M hv w) (k : Kx (fun k => B ≤ k) w w') : NG C M hv w' := by
 obtain ⟨c1, c2, z, m, e, kn⟩ := h
 have hCl : C < w.heap.size := World.block_lt_of_cell? w _ c1
 have hMl := (Array.getElem?_eq_some_iff.1 m).1
 obtain ⟨o1, o2, o3, o4, o5, o6, o7⟩ := ho
 exact ⟨k.cell c1 (by dsimp only; omega), k.cell c2 (by dsimp only; omega), (World.frozen?_of_block (w := w) (a := ⟨C, 2, none⟩) (k.block C hCl (by omega))).trans z, (k.block M hMl (by omega)).trans m, ⟨Nat.lt_of_lt_of_le e.1 k.size, fun i hi => k.cell (e.2 i hi) (by dsimp only; omega)⟩, fun i s hs => k.cell (kn i s hs) (by dsimp only; omega)⟩
def GotR (f : ByteArray) (h' : Hk) (lo hi : Nat) (W : World) : Prop := ∃ AB c, h' = hkP f ⟨some ⟨AB, 0, none⟩, 1, c⟩ ∧ lo ≤ AB ∧ AB < hi ∧ AB < W.heap.size ∧ W.rangeAt AB 0 dH.v
theorem GotR.kx {f : ByteArray} {h' : Hk} {lo hi : Nat} {W W' : World} {P : Nat → Prop} (h : GotR f h' lo hi W) (k : Kx P W W') (hP : ∀ x, lo ≤ x → x < hi → ¬ P x) : GotR f h' lo hi W' := by
 obtain ⟨AB, c, h1, h2, h3, h4, h5⟩ := h
 exact ⟨AB, c, h1, h2, h3, Nat.lt_of_lt_of_le h4 k.size, fun j v hv => k.cell (h5 j v hv) (hP AB h2 h3)⟩
theorem row_new {C M TB AB c : Nat} {f : ByteArray} {w : World} (ho : NcO C M TB AB w.heap.size) (h : NC C M TB AB c f w) :
  Calls Tryz.prog 55 #[.pointer (some ⟨C, 0, none⟩), .int .i64 1] w fun e w' => ∃ h' : Hk, e = .returned (.tuple #[.agg h'.v.toArray, .bool true]) ∧ Hid (NG C M (.agg h'.v.toArray) w' ∧ ∃ lo hi, w.heap.size ≤ lo ∧ lo ≤ hi ∧ hi ≤ w'.heap.size ∧ GotR f h' lo hi w') ∧ Kx (fun k => k = M) w w' := by
 obtain ⟨o1, o2, o3, o4, o5, o6, o7, o8, o9, o10, o11⟩ := id ho
 refine (row_miss C M _ ⟨_, _, _, rfl⟩ w (fun h' lo hi W => w.heap.size ≤ lo ∧ GotR f h' lo hi W) (fun h' lo hi W W' hh k => ⟨hh.1, hh.2.kx k (fun x h1 h2 h3 => ?_)⟩) h.c0 h.c1 h.m (fun e => o7 e.symm) (fun V bV => ?_)).mono ?_
 ·have := hh.1
  rcases h3 with h3 | h3 | h3
  ·omega
  ·omega
  ·omega
 ·refine (get_1 f dH rfl rfl AB c TB V (fun j v hv => (bV.cell (p := ⟨AB, 0 + j, none⟩) (by dsimp only; omega)).trans (h.r j v hv)) (Nat.lt_of_lt_of_le o4 bV.size) (h.t.up bV)).mono ?_
  rintro e V' ⟨⟨h', h1, h2⟩, h3⟩
  obtain ⟨l', h4, h5⟩ := h2.out
  obtain ⟨g1, g2, g3, b, g4, g5, g6, g7⟩ := h5
  obtain ⟨la, ln, lc⟩ := l'
  dsimp only at g1 g2 g3 g4
  subst g1 g4
  exact ⟨⟨h', h1, Hid.mk' ⟨bV.size, b, lc, h4, by omega, g6, g6, g7⟩⟩, h3⟩
 ·rintro e w' ⟨h', h1, h2, h3, k⟩
  refine ⟨h', h1, Hid.mk' ⟨⟨k.cell h.c1 (fun e => o7 e.symm), k.cell h.c2 (fun e => o7 e.symm), (World.frozen?_of_block (w := w) (a := ⟨C, 2, none⟩) (k.block C o1 (fun e => o7 e.symm))).trans h.z, h3, ⟨Nat.lt_of_lt_of_le h.e.1 k.size, fun i hi => k.cell (h.e.2 i hi) o10⟩, fun i s hs => k.cell (h.k i s hs) o11⟩, by
   obtain ⟨lo, hi, a1, a2, a3, a4⟩ := h2.out
   exact ⟨lo, hi, a1, a2, a3, a4.2⟩⟩, k⟩
theorem NcO.mono {C M TB AB g g' : Nat} (h : NcO C M TB AB g) (hg : g ≤ g') : NcO C M TB AB g' := by
 obtain ⟨o1, o2, o3, o4, o5, o6, o7⟩ := h
 exact ⟨by omega, by omega, by omega, by omega, by omega, by omega, o7⟩
theorem shown_out {C M TB AB c g : Nat} {f : ByteArray} (L : List UInt8) (hL : L.length ≤ 200) (hno : ∀ x ∈ L, noPc x = true) (hf : f.data.toList = L ++ [60, 37, 118, 62]) (r : Nat) (hr3 : r ≤ 3) (ho : NcO C M TB AB g) (lg : List UInt8) (dp : Int) (hdp : dp = 3 - (r : Int)) (av : Value) (vs : List Value) (nx : Int) (W : World) (hE : EnJ (NC C M TB AB c f) W g C lg dp av vs nx) :
  Calls Tryz.prog 24 #[.pointer (some ⟨g, 0, none⟩), VI 1 0, SV (bareQ 118)] W fun e w' => e = .returned (.string ⟨(outT L r).toArray⟩) ∧ EnJ (fun _ => True) w' g C lg dp av vs nx ∧ Kx (fun k => k = g ∨ (k = C ∨ k = M)) W w' := by
 have hgC : g ≠ C := by have := hE.c; omega
 have hg := hE.lt
 obtain ⟨o1, o2, o3, o4, o5, o6, o7, o8, o9, o10, o11⟩ := id ho
 refine (shown_q (B := fun _ => True) (P := fun k => k = M ∨ k = C) (bareQ 118) (by decide) (VI 1 0) g ⟨(outT L r).toArray⟩ W (fun W1 b1 => ?_)).mono ?_
 ·refine written_q (bareQ 118) (FA g) (VI 1 0) 0 W1 _ (fun W2 b2 => ?_) (fun W2 b2 => (shape_I 1 0 W2 (by decide) (by decide)).mono fun e w' h => ⟨⟨_, _, h.1⟩, h.2⟩)
  have b12 := b1.trans (b2.mono b1.size)
  refine asked_q (bareQ 118) (VI 1 0) g _ W2 (fun k hk => ?_) (fun V V' hV k => trivial) (fun W3 b3 => ?_)
  ·have := b12.size
   rcases hk with hk | hk <;> omega
  ·have b13 := b12.trans (b3.mono b12.size)
   have N3 := hE.j.kx ho (Kx.of_below b13)
   have P3 := hE.p.below b13
   have h13 := b13.size
   have g3 : g < W3.heap.size := Nat.lt_of_lt_of_le hg h13
   refine ask_q g C lg dp av nx W3 P3 0 (by decide) N3.c2 (PM := fun k => k = M) (P := fun k => k = C) (fun h' lo hi V => NG C M (.agg h'.v.toArray) V ∧ (∃ lo' hi', lo ≤ lo' ∧ hi' ≤ hi ∧ GotR f h' lo' hi' V) ∧ IsPr V g lg (prT C dp av nx)) (fun k hk => by omega) (fun k hk => by omega) (fun V bV => ?_) (fun h' lo hi V V' zl zh h k => ?_) (fun h' lo hi V h zl zh zv => ?_)
   ·have NV := N3.kx ho (Kx.of_below bV)
    have hV := bV.size
    refine (row_new (ho.mono (by omega)) NV).mono ?_
    rintro e V' ⟨h', h1, h2, k⟩
    obtain ⟨n1, lo, hi, a1, a2, a3, a4⟩ := h2.out
    exact ⟨h', h1, Hid.mk' ⟨n1, ⟨lo, hi, a1, a3, a4⟩, (P3.below bV).kept k (by omega)⟩, k⟩
   ·obtain ⟨h1, ⟨lo', hi', a1, a2, a3⟩, h3⟩ := h
    exact ⟨h1.kx (ho.mono (Nat.le_of_lt g3)) (k.mono fun x _ hx => by omega), ⟨lo', hi', a1, a2, a3.kx k (fun x e1 e2 e3 => by omega)⟩, h3.kept k (fun e3 => by omega)⟩
   ·obtain ⟨n1, ⟨lo', hi', a1, a2, AB', c', rfl, e2, e3, e4, e5⟩, h3⟩ := h
    have hV : W3.heap.size ≤ V.heap.size := by omega
    have hCS : CS ⟨C, M, AB', V.heap.size, c', f⟩ 0 V := ⟨n1.c1, ⟨0, Nat.le_refl _, n1.c2⟩, n1.z, n1.m, e5, n1.e, n1.k, ⟨by dsimp only; omega, by dsimp only; omega, by dsimp only; omega, by dsimp only; omega, by dsimp only; omega, Nat.le_refl _⟩, ⟨by dsimp only; omega, o7, o8, o9⟩⟩
    have hlen := outT_len L hL r
    refine (say_lv ⟨C, M, AB', V.heap.size, c', f⟩ r hr3 _ (by rw [Lib.size_eq]; show (outT L r).length ≤ 9000; omega) (atC_all _ L hL hno hf r (by omega)) g lg dp hdp av nx 0 (by omega) hgC V hCS h3).mono ?_
    rintro e V' ⟨h1, h2, k⟩
    exact ⟨h1, trivial, k⟩
 ·rintro e w' ⟨rfl, -, h2⟩
  exact ⟨rfl, hE.turn h2 (fun k hk => by rcases hk with hk | hk <;> omega) trivial (fun _ _ _ _ => trivial), h2.mono (fun k _ hk => by rcases hk with hk | hk; exact Or.inr (Or.inr hk); exact Or.inr (Or.inl hk))⟩
set_option maxRecDepth 1000000 in
theorem newCall_t (TB : Nat) (w : World) : Calls Tryz.prog 13 #[.slice (some ⟨TB, 0, none⟩) 1 1] w fun e w' => ∃ C M, e = .returned (.pointer (some ⟨C, 0, none⟩)) ∧ Hid (w.heap.size ≤ C ∧ w.heap.size ≤ M ∧ M ≠ C ∧ C < w'.heap.size ∧ M < w'.heap.size ∧ w'.cell? ⟨C, 0, none⟩ = some (.slice (some ⟨TB, 0, none⟩) 1 1) ∧ w'.cell? ⟨C, 1, none⟩ = some (.map (some M)) ∧ w'.cell? ⟨C, 2, none⟩ = some (.int .i64 0) ∧ w'.frozen? ⟨C, 2, none⟩ = false ∧ w'.heap[M]? = some (.map #[] 0)) ∧ Below w.heap.size w w' := by
 have hmm : ∀ w : World, (Instr.makeMap 59 none).run Tryz.prog w = .ok (.map (some w.heap.size)) (w.alloc (.map #[] 0)) := fun w => by kernel_rfl
 go_enter Tryz.func13, Tryz.ntmps13
 go_wp2
 go_ret
 refine ⟨w.heap.size + 1, w.heap.size, rfl, Hid.mk' ⟨by omega, by omega, by omega, by simp, by simp; omega, by simp [go_sem], by simp [go_sem], by simp [go_sem], ?_, ?_⟩, by go_grown⟩
 ·rw [frozen?_alloc_cells]
  exact frozen_none _ _ (by show _ ≤ w.heap.size + 1; simp)
 ·rw [Below.heap_alloc _ _ _ (by simp), heap_alloc_new]
end Go.Proofs.YtjfmhghpkefihaaGreatDoor
