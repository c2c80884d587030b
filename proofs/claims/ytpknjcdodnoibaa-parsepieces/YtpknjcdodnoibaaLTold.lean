/- The law ParsePieces: num and told, a piece as the document's. -/
import Derived.Test.YtpknjcdodnoibaaPEq
import Derived.Test.YtpknjcdodnoibaaTRow
import Derived.Deep.RegionHeld
namespace Go.Proofs.Ytpknjcdodnoibaa
open Go.RowKit
set_option linter.unusedVariables false
set_option linter.unusedSimpArgs false

abbrev nb9V (n : Nb) : Value := .agg #[.int .i64 (n.k : Nat), .int .i64 n.n, .int .i64 (n.a.k : Nat), .int .i64 (n.a.n : Nat)]
set_option maxRecDepth 1000000 in
set_option maxHeartbeats 1000000 in
theorem num9_any (n : Nb) (w : World) : Calls Try.prog 13 #[nb9V n] w fun e w' => e = .returned (nb9V n) ∧ Below w.heap.size w w' := by
  obtain ⟨k, n, x, y⟩ := n
  have hbn : ∀ (k n x y : Int) (w : World), (Instr.build 32 #[(0, .int .i64 k), (1, .int .i64 n), (2, .agg #[.int .i64 x, .int .i64 y])]).run Try.prog w = .ok (.agg #[.int .i64 k, .int .i64 n, .int .i64 x, .int .i64 y]) w := fun _ _ _ _ _ => by kernel_rfl
  go_enter Try.func13, Try.ntmps13
  go_wp2
  go_returns
  refine ⟨rfl, ?_⟩
  exact ((Below.refl _ _).alloc (Nat.le_refl _) _).alloc (by simp) _
theorem res20e {f : Func} (hr : f.results = #[.cell 2 34]) {tmps : Array Value} {w : World} {B : Nat} {vs : List Value} (ht : tmps.getD 2 undef = .pointer (some ⟨B, 0, none⟩)) (h : Bx w B vs) (hl : vs.length = 20) : (results f tmps).run Try.prog w = .ok (.agg vs.toArray) w := by
  obtain ⟨d, h1, h2⟩ := isrow20d
  have hL := run_loadVar_mid (P := Try.prog) w B 0 34 vs d h.range h1 h2 (by rw [hl]; exact info20d)
  have ht' : tmps[2]?.getD undef = .pointer (some ⟨B, 0, none⟩) := by simpa using ht
  simp [results, hr, ht', hL, asAddr]
theorem build_told (k : Int) (t : ByteArray) (a b c d e : Bool) (f g h : Int) (n1 n2 n3 n4 m1 m2 m3 m4 x1 x2 : Int) (w : World) : (Instr.build 34 #[(0, .int .i64 k), (1, .string t), (2, .agg #[.bool a, .bool b, .bool c, .bool d, .bool e, .int .i64 f, .int .i64 g, .int .i32 h]), (3, .agg #[.int .i64 n1, .int .i64 n2, .int .i64 n3, .int .i64 n4]), (4, .agg #[.int .i64 m1, .int .i64 m2, .int .i64 m3, .int .i64 m4]), (5, .agg #[.int .i64 x1, .int .i64 x2])]).run Try.prog w = .ok (.agg #[.int .i64 k, .string t, .bool a, .bool b, .bool c, .bool d, .bool e, .int .i64 f, .int .i64 g, .int .i32 h, .int .i64 n1, .int .i64 n2, .int .i64 n3, .int .i64 n4, .int .i64 m1, .int .i64 m2, .int .i64 m3, .int .i64 m4, .int .i64 x1, .int .i64 x2]) w := by kernel_rfl
set_option maxRecDepth 1000000 in
set_option maxHeartbeats 4000000 in
theorem told9_any (p : Pc) (w : World) : Calls Try.prog 7 #[.agg (pcV p (ba p.text)).toArray] w fun e w' => e = .returned (.agg (pcV p (ba p.text)).toArray) ∧ Below w.heap.size w w' := by
  obtain ⟨W2, hW2⟩ : ∃ W2 : World, W2 = (w.alloc (.cells (pcV p (ba p.text)).toArray 40)).alloc (.cells #[.int .i64 0, .string ⟨#[]⟩, .bool false, .bool false, .bool false, .bool false, .bool false, .int .i64 0, .int .i64 0, .int .i32 0, .int .i64 0, .int .i64 0, .int .i64 0, .int .i64 0, .int .i64 0, .int .i64 0, .int .i64 0, .int .i64 0, .int .i64 0, .int .i64 0] 34) := ⟨_, rfl⟩
  have hz : (w.alloc (.cells (pcV p (ba p.text)).toArray 40)).heap.size = w.heap.size + 1 := by simp
  have bA : Bx W2 w.heap.size (pcV p (ba p.text)) := by
    rw [hW2]; exact (Bx.new w (pcV p (ba p.text)) 40).up ((Below.refl _ _).alloc (Nat.le_refl _) _)
  have bR : Bx W2 (w.heap.size + 1) (pieceV 0 ⟨#[]⟩ fl0 0 0 nb0 nb0 ix0) := by
    have := Bx.new (w.alloc (.cells (pcV p (ba p.text)).toArray 40)) (pieceV 0 ⟨#[]⟩ fl0 0 0 nb0 nb0 ix0) 34
    rw [hz] at this
    rw [hW2]; exact this
  have bB : Below w.heap.size w W2 := by rw [hW2]; exact ((Below.refl _ _).alloc (Nat.le_refl _) _).alloc (by simp) _
  obtain ⟨k, tx, ⟨fp, fm, fs, fb, fz⟩, sz, vb, na, nb, ⟨xk, xn⟩⟩ := p
  have kN := fun w => num9_any na w
  have kM := fun w => num9_any nb w
  have hbt := build_told
  dsimp only [pcV, pieceV] at *
  generalize ba tx = t at *
  have bU : ∀ V V' : World, (Bx V w.heap.size [.int .i64 (k : Nat), .string t, .bool fp, .bool fm, .bool fs, .bool fb, .bool fz, .int .i64 sz, .int .i64 sz, .int .i32 (vb : Nat), .int .i64 (na.k : Nat), .int .i64 na.n, .int .i64 (na.a.k : Nat), .int .i64 (na.a.n : Nat), .int .i64 (nb.k : Nat), .int .i64 nb.n, .int .i64 (nb.a.k : Nat), .int .i64 (nb.a.n : Nat), .int .i64 (xk : Nat), .int .i64 (xn : Nat)] ∧ (∃ vs, vs.length = 20 ∧ Bx V (w.heap.size + 1) vs) ∧ Below w.heap.size w V) → Below V.heap.size V V' → (Bx V' w.heap.size [.int .i64 (k : Nat), .string t, .bool fp, .bool fm, .bool fs, .bool fb, .bool fz, .int .i64 sz, .int .i64 sz, .int .i32 (vb : Nat), .int .i64 (na.k : Nat), .int .i64 na.n, .int .i64 (na.a.k : Nat), .int .i64 (na.a.n : Nat), .int .i64 (nb.k : Nat), .int .i64 nb.n, .int .i64 (nb.a.k : Nat), .int .i64 (nb.a.n : Nat), .int .i64 (xk : Nat), .int .i64 (xn : Nat)] ∧ (∃ vs, vs.length = 20 ∧ Bx V' (w.heap.size + 1) vs) ∧ Below w.heap.size w V') :=
    fun V V' h hb => ⟨h.1.up hb, h.2.1.elim fun vs q => ⟨vs, q.1, q.2.up hb⟩, h.2.2.trans (hb.mono h.2.2.size)⟩
  have s0 := bU W2 W2.drew ⟨bA, ⟨_, rfl, bR⟩, bB⟩ (Below.refl _ _).drew
  clear bA bR bB
  go_enter Try.func7, Try.ntmps7
  go_wp2
  rw [← hW2]
  clear hW2 hz
  refine wp_region_held_drew (S := fun V => Bx V w.heap.size [.int .i64 (k : Nat), .string t, .bool fp, .bool fm, .bool fs, .bool fb, .bool fz, .int .i64 sz, .int .i64 sz, .int .i32 (vb : Nat), .int .i64 (na.k : Nat), .int .i64 na.n, .int .i64 (na.a.k : Nat), .int .i64 (na.a.n : Nat), .int .i64 (nb.k : Nat), .int .i64 nb.n, .int .i64 (nb.a.k : Nat), .int .i64 (nb.a.n : Nat), .int .i64 (xk : Nat), .int .i64 (xn : Nat)] ∧ (∃ vs, vs.length = 20 ∧ Bx V (w.heap.size + 1) vs) ∧ Below w.heap.size w V) (by kernel_rfl) s0 ?_
  intro hS

  refine wpAnyH_take (i := 0) (v := .pointer (some ⟨w.heap.size, 0, none⟩)) rfl (by kernel_rfl) (by kernel_rfl) (by kernel_rfl) (fun _ _ _ h => h) (Or.inl ⟨by rfl, ?_⟩) (by assumption) ?_
  · intro w5 s0
    clear s0
    go_simp
  try simp only [Act.put, List.getElem_toArray, List.getElem_cons_zero, List.getElem_cons_succ, List.setIfInBounds_toArray, List.set_cons_zero, List.set_cons_succ]

  refine wpAnyH_take (i := 1) (v := .int .i64 (k : Nat)) rfl (by kernel_rfl) (by kernel_rfl) (by kernel_rfl) (fun _ _ _ h => h) (Or.inl ⟨by rfl, ?_⟩) (by assumption) ?_
  · intro w5 s0
    have c0 := s0.1.c 0 _ rfl
    clear s0
    go_simp
  try simp only [Act.put, List.getElem_toArray, List.getElem_cons_zero, List.getElem_cons_succ, List.setIfInBounds_toArray, List.set_cons_zero, List.set_cons_succ]

  refine wpAnyH_take (i := 2) (v := .pointer (some ⟨w.heap.size, 1, none⟩)) rfl (by kernel_rfl) (by kernel_rfl) (by kernel_rfl) (fun _ _ _ h => h) (Or.inl ⟨by rfl, ?_⟩) (by assumption) ?_
  · intro w5 s0
    clear s0
    go_simp
  try simp only [Act.put, List.getElem_toArray, List.getElem_cons_zero, List.getElem_cons_succ, List.setIfInBounds_toArray, List.set_cons_zero, List.set_cons_succ]

  refine wpAnyH_take (i := 3) (v := .string t) rfl (by kernel_rfl) (by kernel_rfl) (by kernel_rfl) (fun _ _ _ h => h) (Or.inl ⟨by rfl, ?_⟩) (by assumption) ?_
  · intro w5 s0
    have c1 := s0.1.c 1 _ rfl
    clear s0
    go_simp
  try simp only [Act.put, List.getElem_toArray, List.getElem_cons_zero, List.getElem_cons_succ, List.setIfInBounds_toArray, List.set_cons_zero, List.set_cons_succ]

  refine wpAnyH_take (i := 4) (v := .pointer (some ⟨w.heap.size, 2, none⟩)) rfl (by kernel_rfl) (by kernel_rfl) (by kernel_rfl) (fun _ _ _ h => h) (Or.inl ⟨by rfl, ?_⟩) (by assumption) ?_
  · intro w5 s0
    clear s0
    go_simp
  try simp only [Act.put, List.getElem_toArray, List.getElem_cons_zero, List.getElem_cons_succ, List.setIfInBounds_toArray, List.set_cons_zero, List.set_cons_succ]

  refine wpAnyH_take (i := 5) (v := .agg #[.bool fp, .bool fm, .bool fs, .bool fb, .bool fz, .int .i64 sz, .int .i64 sz, .int .i32 (vb : Nat)]) rfl (by kernel_rfl) (by kernel_rfl) (by kernel_rfl) (fun _ _ _ h => h) (Or.inl ⟨by rfl, ?_⟩) (by assumption) ?_
  · intro w5 s0
    have c2 := s0.1.c 2 _ rfl
    have c3 := s0.1.c 3 _ rfl
    have c4 := s0.1.c 4 _ rfl
    have c5 := s0.1.c 5 _ rfl
    have c6 := s0.1.c 6 _ rfl
    have c7 := s0.1.c 7 _ rfl
    have c8 := s0.1.c 8 _ rfl
    have c9 := s0.1.c 9 _ rfl
    clear s0
    go_simp
  try simp only [Act.put, List.getElem_toArray, List.getElem_cons_zero, List.getElem_cons_succ, List.setIfInBounds_toArray, List.set_cons_zero, List.set_cons_succ]

  refine wpAnyH_take (i := 6) (v := .pointer (some ⟨w.heap.size, 10, none⟩)) rfl (by kernel_rfl) (by kernel_rfl) (by kernel_rfl) (fun _ _ _ h => h) (Or.inl ⟨by rfl, ?_⟩) (by assumption) ?_
  · intro w5 s0
    clear s0
    go_simp
  try simp only [Act.put, List.getElem_toArray, List.getElem_cons_zero, List.getElem_cons_succ, List.setIfInBounds_toArray, List.set_cons_zero, List.set_cons_succ]

  refine wpAnyH_take (i := 7) (v := .agg #[.int .i64 (na.k : Nat), .int .i64 na.n, .int .i64 (na.a.k : Nat), .int .i64 (na.a.n : Nat)]) rfl (by kernel_rfl) (by kernel_rfl) (by kernel_rfl) (fun _ _ _ h => h) (Or.inl ⟨by rfl, ?_⟩) (by assumption) ?_
  · intro w5 s0
    have c10 := s0.1.c 10 _ rfl
    have c11 := s0.1.c 11 _ rfl
    have c12 := s0.1.c 12 _ rfl
    have c13 := s0.1.c 13 _ rfl
    clear s0
    go_simp
  try simp only [Act.put, List.getElem_toArray, List.getElem_cons_zero, List.getElem_cons_succ, List.setIfInBounds_toArray, List.set_cons_zero, List.set_cons_succ]

  refine wpAnyH_take (i := 9) (v := .pointer (some ⟨w.heap.size, 14, none⟩)) rfl (by kernel_rfl) (by kernel_rfl) (by kernel_rfl) (fun _ _ _ h => h) (Or.inl ⟨by rfl, ?_⟩) (by assumption) ?_
  · intro w5 s0
    clear s0
    go_simp
  try simp only [Act.put, List.getElem_toArray, List.getElem_cons_zero, List.getElem_cons_succ, List.setIfInBounds_toArray, List.set_cons_zero, List.set_cons_succ]

  refine wpAnyH_take (i := 10) (v := .agg #[.int .i64 (nb.k : Nat), .int .i64 nb.n, .int .i64 (nb.a.k : Nat), .int .i64 (nb.a.n : Nat)]) rfl (by kernel_rfl) (by kernel_rfl) (by kernel_rfl) (fun _ _ _ h => h) (Or.inl ⟨by rfl, ?_⟩) (by assumption) ?_
  · intro w5 s0
    have c14 := s0.1.c 14 _ rfl
    have c15 := s0.1.c 15 _ rfl
    have c16 := s0.1.c 16 _ rfl
    have c17 := s0.1.c 17 _ rfl
    clear s0
    go_simp
  try simp only [Act.put, List.getElem_toArray, List.getElem_cons_zero, List.getElem_cons_succ, List.setIfInBounds_toArray, List.set_cons_zero, List.set_cons_succ]

  refine wpAnyH_take (i := 12) (v := .pointer (some ⟨w.heap.size, 18, none⟩)) rfl (by kernel_rfl) (by kernel_rfl) (by kernel_rfl) (fun _ _ _ h => h) (Or.inl ⟨by rfl, ?_⟩) (by assumption) ?_
  · intro w5 s0
    clear s0
    go_simp
  try simp only [Act.put, List.getElem_toArray, List.getElem_cons_zero, List.getElem_cons_succ, List.setIfInBounds_toArray, List.set_cons_zero, List.set_cons_succ]

  refine wpAnyH_take (i := 13) (v := .agg #[.int .i64 (xk : Nat), .int .i64 (xn : Nat)]) rfl (by kernel_rfl) (by kernel_rfl) (by kernel_rfl) (fun _ _ _ h => h) (Or.inl ⟨by rfl, ?_⟩) (by assumption) ?_
  · intro w5 s0
    have c18 := s0.1.c 18 _ rfl
    have c19 := s0.1.c 19 _ rfl
    clear s0
    go_simp
  try simp only [Act.put, List.getElem_toArray, List.getElem_cons_zero, List.getElem_cons_succ, List.setIfInBounds_toArray, List.set_cons_zero, List.set_cons_succ]

  refine wpAnyH_ready (rs := [8]) (by kernel_rfl) (by simp) ?_
  refine AllReadyH.cons rfl (fun K hK => ?_) AllReadyH.nil
  go_simp
  refine (kN _).mono ?_
  rintro e Z1 ⟨rfl, z1⟩
  refine hK.out _ _ (bU _ _ s0 z1) (fun s1 => ?_)
  clear hK
  try simp only [Act.put, List.getElem_toArray, List.getElem_cons_zero, List.getElem_cons_succ, List.setIfInBounds_toArray, List.set_cons_zero, List.set_cons_succ]
  refine wpAnyH_ready (rs := [11]) (by kernel_rfl) (by simp) ?_
  refine AllReadyH.cons rfl (fun K hK => ?_) AllReadyH.nil
  go_simp
  refine (kM _).mono ?_
  rintro e Z2 ⟨rfl, z2⟩
  refine hK.out _ _ (bU _ _ s1 z2) (fun s2 => ?_)
  clear hK
  try simp only [Act.put, List.getElem_toArray, List.getElem_cons_zero, List.getElem_cons_succ, List.setIfInBounds_toArray, List.set_cons_zero, List.set_cons_succ]
  refine wpAnyH_ready (rs := [14]) (by kernel_rfl) (by simp) ?_
  refine AllReadyH.cons rfl (fun K hK => ?_) AllReadyH.nil
  go_simp
  refine hK.out _ _ s2 (fun _ => ?_)
  clear hK hbt
  try simp only [Act.put, List.getElem_toArray, List.getElem_cons_zero, List.getElem_cons_succ, List.setIfInBounds_toArray, List.set_cons_zero, List.set_cons_succ]
  refine wpAnyH_ready (rs := [15]) (by kernel_rfl) (by simp) ?_
  refine AllReadyH.cons rfl (fun K hK => ?_) AllReadyH.nil
  rw [if_pos (by rfl)]
  obtain ⟨q1, ⟨us, hus, q2⟩, q3⟩ := s2
  have fA : Bx (Z2.setCells (w.heap.size + 1) 0 (pieceV k t ⟨fp, fm, fs, fb, fz⟩ sz vb na nb ⟨xk, xn⟩)) (w.heap.size + 1) (pieceV k t ⟨fp, fm, fs, fb, fz⟩ sz vb na nb ⟨xk, xn⟩) := q2.all _ (by rw [hus]; rfl)
  have f1 := q1.oth (show w.heap.size + 1 ≠ w.heap.size by omega) 0 (pieceV k t ⟨fp, fm, fs, fb, fz⟩ sz vb na nb ⟨xk, xn⟩)
  have f2 := below_sc q3 (show w.heap.size ≤ w.heap.size + 1 by omega) 0 (pieceV k t ⟨fp, fm, fs, fb, fz⟩ sz vb na nb ⟨xk, xn⟩)
  refine wp_store_mid 34 (.tmp 2) (.tmp 17) rfl (w.heap.size + 1) 0 (pieceV k t ⟨fp, fm, fs, fb, fz⟩ sz vb na nb ⟨xk, xn⟩).toArray rfl rfl (by have := q2.there; rw [hus] at this; exact this) (by exact info20d) (all_oneCell_toArray (pv_oneT _ _ _ _ _ _ _ _)) ?_
  refine hK.out _ _ ⟨f1, ⟨_, rfl, fA⟩, f2⟩ (fun _ => ?_)
  clear hK f1 q1 q2 q3 hus
  refine wpAnyH_done (by kernel_rfl) ?_ _
  generalize Z2.setCells (w.heap.size + 1) 0 (pieceV k t ⟨fp, fm, fs, fb, fz⟩ sz vb na nb ⟨xk, xn⟩) = Wf at *
  go_wp2
  exact bodyPost_ret (res20e Try.results7 rfl fA rfl) rfl ⟨rfl, f2⟩
end Go.Proofs.Ytpknjcdodnoibaa
