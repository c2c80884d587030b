/- The document's all. -/
import Derived.Test.YtlgieoabellbmaaGreatDoorVDocM
namespace Go.Proofs.YtlgieoabellbmaaGreatDoor
open Go.RowKit
set_option linter.unusedVariables false
set_option linter.unusedSimpArgs false
theorem wpl_appG {P : Value → Value → D → Prop} {ops : Array Oper} {rest : List Oper} {o : Oper} {a : Act} {Q : Exit → Act → World → Prop} (hgd : o.guard = none) (s x : Operand) (ho : o.op = .call { callee := .builtin .append, args := #[s, x], argTypes := #[24, 24] })
  {M : Nat} {W0 W : World} {v : Value} {l : List D} (h : RowE P M W0 v l) (y : D) (nv pv : Value) (hy : P nv pv y) (h1 : nv.oneCell' = true ∧ pv.oneCell' = true)
  (hs : a.eval s = v) {N : Nat} (hx : a.eval x = .slice (some ⟨N, 0, none⟩) 1 1) (hN : N = W0.heap.size) (hw : W = W0.alloc (.cells #[.int .i64 y.kind, .string y.ty, .int .u64 y.bits, .int .u64 y.imag, .string y.text, nv, pv, .int .i64 y.hook] 26)) (hl : l.length ≤ 100000) (hM : M ≤ W0.heap.size)
  (hk : ∀ v' w', (∃ ao c, v' = .slice ao (l.length + 1) c) → RowE P M w' v' (l ++ [y]) → W0.grownBy w' v.ownBlock → wpList Tryz.prog ops Q rest (a.put o.dst v') w') : wpList Tryz.prog ops Q (o :: rest) a W := by
 obtain ⟨i0, hi, hz0, hz1, hz2⟩ := info_Desc
 obtain ⟨ds, e, q1, q2⟩ := id h
 obtain ⟨n1, n2⟩ := h1
 subst hw hN
 have al : ∀ j u, (c8 (y, nv, pv))[j]? = some u → (W0.alloc (.cells (c8 (y, nv, pv)).toArray 26)).cell? ((⟨W0.heap.size, 0, none⟩ : Addr).add j) = some u := by
  intro j u hj
  rw [show ((⟨W0.heap.size, 0, none⟩ : Addr).add j) = ⟨W0.heap.size, j, none⟩ by unfold Addr.add; split <;> simp_all]
  exact (cell_of_row (W0.alloc (.cells (c8 (y, nv, pv)).toArray 26)) W0.heap.size j (c8 (y, nv, pv)).toArray 26 (0, 0) (heap_alloc_new W0 _)).trans (by simpa using hj)
 have one : ∀ u ∈ c8 (y, nv, pv), u.oneCell' = true := by
  intro u hu
  simp at hu
  rcases hu with rfl | rfl | rfl | rfl | rfl | rfl | rfl | rfl
  all_goals first | rfl | assumption
 refine wpList_plain hgd fun K hK => ?_
 obtain ⟨v', w', hr, p2, p3, -, p5⟩ := run_append_own_at (P := Tryz.prog) (W0.alloc (.cells (c8 (y, nv, pv)).toArray 26)) M 24 o.type 26 i0 _ 8 112 Tryz.underlying24 hi hz0 hz1 hz2 rfl (by decide) v l.length (ds.flatMap c8) (q1.alloc _) ⟨W0.heap.size, 0, none⟩ 1 1 (c8 (y, nv, pv)) rfl al one (by unfold maxLen; omega) (by omega) (by simp; omega)
 obtain ⟨ao, c, e2, -, -⟩ := own_sliceZ p2
 unfold Oper.wp execOp
 simp only [ho, resolve, invoke, builtin, Sem.run_bind, Sem.run_pure, Result.andThen_ok, List.map_toArray, List.map_cons, List.map_nil, hs, hx, hr]
 refine hK _ _ (hk v' w' ⟨ao, c, e2⟩ ⟨ds ++ [(y, nv, pv)], by rw [List.map_append, e]; rfl, ?_, fun t ht => ?_⟩ ((World.grownBy_alloc W0 _ _).trans p3))
 ·rw [List.length_append, List.flatMap_append]
  exact p2
 ·rcases List.mem_append.1 ht with ht | ht
  ·exact q2 t ht
  ·rw [List.mem_singleton.1 ht]; exact hy
theorem info_int : ∃ i, Tryz.prog.info? 3 = some i ∧ i.zero = some (.int .i64 0) ∧ i.size = 1 ∧ i.bytes = 8 := by
 have h : (Tryz.prog.info? 3).map (fun i => (i.zero, i.size, i.bytes)) = some (some (.int .i64 0), 1, 8) := by kernel_rfl
 obtain ⟨i, hi, hb⟩ := Option.map_eq_some_iff.1 h
 simp only [Prod.mk.injEq] at hb
 exact ⟨i, hi, hb⟩
def dl (L : List (D × Int)) : List Value := L.map fun p => Value.int .i64 p.2
theorem own_far {w w' : World} {B B' : Nat} {e e' : TypeId} {z z' n n' : Nat} {v v' : Value} {us us' : List Value} (h : w.ownsRow B e z v n us) (h' : w.ownsRow B' e' z' v' n' us') (hne : e ≠ e') (hg : w.grownBy w' v'.ownBlock) : w'.ownsRow B e z v n us := by
 refine ⟨h.1, ?_⟩
 rcases h.2 with h1 | ⟨g, cap, cur, h1, hB, hgg, k⟩
 ·exact .inl h1
 ·refine .inr ⟨g, cap, cur, h1, hB, (hg.block g (Array.getElem?_eq_some_iff.1 hgg).1 fun e2 => ?_).trans hgg, k⟩
  rcases h'.2 with ⟨q1, -⟩ | ⟨g', cap', cur', q1, -, q3, -⟩
  ·rw [q1] at e2; cases e2
  ·rw [q1] at e2
   have e3 : g = g' := Option.some.inj e2
   rw [← e3, hgg] at q3
   have := Option.some.inj q3
   simp at this
   exact hne this.2
theorem own_farE {P : Value → Value → D → Prop} {w w' : World} {B M : Nat} {e : TypeId} {z n : Nat} {v v' : Value} {us : List Value} {l : List D} (h : w.ownsRow B e z v n us) (h' : RowE P M w v' l) (hne : e ≠ 26) (hg : w.grownBy w' v'.ownBlock) : w'.ownsRow B e z v n us := by
 obtain ⟨ds, e2, h1, h2⟩ := h'
 exact own_far h h1 hne hg
theorem RowE.far {P : Value → Value → D → Prop} {M B' : Nat} {w w' : World} {v v' : Value} {l : List D} {e' : TypeId} {z' n' : Nat} {us' : List Value} (h : RowE P M w v l) (h' : w.ownsRow B' e' z' v' n' us') (hne : 26 ≠ e') (hg : w.grownBy w' v'.ownBlock) : RowE P M w' v l := by
 obtain ⟨ds, e, h1, h2⟩ := h
 exact ⟨ds, e, own_far h1 h' hne hg, h2⟩
def InvA (d : D) (L : List (D × Int)) (i : Nat) : Prop := (pre d 0).Perm (L.take i ++ (L.drop i).flatMap (fun p => pre p.1 p.2)) ∨ (L.length = 65 ∧ 64 < (pre d 0).length)
theorem pre_pos (p : D × Int) : 1 ≤ (pre p.1 p.2).length := by rw [pre_eq]; simp
theorem flat_len (l : List (D × Int)) : l.length ≤ (l.flatMap (fun p => pre p.1 p.2)).length := by
 induction l with
 | nil => exact Nat.le_refl _
 | cons p t ih => rw [List.flatMap_cons, List.length_append, List.length_cons]; have := pre_pos p; omega
theorem InvA.len {d : D} {L : List (D × Int)} {i : Nat} (h : InvA d L i) (hi : i ≤ L.length) : L.length ≤ (pre d 0).length ∨ (L.length = 65 ∧ 64 < (pre d 0).length) := by
 rcases h with h | h
 ·left
  rw [h.length_eq, List.length_append, List.length_take]
  have := flat_len (L.drop i)
  rw [List.length_drop] at this
  omega
 ·exact .inr h
theorem InvA.flat {d : D} {L : List (D × Int)} {i : Nat} {p : D × Int} (h : InvA d L i) (hp : L[i]? = some p) (hg : great p.1.kind = false) : InvA d L (i + 1) := by
 rcases h with h | h
 ·left
  obtain ⟨hi, he⟩ := List.getElem?_eq_some_iff.1 hp
  rw [List.drop_eq_getElem_cons hi, List.flatMap_cons, he, pre_eq p.1 p.2, if_neg (by rw [hg]; simp)] at h
  rw [List.take_add_one, hp]
  simpa using h
 ·exact .inr h
theorem InvA.grow {d : D} {L : List (D × Int)} {i : Nat} {p : D × Int} (h : InvA d L i) (hp : L[i]? = some p) (hg : great p.1.kind = true) : InvA d (L ++ p.1.parts.map (fun y => (y, p.2 + 1))) (i + 1) ∨ (L.length = 65 ∧ 64 < (pre d 0).length) := by
 rcases h with h | h
 ·left
  left
  obtain ⟨hi, he⟩ := List.getElem?_eq_some_iff.1 hp
  rw [List.drop_eq_getElem_cons hi, List.flatMap_cons, he, pre_eq p.1 p.2, if_pos hg] at h
  rw [List.take_append_of_le_length (by omega), List.drop_append_of_le_length (by omega), List.flatMap_append, List.take_add_one, hp]
  have e : (p.1.parts.map (fun y => (y, p.2 + 1))).flatMap (fun q => pre q.1 q.2) = preAll p.1.parts (p.2 + 1) := by
   unfold preAll
   rw [List.flatMap_map]
  rw [e]
  refine h.trans ?_
  simp only [List.append_assoc, Option.toList]
  refine List.Perm.append_left _ ?_
  simp only [List.cons_append, List.nil_append]
  exact (List.perm_append_comm).cons p
 ·exact .inr h
theorem Perm_len {d : D} {L : List (D × Int)} {i : Nat} {p : D × Int} (h : InvA d L i) (hp : L[i]? = some p) (hg : great p.1.kind = true) (k : Nat) (hk : k ≤ p.1.parts.length) (h65 : L.length + k = 65) : 64 < (pre d 0).length := by
 rcases h.grow hp hg with h2 | h2
 ·have hi := (List.getElem?_eq_some_iff.1 hp).1
  rcases h2.len (by rw [List.length_append]; omega) with h3 | h3
  ·rw [List.length_append, List.length_map] at h3
   omega
  ·exact h3.2
 ·exact h2.2
set_option maxRecDepth 1000000 in
set_option maxHeartbeats 8000000 in
theorem oall_any (n : Nat) (d : D) (nv pv : Value) (w : World) (hr : RdC (n + 1) w nv pv d) :
  Calls Tryz.prog 63 #[DV d nv pv] w fun e w' => Below w.heap.size w w' ∧ ∃ (L : List (D × Int)) (v dv : Value), e = .returned (.tuple #[v, dv]) ∧ RowE (fun nv pv x => RdC (n + 1) w nv pv x) w.heap.size w' v (L.map (·.1)) ∧ w'.ownsRow w.heap.size 3 1 dv L.length (dl L) ∧ ((L.length = 65 ∧ 64 < (pre d 0).length) ∨ ((pre d 0).Perm L ∧ L.length ≤ 64)) := by
 obtain ⟨i0, hi, hz0, hz1, hz2⟩ := info_int
 obtain ⟨na, nc, pa, pc, rfl, rfl⟩ := hr.slices
 obtain ⟨W1, hW1⟩ : ∃ W1, W1 = w.alloc (.cells #[.int .i64 d.kind, .string d.ty, .int .u64 d.bits, .int .u64 d.imag, .string d.text, .slice na d.names.length nc, .slice pa d.parts.length pc, .int .i64 d.hook] 26) := ⟨_, rfl⟩
 obtain ⟨W3, hW3⟩ : ∃ W3, W3 = (W1.alloc (.cells #[.int .i64 d.kind, .string d.ty, .int .u64 d.bits, .int .u64 d.imag, .string d.text, .slice na d.names.length nc, .slice pa d.parts.length pc, .int .i64 d.hook] 26)).alloc (.cells #[.int .i64 0] 3) := ⟨_, rfl⟩
 have hs1 : W1.heap.size = w.heap.size + 1 := by rw [hW1]; simp
 have b1 : Below w.heap.size w W1 := by rw [hW1]; exact (Below.refl _ _).alloc (Nat.le_refl _) _
 have b3 : Below w.heap.size w W3 := by rw [hW3]; exact (b1.alloc (by omega) _).alloc (by simp; omega) _
 have r3 : RowE (fun nv pv x => RdC (n + 1) w nv pv x) w.heap.size W3 (.slice (some ⟨w.heap.size + 1, 0, none⟩) 1 1) [d] := by
  refine ⟨[(d, .slice na d.names.length nc, .slice pa d.parts.length pc)], rfl, ?_, fun t ht => by rw [List.mem_singleton.1 ht]; exact hr⟩
  rw [hW3]
  have := World.ownsRow_lit (base := w.heap.size) (e := 26) (size := 8) W1 #[.int .i64 d.kind, .string d.ty, .int .u64 d.bits, .int .u64 d.imag, .string d.text, .slice na d.names.length nc, .slice pa d.parts.length pc, .int .i64 d.hook] 1 (by omega) (by decide) rfl
  rw [hs1] at this
  exact this.alloc _
 have o3 : W3.ownsRow w.heap.size 3 1 (.slice (some ⟨w.heap.size + 2, 0, none⟩) 1 1) 1 (dl [(d, 0)]) := by
  rw [hW3]
  have := World.ownsRow_lit (base := w.heap.size) (e := 3) (size := 1) (W1.alloc (.cells #[.int .i64 d.kind, .string d.ty, .int .u64 d.bits, .int .u64 d.imag, .string d.text, .slice na d.names.length nc, .slice pa d.parts.length pc, .int .i64 d.hook] 26)) #[.int .i64 0] 1 (by simp; omega) (by decide) rfl
  have e : (W1.alloc (.cells #[.int .i64 d.kind, .string d.ty, .int .u64 d.bits, .int .u64 d.imag, .string d.text, .slice na d.names.length nc, .slice pa d.parts.length pc, .int .i64 d.hook] 26)).heap.size = w.heap.size + 2 := by simp; omega
  rw [e] at this
  exact this
 have hBw : w.heap.size ≤ w.heap.size := Nat.le_refl _
 rw [hW1] at hW3
 clear hs1 b1 hW1
 go_enter Tryz.func63, Tryz.ntmps63
 go_upto_region 2 with fail
 rw [← hW3]
 clear hW3
 have w3B : w.heap.size ≤ W3.heap.size := Nat.le_trans hBw b3.size
 go_wp2_with fail
 go_loopg [4, 5, 6, 8] 66 (fun g s4 s5 s6 _ wr => ∃ (i : Nat) (L : List (D × Int)), s6 = .int .i64 (i : Nat) ∧ i + g = 66 ∧ i ≤ L.length ∧ L.length ≤ 65 ∧ RowE (fun nv pv x => RdC (n + 1) w nv pv x) w.heap.size wr s4 (L.map (·.1)) ∧ wr.ownsRow w.heap.size 3 1 s5 L.length (dl L) ∧ Below w.heap.size w wr ∧ w.heap.size ≤ wr.heap.size ∧ Hid (InvA d L i) ∧ Hid (∀ (q : Nat) (p : D × Int), L[q]? = some p → 0 ≤ p.2 ∧ p.2 ≤ q))
 case atStart =>
  exact ⟨0, [(d, 0)], rfl, by omega, Nat.zero_le _, by simp, r3, o3, b3, w3B, .inl (by simp), fun q p hq => by
   match q, hq with
   | 0, hq => simp at hq; subst hq; exact ⟨Int.le_refl _, Int.le_refl _⟩⟩
 case round =>
  obtain ⟨i, L, rfl, hig, hiL, hL65, hrow, hown, hbl, hBr, HI, HD⟩ := hrel
  obtain ⟨ra, rc, e4, -, -⟩ := hrow.slice
  rw [List.length_map] at e4
  subst e4
  obtain ⟨oa, oc, rfl, -, -⟩ := own_sliceZ hown
  have hLI : (L.length : Int) ≤ 65 := by omega
  clear r3 o3 b3 w3B
  by_cases hlt : i < L.length
  ·have hltI : (i : Int) < L.length := by omega
   by_cases h64 : L.length ≤ 64
   ·have h64I : (L.length : Int) ≤ 64 := by omega
    obtain ⟨p, hp⟩ : ∃ p, L[i]? = some p := ⟨_, List.getElem?_eq_getElem hlt⟩
    obtain ⟨x, k⟩ := p
    have hx : (L.map (·.1))[i]? = some x := by rw [List.getElem?_map, hp]; rfl
    obtain ⟨ra', rc', er, -, -, hrd⟩ := hrow.reads
    rw [List.length_map] at er
    obtain ⟨rfl, -, rfl⟩ := Value.slice.inj er
    obtain ⟨g, nvx, pvx, rfl, hBg, hgl, ax, hrx⟩ := hrd i x hx
    obtain ⟨nax, ncx, pax, pcx, rfl, rfl⟩ := hrx.slices
    have hgr := fun V => ogreat_any x.kind V
    obtain ⟨a0, a1, a2, a3, a4, a5, a6, a7⟩ := ax
    have Hp : Hid (L[i]? = some (x, k)) := hp
    clear er hrd hx hp
    cases hgt : great x.kind with
    | false =>
      rw [hgt] at hgr
      have HI2 : Hid (InvA d L (i + 1)) := HI.out.flat Hp.out hgt
      clear hgt HI
      go_wp2_with (go_at_call 68; refine (hgr _).mono ?_; rintro e w1 ⟨rfl, hw1⟩; subst w1)
      go_roundg (gk - 1)
      case measure => omega
      case rel => exact ⟨i + 1, L, by go_num, by omega, by omega, hL65, hrow, hown, hbl, hBr, HI2, HD⟩
    | true =>
      rw [hgt] at hgr
      obtain ⟨-, -, pa', pc', ep, hpl, hpm, hcell⟩ := hrx
      obtain ⟨rfl, -, rfl⟩ := Value.slice.inj ep
      have hkb := HD.out i (x, k) Hp.out
      dsimp only at hkb
      have hk65 : k ≤ 65 := by omega
      have hk0 : 0 ≤ k := hkb.1
      have hplI : (x.parts.length : Int) ≤ 9223372036854775807 := by unfold maxLen at hpm; omega
      have HG : Hid (great x.kind = true) := hgt
      obtain ⟨G, hG⟩ : ∃ G, G = gk := ⟨_, rfl⟩
      have HGk : Hid (G = gk) := hG
      rw [← hG] at hig
      obtain ⟨W0, hW0⟩ : ∃ W0, W0 = wr := ⟨_, rfl⟩
      subst hW0
      clear hG ep hgt hkb
      go_wp2_with (go_at_call 68; refine (hgr _).mono ?_; rintro e w1 ⟨rfl, hw1⟩; subst w1)
      go_loopg [4, 5, 8, 36] x.parts.length (fun g s4 s5 _ s36 wx => ∃ (j : Nat) (L' : List (D × Int)), s36 = .int .i64 (j : Nat) ∧ j + g = x.parts.length ∧ L'.length ≤ 65 ∧ L.length ≤ L'.length ∧ RowE (fun nv pv x => RdC (n + 1) w nv pv x) w.heap.size wx s4 (L'.map (·.1)) ∧ wx.ownsRow w.heap.size 3 1 s5 L'.length (dl L') ∧ Below w.heap.size w wx ∧ w.heap.size ≤ wx.heap.size ∧ Hid (L'[i]? = some (x, k)) ∧ Hid (L' = L ++ (x.parts.take j).map (fun y => (y, k + 1)) ∨ (L'.length = 65 ∧ 64 < (pre d 0).length)) ∧ Hid (∀ (q : Nat) (p : D × Int), L'[q]? = some p → 0 ≤ p.2 ∧ p.2 ≤ q))
      case atStart => exact ⟨0, L, rfl, by omega, hL65, Nat.le_refl _, hrow, hown, hbl, hBr, Hp, .inl (by simp), HD⟩
      case round =>
       obtain ⟨j, L', rfl, hjg, hL65', hLL, hrow', hown', hbl', hBr', HP', HL', HD'⟩ := hrel
       obtain ⟨ra', rc', e4, -, -⟩ := hrow'.slice
       rw [List.length_map] at e4
       subst e4
       obtain ⟨oa', oc', rfl, -, -⟩ := own_sliceZ hown'
       have hLI' : (L'.length : Int) ≤ 65 := by omega
       by_cases hltj : j < x.parts.length
       ·have hltjI : (j : Int) < x.parts.length := by omega
        obtain ⟨y, hy⟩ : ∃ y, x.parts[j]? = some y := ⟨_, List.getElem?_eq_getElem hltj⟩
        obtain ⟨b, off, nvy, pvy, rfl, ay, hry⟩ := hcell j y hy
        obtain ⟨nay, ncy, pay, pcy, rfl, rfl⟩ := hry.slices
        have hbw : b < w.heap.size := lt_of_cell ay.1
        have hcU : ∀ o v, w.cell? ⟨b, o, none⟩ = some v → wr.cell? ⟨b, o, none⟩ = some v := fun o v h => (hbl'.cell (p := ⟨b, o, none⟩) (by dsimp only; omega)).trans h
        obtain ⟨q0, q1, q2, q3, q4, q5, q6, q7⟩ := ay
        have y0 := hcU _ _ q0
        have y1 := hcU _ _ q1
        have y2 := hcU _ _ q2
        have y3 := hcU _ _ q3
        have y4 := hcU _ _ q4
        have y5 := hcU _ _ q5
        have y6 := hcU _ _ q6
        have y7 := hcU _ _ q7
        have hry1 : RdC (n + 1) w (.slice nay y.names.length ncy) (.slice pay y.parts.length pcy) y := hry.more (by omega)
        have hlw : ((L'.map (·.1)).length : Nat) ≤ 100000 := by rw [List.length_map]; omega
        by_cases h64' : L'.length ≤ 64
        ·have h64I' : (L'.length : Int) ≤ 64 := by omega
         have hdk : (dl L')[i]? = some (.int .i64 k) := by unfold dl; rw [List.getElem?_map, HP'.out]; rfl
         obtain ⟨gd, hgd⟩ : ∃ gd, oa' = some ⟨gd, 0, none⟩ := by
          rcases hown'.2 with ⟨q1, q2⟩ | ⟨g2, cap, cur, q1, -⟩
          ·omega
          ·exact ⟨g2, (Value.slice.inj q1).1⟩
         subst hgd
         have hil' : i < L'.length := by omega
         have hiLI' : (i : Int) < L'.length := by omega
         have cdk : wr.cell? ⟨gd, i, none⟩ = some (.int .i64 k) := (hown'.cellAt i (by omega)).trans hdk
         have rowB := hrow'.up ((Below.refl wr.heap.size wr).alloc (Nat.le_refl _) (.cells #[.int .i64 y.kind, .string y.ty, .int .u64 y.bits, .int .u64 y.imag, .string y.text, .slice nay y.names.length ncy, .slice pay y.parts.length pcy, .int .i64 y.hook] 26))
         have ownB := own_upZ hown' ((Below.refl wr.heap.size wr).alloc (Nat.le_refl _) (.cells #[.int .i64 y.kind, .string y.ty, .int .u64 y.bits, .int .u64 y.imag, .string y.text, .slice nay y.names.length ncy, .slice pay y.parts.length pcy, .int .i64 y.hook] 26))
         have blB := hbl'.alloc hBr' (.cells #[.int .i64 y.kind, .string y.ty, .int .u64 y.bits, .int .u64 y.imag, .string y.text, .slice nay y.names.length ncy, .slice pay y.parts.length pcy, .int .i64 y.hook] 26)
         have HL2 : Hid (L' ++ [(y, k + 1)] = L ++ (x.parts.take (j + 1)).map (fun y => (y, k + 1)) ∨ ((L' ++ [(y, k + 1)]).length = 65 ∧ 64 < (pre d 0).length)) := by
          rcases HL'.out with h | h
          ·left
           rw [h, List.take_add_one, hy, List.map_append]
           simp
          ·omega
         have HD2 : Hid (∀ (q : Nat) (p : D × Int), (L' ++ [(y, k + 1)])[q]? = some p → 0 ≤ p.2 ∧ p.2 ≤ q) := by
          intro q p hq
          by_cases hq2 : q < L'.length
          ·rw [List.getElem?_append_left hq2] at hq
           exact HD'.out q p hq
          ·have hql := (List.getElem?_eq_some_iff.1 hq).1
           simp at hql
           obtain rfl : q = L'.length := by omega
           rw [List.getElem?_append_right (Nat.le_refl _)] at hq
           simp at hq
           subst hq
           have := HD'.out i (x, k) HP'.out
           dsimp only at this ⊢
           constructor <;> omega
         have HP2 : Hid ((L' ++ [(y, k + 1)])[i]? = some (x, k)) := by show _ = _; rw [List.getElem?_append_left hil']; exact HP'.out
         clear hy hry q0 q1 q2 q3 q4 q5 q6 q7 HL' HD' hrow' hown' hdk hcU hcell
         go_upto_region 11 with (at_builtin; refine wpl_appG rfl _ _ rfl rowB y (.slice nay y.names.length ncy) (.slice pay y.parts.length pcy) hry1 ⟨rfl, rfl⟩ rfl rfl (by simp) rfl hlw (by simp; omega) ?_; rintro v7 w7 ⟨ao7, c7, rfl⟩ R7 g7)
         rw [List.length_map] at R7
         have e7 : L'.map (·.1) ++ [y] = (L' ++ [(y, k + 1)]).map (·.1) := by simp
         rw [e7] at R7
         have own7 := own_farE ownB rowB (by decide) g7
         have bl7 : Below w.heap.size w w7 := blB.grown g7 (by simp; omega) (fun kk hkk => (rowB.lt kk hkk).1)
         have hB7 : w.heap.size ≤ w7.heap.size := Nat.le_trans (by simp; omega) g7.size
         have cd7 : w7.cell? ⟨gd, i, none⟩ = some (.int .i64 k) := (own7.cellAt i (by omega)).trans (by unfold dl; rw [List.getElem?_map, HP'.out]; rfl)
         have hwk : IntKind.i64.wrap (k + 1) = k + 1 := wrapS _ (by omega) (by omega)
         clear e7 ownB rowB blB g7 y0 y1 y2 y3 y4 y5 y6 y7 cdk
         try simp only [List.length_map]
         go_wp2_with (at_builtin; refine wpList_append_own_at _ rfl _ _ 122 rfl w.heap.size 3 i0 (.int .i64 0) 1 8 Tryz.underlying122 hi hz0 hz1 hz2 rfl (by decide) _ _ _ rfl (own7.alloc _) ⟨w7.heap.size, 0, none⟩ 1 1 [.int .i64 (k + 1)] rfl rfl ?c1 ?c2 ?c3 ?c4 ?c5 ?_)
         case c1 => exact cell_one_new w7 _ _
         case c2 => intro u hu; simp at hu; subst hu; rfl
         case c3 => unfold maxLen; omega
         case c4 => omega
         case c5 => simp; omega
         intro v8 w8 o8 g8 _ _
         have R8 := (R7.up ((Below.refl w7.heap.size w7).alloc (Nat.le_refl _) (.cells #[.int .i64 (k + 1)] 3))).far (own7.alloc (.cells #[.int .i64 (k + 1)] 3)) (by decide) g8
         have bl8 : Below w.heap.size w w8 := (bl7.alloc hB7 _).grown g8 (by simp; omega) (fun kk hkk => (own7.lt kk hkk).1)
         have hB8 : w.heap.size ≤ w8.heap.size := Nat.le_trans (by simp; omega) g8.size
         have e8 : dl L' ++ [.int .i64 (k + 1)] = dl (L' ++ [(y, k + 1)]) := by simp [dl]
         have el8 : L'.length + 1 = (L' ++ [(y, k + 1)]).length := by simp
         rw [e8, el8] at o8
         clear own7 R7 g8 e8 bl7
         go_wp2
         go_roundg (gk - 1)
         case measure => omega
         case rel => exact ⟨j + 1, L' ++ [(y, k + 1)], by go_num, by omega, by simp; omega, by simp; omega, R8, o8, bl8, hB8, HP2, HL2, HD2⟩
        ·have h64I' : ¬ (L'.length : Int) ≤ 64 := by omega
         have HL2 : Hid (L' = L ++ (x.parts.take (j + 1)).map (fun y => (y, k + 1)) ∨ (L'.length = 65 ∧ 64 < (pre d 0).length)) := by
          right
          refine ⟨by omega, ?_⟩
          rcases HL'.out with h | h
          ·have hlen : L'.length = L.length + min j x.parts.length := by
            have := congrArg List.length h
            simpa using this
           exact Perm_len HI.out Hp.out HG.out j (show j ≤ x.parts.length by omega) (by omega)
          ·exact h.2
         have rowB := hrow'.up ((Below.refl wr.heap.size wr).alloc (Nat.le_refl _) (.cells #[.int .i64 y.kind, .string y.ty, .int .u64 y.bits, .int .u64 y.imag, .string y.text, .slice nay y.names.length ncy, .slice pay y.parts.length pcy, .int .i64 y.hook] 26))
         have ownB := own_upZ hown' ((Below.refl wr.heap.size wr).alloc (Nat.le_refl _) (.cells #[.int .i64 y.kind, .string y.ty, .int .u64 y.bits, .int .u64 y.imag, .string y.text, .slice nay y.names.length ncy, .slice pay y.parts.length pcy, .int .i64 y.hook] 26))
         have blB := hbl'.alloc hBr' (.cells #[.int .i64 y.kind, .string y.ty, .int .u64 y.bits, .int .u64 y.imag, .string y.text, .slice nay y.names.length ncy, .slice pay y.parts.length pcy, .int .i64 y.hook] 26)
         clear hy hry q0 q1 q2 q3 q4 q5 q6 q7 HL' hrow' hown' hcU hcell
         go_wp2
         go_roundg (gk - 1)
         case measure => omega
         case rel => exact ⟨j + 1, L', by go_num, by omega, hL65', hLL, rowB, ownB, blB, by simp; omega, HP', HL2, HD'⟩
       ·have hltjI : ¬ (j : Int) < x.parts.length := by omega
        have hje : j = x.parts.length := by omega
        have HI2 : Hid (InvA d L' (i + 1)) := by
         rcases HL'.out with h | h
         ·rw [hje, List.take_length] at h
          rcases HI.out.grow Hp.out HG.out with q | q
          ·rw [h]; exact q
          ·exact absurd q.1 (by omega)
         ·exact .inr h
        have hrow2 := hrow'
        clear HL' HI hrow' hcell
        go_wp2
        go_roundg (G - 1)
        case measure => have := HGk.out; omega
        case rel => exact ⟨i + 1, L', by go_num, by omega, by omega, hL65', hrow2, hown', hbl', hBr', HI2, HD'⟩
   ·have h64I : ¬ (L.length : Int) ≤ 64 := by omega
    have HF : Hid (L.length = 65 ∧ 64 < (pre d 0).length) := by
     refine ⟨by omega, ?_⟩
     rcases HI.out.len hiL with h | h
     ·omega
     ·exact h.2
    have hrow2 := hrow
    clear HI HD hrow
    go_wp2
    go_ret2
    exact ⟨hbl, L, .slice ra L.length rc, .slice oa L.length oc, rfl, hrow2, hown, .inl HF.out⟩
  ·have hltI : ¬ (i : Int) < L.length := by omega
   have hie : i = L.length := by omega
   have HF : Hid ((L.length = 65 ∧ 64 < (pre d 0).length) ∨ ((pre d 0).Perm L ∧ L.length ≤ 64)) := by
    by_cases h64 : L.length ≤ 64
    ·right
     rcases HI.out with h | h
     ·rw [hie, List.take_length, List.drop_length, List.flatMap_nil, List.append_nil] at h
      exact ⟨h, h64⟩
     ·omega
    ·left
     refine ⟨by omega, ?_⟩
     rcases HI.out.len hiL with h | h
     ·omega
     ·exact h.2
   have hrow2 := hrow
   clear HI HD hrow
   go_wp2
   go_ret2
   exact ⟨hbl, L, .slice ra L.length rc, .slice oa L.length oc, rfl, hrow2, hown, HF.out⟩
end Go.Proofs.YtlgieoabellbmaaGreatDoor
