/- entriesOf: a map's entries by rising keys, or a key that is there twice. -/
import Derived.Test.YtlgieoabellbmaaGreatDoorPt9
import Derived.Test.YtlgieoabellbmaaGreatDoorPt10
import Derived.Deep.RegionHeld
import Derived.Laws.OwnMore
namespace Go.Proofs.YtlgieoabellbmaaGreatDoor
open Go.RowKit
set_option linter.unusedVariables false
set_option linter.unusedSimpArgs false
theorem wrapS (x : Int) (h0 : -9223372036854775808 ≤ x) (h1 : x ≤ 9223372036854775807) : IntKind.i64.wrap x = x := by
 rw [IntKind.wrap_i64]
 omega
def d00 : D := ⟨0, ⟨#[]⟩, 0, 0, ⟨#[]⟩, [], [], 0⟩
def ent0 : Ent := ⟨(d00, d00), 101, .agg #[.int .i64 0, .string ⟨#[]⟩, .int .i64 0, .bool false], 0, undef, _, rankofD_truth 0 0 ⟨#[]⟩ false⟩
theorem own_sliceZ {w : World} {B : Nat} {e : TypeId} {z : Nat} {v : Value} {n : Nat} {us : List Value} (h : w.ownsRow B e z v n us) : ∃ ao c, v = .slice ao n c ∧ n ≤ c ∧ c ≤ maxLen := by
 rcases h.2 with ⟨h1, rfl⟩ | ⟨g, cap, cur, h1, hB, hg, k1, k2, -⟩
 ·exact ⟨none, 0, h1, Nat.le_refl _, Nat.zero_le _⟩
 ·exact ⟨_, cap, h1, k1, k2⟩
theorem own_upZ {w w' : World} {B : Nat} {e : TypeId} {z : Nat} {v : Value} {n : Nat} {us : List Value} (h : w.ownsRow B e z v n us) (b : Below w.heap.size w w') : w'.ownsRow B e z v n us := by
 refine ⟨h.1, ?_⟩
 rcases h.2 with h1 | ⟨g, cap, cur, h1, hB, hg, k⟩
 ·exact .inl h1
 ·exact .inr ⟨g, cap, cur, h1, hB, (b.block g (Array.getElem?_eq_some_iff.1 hg).1).trans hg, k⟩
theorem flat_at : ∀ (es : List Ent) (i : Nat) (e : Ent), es[i]? = some e → (es.flatMap encE)[i * 2]? = some (.iface e.kt e.kx) ∧ (es.flatMap encE)[i * 2 + 1]? = some (.iface e.vt e.vx)
 | [], i, e, h => by simp at h
 | x :: t, 0, e, h => by
   simp at h
   subst h
   exact ⟨rfl, rfl⟩
 | x :: t, i + 1, e, h => by
   have := flat_at t i e (by simpa using h)
   rw [List.flatMap_cons, show (i + 1) * 2 = i * 2 + 2 by omega]
   exact this
theorem bang_of {es : List Ent} [Inhabited Ent] {i : Nat} {e : Ent} (h : es[i]? = some e) : es.toArray[i]! = e := by
 obtain ⟨h1, h2⟩ := List.getElem?_eq_some_iff.1 h
 rw [getElem!_pos es.toArray i (by simpa using h1)]
 simpa using h2
theorem holds_of [Inhabited Ent] {w : World} {B g cap : Nat} {es : List Ent} (h : w.ownsRow B 93 2 (.slice (some ⟨g, 0, none⟩) es.length cap) es.length (es.flatMap encE)) : Sort.HoldsK encE 2 w g 0 es.toArray := by
 intro j hj
 rw [Sort.size_flatK] at hj
 have hj' : j < es.length * 2 := by simpa using hj
 rw [Nat.zero_add, h.cellAt j hj', Sort.get_flatK _ _ _ _ hj]
 refine ⟨?_, h.frozenAt j⟩
 obtain ⟨e, he⟩ : ∃ e, es[j / 2]? = some e := ⟨_, List.getElem?_eq_getElem (by omega)⟩
 obtain ⟨f1, f2⟩ := flat_at es (j / 2) e he
 rw [bang_of he]
 rcases Nat.mod_two_eq_zero_or_one j with hm | hm
 ·rw [hm]
  rw [show j / 2 * 2 = j by omega] at f1
  rw [f1]; rfl
 ·rw [hm]
  rw [show j / 2 * 2 + 1 = j by omega] at f2
  rw [f2]; rfl
theorem sw_below {N : Nat} {w0 w : World} {blk off m : Nat} {d : Array Ent} {os : Array Obj} [Inhabited Ent] (h : Below N w0 w) (hb : N ≤ blk) (hlt : blk < w.heap.size) : Below N w0 (sortWorldK encE 2 w blk off m d os) := by
 refine ⟨h.os, h.tape, h.output, ?_, fun k hk => ?_⟩
 ·unfold sortWorldK Sort.putRowK
  rw [Sort.size_grow, Sort.size_putRow]
  have := h.size
  show w0.heap.size ≤ w.heap.size + os.size
  omega
 ·have hkw : k < w.heap.size := by omega
  unfold sortWorldK Sort.putRowK
  rw [Sort.heap_grow_old _ _ (by rw [Sort.size_putRow]; exact hkw)]
  refine Eq.trans ?_ (h.block k hk)
  unfold Sort.putRow Sort.mapBlock Sort.ahead
  dsimp only
  rw [Array.getElem?_modify, if_neg (by omega)]
theorem sort_any (es : List Ent) (ao : Option Addr) (c B : Nat) (w : World) (ho : w.ownsRow B 93 2 (.slice ao es.length c) es.length (es.flatMap encE)) (hl : es.length ≤ 100000) :
  Calls Tryz.prog 102 #[.slice ao es.length c, .func (.func 103) #[] #[]] w fun e w' => e = .returned (.tuple #[]) ∧ ∃ es' : List Ent, es'.Perm es ∧ es'.Pairwise (fun a b => cmpE a b ≤ 0) ∧
   (∀ (i : Nat) (x : Ent), es'[i]? = some x → ∃ g, ao = some ⟨g, 0, none⟩ ∧ B ≤ g ∧ w'.cell? ⟨g, i * 2, none⟩ = some (.iface x.kt x.kx) ∧ w'.cell? ⟨g, i * 2 + 1, none⟩ = some (.iface x.vt x.vx)) ∧ ∀ w0, Below B w0 w → Below B w0 w' := by
 haveI : Inhabited Ent := ⟨ent0⟩
 rcases ho.2 with ⟨h1, h0⟩ | ⟨g, cap, cur, h1, hB, hg, -⟩
 ·obtain ⟨rfl, -, rfl⟩ := Value.slice.inj h1
  obtain rfl : es = [] := List.eq_nil_of_length_eq_zero h0
  refine (sort_nil w).mono ?_
  rintro e w' ⟨rfl, rfl⟩
  exact ⟨rfl, [], List.Perm.refl _, List.Pairwise.nil, (fun i x hx => by simp at hx), fun _ h => h⟩
 ·obtain ⟨rfl, -, hcc⟩ := Value.slice.inj h1
  subst hcc
  have hH := holds_of ho
  have hlt : g < w.heap.size := (Array.getElem?_eq_some_iff.1 hg).1
  have := sortE g 0 c es.toArray w hH hlt (by simp; omega)
  rw [show es.toArray.size = es.length by simp] at this
  refine this.mono ?_
  rintro e w' ⟨rfl, d', n, os, hp, hs, rfl⟩
  obtain ⟨p1, -, p3⟩ := hp
  have hsz : d'.size = es.length := by simpa using p1
  have hperm : d'.toList.Perm es := by
   have e1 : (d'.extract 0 es.length).toList = d'.toList := by rw [← hsz]; simp
   have e2 : (es.toArray.extract 0 es.length).toList = es := by simp
   rw [e1, e2] at p3
   exact p3
  refine ⟨rfl, d'.toList, hperm, ?_, ?_, fun w0 h => sw_below h hB hlt⟩
  ·rw [List.pairwise_iff_getElem]
   intro i j hi hj hij
   have hj' : j < d'.size := by simpa using hj
   have h := hs i j (Nat.zero_le _) hij (by omega)
   rw [getElem!_pos d' j hj', getElem!_pos d' i (by omega)] at h
   unfold ltOf at h
   have h2 := of_decide_eq_false h
   have h3 := TO.rk.anti (d'[i]'(by omega)).rk (d'[j]'hj').rk
   simp only [Array.getElem_toList]
   unfold cmpE at *
   omega
  ·intro i x hx
   obtain ⟨hi, hxe⟩ := List.getElem?_eq_some_iff.1 hx
   have hi' : i < d'.size := by simpa using hi
   have hK := holdsK_sortWorldK_c encE 2 w g 0 es.toArray d' n os hH hlt p1
   have hb : d'[i]! = x := by rw [getElem!_pos d' i hi']; simpa using hxe
   have c0 := (hK.cell hi' (show 0 < 2 by omega)).1
   have c1 := (hK.cell hi' (show 1 < 2 by omega)).1
   rw [hb] at c0 c1
   simp only [Nat.zero_add, Nat.add_zero] at c0 c1
   exact ⟨g, rfl, hB, c0, c1⟩
theorem info_entry : ∃ i, Tryz.prog.info? 93 = some i ∧ i.zero = some (.agg #[.nilIface, .nilIface]) ∧ i.size = 2 ∧ i.bytes = 32 := by
 have h : (Tryz.prog.info? 93).map (fun i => (i.zero, i.size, i.bytes)) = some (some (.agg #[.nilIface, .nilIface]), 2, 32) := by kernel_rfl
 obtain ⟨i, hi, hb⟩ := Option.map_eq_some_iff.1 h
 simp only [Prod.mk.injEq] at hb
 exact ⟨i, hi, hb⟩
def GoodE (R : Value → D → Prop) (e : Ent) : Prop := e.rk = rkF e.p.1 ∧ R (.iface e.kt e.kx) e.p.1 ∧ R (.iface e.vt e.vx) e.p.2
theorem good_cmp {R : Value → D → Prop} {e f : Ent} (he : GoodE R e) (hf : GoodE R f) : cmpE e f = cmpP e.p f.p := by
 unfold cmpE cmpP
 rw [he.1, hf.1]
theorem vl_flat {sr : List D → List (D × D)} {n : Nat} {S : Nat → Prop} {W : World} {v : Value} {d : D} (h : VlC sr n S W v d) (hk : d.kind ≤ 17) : v = mdV d := by
 cases n with
 | zero => exact h.elim
 | succ n => unfold VlC at h; rw [if_pos hk] at h; exact h
theorem key_le {k : Int} (h : keyB k = true) : k ≤ 17 := by simp [keyB] at h; omega
set_option maxRecDepth 1000000 in
set_option maxHeartbeats 4000000 in
theorem entriesof_any (sr : List D → List (D × D)) (n : Nat) (S : Nat → Prop) (l : List D) (fa : Option Addr) (fc : Nat) (w : World) (hl : l.length ≤ 1000) (hev : l.length % 2 = 0) (hfc : l.length ≤ fc) (hkey : ∀ (i : Nat) (a : D), l[2 * i]? = some a → keyB a.kind = true) (hv : Vals (VlC sr n S w) S w fa l) :
  Calls Tryz.prog 62 #[.slice fa l.length fc] w fun e W' => Below w.heap.size w W' ∧
   ((dupM l = false ∧ ∃ ga gc, e = .returned (.slice ga (srt l).length gc) ∧ (srt l).length ≤ gc ∧ gc ≤ maxLen ∧ Ents (VlC sr n S W') (fun b => w.heap.size ≤ b) W' ga (srt l)) ∨ (dupM l = true ∧ e = .panicked (PE 5))) := by
 obtain ⟨i0, hi, hz0, hz1, hz2⟩ := info_entry
 obtain ⟨m, hm⟩ : ∃ m, l.length = 2 * m := ⟨l.length / 2, by omega⟩
 have hpl : (prs2 l).length = m := by rw [prs2_len]; omega
 have hsl : (srt l).length = m := by rw [srt_len]; omega
 rw [hsl]
 have hlI : (l.length : Int) = 2 * (m : Int) := by omega
 have HL : Hid (l.length = 2 * m) := hm
 obtain ⟨L, hL⟩ : ∃ L, l.length = L := ⟨_, rfl⟩
 have hm500 : m ≤ 500 := by omega
 rw [hL] at hm hlI ⊢
 have hLm : (L : Int) ≤ 2 * (m : Int) ∧ 2 * (m : Int) ≤ L := by omega
 obtain ⟨hLm1, hLm2⟩ := hLm
 have hLc : L ≤ fc := by omega
 clear hm hlI hL
 go_enter Tryz.func62, Tryz.ntmps62
 go_wp2_with fail
 go_loopg [3, 4] m (fun g sv iv wr => ∃ (j i : Nat) (es : List Ent), iv = .int .i64 (i : Nat) ∧ i ≤ 2 * j ∧ 2 * j ≤ i ∧ j + g = m ∧ es.length ≤ j ∧ j ≤ es.length ∧ Hid (es.map (·.p) = (prs2 l).take j) ∧ wr.ownsRow w.heap.size 93 2 sv es.length (es.flatMap encE) ∧ Below w.heap.size w wr ∧ Hid (∀ e ∈ es, GoodE (VlC sr n S w) e))
 case atStart => exact ⟨0, 0, [], rfl, Nat.le_refl _, Nat.le_refl _, by omega, Nat.le_refl _, Nat.le_refl _, by (show _ = _); simp, World.ownsRow_nil _ _ _ _, Below.refl _ _, fun e he => by cases he⟩
 case round =>
  obtain ⟨j, i, es, rfl, hi1, hi2, hjg, hel, hel', HP, hown, hbl, HG⟩ := hrel
  obtain ⟨ao, ca, rfl, hca, hcm⟩ := own_sliceZ hown
  have hiI1 : (i : Int) ≤ 2 * (j : Int) := by omega
  have hiI2 : 2 * (j : Int) ≤ i := by omega
  by_cases hlt : j < m
  ·have hltI : (i : Int) < L := by omega
   have hltI2 : (i : Int) + 1 < L := by omega
   have hie : i = 2 * j := by omega
   have hll := HL.out
   obtain ⟨a, ha⟩ : ∃ a, l[i]? = some a := ⟨_, List.getElem?_eq_getElem (by omega)⟩
   obtain ⟨b, hb⟩ : ∃ b, l[i + 1]? = some b := ⟨_, List.getElem?_eq_getElem (by omega)⟩
   obtain ⟨B, off, t, u, rfl, hSB, ca0, hR0⟩ := hv i a ha
   obtain ⟨B', off', t', u', he, hSB', ca1, hR1⟩ := hv (i + 1) b hb
   obtain ⟨rfl, rfl⟩ : B = B' ∧ off = off' := by
    have := Option.some.inj he
    simp at this
    exact this
   have hk := hkey j a (by rw [← hie]; exact ha)
   have hmd := vl_flat hR0 (key_le hk)
   have hok : RkD (.iface t u) (rkF a) := by rw [hmd]; exact rkF_ok a hk
   obtain ⟨en, hen⟩ : ∃ en : Ent, en = ⟨(a, b), t, u, t', u', rkF a, hok⟩ := ⟨_, rfl⟩
   have hg : GoodE (VlC sr n S w) en := by rw [hen]; exact ⟨rfl, hR0, hR1⟩
   have HG2 : Hid (∀ e ∈ es ++ [en], GoodE (VlC sr n S w) e) := by
    intro e he
    rcases List.mem_append.1 he with h | h
    ·exact HG.out e h
    ·rw [List.mem_singleton.1 h]; exact hg
   have hpp := prs2_of l j a b (by rw [← hie]; exact ha) (by rw [← hie]; exact hb)
   have HP2 : Hid ((es ++ [en]).map (·.p) = (prs2 l).take (j + 1)) := by
    show _ = _
    rw [List.map_append, HP.out, List.take_add_one, hpp, hen]
    rfl
   have hflat : (es ++ [en]).flatMap encE = es.flatMap encE ++ [.iface t u, .iface t' u'] := by
    rw [List.flatMap_append, hen]; rfl
   have hBw : B < w.heap.size := lt_of_cell ca0
   have q0 : wr.cell? ⟨B, off + i, none⟩ = some (.iface t u) := (hbl.cell (p := ⟨B, off + i, none⟩) hBw).trans ca0
   have q1 : wr.cell? ⟨B, off + (i + 1), none⟩ = some (.iface t' u') := (hbl.cell (p := ⟨B, off + (i + 1), none⟩) hBw).trans ca1
   have hiI : (i : Int) ≤ 1000 := by omega
   have hw1 : IntKind.i64.wrap ((i : Int) + 1) = (i : Int) + 1 := wrapS _ (by omega) (by omega)
   have hr1 : i + 2 ≤ 2 * (j + 1) := by omega
   have hr2 : 2 * (j + 1) ≤ i + 2 := by omega
   have hesl : es.length ≤ 1000 := by omega
   have hsz := hbl.size
   clear he hmd hen hg hpp HP HG hk hR0 hR1 ha hb hie hll hkey hv hi1 hi2 hiI1 hiI2
   go_upto_region 5 with fail
   refine wp_region_held_drew (S := fun w' => w'.cell? ⟨B, off + i, none⟩ = some (.iface t u) ∧ w'.cell? ⟨B, off + (i + 1), none⟩ = some (.iface t' u')) (by kernel_rfl) ⟨q0, q1⟩ ?_
   intro hS
   refine tk 0 (.slice ao es.length ca) rfl (by kernel_rfl) (fun _ _ _ h => h) (by rfl) (by assumption) ?_ ?_
   ·intro w5 hSw
    obtain ⟨s0, s1⟩ := hSw
    go_simp
    try (first | done | decide | omega)
   try simp only [Act.put, lys]
   refine tk 1 (.slice (some ⟨B, off, none⟩) L fc) rfl (by kernel_rfl) (fun _ _ _ h => h) (by rfl) (by assumption) ?_ ?_
   ·intro w5 hSw
    obtain ⟨s0, s1⟩ := hSw
    go_simp
    try (first | done | decide | omega)
   try simp only [Act.put, lys]
   refine tk 2 (.int .i64 (i : Nat)) rfl (by kernel_rfl) (fun _ _ _ h => h) (by rfl) (by assumption) ?_ ?_
   ·intro w5 hSw
    obtain ⟨s0, s1⟩ := hSw
    go_simp
    try (first | done | decide | omega)
   try simp only [Act.put, lys]
   refine tk 3 (.pointer (some ⟨B, off + i, none⟩)) rfl (by kernel_rfl) (fun _ _ _ h => h) (by rfl) (by assumption) ?_ ?_
   ·intro w5 hSw
    obtain ⟨s0, s1⟩ := hSw
    go_simp
    try (first | done | decide | omega)
   try simp only [Act.put, lys]
   refine tk 4 (.iface t u) rfl (by kernel_rfl) (fun _ _ _ h => h) (by rfl) (by assumption) ?_ ?_
   ·intro w5 hSw
    obtain ⟨s0, s1⟩ := hSw
    go_simp
    try (first | done | decide | omega)
   try simp only [Act.put, lys]
   refine tk 5 (.slice (some ⟨B, off, none⟩) L fc) rfl (by kernel_rfl) (fun _ _ _ h => h) (by rfl) (by assumption) ?_ ?_
   ·intro w5 hSw
    obtain ⟨s0, s1⟩ := hSw
    go_simp
    try (first | done | decide | omega)
   try simp only [Act.put, lys]
   refine tk 6 (.int .i64 (i : Nat)) rfl (by kernel_rfl) (fun _ _ _ h => h) (by rfl) (by assumption) ?_ ?_
   ·intro w5 hSw
    obtain ⟨s0, s1⟩ := hSw
    go_simp
    try (first | done | decide | omega)
   try simp only [Act.put, lys]
   refine tk 7 (.int .i64 ((i : Int) + 1)) rfl (by kernel_rfl) (fun _ _ _ h => h) (by rfl) (by assumption) ?_ ?_
   ·intro w5 hSw
    obtain ⟨s0, s1⟩ := hSw
    go_simp
    try (first | done | decide | omega)
   try simp only [Act.put, lys]
   refine tk 8 (.pointer (some ⟨B, off + (i + 1), none⟩)) rfl (by kernel_rfl) (fun _ _ _ h => h) (by rfl) (by assumption) ?_ ?_
   ·intro w5 hSw
    obtain ⟨s0, s1⟩ := hSw
    go_simp
    try (first | done | decide | omega)
   try simp only [Act.put, lys]
   refine tk 9 (.iface t' u') rfl (by kernel_rfl) (fun _ _ _ h => h) (by rfl) (by assumption) ?_ ?_
   ·intro w5 hSw
    obtain ⟨s0, s1⟩ := hSw
    go_simp
    try (first | done | decide | omega)
   try simp only [Act.put, lys]
   refine tk 10 (.agg #[.iface t u, .iface t' u']) rfl (by kernel_rfl) (fun _ _ _ h => h) (by rfl) (by assumption) ?_ ?_
   ·intro w5 hSw
    obtain ⟨s0, s1⟩ := hSw
    go_simp
    try (first | done | decide | omega)
   try simp only [Act.put, lys]
   refine rd1 11 (by kernel_rfl) rfl fun K1 hK1 => ?_
   go_simp
   have r0 : (wr.drew.alloc (.cells #[.iface t u, .iface t' u'] 93)).cell? ⟨B, off + i, none⟩ = some (.iface t u) := (World.cell?_alloc_old _ _ _ (by simp; omega)).trans q0
   have r1 : (wr.drew.alloc (.cells #[.iface t u, .iface t' u'] 93)).cell? ⟨B, off + (i + 1), none⟩ = some (.iface t' u') := (World.cell?_alloc_old _ _ _ (by simp; omega)).trans q1
   refine hK1.out _ _ ⟨r0, r1⟩ (fun _ => ?_)
   clear hK1
   try simp only [Act.put, lys]
   refine rd1 12 (by kernel_rfl) rfl fun K2 hK2 => ?_
   rw [if_pos (by rfl)]
   refine wp_append_own _ _ _ 89 rfl w.heap.size 93 i0 _ 2 32 Tryz.underlying89 hi hz0 hz1 hz2 rfl (by decide) _ _ _ rfl (hown.alloc _) ⟨wr.heap.size, 0, none⟩ 1 1 [.iface t u, .iface t' u'] rfl rfl ?d1 ?d2 ?d3 ?d4 ?d5 ?_
   case d1 =>
    intro j u2 hj
    rw [show ((⟨wr.heap.size, 0, none⟩ : Addr).add j) = ⟨wr.heap.size, j, none⟩ by unfold Addr.add; split <;> simp_all]
    exact (cell_of_row (wr.alloc (.cells #[.iface t u, .iface t' u'] 93)) wr.heap.size j #[.iface t u, .iface t' u'] 93 (0, 0) (heap_alloc_new wr _)).trans (by simpa using hj)
   case d2 => intro u2 hu; simp at hu; rcases hu with rfl | rfl <;> rfl
   case d3 => unfold maxLen; omega
   case d4 => omega
   case d5 => simp; omega
   intro v' w7 o7 g7 _
   have b7 : Below w.heap.size w w7 := ((hbl.drew).alloc hbl.size _).grown g7 (by simp; omega) (fun kk hkk => (hown.lt kk hkk).1)
   refine hK2.out _ _ ⟨(b7.cell (p := ⟨B, off + i, none⟩) hBw).trans ca0, (b7.cell (p := ⟨B, off + (i + 1), none⟩) hBw).trans ca1⟩ (fun _ => ?_)
   clear hK2
   obtain ⟨a7, c7, rfl, -, -⟩ := own_sliceZ o7
   try simp only [Act.put, lys]
   refine rd1 13 (by kernel_rfl) rfl fun K3 hK3 => ?_
   go_simp
   refine hK3.out _ _ ⟨(b7.cell (p := ⟨B, off + i, none⟩) hBw).trans ca0, (b7.cell (p := ⟨B, off + (i + 1), none⟩) hBw).trans ca1⟩ (fun _ => ?_)
   clear hK3
   try simp only [Act.put, lys]
   refine wpAnyH_done (by kernel_rfl) ?_ _
   have hel2 : (es ++ [en]).length = es.length + 1 := by simp
   rw [← hflat, ← hel2] at o7
   rw [← hel2]
   have hj2 : (es ++ [en]).length = j + 1 := by omega
   clear hS q0 q1 r0 r1 hown hflat hel2 g7
   go_wp2
   go_roundg (gk - 1)
   case measure => omega
   case rel => exact ⟨j + 1, i + 2, es ++ [en], by go_num, hr1, hr2, by omega, Nat.le_of_eq hj2, Nat.le_of_eq hj2.symm, HP2, o7, b7, HG2⟩
  ·have hltI : ¬ (i : Int) < L := by omega
   have hjm : j = m := by omega
   subst hjm
   have HPm : Hid (es.map (·.p) = prs2 l) := by
    show _ = _
    rw [HP.out, List.take_of_length_le (by omega)]
   clear HP hv hkey
   have hes : es.length ≤ 1000 := by omega
   have hso := sort_any es ao ca w.heap.size wr hown (by omega)
   go_wp2_with (go_at_call 102; refine hso.mono ?_; rintro e W3 ⟨rfl, es', hpm, hsd, hcl, hb3⟩)
   have b3 := hb3 w hbl
   have hl3 : es'.length = es.length := hpm.length_eq
   have HG3 : Hid (∀ e ∈ es', GoodE (VlC sr n S w) e) := fun e he => HG.out e (hpm.subset he)
   have HP3 : Hid ((es'.map (·.p)).Perm (prs2 l)) := by
    show List.Perm _ _
    rw [← HPm.out]
    exact hpm.map _
   have HS3 : Hid ((es'.map (·.p)).Pairwise (fun p q => cmpP p q ≤ 0)) := by
    show List.Pairwise _ _
    rw [List.pairwise_map]
    refine List.Pairwise.imp_of_mem ?_ hsd
    intro a b ha hb h
    rw [← good_cmp (HG3.out a ha) (HG3.out b hb)]
    exact h
   have hj3 : es'.length = j := by omega
   have hesI : (es.length : Int) ≤ 1000 := by omega
   clear HPm HG hb3 hsd hpm hown hbl hso
   generalize hE : es.length = E at *
   have hEj : E = j := by omega
   clear hE es
   subst hEj
   go_loopg [5] E (fun g iv wr => ∃ (k : Nat), iv = .int .i64 ((k : Int) + 1) ∧ k + g = E ∧ Hid (∀ (q : Nat) (x y : Ent), q < k → es'[q]? = some x → es'[q + 1]? = some y → cmpE x y ≠ 0) ∧ Below W3.heap.size W3 wr)
   case atStart => exact ⟨0, rfl, by omega, (fun q x y hq => by omega), Below.refl _ _⟩
   case round =>
    obtain ⟨k, rfl, hkg, HN, hbr⟩ := hrel
    by_cases hlt2 : k + 1 < E
    ·have hI2 : (k : Int) + 1 < E := by omega
     obtain ⟨x, hx⟩ : ∃ x, es'[k]? = some x := ⟨_, List.getElem?_eq_getElem (by omega)⟩
     obtain ⟨y, hy⟩ : ∃ y, es'[k + 1]? = some y := ⟨_, List.getElem?_eq_getElem (by omega)⟩
     obtain ⟨g, rfl, hBg, x0, -⟩ := hcl k x hx
     obtain ⟨g', he, -, y0, -⟩ := hcl (k + 1) y hy
     obtain rfl : g = g' := by
      have := Option.some.inj he
      simp at this
      exact this
     have hgl : g < W3.heap.size := lt_of_cell x0
     have hcm := fun V => cmp_any _ _ x.rk y.rk (fun W => (x.ok W).mono fun e w' h => ⟨h.1, h.2.1⟩) (fun W => (y.ok W).mono fun e w' h => ⟨h.1, h.2.1⟩) V
     obtain ⟨cv, hcv⟩ : ∃ cv, cmpR x.rk y.rk = cv := ⟨_, rfl⟩
     rw [hcv] at hcm
     have HC : Hid (cmpE x y = cv) := hcv
     have Hx : Hid (es'[k]? = some x) := hx
     have Hy : Hid (es'[k + 1]? = some y) := hy
     have f0 : ∀ V, Below W3.heap.size W3 V → (fun w' : World => w'.cell? ⟨g, k * 2, none⟩ = some (.iface x.kt x.kx) ∧ w'.cell? ⟨g, (k + 1) * 2, none⟩ = some (.iface y.kt y.kx)) V := fun V hV => ⟨(hV.cell (p := ⟨g, k * 2, none⟩) hgl).trans x0, (hV.cell (p := ⟨g, (k + 1) * 2, none⟩) hgl).trans y0⟩
     have hkI : (k : Int) ≤ 1000 := by omega
     have hw2 : IntKind.i64.wrap (k : Int) = (k : Int) := wrapS _ (by omega) (by omega)
     have hszr := hbr.size
     clear he hx hy hcv hcl
     go_upto_region 10 with fail
     have hdr : Below W3.heap.size W3 wr.drew := hbr.drew
     refine wp_region_held_drew (S := fun w' : World => w'.cell? ⟨g, k * 2, none⟩ = some (.iface x.kt x.kx) ∧ w'.cell? ⟨g, (k + 1) * 2, none⟩ = some (.iface y.kt y.kx)) (by kernel_rfl) (f0 _ hdr) ?_
     intro hS
     refine tk 0 (.slice (some ⟨g, 0, none⟩) E ca) rfl (by kernel_rfl) (fun _ _ _ h => h) (by rfl) (by assumption) ?_ ?_
     ·intro w5 hSw
      obtain ⟨s0, s1⟩ := hSw
      go_simp
      try (first | done | decide | omega)
     try simp only [Act.put, lys]
     refine tk 1 (.int .i64 ((k : Int) + 1)) rfl (by kernel_rfl) (fun _ _ _ h => h) (by rfl) (by assumption) ?_ ?_
     ·intro w5 hSw
      obtain ⟨s0, s1⟩ := hSw
      go_simp
      try (first | done | decide | omega)
     try simp only [Act.put, lys]
     refine tk 2 (.int .i64 (k : Nat)) rfl (by kernel_rfl) (fun _ _ _ h => h) (by rfl) (by assumption) ?_ ?_
     ·intro w5 hSw
      obtain ⟨s0, s1⟩ := hSw
      go_simp
      try (first | done | decide | omega)
     try simp only [Act.put, lys]
     refine tk 3 (.pointer (some ⟨g, k * 2, none⟩)) rfl (by kernel_rfl) (fun _ _ _ h => h) (by rfl) (by assumption) ?_ ?_
     ·intro w5 hSw
      obtain ⟨s0, s1⟩ := hSw
      go_simp
      try (first | done | decide | omega)
     try simp only [Act.put, lys]
     refine tk 4 (.pointer (some ⟨g, k * 2, none⟩)) rfl (by kernel_rfl) (fun _ _ _ h => h) (by rfl) (by assumption) ?_ ?_
     ·intro w5 hSw
      obtain ⟨s0, s1⟩ := hSw
      go_simp
      try (first | done | decide | omega)
     try simp only [Act.put, lys]
     refine tk 5 (.iface x.kt x.kx) rfl (by kernel_rfl) (fun _ _ _ h => h) (by rfl) (by assumption) ?_ ?_
     ·intro w5 hSw
      obtain ⟨s0, s1⟩ := hSw
      go_simp
      try (first | done | decide | omega)
     try simp only [Act.put, lys]
     refine tk 6 (.slice (some ⟨g, 0, none⟩) E ca) rfl (by kernel_rfl) (fun _ _ _ h => h) (by rfl) (by assumption) ?_ ?_
     ·intro w5 hSw
      obtain ⟨s0, s1⟩ := hSw
      go_simp
      try (first | done | decide | omega)
     try simp only [Act.put, lys]
     refine tk 7 (.int .i64 ((k : Int) + 1)) rfl (by kernel_rfl) (fun _ _ _ h => h) (by rfl) (by assumption) ?_ ?_
     ·intro w5 hSw
      obtain ⟨s0, s1⟩ := hSw
      go_simp
      try (first | done | decide | omega)
     try simp only [Act.put, lys]
     refine tk 8 (.pointer (some ⟨g, (k + 1) * 2, none⟩)) rfl (by kernel_rfl) (fun _ _ _ h => h) (by rfl) (by assumption) ?_ ?_
     ·intro w5 hSw
      obtain ⟨s0, s1⟩ := hSw
      go_simp
      try (first | done | decide | omega)
     try simp only [Act.put, lys]
     refine tk 9 (.pointer (some ⟨g, (k + 1) * 2, none⟩)) rfl (by kernel_rfl) (fun _ _ _ h => h) (by rfl) (by assumption) ?_ ?_
     ·intro w5 hSw
      obtain ⟨s0, s1⟩ := hSw
      go_simp
      try (first | done | decide | omega)
     try simp only [Act.put, lys]
     refine tk 10 (.iface y.kt y.kx) rfl (by kernel_rfl) (fun _ _ _ h => h) (by rfl) (by assumption) ?_ ?_
     ·intro w5 hSw
      obtain ⟨s0, s1⟩ := hSw
      go_simp
      try (first | done | decide | omega)
     try simp only [Act.put, lys]
     refine rd1 11 (by kernel_rfl) rfl fun K1 hK1 => ?_
     go_simp
     refine (hcm _).mono ?_
     rintro e Z ⟨rfl, hZ⟩
     have dZ := hdr.trans (hZ.mono hdr.size)
     refine hK1.out _ _ (f0 _ dZ) (fun _ => ?_)
     clear hK1 hcm
     try simp only [Act.put, lys]
     by_cases hc0 : cv = 0
     ·subst hc0
      have HD : Hid (dupM l = true) := by
       show _ = _
       unfold dupM
       rw [← dupL_perm HP3.out]
       have e1 : (es'.map (·.p))[k]? = some x.p := by rw [List.getElem?_map, Hx.out]; rfl
       have e2 : (es'.map (·.p))[k + 1]? = some y.p := by rw [List.getElem?_map, Hy.out]; rfl
       refine dup_next e1 e2 ?_
       rw [← good_cmp (HG3.out x (List.mem_of_getElem? Hx.out)) (HG3.out y (List.mem_of_getElem? Hy.out))]
       exact HC.out
      refine rd1 12 (by kernel_rfl) rfl fun K2 hK2 => ?_
      go_simp
      refine hK2.out _ _ (f0 _ dZ) (fun _ => ?_)
      clear hK2
      try simp only [Act.put, lys]
      refine rd1 13 (by kernel_rfl) rfl fun K3 hK3 => ?_
      go_simp
      refine (must_no _ _).mono ?_
      rintro e V ⟨rfl, hV⟩
      subst V
      exact ⟨rfl, b3.trans (dZ.mono b3.size), .inr ⟨HD.out, rfl⟩⟩
     ·have hcb : (cv != 0) = true := by simpa using hc0
      have HN2 : Hid (∀ (q : Nat) (x y : Ent), q < k + 1 → es'[q]? = some x → es'[q + 1]? = some y → cmpE x y ≠ 0) := by
       intro q x' y' hq h1 h2
       by_cases hqk : q < k
       ·exact HN.out q x' y' hqk h1 h2
       ·obtain rfl : q = k := by omega
        rw [Hx.out] at h1
        rw [Hy.out] at h2
        obtain rfl := Option.some.inj h1
        obtain rfl := Option.some.inj h2
        rw [HC.out]
        exact hc0
      clear hc0
      refine rd1 12 (by kernel_rfl) rfl fun K2 hK2 => ?_
      go_simp
      refine hK2.out _ _ (f0 _ dZ) (fun _ => ?_)
      clear hK2
      try simp only [Act.put, lys]
      refine rd1 13 (by kernel_rfl) rfl fun K3 hK3 => ?_
      go_simp
      refine (must_ok _ _).mono ?_
      rintro e V ⟨rfl, hV⟩
      subst V
      refine hK3.out _ _ (f0 _ dZ) (fun _ => ?_)
      clear hK3
      try simp only [Act.put, lys]
      refine wpAnyH_done (by kernel_rfl) ?_ _
      clear hS HN
      go_wp2
      go_roundg (gk - 1)
      case measure => omega
      case rel => exact ⟨k + 1, by go_num, by omega, HN2, dZ⟩
    ·have hI2 : ¬ (k : Int) + 1 < E := by omega
     have HD : Hid (dupM l = false) := by
      show _ = _
      unfold dupM
      rw [← dupL_perm HP3.out]
      refine dup_none HS3.out fun i p q hp hq => ?_
      rw [List.getElem?_map, Option.map_eq_some_iff] at hp hq
      obtain ⟨x, hx, rfl⟩ := hp
      obtain ⟨y, hy, rfl⟩ := hq
      rw [← good_cmp (HG3.out x (List.mem_of_getElem? hx)) (HG3.out y (List.mem_of_getElem? hy))]
      have := (List.getElem?_eq_some_iff.1 hy).1
      exact HN.out i x y (by omega) hx hy
     have HE : Hid (Ents (VlC sr n S wr) (fun b => w.heap.size ≤ b) wr ao (srt l)) := by
      intro i p hp
      rw [← srt_one HP3.out HS3.out HD.out, List.getElem?_map, Option.map_eq_some_iff] at hp
      obtain ⟨x, hx, rfl⟩ := hp
      obtain ⟨g, rfl, hBg, x0, x1⟩ := hcl i x hx
      have hgl : g < W3.heap.size := lt_of_cell x0
      have hG := HG3.out x (List.mem_of_getElem? hx)
      have hk : Kept S S w wr := Kept.below (b3.trans (hbr.mono b3.size)) fun b hb _ => hb
      refine ⟨g, 0, x.kt, x.kx, x.vt, x.vx, rfl, hBg, ?_, ?_, hG.2.1.turn hk, hG.2.2.turn hk⟩
      ·rw [Nat.zero_add]; exact (hbr.cell (p := ⟨g, i * 2, none⟩) hgl).trans x0
      ·rw [Nat.zero_add]; exact (hbr.cell (p := ⟨g, i * 2 + 1, none⟩) hgl).trans x1
     clear hcl HN
     go_wp2
     go_ret
     exact ⟨b3.trans (hbr.mono b3.size), .inl ⟨HD.out, ao, ca, rfl, hca, hcm, HE.out⟩⟩
end Go.Proofs.YtlgieoabellbmaaGreatDoor
