/- The document's sorted. -/
import Derived.Test.YtlgieoabellbmaaGreatDoorVRowE
import Derived.Test.YtlgieoabellbmaaGreatDoorPt7
import Derived.Deep.RegionHeld
import Derived.Deep.LoopGhost
import Derived.Deep.DeepCutAuto
namespace Go.Proofs.YtlgieoabellbmaaGreatDoor
open Go.RowKit
set_option linter.unusedVariables false
set_option linter.unusedSimpArgs false
theorem lyt : (∀ (α : Type) (l : List α) (i : Nat) (h : i < l.toArray.size), l.toArray[i] = l[i]'(by simpa using h)) ∧ (∀ (α : Type) (a : α) (l : List α) (h : 0 < (a :: l).length), (a :: l)[0] = a) ∧ (∀ (α : Type) (a : α) (l : List α) (i : Nat) (h : i + 1 < (a :: l).length), (a :: l)[i + 1] = l[i]'(Nat.lt_of_succ_lt_succ h)) ∧ (∀ (α : Type) (l : List α) (i : Nat) (v : α), l.toArray.setIfInBounds i v = (l.set i v).toArray) ∧ (∀ (α : Type) (a b : α) (l : List α), (a :: l).set 0 b = b :: l) ∧ (∀ (α : Type) (a b : α) (l : List α) (i : Nat), (a :: l).set (i + 1) b = a :: l.set i b) :=
 ⟨fun _ _ _ _ => by simp, fun _ _ _ _ => rfl, fun _ _ _ _ _ => rfl, fun _ _ _ _ => by simp, fun _ _ _ _ => rfl, fun _ _ _ _ _ => rfl⟩
theorem RowE.mono {P : Value → Value → D → Prop} {M M' : Nat} {W : World} {v : Value} {l : List D} (h : RowE P M W v l) (hM : M' ≤ M) : RowE P M' W v l := by
 obtain ⟨ds, e, h1, h2⟩ := h
 refine ⟨ds, e, ⟨h1.1, ?_⟩, h2⟩
 rcases h1.2 with q | ⟨g, cap, cur, e1, hB, r⟩
 ·exact .inl q
 ·exact .inr ⟨g, cap, cur, e1, Nat.le_trans hM hB, r⟩
def InvS (p : D × D) (o : List (D × D)) (q : Nat) (dn : Bool) (nx : List (D × D)) : Prop :=
 (dn = true → nx = ins p (o.take q) ∧ ∃ r ∈ o.take q, cmpP p r < 0) ∧ (dn = false → nx = o.take q ∧ ∀ r ∈ o.take q, ¬ cmpP p r < 0)
theorem InvS.len {p : D × D} {o : List (D × D)} {q : Nat} {dn : Bool} {nx : List (D × D)} (h : InvS p o q dn nx) : nx.length ≤ o.length + 1 := by
 cases dn with
 | true => rw [(h.1 rfl).1, (ins_perm _ _).length_eq, List.length_cons, List.length_take]; omega
 | false => rw [(h.2 rfl).1, List.length_take]; omega
theorem InvS.done {p r : D × D} {o : List (D × D)} {q : Nat} {nx : List (D × D)} (h : InvS p o q true nx) (hr : o[q]? = some r) : InvS p o (q + 1) true (nx ++ [r]) := by
 obtain ⟨h1, x, hx, hl⟩ := h.1 rfl
 have e : o.take (q + 1) = o.take q ++ [r] := by rw [List.take_add_one, hr]; rfl
 refine ⟨fun _ => ⟨?_, x, ?_, hl⟩, fun h => by cases h⟩
 ·rw [e, ins_done p r _ ⟨x, hx, hl⟩, h1]
 ·rw [e]; exact List.mem_append_left _ hx
theorem InvS.new {p r : D × D} {o : List (D × D)} {q : Nat} {nx : List (D × D)} (h : InvS p o q false nx) (hr : o[q]? = some r) (hc : cmpP p r < 0) : InvS p o (q + 1) true (nx ++ [p, r]) := by
 obtain ⟨h1, h2⟩ := h.2 rfl
 have e : o.take (q + 1) = o.take q ++ [r] := by rw [List.take_add_one, hr]; rfl
 refine ⟨fun _ => ⟨?_, r, ?_, hc⟩, fun h => by cases h⟩
 ·rw [e, ins_new p r _ h2 hc, h1]
 ·rw [e]; exact List.mem_append_right _ (List.mem_singleton.2 rfl)
theorem InvS.on {p r : D × D} {o : List (D × D)} {q : Nat} {nx : List (D × D)} (h : InvS p o q false nx) (hr : o[q]? = some r) (hc : ¬ cmpP p r < 0) : InvS p o (q + 1) false (nx ++ [r]) := by
 obtain ⟨h1, h2⟩ := h.2 rfl
 have e : o.take (q + 1) = o.take q ++ [r] := by rw [List.take_add_one, hr]; rfl
 refine ⟨(fun h => by cases h), fun _ => ⟨by rw [e, h1], fun x hx => ?_⟩⟩
 rw [e] at hx
 rcases List.mem_append.1 hx with hx | hx
 ·exact h2 x hx
 ·rw [List.mem_singleton.1 hx]; exact hc
theorem flat2_app (a b : List (D × D)) : flat2 (a ++ b) = flat2 a ++ flat2 b := by unfold flat2; rw [List.flatMap_append]
set_option maxRecDepth 1000000 in
set_option maxHeartbeats 8000000 in
theorem osorted_any (P : Value → Value → D → Prop) (hP : ∀ nv pv d, P nv pv d → ∃ na nc pa pc, nv = .slice na d.names.length nc ∧ pv = .slice pa d.parts.length pc) (l : List D) (a : Option Addr) (c : Nat) (w : World) (hl : l.length ≤ 1000) (hev : l.length % 2 = 0)
  (hcell : ∀ (i : Nat) (x : D), l[i]? = some x → ∃ b off nv pv, a = some ⟨b, off, none⟩ ∧ At8 w b (off + i * 8) x nv pv ∧ P nv pv x) (hcmp : ∀ p ∈ prs2 l, ∀ q ∈ prs2 l, dcmp p.1 q.1 = cmpP p q) :
  Calls Tryz.prog 69 #[.slice a l.length c] w fun e w' => Below w.heap.size w w' ∧ ∃ v, e = .returned v ∧ RowE P w.heap.size w' v (flat2 (isrt (prs2 l))) := by
 obtain ⟨m, hm⟩ : ∃ m, l.length = 2 * m := ⟨l.length / 2, by omega⟩
 have hpl : (prs2 l).length = m := by rw [prs2_len]; omega
 have HL : Hid (l.length = 2 * m) := hm
 obtain ⟨L, hL⟩ : ∃ L, l.length = L := ⟨_, rfl⟩
 have hm500 : m ≤ 500 := by omega
 rw [hL] at hm ⊢
 have hLm1 : (L : Int) ≤ 2 * (m : Int) := by omega
 have hLm2 : 2 * (m : Int) ≤ L := by omega
 clear hm hL
 go_enter Tryz.func69, Tryz.ntmps69
 go_wp2_with fail
 go_loopg [3, 4, 5, 6, 7] m (fun g s3 s4 _ _ _ wr => ∃ (j i : Nat) (o : List (D × D)), s4 = .int .i64 (i : Nat) ∧ i ≤ 2 * j ∧ 2 * j ≤ i ∧ j + g = m ∧ Hid (o = isrt ((prs2 l).take j)) ∧ RowE P w.heap.size wr s3 (flat2 o) ∧ Below w.heap.size w wr)
 case atStart => exact ⟨0, 0, [], rfl, Nat.le_refl _, Nat.le_refl _, by omega, rfl, RowE.nil _ _ _, Below.refl _ _⟩
 case round =>
  obtain ⟨j, i, o, rfl, hi1, hi2, hjg, HO, hrow, hbl⟩ := hrel
  obtain ⟨oa, oc, rfl, -, -⟩ := hrow.slice
  have hol : o.length = j := by rw [HO.out, (isrt_ok _).1.length_eq, List.length_take]; omega
  have hofl : (flat2 o).length = 2 * o.length := flat2_len o
  have hiI1 : (i : Int) ≤ 2 * (j : Int) := by omega
  have hiI2 : 2 * (j : Int) ≤ i := by omega
  have hw0 : IntKind.i64.wrap ((i : Int) + 1) = (i : Int) + 1 := wrapS _ (by omega) (by omega)
  by_cases hlt : j < m
  ·have hltI : (i : Int) + 1 < L := by omega
   have hltI0 : (i : Int) < L := by omega
   have hie : i = 2 * j := by omega
   have hll := HL.out
   obtain ⟨x, hx⟩ : ∃ x, l[i]? = some x := ⟨_, List.getElem?_eq_getElem (by omega)⟩
   obtain ⟨y, hy⟩ : ∃ y, l[i + 1]? = some y := ⟨_, List.getElem?_eq_getElem (by omega)⟩
   have hpp := prs2_of l j x y (by rw [← hie]; exact hx) (by rw [← hie]; exact hy)
   obtain ⟨B, off, nvx, pvx, rfl, ax, hPx⟩ := hcell i x hx
   obtain ⟨B', off', nvy, pvy, he, ay, hPy⟩ := hcell (i + 1) y hy
   obtain ⟨rfl, rfl⟩ : B = B' ∧ off = off' := by
    have := Option.some.inj he
    simp at this
    exact this
   obtain ⟨nax, ncx, pax, pcx, rfl, rfl⟩ := hP _ _ _ hPx
   obtain ⟨nay, ncy, pay, pcy, rfl, rfl⟩ := hP _ _ _ hPy
   have HO2 : Hid (isrt ((prs2 l).take (j + 1)) = ins (x, y) o) := by
    show _ = _
    rw [List.take_add_one, hpp, HO.out]
    exact isrt_snoc _ _
   have hcm2 : ∀ r ∈ o, dcmp x r.1 = cmpP (x, y) r := fun r hr => hcmp (x, y) (List.mem_of_getElem? hpp) r (by
    rw [HO.out] at hr
    exact List.mem_of_mem_take ((isrt_ok _).1.subset hr))
   have hBw : B < w.heap.size := lt_of_cell ax.1
   have fL : ∀ V, Below w.heap.size w V → At8 V B (off + i * 8) x (.slice nax x.names.length ncx) (.slice pax x.parts.length pcx) ∧ At8 V B (off + (i + 1) * 8) y (.slice nay y.names.length ncy) (.slice pay y.parts.length pcy) := fun V hV => ⟨ax.up hV, ay.up hV⟩
   have Hi : Hid (i ≤ 2 * j ∧ 2 * j ≤ i) := ⟨hi1, hi2⟩
   have hjI : (j : Int) ≤ 500 := by omega
   have hoI : (o.length : Int) ≤ 500 := by omega
   have hiI : (i : Int) ≤ 1000 := by omega
   have ho500 : o.length ≤ 500 := by omega
   obtain ⟨OL, hOL⟩ : ∃ OL, (flat2 o).length = OL := ⟨_, rfl⟩
   have hOL1 : (OL : Int) ≤ 2 * (o.length : Int) := by omega
   have hOL2 : 2 * (o.length : Int) ≤ OL := by omega
   have HOL : Hid ((flat2 o).length = OL) := hOL
   have Hol : Hid (o.length = j) := hol
   have hrow2 := hrow
   rw [hOL] at hrow2 ⊢
   clear hrow he hx hy hll hie hpp HO hcell hcmp hOL hofl hol hi1 hi2
   obtain ⟨W0, hW0⟩ : ∃ W0, W0 = wr := ⟨_, rfl⟩
   subst hW0
   obtain ⟨G, hG⟩ : ∃ G, G = gk := ⟨_, rfl⟩
   have HGk : Hid (G = gk) := hG
   rw [← hG] at hjg
   clear hG
   go_wp2_with fail
   go_loopg [5, 6, 7] o.length (fun g s5 s6 s7 wx => ∃ (q k : Nat) (nx : List (D × D)) (dn : Bool), s6 = .bool dn ∧ s7 = .int .i64 (k : Nat) ∧ k ≤ 2 * q ∧ 2 * q ≤ k ∧ q + g = o.length ∧ Hid (InvS (x, y) o q dn nx) ∧ RowE P W0.heap.size wx s5 (flat2 nx) ∧ Below W0.heap.size W0 wx)
   case atStart => exact ⟨0, 0, [], false, rfl, rfl, Nat.le_refl _, Nat.le_refl _, by omega, ⟨(fun h => by cases h), fun _ => ⟨rfl, fun r hr => by simp at hr⟩⟩, RowE.nil _ _ _, Below.refl _ _⟩
   case round =>
    obtain ⟨q, k, nx, dn, rfl, rfl, hk1, hk2, hqg, HI, hnx, hbx⟩ := hrel
    obtain ⟨na, nc, rfl, -, -⟩ := hnx.slice
    have hnl := HI.out.len
    have hnfl : (flat2 nx).length = 2 * nx.length := flat2_len nx
    have hkI1 : (k : Int) ≤ 2 * (q : Int) := by omega
    have hkI2 : 2 * (q : Int) ≤ k := by omega
    have hwk : IntKind.i64.wrap ((k : Int) + 1) = (k : Int) + 1 := wrapS _ (by omega) (by omega)
    have hbw : Below w.heap.size w wr := hbl.trans (hbx.mono hbl.size)
    have hnx50 : (flat2 nx).length ≤ 1002 := by omega
    clear hnfl hnl
    have hW0r : W0.heap.size ≤ wr.heap.size := hbx.size
    by_cases hlt2 : q < o.length
    ·have hlt2I : (k : Int) + 1 < OL := by omega
     have hlt2I0 : (k : Int) < OL := by omega
     have hke : k = 2 * q := by omega
     obtain ⟨r, hr⟩ : ∃ r, o[q]? = some r := ⟨_, List.getElem?_eq_getElem hlt2⟩
     obtain ⟨f1, f2⟩ := flat2_get o q r hr
     rw [← hke] at f1 f2
     obtain ⟨oa', oc', eo, -, -, hrd⟩ := hrow2.reads
     obtain ⟨rfl, -, rfl⟩ := Value.slice.inj eo
     obtain ⟨g, nv1, pv1, rfl, -, hgl, a1, hP1⟩ := hrd k r.1 f1
     obtain ⟨g', nv2, pv2, eg, -, -, a2, hP2⟩ := hrd (k + 1) r.2 f2
     obtain rfl : g = g' := by
      have := Option.some.inj eg
      simp at this
      exact this
     obtain ⟨n1a, n1c, p1a, p1c, rfl, rfl⟩ := hP _ _ _ hP1
     obtain ⟨n2a, n2c, p2a, p2c, rfl, rfl⟩ := hP _ _ _ hP2
     obtain ⟨r1, r2⟩ := r
     dsimp only at *
     have fO : ∀ V, Below W0.heap.size W0 V → At8 V g (k * 8) r1 (.slice n1a r1.names.length n1c) (.slice p1a r1.parts.length p1c) ∧ At8 V g ((k + 1) * 8) r2 (.slice n2a r2.names.length n2c) (.slice p2a r2.parts.length p2c) := fun V hV => ⟨a1.up hV, a2.up hV⟩
     have HC : Hid (dcmp x r1 = cmpP (x, y) (r1, r2)) := hcm2 (r1, r2) (List.mem_of_getElem? hr)
     have Hr : Hid (o[q]? = some (r1, r2)) := hr
     have hkI : (k : Int) ≤ 1000 := by omega
     have Hk : Hid (k + 2 ≤ 2 * (q + 1) ∧ 2 * (q + 1) ≤ k + 2) := by constructor <;> omega
     clear eo eg hr f1 f2 hrd hke hcm2
     cases dn with
     | true =>
       go_upto_region 10 with fail
       refine wp_region_held_drew (S := fun w' : World => At8 w' g (k * 8) r1 (.slice n1a r1.names.length n1c) (.slice p1a r1.parts.length p1c) ∧ At8 w' g ((k + 1) * 8) r2 (.slice n2a r2.names.length n2c) (.slice p2a r2.parts.length p2c)) (by kernel_rfl) (fO _ (hbx.drew)) ?_
       intro hS
       refine tk 0 (.bool true) rfl (by kernel_rfl) (fun _ _ _ h => h) (by rfl) (by assumption) ?_ ?_
       ·intro w5 hSw
        obtain ⟨⟨s0, s1, s2, s3, s4, s5, s6, s7⟩, u0, u1, u2, u3, u4, u5, u6, u7⟩ := hSw
        go_simp
        try (intro hneg; omega)
       try simp only [Act.put, lyt]
       refine tk 1 (.bool false) rfl (by kernel_rfl) (fun _ _ _ h => h) (by rfl) (by assumption) ?_ ?_
       ·intro w5 hSw
        obtain ⟨⟨s0, s1, s2, s3, s4, s5, s6, s7⟩, u0, u1, u2, u3, u4, u5, u6, u7⟩ := hSw
        go_simp
        try (intro hneg; omega)
       try simp only [Act.put, lyt]
       refine tk 2 (.bool false) rfl (by kernel_rfl) (fun _ _ _ h => h) (by rfl) (by assumption) ?_ ?_
       ·intro w5 hSw
        obtain ⟨⟨s0, s1, s2, s3, s4, s5, s6, s7⟩, u0, u1, u2, u3, u4, u5, u6, u7⟩ := hSw
        go_simp
        try (intro hneg; omega)
       try simp only [Act.put, lyt]
       refine wpAnyH_take (i := 3) (v := undef) rfl (by kernel_rfl) (by kernel_rfl) (by kernel_rfl) (fun _ _ _ h => h) (Or.inr ⟨by rfl, rfl⟩) (by assumption) ?_
       try simp only [Act.put, lyt]
       refine wpAnyH_take (i := 4) (v := undef) rfl (by kernel_rfl) (by kernel_rfl) (by kernel_rfl) (fun _ _ _ h => h) (Or.inr ⟨by rfl, rfl⟩) (by assumption) ?_
       try simp only [Act.put, lyt]
       refine wpAnyH_take (i := 5) (v := undef) rfl (by kernel_rfl) (by kernel_rfl) (by kernel_rfl) (fun _ _ _ h => h) (Or.inr ⟨by rfl, rfl⟩) (by assumption) ?_
       try simp only [Act.put, lyt]
       refine wpAnyH_take (i := 6) (v := undef) rfl (by kernel_rfl) (by kernel_rfl) (by kernel_rfl) (fun _ _ _ h => h) (Or.inr ⟨by rfl, rfl⟩) (by assumption) ?_
       try simp only [Act.put, lyt]
       refine wpAnyH_take (i := 7) (v := undef) rfl (by kernel_rfl) (by kernel_rfl) (by kernel_rfl) (fun _ _ _ h => h) (Or.inr ⟨by rfl, rfl⟩) (by assumption) ?_
       try simp only [Act.put, lyt]
       refine wpAnyH_take (i := 8) (v := undef) rfl (by kernel_rfl) (by kernel_rfl) (by kernel_rfl) (fun _ _ _ h => h) (Or.inr ⟨by rfl, rfl⟩) (by assumption) ?_
       try simp only [Act.put, lyt]
       refine wpAnyH_take (i := 9) (v := undef) rfl (by kernel_rfl) (by kernel_rfl) (by kernel_rfl) (fun _ _ _ h => h) (Or.inr ⟨by rfl, rfl⟩) (by assumption) ?_
       try simp only [Act.put, lyt]
       refine wpAnyH_take (i := 10) (v := undef) rfl (by kernel_rfl) (by kernel_rfl) (by kernel_rfl) (fun _ _ _ h => h) (Or.inr ⟨by rfl, rfl⟩) (by assumption) ?_
       try simp only [Act.put, lyt]
       refine wpAnyH_take (i := 11) (v := undef) rfl (by kernel_rfl) (by kernel_rfl) (by kernel_rfl) (fun _ _ _ h => h) (Or.inr ⟨by rfl, rfl⟩) (by assumption) ?_
       try simp only [Act.put, lyt]
       refine wpAnyH_take (i := 12) (v := undef) rfl (by kernel_rfl) (by kernel_rfl) (by kernel_rfl) (fun _ _ _ h => h) (Or.inr ⟨by rfl, rfl⟩) (by assumption) ?_
       try simp only [Act.put, lyt]
       refine tk 13 (.bool false) rfl (by kernel_rfl) (fun _ _ _ h => h) (by rfl) (by assumption) ?_ ?_
       ·intro w5 hSw
        obtain ⟨⟨s0, s1, s2, s3, s4, s5, s6, s7⟩, u0, u1, u2, u3, u4, u5, u6, u7⟩ := hSw
        go_simp
        try (intro hneg; omega)
       try simp only [Act.put, lyt]
       refine wpAnyH_done (by kernel_rfl) ?_ _
       clear hS
       have hbxd := hbx.drew
       have hnxd := hnx.up (Below.refl wr.heap.size wr).drew
       have hWd : W0.heap.size ≤ wr.drew.heap.size := hW0r
       generalize wr.drew = wd at *
       have fT : ∀ {V}, Below W0.heap.size W0 V → _ := fun {V} hV => fO V hV
       have fD : ∀ V, Below wd.heap.size wd V → _ := fun V hV => fO V (hbxd.trans (hV.mono hbxd.size))
       have fDT : ∀ {V}, Below W0.heap.size W0 V → _ := fun {V} hV => fO V hV
       go_upto_region 13 with fail
       refine wp_region_held_drew (S := fun w' : World => At8 w' g (k * 8) r1 (.slice n1a r1.names.length n1c) (.slice p1a r1.parts.length p1c) ∧ At8 w' g ((k + 1) * 8) r2 (.slice n2a r2.names.length n2c) (.slice p2a r2.parts.length p2c)) (by kernel_rfl) (fD _ (Below.refl _ _).drew) ?_
       intro hS
       refine tk 0 (.slice na (flat2 nx).length nc) rfl (by kernel_rfl) (fun _ _ _ h => h) (by rfl) (by assumption) ?_ ?_
       ·intro w5 hSw
        obtain ⟨⟨s0, s1, s2, s3, s4, s5, s6, s7⟩, u0, u1, u2, u3, u4, u5, u6, u7⟩ := hSw
        go_simp
        try (intro hneg; omega)
       try simp only [Act.put, lyt]
       refine tk 1 (.slice (some ⟨g, 0, none⟩) OL oc) rfl (by kernel_rfl) (fun _ _ _ h => h) (by rfl) (by assumption) ?_ ?_
       ·intro w5 hSw
        obtain ⟨⟨s0, s1, s2, s3, s4, s5, s6, s7⟩, u0, u1, u2, u3, u4, u5, u6, u7⟩ := hSw
        go_simp
        try (intro hneg; omega)
       try simp only [Act.put, lyt]
       refine tk 2 (.int .i64 (k : Nat)) rfl (by kernel_rfl) (fun _ _ _ h => h) (by rfl) (by assumption) ?_ ?_
       ·intro w5 hSw
        obtain ⟨⟨s0, s1, s2, s3, s4, s5, s6, s7⟩, u0, u1, u2, u3, u4, u5, u6, u7⟩ := hSw
        go_simp
        try (intro hneg; omega)
       try simp only [Act.put, lyt]
       refine tk 3 (.pointer (some ⟨g, k * 8, none⟩)) rfl (by kernel_rfl) (fun _ _ _ h => h) (by rfl) (by assumption) ?_ ?_
       ·intro w5 hSw
        obtain ⟨⟨s0, s1, s2, s3, s4, s5, s6, s7⟩, u0, u1, u2, u3, u4, u5, u6, u7⟩ := hSw
        go_simp
        try (intro hneg; omega)
       try simp only [Act.put, lyt]
       refine tk 4 (.agg #[.int .i64 r1.kind, .string r1.ty, .int .u64 r1.bits, .int .u64 r1.imag, .string r1.text, (.slice n1a r1.names.length n1c), (.slice p1a r1.parts.length p1c), .int .i64 r1.hook]) rfl (by kernel_rfl) (fun _ _ _ h => h) (by rfl) (by assumption) ?_ ?_
       ·intro w5 hSw
        obtain ⟨⟨s0, s1, s2, s3, s4, s5, s6, s7⟩, u0, u1, u2, u3, u4, u5, u6, u7⟩ := hSw
        go_simp
        try (intro hneg; omega)
       try simp only [Act.put, lyt]
       refine tk 5 (.slice (some ⟨g, 0, none⟩) OL oc) rfl (by kernel_rfl) (fun _ _ _ h => h) (by rfl) (by assumption) ?_ ?_
       ·intro w5 hSw
        obtain ⟨⟨s0, s1, s2, s3, s4, s5, s6, s7⟩, u0, u1, u2, u3, u4, u5, u6, u7⟩ := hSw
        go_simp
        try (intro hneg; omega)
       try simp only [Act.put, lyt]
       refine tk 6 (.int .i64 (k : Nat)) rfl (by kernel_rfl) (fun _ _ _ h => h) (by rfl) (by assumption) ?_ ?_
       ·intro w5 hSw
        obtain ⟨⟨s0, s1, s2, s3, s4, s5, s6, s7⟩, u0, u1, u2, u3, u4, u5, u6, u7⟩ := hSw
        go_simp
        try (intro hneg; omega)
       try simp only [Act.put, lyt]
       refine tk 7 (.int .i64 ((k : Int) + 1)) rfl (by kernel_rfl) (fun _ _ _ h => h) (by rfl) (by assumption) ?_ ?_
       ·intro w5 hSw
        obtain ⟨⟨s0, s1, s2, s3, s4, s5, s6, s7⟩, u0, u1, u2, u3, u4, u5, u6, u7⟩ := hSw
        go_simp
        try (intro hneg; omega)
       try simp only [Act.put, lyt]
       refine tk 8 (.pointer (some ⟨g, (k + 1) * 8, none⟩)) rfl (by kernel_rfl) (fun _ _ _ h => h) (by rfl) (by assumption) ?_ ?_
       ·intro w5 hSw
        obtain ⟨⟨s0, s1, s2, s3, s4, s5, s6, s7⟩, u0, u1, u2, u3, u4, u5, u6, u7⟩ := hSw
        go_simp
        try (intro hneg; omega)
       try simp only [Act.put, lyt]
       refine tk 9 (.agg #[.int .i64 r2.kind, .string r2.ty, .int .u64 r2.bits, .int .u64 r2.imag, .string r2.text, (.slice n2a r2.names.length n2c), (.slice p2a r2.parts.length p2c), .int .i64 r2.hook]) rfl (by kernel_rfl) (fun _ _ _ h => h) (by rfl) (by assumption) ?_ ?_
       ·intro w5 hSw
        obtain ⟨⟨s0, s1, s2, s3, s4, s5, s6, s7⟩, u0, u1, u2, u3, u4, u5, u6, u7⟩ := hSw
        go_simp
        try (intro hneg; omega)
       try simp only [Act.put, lyt]
       refine rd1 10 (by kernel_rfl) rfl fun K1 hK1 => ?_
       go_simp
       refine hK1.out _ _ (fD _ (((Below.refl _ _).alloc (Nat.le_refl _) _).drew)) (fun _ => ?_)
       clear hK1
       try simp only [Act.put, lyt]
       refine rd1 11 (by kernel_rfl) rfl fun K2 hK2 => ?_
       rw [if_pos (by rfl)]
       refine wp_appE _ _ rfl (RowE.up hnxd (Below.refl _ _).drew) [(r1, (.slice n1a r1.names.length n1c), (.slice p1a r1.parts.length p1c)), (r2, (.slice n2a r2.names.length n2c), (.slice p2a r2.parts.length p2c))] (fun t ht => (List.mem_cons.1 ht).elim (fun e => by rw [e]; exact hP1) (fun ht => by rw [List.mem_singleton.1 ht]; exact hP2)) (by intro t ht; simp at ht; rcases ht with rfl | rfl <;> exact ⟨rfl, rfl⟩) rfl rfl rfl (by simp; omega) hWd ?_
       rintro v1 w7 ⟨ao1, c1, rfl⟩ R1 B1
       have b7 := B1 _ _ (hbxd.drew) (Nat.le_refl _)
       refine hK2.out _ _ (fDT b7) (fun _ => ?_)
       clear hK2
       try simp only [Act.put, lyt]
       refine rd1 12 (by kernel_rfl) rfl fun K3 hK3 => ?_
       go_simp
       refine hK3.out _ _ (fDT b7) (fun _ => ?_)
       clear hK3
       try simp only [Act.put, lyt]
       refine wpAnyH_done (by kernel_rfl) ?_ _
       clear hS
       have HI2 := HI.out.done Hr.out
       have e8 : flat2 (nx ++ [(r1, r2)]) = flat2 nx ++ [r1, r2] := flat2_app _ _
       rw [show [(r1, (Value.slice n1a r1.names.length n1c), (Value.slice p1a r1.parts.length p1c)), (r2, (Value.slice n2a r2.names.length n2c), (Value.slice p2a r2.parts.length p2c))].map (·.1) = [r1, r2] from rfl, ← e8] at R1
       have HIx : Hid (InvS (x, y) o (q + 1) true (nx ++ [(r1, r2)])) := HI2
       clear HI HI2 hnxd hnx e8 fO fT fD fDT
       go_wp2
       go_roundg (gk - 1)
       case measure => omega
       case rel => exact ⟨q + 1, k + 2, nx ++ [(r1, r2)], true, rfl, by go_num, Hk.out.1, Hk.out.2, by omega, HIx, R1, b7⟩
     | false =>
       have hcp := fun V => ocmp_any x r1 nax pax n1a p1a ncx pcx n1c p1c V
       obtain ⟨cv, hcv⟩ : ∃ cv, dcmp x r1 = cv := ⟨_, rfl⟩
       rw [hcv] at hcp
       have HCV : Hid (cv = cmpP (x, y) (r1, r2)) := hcv.symm.trans HC.out
       clear hcv HC
       have fB : ∀ V, Below W0.heap.size W0 V → At8 V B (off + i * 8) x (.slice nax x.names.length ncx) (.slice pax x.parts.length pcx) ∧ At8 V g (k * 8) r1 (.slice n1a r1.names.length n1c) (.slice p1a r1.parts.length p1c) := fun V hV => ⟨(fL V (hbl.trans (hV.mono hbl.size))).1, (fO V hV).1⟩
       go_upto_region 10 with fail
       refine wp_region_held_drew (S := fun w' : World => At8 w' B (off + i * 8) x (.slice nax x.names.length ncx) (.slice pax x.parts.length pcx) ∧ At8 w' g (k * 8) r1 (.slice n1a r1.names.length n1c) (.slice p1a r1.parts.length p1c)) (by kernel_rfl) (fB _ (hbx.drew)) ?_
       intro hS
       refine tk 0 (.bool false) rfl (by kernel_rfl) (fun _ _ _ h => h) (by rfl) (by assumption) ?_ ?_
       ·intro w5 hSw
        obtain ⟨⟨s0, s1, s2, s3, s4, s5, s6, s7⟩, u0, u1, u2, u3, u4, u5, u6, u7⟩ := hSw
        go_simp
        try (intro hneg; omega)
       try simp only [Act.put, lyt]
       refine tk 1 (.bool true) rfl (by kernel_rfl) (fun _ _ _ h => h) (by rfl) (by assumption) ?_ ?_
       ·intro w5 hSw
        obtain ⟨⟨s0, s1, s2, s3, s4, s5, s6, s7⟩, u0, u1, u2, u3, u4, u5, u6, u7⟩ := hSw
        go_simp
        try (intro hneg; omega)
       try simp only [Act.put, lyt]
       refine tk 2 (.bool true) rfl (by kernel_rfl) (fun _ _ _ h => h) (by rfl) (by assumption) ?_ ?_
       ·intro w5 hSw
        obtain ⟨⟨s0, s1, s2, s3, s4, s5, s6, s7⟩, u0, u1, u2, u3, u4, u5, u6, u7⟩ := hSw
        go_simp
        try (intro hneg; omega)
       try simp only [Act.put, lyt]
       refine tk 3 (.slice (some ⟨B, off, none⟩) L c) rfl (by kernel_rfl) (fun _ _ _ h => h) (by rfl) (by assumption) ?_ ?_
       ·intro w5 hSw
        obtain ⟨⟨s0, s1, s2, s3, s4, s5, s6, s7⟩, u0, u1, u2, u3, u4, u5, u6, u7⟩ := hSw
        go_simp
        try (intro hneg; omega)
       try simp only [Act.put, lyt]
       refine tk 4 (.int .i64 (i : Nat)) rfl (by kernel_rfl) (fun _ _ _ h => h) (by rfl) (by assumption) ?_ ?_
       ·intro w5 hSw
        obtain ⟨⟨s0, s1, s2, s3, s4, s5, s6, s7⟩, u0, u1, u2, u3, u4, u5, u6, u7⟩ := hSw
        go_simp
        try (intro hneg; omega)
       try simp only [Act.put, lyt]
       refine tk 5 (.pointer (some ⟨B, off + i * 8, none⟩)) rfl (by kernel_rfl) (fun _ _ _ h => h) (by rfl) (by assumption) ?_ ?_
       ·intro w5 hSw
        obtain ⟨⟨s0, s1, s2, s3, s4, s5, s6, s7⟩, u0, u1, u2, u3, u4, u5, u6, u7⟩ := hSw
        go_simp
        try (intro hneg; omega)
       try simp only [Act.put, lyt]
       refine tk 6 (.agg #[.int .i64 x.kind, .string x.ty, .int .u64 x.bits, .int .u64 x.imag, .string x.text, (.slice nax x.names.length ncx), (.slice pax x.parts.length pcx), .int .i64 x.hook]) rfl (by kernel_rfl) (fun _ _ _ h => h) (by rfl) (by assumption) ?_ ?_
       ·intro w5 hSw
        obtain ⟨⟨s0, s1, s2, s3, s4, s5, s6, s7⟩, u0, u1, u2, u3, u4, u5, u6, u7⟩ := hSw
        go_simp
        try (intro hneg; omega)
       try simp only [Act.put, lyt]
       refine tk 7 (.slice (some ⟨g, 0, none⟩) OL oc) rfl (by kernel_rfl) (fun _ _ _ h => h) (by rfl) (by assumption) ?_ ?_
       ·intro w5 hSw
        obtain ⟨⟨s0, s1, s2, s3, s4, s5, s6, s7⟩, u0, u1, u2, u3, u4, u5, u6, u7⟩ := hSw
        go_simp
        try (intro hneg; omega)
       try simp only [Act.put, lyt]
       refine tk 8 (.int .i64 (k : Nat)) rfl (by kernel_rfl) (fun _ _ _ h => h) (by rfl) (by assumption) ?_ ?_
       ·intro w5 hSw
        obtain ⟨⟨s0, s1, s2, s3, s4, s5, s6, s7⟩, u0, u1, u2, u3, u4, u5, u6, u7⟩ := hSw
        go_simp
        try (intro hneg; omega)
       try simp only [Act.put, lyt]
       refine tk 9 (.pointer (some ⟨g, k * 8, none⟩)) rfl (by kernel_rfl) (fun _ _ _ h => h) (by rfl) (by assumption) ?_ ?_
       ·intro w5 hSw
        obtain ⟨⟨s0, s1, s2, s3, s4, s5, s6, s7⟩, u0, u1, u2, u3, u4, u5, u6, u7⟩ := hSw
        go_simp
        try (intro hneg; omega)
       try simp only [Act.put, lyt]
       refine tk 10 (.agg #[.int .i64 r1.kind, .string r1.ty, .int .u64 r1.bits, .int .u64 r1.imag, .string r1.text, (.slice n1a r1.names.length n1c), (.slice p1a r1.parts.length p1c), .int .i64 r1.hook]) rfl (by kernel_rfl) (fun _ _ _ h => h) (by rfl) (by assumption) ?_ ?_
       ·intro w5 hSw
        obtain ⟨⟨s0, s1, s2, s3, s4, s5, s6, s7⟩, u0, u1, u2, u3, u4, u5, u6, u7⟩ := hSw
        go_simp
        try (intro hneg; omega)
       try simp only [Act.put, lyt]
       refine rd1 11 (by kernel_rfl) rfl fun K1 hK1 => ?_
       go_simp
       refine (hcp _).mono ?_
       rintro e Z ⟨rfl, hZ⟩
       have bZ0 : Below W0.heap.size W0 Z := hbx.drew.trans (hZ.mono hbx.size)
       have hnxZ := (hnx.up (Below.refl wr.heap.size wr).drew).up hZ
       have hWZ : W0.heap.size ≤ Z.heap.size := bZ0.size
       refine hK1.out _ _ (fB _ bZ0) (fun _ => ?_)
       clear hK1 hcp
       try simp only [Act.put, lyt]
       by_cases hc0 : cv < 0
       ·skip
        refine rd1 12 (by kernel_rfl) rfl fun K2 hK2 => ?_
        go_simp
        refine hK2.out _ _ (fB _ bZ0) (fun _ => ?_)
        clear hK2
        try simp only [Act.put, lyt]
        refine rd1 13 (by kernel_rfl) rfl fun K3 hK3 => ?_
        go_simp
        refine hK3.out _ _ (fB _ bZ0) (fun _ => ?_)
        clear hK3
        try simp only [Act.put, lyt]
        refine wpAnyH_done (by kernel_rfl) ?_ _
        clear hS
        have fLD : ∀ V, Below Z.heap.size Z V → _ := fun V hV => fL V (hbl.trans ((bZ0.trans (hV.mono bZ0.size)).mono hbl.size))
        have fLDT : ∀ {V}, Below W0.heap.size W0 V → _ := fun {V} hV => fL V (hbl.trans (hV.mono hbl.size))
        go_upto_region 11 with fail
        refine wp_region_held_drew (S := fun w' : World => At8 w' B (off + i * 8) x (.slice nax x.names.length ncx) (.slice pax x.parts.length pcx) ∧ At8 w' B (off + (i + 1) * 8) y (.slice nay y.names.length ncy) (.slice pay y.parts.length pcy)) (by kernel_rfl) (fLD _ (Below.refl _ _).drew) ?_
        intro hS
        refine tk 0 (.slice na (flat2 nx).length nc) rfl (by kernel_rfl) (fun _ _ _ h => h) (by rfl) (by assumption) ?_ ?_
        ·intro w5 hSw
         obtain ⟨⟨s0, s1, s2, s3, s4, s5, s6, s7⟩, u0, u1, u2, u3, u4, u5, u6, u7⟩ := hSw
         go_simp
         try (intro hneg; omega)
        try simp only [Act.put, lyt]
        refine tk 1 (.slice (some ⟨B, off, none⟩) L c) rfl (by kernel_rfl) (fun _ _ _ h => h) (by rfl) (by assumption) ?_ ?_
        ·intro w5 hSw
         obtain ⟨⟨s0, s1, s2, s3, s4, s5, s6, s7⟩, u0, u1, u2, u3, u4, u5, u6, u7⟩ := hSw
         go_simp
         try (intro hneg; omega)
        try simp only [Act.put, lyt]
        refine tk 2 (.int .i64 (i : Nat)) rfl (by kernel_rfl) (fun _ _ _ h => h) (by rfl) (by assumption) ?_ ?_
        ·intro w5 hSw
         obtain ⟨⟨s0, s1, s2, s3, s4, s5, s6, s7⟩, u0, u1, u2, u3, u4, u5, u6, u7⟩ := hSw
         go_simp
         try (intro hneg; omega)
        try simp only [Act.put, lyt]
        refine tk 3 (.pointer (some ⟨B, off + i * 8, none⟩)) rfl (by kernel_rfl) (fun _ _ _ h => h) (by rfl) (by assumption) ?_ ?_
        ·intro w5 hSw
         obtain ⟨⟨s0, s1, s2, s3, s4, s5, s6, s7⟩, u0, u1, u2, u3, u4, u5, u6, u7⟩ := hSw
         go_simp
         try (intro hneg; omega)
        try simp only [Act.put, lyt]
        refine tk 4 (.agg #[.int .i64 x.kind, .string x.ty, .int .u64 x.bits, .int .u64 x.imag, .string x.text, (.slice nax x.names.length ncx), (.slice pax x.parts.length pcx), .int .i64 x.hook]) rfl (by kernel_rfl) (fun _ _ _ h => h) (by rfl) (by assumption) ?_ ?_
        ·intro w5 hSw
         obtain ⟨⟨s0, s1, s2, s3, s4, s5, s6, s7⟩, u0, u1, u2, u3, u4, u5, u6, u7⟩ := hSw
         go_simp
         try (intro hneg; omega)
        try simp only [Act.put, lyt]
        refine tk 5 (.slice (some ⟨B, off, none⟩) L c) rfl (by kernel_rfl) (fun _ _ _ h => h) (by rfl) (by assumption) ?_ ?_
        ·intro w5 hSw
         obtain ⟨⟨s0, s1, s2, s3, s4, s5, s6, s7⟩, u0, u1, u2, u3, u4, u5, u6, u7⟩ := hSw
         go_simp
         try (intro hneg; omega)
        try simp only [Act.put, lyt]
        refine tk 6 (.int .i64 (i : Nat)) rfl (by kernel_rfl) (fun _ _ _ h => h) (by rfl) (by assumption) ?_ ?_
        ·intro w5 hSw
         obtain ⟨⟨s0, s1, s2, s3, s4, s5, s6, s7⟩, u0, u1, u2, u3, u4, u5, u6, u7⟩ := hSw
         go_simp
         try (intro hneg; omega)
        try simp only [Act.put, lyt]
        refine tk 7 (.int .i64 ((i : Int) + 1)) rfl (by kernel_rfl) (fun _ _ _ h => h) (by rfl) (by assumption) ?_ ?_
        ·intro w5 hSw
         obtain ⟨⟨s0, s1, s2, s3, s4, s5, s6, s7⟩, u0, u1, u2, u3, u4, u5, u6, u7⟩ := hSw
         go_simp
         try (intro hneg; omega)
        try simp only [Act.put, lyt]
        refine tk 8 (.pointer (some ⟨B, off + (i + 1) * 8, none⟩)) rfl (by kernel_rfl) (fun _ _ _ h => h) (by rfl) (by assumption) ?_ ?_
        ·intro w5 hSw
         obtain ⟨⟨s0, s1, s2, s3, s4, s5, s6, s7⟩, u0, u1, u2, u3, u4, u5, u6, u7⟩ := hSw
         go_simp
         try (intro hneg; omega)
        try simp only [Act.put, lyt]
        refine tk 9 (.agg #[.int .i64 y.kind, .string y.ty, .int .u64 y.bits, .int .u64 y.imag, .string y.text, (.slice nay y.names.length ncy), (.slice pay y.parts.length pcy), .int .i64 y.hook]) rfl (by kernel_rfl) (fun _ _ _ h => h) (by rfl) (by assumption) ?_ ?_
        ·intro w5 hSw
         obtain ⟨⟨s0, s1, s2, s3, s4, s5, s6, s7⟩, u0, u1, u2, u3, u4, u5, u6, u7⟩ := hSw
         go_simp
         try (intro hneg; omega)
        try simp only [Act.put, lyt]
        refine rd1 10 (by kernel_rfl) rfl fun K1 hK1 => ?_
        go_simp
        refine hK1.out _ _ (fLD _ (((Below.refl _ _).alloc (Nat.le_refl _) _).drew)) (fun _ => ?_)
        clear hK1
        try simp only [Act.put, lyt]
        refine rd1 11 (by kernel_rfl) rfl fun K2 hK2 => ?_
        rw [if_pos (by rfl)]
        refine wp_appE _ _ rfl (RowE.up hnxZ (Below.refl _ _).drew) [(x, (.slice nax x.names.length ncx), (.slice pax x.parts.length pcx)), (y, (.slice nay y.names.length ncy), (.slice pay y.parts.length pcy))] (fun t ht => (List.mem_cons.1 ht).elim (fun e => by rw [e]; exact hPx) (fun ht => by rw [List.mem_singleton.1 ht]; exact hPy)) (by intro t ht; simp at ht; rcases ht with rfl | rfl <;> exact ⟨rfl, rfl⟩) rfl rfl rfl (by simp; omega) hWZ ?_
        rintro v2 w7 ⟨ao2, c2, rfl⟩ R2 B2
        have b7 := B2 _ _ (bZ0.drew) (Nat.le_refl _)
        refine hK2.out _ _ (fLDT b7) (fun _ => ?_)
        clear hK2
        try simp only [Act.put, lyt]
        refine rd1 12 (by kernel_rfl) rfl fun K3 hK3 => ?_
        go_simp
        refine hK3.out _ _ (fLDT b7) (fun _ => ?_)
        clear hK3
        try simp only [Act.put, lyt]
        refine wpAnyH_done (by kernel_rfl) ?_ _
        clear hS
        have hW7 : W0.heap.size ≤ w7.heap.size := b7.size
        have e7 : flat2 (nx ++ [(x, y)]) = flat2 nx ++ [x, y] := flat2_app _ _
        rw [show [(x, (Value.slice nax x.names.length ncx), (Value.slice pax x.parts.length pcx)), (y, (Value.slice nay y.names.length ncy), (Value.slice pay y.parts.length pcy))].map (·.1) = [x, y] from rfl, ← e7] at R2
        have fOD : ∀ V, Below w7.heap.size w7 V → _ := fun V hV => fO V (b7.trans (hV.mono b7.size))
        have fODT : ∀ {V}, Below W0.heap.size W0 V → _ := fun {V} hV => fO V hV
        go_upto_region 13 with fail
        refine wp_region_held_drew (S := fun w' : World => At8 w' g (k * 8) r1 (.slice n1a r1.names.length n1c) (.slice p1a r1.parts.length p1c) ∧ At8 w' g ((k + 1) * 8) r2 (.slice n2a r2.names.length n2c) (.slice p2a r2.parts.length p2c)) (by kernel_rfl) (fOD _ (Below.refl _ _).drew) ?_
        intro hS
        refine tk 0 (.slice ao2 ((flat2 nx).length + 2) c2) rfl (by kernel_rfl) (fun _ _ _ h => h) (by rfl) (by assumption) ?_ ?_
        ·intro w5 hSw
         obtain ⟨⟨s0, s1, s2, s3, s4, s5, s6, s7⟩, u0, u1, u2, u3, u4, u5, u6, u7⟩ := hSw
         go_simp
         try (intro hneg; omega)
        try simp only [Act.put, lyt]
        refine tk 1 (.slice (some ⟨g, 0, none⟩) OL oc) rfl (by kernel_rfl) (fun _ _ _ h => h) (by rfl) (by assumption) ?_ ?_
        ·intro w5 hSw
         obtain ⟨⟨s0, s1, s2, s3, s4, s5, s6, s7⟩, u0, u1, u2, u3, u4, u5, u6, u7⟩ := hSw
         go_simp
         try (intro hneg; omega)
        try simp only [Act.put, lyt]
        refine tk 2 (.int .i64 (k : Nat)) rfl (by kernel_rfl) (fun _ _ _ h => h) (by rfl) (by assumption) ?_ ?_
        ·intro w5 hSw
         obtain ⟨⟨s0, s1, s2, s3, s4, s5, s6, s7⟩, u0, u1, u2, u3, u4, u5, u6, u7⟩ := hSw
         go_simp
         try (intro hneg; omega)
        try simp only [Act.put, lyt]
        refine tk 3 (.pointer (some ⟨g, k * 8, none⟩)) rfl (by kernel_rfl) (fun _ _ _ h => h) (by rfl) (by assumption) ?_ ?_
        ·intro w5 hSw
         obtain ⟨⟨s0, s1, s2, s3, s4, s5, s6, s7⟩, u0, u1, u2, u3, u4, u5, u6, u7⟩ := hSw
         go_simp
         try (intro hneg; omega)
        try simp only [Act.put, lyt]
        refine tk 4 (.agg #[.int .i64 r1.kind, .string r1.ty, .int .u64 r1.bits, .int .u64 r1.imag, .string r1.text, (.slice n1a r1.names.length n1c), (.slice p1a r1.parts.length p1c), .int .i64 r1.hook]) rfl (by kernel_rfl) (fun _ _ _ h => h) (by rfl) (by assumption) ?_ ?_
        ·intro w5 hSw
         obtain ⟨⟨s0, s1, s2, s3, s4, s5, s6, s7⟩, u0, u1, u2, u3, u4, u5, u6, u7⟩ := hSw
         go_simp
         try (intro hneg; omega)
        try simp only [Act.put, lyt]
        refine tk 5 (.slice (some ⟨g, 0, none⟩) OL oc) rfl (by kernel_rfl) (fun _ _ _ h => h) (by rfl) (by assumption) ?_ ?_
        ·intro w5 hSw
         obtain ⟨⟨s0, s1, s2, s3, s4, s5, s6, s7⟩, u0, u1, u2, u3, u4, u5, u6, u7⟩ := hSw
         go_simp
         try (intro hneg; omega)
        try simp only [Act.put, lyt]
        refine tk 6 (.int .i64 (k : Nat)) rfl (by kernel_rfl) (fun _ _ _ h => h) (by rfl) (by assumption) ?_ ?_
        ·intro w5 hSw
         obtain ⟨⟨s0, s1, s2, s3, s4, s5, s6, s7⟩, u0, u1, u2, u3, u4, u5, u6, u7⟩ := hSw
         go_simp
         try (intro hneg; omega)
        try simp only [Act.put, lyt]
        refine tk 7 (.int .i64 ((k : Int) + 1)) rfl (by kernel_rfl) (fun _ _ _ h => h) (by rfl) (by assumption) ?_ ?_
        ·intro w5 hSw
         obtain ⟨⟨s0, s1, s2, s3, s4, s5, s6, s7⟩, u0, u1, u2, u3, u4, u5, u6, u7⟩ := hSw
         go_simp
         try (intro hneg; omega)
        try simp only [Act.put, lyt]
        refine tk 8 (.pointer (some ⟨g, (k + 1) * 8, none⟩)) rfl (by kernel_rfl) (fun _ _ _ h => h) (by rfl) (by assumption) ?_ ?_
        ·intro w5 hSw
         obtain ⟨⟨s0, s1, s2, s3, s4, s5, s6, s7⟩, u0, u1, u2, u3, u4, u5, u6, u7⟩ := hSw
         go_simp
         try (intro hneg; omega)
        try simp only [Act.put, lyt]
        refine tk 9 (.agg #[.int .i64 r2.kind, .string r2.ty, .int .u64 r2.bits, .int .u64 r2.imag, .string r2.text, (.slice n2a r2.names.length n2c), (.slice p2a r2.parts.length p2c), .int .i64 r2.hook]) rfl (by kernel_rfl) (fun _ _ _ h => h) (by rfl) (by assumption) ?_ ?_
        ·intro w5 hSw
         obtain ⟨⟨s0, s1, s2, s3, s4, s5, s6, s7⟩, u0, u1, u2, u3, u4, u5, u6, u7⟩ := hSw
         go_simp
         try (intro hneg; omega)
        try simp only [Act.put, lyt]
        refine rd1 10 (by kernel_rfl) rfl fun K1 hK1 => ?_
        go_simp
        refine hK1.out _ _ (fOD _ (((Below.refl _ _).alloc (Nat.le_refl _) _).drew)) (fun _ => ?_)
        clear hK1
        try simp only [Act.put, lyt]
        refine rd1 11 (by kernel_rfl) rfl fun K2 hK2 => ?_
        rw [if_pos (by rfl)]
        refine wp_appE _ _ rfl (RowE.up R2 (Below.refl _ _).drew) [(r1, (.slice n1a r1.names.length n1c), (.slice p1a r1.parts.length p1c)), (r2, (.slice n2a r2.names.length n2c), (.slice p2a r2.parts.length p2c))] (fun t ht => (List.mem_cons.1 ht).elim (fun e => by rw [e]; exact hP1) (fun ht => by rw [List.mem_singleton.1 ht]; exact hP2)) (by intro t ht; simp at ht; rcases ht with rfl | rfl <;> exact ⟨rfl, rfl⟩) rfl rfl rfl (by rw [e7, List.length_append]; simp; omega) hW7 ?_
        rintro v3 w8 ⟨ao3, c3, rfl⟩ R3 B3
        have b8 := B3 _ _ (b7.drew) (Nat.le_refl _)
        refine hK2.out _ _ (fODT b8) (fun _ => ?_)
        clear hK2
        try simp only [Act.put, lyt]
        refine rd1 12 (by kernel_rfl) rfl fun K3 hK3 => ?_
        go_simp
        refine hK3.out _ _ (fODT b8) (fun _ => ?_)
        clear hK3
        try simp only [Act.put, lyt]
        refine wpAnyH_done (by kernel_rfl) ?_ _
        clear hS
        have HI2 := HI.out.new Hr.out (by rw [← HCV.out]; exact hc0)
        have e8 : flat2 (nx ++ [(x, y), (r1, r2)]) = flat2 (nx ++ [(x, y)]) ++ [r1, r2] := by rw [show nx ++ [(x, y), (r1, r2)] = (nx ++ [(x, y)]) ++ [(r1, r2)] by simp]; exact flat2_app _ _
        rw [show [(r1, (Value.slice n1a r1.names.length n1c), (Value.slice p1a r1.parts.length p1c)), (r2, (Value.slice n2a r2.names.length n2c), (Value.slice p2a r2.parts.length p2c))].map (·.1) = [r1, r2] from rfl, ← e8] at R3
        have HIx : Hid (InvS (x, y) o (q + 1) true (nx ++ [(x, y), (r1, r2)])) := HI2
        have e9 : (flat2 (nx ++ [(x, y)])).length = (flat2 nx).length + 2 := by rw [e7, List.length_append]; rfl
        have R9 : RowE P W0.heap.size w8 (.slice ao3 ((flat2 nx).length + 2 + 2) c3) (flat2 (nx ++ [(x, y), (r1, r2)])) := by rw [← e9]; exact R3
        clear HI HI2 hnxZ hnx e7 e8 e9 fO fLD fLDT fOD fODT R2 R3
        go_wp2
        go_roundg (gk - 1)
        case measure => omega
        case rel => exact ⟨q + 1, k + 2, nx ++ [(x, y), (r1, r2)], true, rfl, by go_num, Hk.out.1, Hk.out.2, by omega, HIx, R9, b8⟩
       ·skip
        refine rd1 12 (by kernel_rfl) rfl fun K2 hK2 => ?_
        go_simp
        refine hK2.out _ _ (fB _ bZ0) (fun _ => ?_)
        clear hK2
        try simp only [Act.put, lyt]
        refine rd1 13 (by kernel_rfl) rfl fun K3 hK3 => ?_
        go_simp
        refine hK3.out _ _ (fB _ bZ0) (fun _ => ?_)
        clear hK3
        try simp only [Act.put, lyt]
        refine wpAnyH_done (by kernel_rfl) ?_ _
        clear hS
        have fOD : ∀ V, Below Z.heap.size Z V → _ := fun V hV => fO V (bZ0.trans (hV.mono bZ0.size))
        have fODT : ∀ {V}, Below W0.heap.size W0 V → _ := fun {V} hV => fO V hV
        go_upto_region 13 with fail
        refine wp_region_held_drew (S := fun w' : World => At8 w' g (k * 8) r1 (.slice n1a r1.names.length n1c) (.slice p1a r1.parts.length p1c) ∧ At8 w' g ((k + 1) * 8) r2 (.slice n2a r2.names.length n2c) (.slice p2a r2.parts.length p2c)) (by kernel_rfl) (fOD _ (Below.refl _ _).drew) ?_
        intro hS
        refine tk 0 (.slice na (flat2 nx).length nc) rfl (by kernel_rfl) (fun _ _ _ h => h) (by rfl) (by assumption) ?_ ?_
        ·intro w5 hSw
         obtain ⟨⟨s0, s1, s2, s3, s4, s5, s6, s7⟩, u0, u1, u2, u3, u4, u5, u6, u7⟩ := hSw
         go_simp
         try (intro hneg; omega)
        try simp only [Act.put, lyt]
        refine tk 1 (.slice (some ⟨g, 0, none⟩) OL oc) rfl (by kernel_rfl) (fun _ _ _ h => h) (by rfl) (by assumption) ?_ ?_
        ·intro w5 hSw
         obtain ⟨⟨s0, s1, s2, s3, s4, s5, s6, s7⟩, u0, u1, u2, u3, u4, u5, u6, u7⟩ := hSw
         go_simp
         try (intro hneg; omega)
        try simp only [Act.put, lyt]
        refine tk 2 (.int .i64 (k : Nat)) rfl (by kernel_rfl) (fun _ _ _ h => h) (by rfl) (by assumption) ?_ ?_
        ·intro w5 hSw
         obtain ⟨⟨s0, s1, s2, s3, s4, s5, s6, s7⟩, u0, u1, u2, u3, u4, u5, u6, u7⟩ := hSw
         go_simp
         try (intro hneg; omega)
        try simp only [Act.put, lyt]
        refine tk 3 (.pointer (some ⟨g, k * 8, none⟩)) rfl (by kernel_rfl) (fun _ _ _ h => h) (by rfl) (by assumption) ?_ ?_
        ·intro w5 hSw
         obtain ⟨⟨s0, s1, s2, s3, s4, s5, s6, s7⟩, u0, u1, u2, u3, u4, u5, u6, u7⟩ := hSw
         go_simp
         try (intro hneg; omega)
        try simp only [Act.put, lyt]
        refine tk 4 (.agg #[.int .i64 r1.kind, .string r1.ty, .int .u64 r1.bits, .int .u64 r1.imag, .string r1.text, (.slice n1a r1.names.length n1c), (.slice p1a r1.parts.length p1c), .int .i64 r1.hook]) rfl (by kernel_rfl) (fun _ _ _ h => h) (by rfl) (by assumption) ?_ ?_
        ·intro w5 hSw
         obtain ⟨⟨s0, s1, s2, s3, s4, s5, s6, s7⟩, u0, u1, u2, u3, u4, u5, u6, u7⟩ := hSw
         go_simp
         try (intro hneg; omega)
        try simp only [Act.put, lyt]
        refine tk 5 (.slice (some ⟨g, 0, none⟩) OL oc) rfl (by kernel_rfl) (fun _ _ _ h => h) (by rfl) (by assumption) ?_ ?_
        ·intro w5 hSw
         obtain ⟨⟨s0, s1, s2, s3, s4, s5, s6, s7⟩, u0, u1, u2, u3, u4, u5, u6, u7⟩ := hSw
         go_simp
         try (intro hneg; omega)
        try simp only [Act.put, lyt]
        refine tk 6 (.int .i64 (k : Nat)) rfl (by kernel_rfl) (fun _ _ _ h => h) (by rfl) (by assumption) ?_ ?_
        ·intro w5 hSw
         obtain ⟨⟨s0, s1, s2, s3, s4, s5, s6, s7⟩, u0, u1, u2, u3, u4, u5, u6, u7⟩ := hSw
         go_simp
         try (intro hneg; omega)
        try simp only [Act.put, lyt]
        refine tk 7 (.int .i64 ((k : Int) + 1)) rfl (by kernel_rfl) (fun _ _ _ h => h) (by rfl) (by assumption) ?_ ?_
        ·intro w5 hSw
         obtain ⟨⟨s0, s1, s2, s3, s4, s5, s6, s7⟩, u0, u1, u2, u3, u4, u5, u6, u7⟩ := hSw
         go_simp
         try (intro hneg; omega)
        try simp only [Act.put, lyt]
        refine tk 8 (.pointer (some ⟨g, (k + 1) * 8, none⟩)) rfl (by kernel_rfl) (fun _ _ _ h => h) (by rfl) (by assumption) ?_ ?_
        ·intro w5 hSw
         obtain ⟨⟨s0, s1, s2, s3, s4, s5, s6, s7⟩, u0, u1, u2, u3, u4, u5, u6, u7⟩ := hSw
         go_simp
         try (intro hneg; omega)
        try simp only [Act.put, lyt]
        refine tk 9 (.agg #[.int .i64 r2.kind, .string r2.ty, .int .u64 r2.bits, .int .u64 r2.imag, .string r2.text, (.slice n2a r2.names.length n2c), (.slice p2a r2.parts.length p2c), .int .i64 r2.hook]) rfl (by kernel_rfl) (fun _ _ _ h => h) (by rfl) (by assumption) ?_ ?_
        ·intro w5 hSw
         obtain ⟨⟨s0, s1, s2, s3, s4, s5, s6, s7⟩, u0, u1, u2, u3, u4, u5, u6, u7⟩ := hSw
         go_simp
         try (intro hneg; omega)
        try simp only [Act.put, lyt]
        refine rd1 10 (by kernel_rfl) rfl fun K1 hK1 => ?_
        go_simp
        refine hK1.out _ _ (fOD _ (((Below.refl _ _).alloc (Nat.le_refl _) _).drew)) (fun _ => ?_)
        clear hK1
        try simp only [Act.put, lyt]
        refine rd1 11 (by kernel_rfl) rfl fun K2 hK2 => ?_
        rw [if_pos (by rfl)]
        refine wp_appE _ _ rfl (RowE.up hnxZ (Below.refl _ _).drew) [(r1, (.slice n1a r1.names.length n1c), (.slice p1a r1.parts.length p1c)), (r2, (.slice n2a r2.names.length n2c), (.slice p2a r2.parts.length p2c))] (fun t ht => (List.mem_cons.1 ht).elim (fun e => by rw [e]; exact hP1) (fun ht => by rw [List.mem_singleton.1 ht]; exact hP2)) (by intro t ht; simp at ht; rcases ht with rfl | rfl <;> exact ⟨rfl, rfl⟩) rfl rfl rfl (by simp; omega) hWZ ?_
        rintro v4 w7 ⟨ao4, c4, rfl⟩ R4 B4
        have b7 := B4 _ _ (bZ0.drew) (Nat.le_refl _)
        refine hK2.out _ _ (fODT b7) (fun _ => ?_)
        clear hK2
        try simp only [Act.put, lyt]
        refine rd1 12 (by kernel_rfl) rfl fun K3 hK3 => ?_
        go_simp
        refine hK3.out _ _ (fODT b7) (fun _ => ?_)
        clear hK3
        try simp only [Act.put, lyt]
        refine wpAnyH_done (by kernel_rfl) ?_ _
        clear hS
        have HI2 := HI.out.on Hr.out (by rw [← HCV.out]; exact hc0)
        have e8 : flat2 (nx ++ [(r1, r2)]) = flat2 nx ++ [r1, r2] := flat2_app _ _
        rw [show [(r1, (Value.slice n1a r1.names.length n1c), (Value.slice p1a r1.parts.length p1c)), (r2, (Value.slice n2a r2.names.length n2c), (Value.slice p2a r2.parts.length p2c))].map (·.1) = [r1, r2] from rfl, ← e8] at R4
        have HIx : Hid (InvS (x, y) o (q + 1) false (nx ++ [(r1, r2)])) := HI2
        clear HI HI2 hnxZ hnx e8 fO fOD fODT
        go_wp2
        go_roundg (gk - 1)
        case measure => omega
        case rel => exact ⟨q + 1, k + 2, nx ++ [(r1, r2)], false, rfl, by go_num, Hk.out.1, Hk.out.2, by omega, HIx, R4, b7⟩
    ·have hlt2I : ¬ (k : Int) + 1 < OL := by omega
     have hqe : q = o.length := by omega
     have HJ : Hid (i + 2 ≤ 2 * (j + 1) ∧ 2 * (j + 1) ≤ i + 2) := by have := Hi.out; constructor <;> omega
     cases dn with
     | true =>
       have HF : Hid (nx = isrt ((prs2 l).take (j + 1))) := by
        show _ = _
        rw [HO2.out, (HI.out.1 rfl).1, hqe, List.take_length]
       have hfin := hnx.mono hbl.size
       clear HI hnx hcm2
       go_wp2
       go_roundg (G - 1)
       case measure => have := HGk.out; omega
       case rel => exact ⟨j + 1, i + 2, nx, by go_num, HJ.out.1, HJ.out.2, by omega, HF, hfin, hbw⟩
     | false =>
       have HF : Hid (nx ++ [(x, y)] = isrt ((prs2 l).take (j + 1))) := by
        show _ = _
        obtain ⟨n1, n2⟩ := HI.out.2 rfl
        rw [hqe, List.take_length] at n1 n2
        rw [HO2.out, ins_none _ _ n2, n1]
       have fLD : ∀ V, Below wr.heap.size wr V → _ := fun V hV => fL V (hbw.trans (hV.mono hbw.size))
       have fLDT : ∀ {V}, Below W0.heap.size W0 V → _ := fun {V} hV => fL V (hbl.trans (hV.mono hbl.size))
       clear HI hcm2
       go_upto_region 15 with fail
       refine wp_region_held_drew (S := fun w' : World => At8 w' B (off + i * 8) x (.slice nax x.names.length ncx) (.slice pax x.parts.length pcx) ∧ At8 w' B (off + (i + 1) * 8) y (.slice nay y.names.length ncy) (.slice pay y.parts.length pcy)) (by kernel_rfl) (fLD _ (Below.refl _ _).drew) ?_
       intro hS
       refine tk 0 (.slice na (flat2 nx).length nc) rfl (by kernel_rfl) (fun _ _ _ h => h) (by rfl) (by assumption) ?_ ?_
       ·intro w5 hSw
        obtain ⟨⟨s0, s1, s2, s3, s4, s5, s6, s7⟩, u0, u1, u2, u3, u4, u5, u6, u7⟩ := hSw
        go_simp
        try (intro hneg; omega)
       try simp only [Act.put, lyt]
       refine tk 1 (.slice (some ⟨B, off, none⟩) L c) rfl (by kernel_rfl) (fun _ _ _ h => h) (by rfl) (by assumption) ?_ ?_
       ·intro w5 hSw
        obtain ⟨⟨s0, s1, s2, s3, s4, s5, s6, s7⟩, u0, u1, u2, u3, u4, u5, u6, u7⟩ := hSw
        go_simp
        try (intro hneg; omega)
       try simp only [Act.put, lyt]
       refine tk 2 (.int .i64 (i : Nat)) rfl (by kernel_rfl) (fun _ _ _ h => h) (by rfl) (by assumption) ?_ ?_
       ·intro w5 hSw
        obtain ⟨⟨s0, s1, s2, s3, s4, s5, s6, s7⟩, u0, u1, u2, u3, u4, u5, u6, u7⟩ := hSw
        go_simp
        try (intro hneg; omega)
       try simp only [Act.put, lyt]
       refine tk 3 (.pointer (some ⟨B, off + i * 8, none⟩)) rfl (by kernel_rfl) (fun _ _ _ h => h) (by rfl) (by assumption) ?_ ?_
       ·intro w5 hSw
        obtain ⟨⟨s0, s1, s2, s3, s4, s5, s6, s7⟩, u0, u1, u2, u3, u4, u5, u6, u7⟩ := hSw
        go_simp
        try (intro hneg; omega)
       try simp only [Act.put, lyt]
       refine tk 4 (.agg #[.int .i64 x.kind, .string x.ty, .int .u64 x.bits, .int .u64 x.imag, .string x.text, (.slice nax x.names.length ncx), (.slice pax x.parts.length pcx), .int .i64 x.hook]) rfl (by kernel_rfl) (fun _ _ _ h => h) (by rfl) (by assumption) ?_ ?_
       ·intro w5 hSw
        obtain ⟨⟨s0, s1, s2, s3, s4, s5, s6, s7⟩, u0, u1, u2, u3, u4, u5, u6, u7⟩ := hSw
        go_simp
        try (intro hneg; omega)
       try simp only [Act.put, lyt]
       refine tk 5 (.slice (some ⟨B, off, none⟩) L c) rfl (by kernel_rfl) (fun _ _ _ h => h) (by rfl) (by assumption) ?_ ?_
       ·intro w5 hSw
        obtain ⟨⟨s0, s1, s2, s3, s4, s5, s6, s7⟩, u0, u1, u2, u3, u4, u5, u6, u7⟩ := hSw
        go_simp
        try (intro hneg; omega)
       try simp only [Act.put, lyt]
       refine tk 6 (.int .i64 (i : Nat)) rfl (by kernel_rfl) (fun _ _ _ h => h) (by rfl) (by assumption) ?_ ?_
       ·intro w5 hSw
        obtain ⟨⟨s0, s1, s2, s3, s4, s5, s6, s7⟩, u0, u1, u2, u3, u4, u5, u6, u7⟩ := hSw
        go_simp
        try (intro hneg; omega)
       try simp only [Act.put, lyt]
       refine tk 7 (.int .i64 ((i : Int) + 1)) rfl (by kernel_rfl) (fun _ _ _ h => h) (by rfl) (by assumption) ?_ ?_
       ·intro w5 hSw
        obtain ⟨⟨s0, s1, s2, s3, s4, s5, s6, s7⟩, u0, u1, u2, u3, u4, u5, u6, u7⟩ := hSw
        go_simp
        try (intro hneg; omega)
       try simp only [Act.put, lyt]
       refine tk 8 (.pointer (some ⟨B, off + (i + 1) * 8, none⟩)) rfl (by kernel_rfl) (fun _ _ _ h => h) (by rfl) (by assumption) ?_ ?_
       ·intro w5 hSw
        obtain ⟨⟨s0, s1, s2, s3, s4, s5, s6, s7⟩, u0, u1, u2, u3, u4, u5, u6, u7⟩ := hSw
        go_simp
        try (intro hneg; omega)
       try simp only [Act.put, lyt]
       refine tk 9 (.agg #[.int .i64 y.kind, .string y.ty, .int .u64 y.bits, .int .u64 y.imag, .string y.text, (.slice nay y.names.length ncy), (.slice pay y.parts.length pcy), .int .i64 y.hook]) rfl (by kernel_rfl) (fun _ _ _ h => h) (by rfl) (by assumption) ?_ ?_
       ·intro w5 hSw
        obtain ⟨⟨s0, s1, s2, s3, s4, s5, s6, s7⟩, u0, u1, u2, u3, u4, u5, u6, u7⟩ := hSw
        go_simp
        try (intro hneg; omega)
       try simp only [Act.put, lyt]
       refine rd1 10 (by kernel_rfl) rfl fun K1 hK1 => ?_
       go_simp
       refine hK1.out _ _ (fLD _ (((Below.refl _ _).alloc (Nat.le_refl _) _).drew)) (fun _ => ?_)
       clear hK1
       try simp only [Act.put, lyt]
       refine rd1 11 (by kernel_rfl) rfl fun K2 hK2 => ?_
       rw [if_pos (by rfl)]
       refine wp_appE _ _ rfl (RowE.up hnx (Below.refl _ _).drew) [(x, (.slice nax x.names.length ncx), (.slice pax x.parts.length pcx)), (y, (.slice nay y.names.length ncy), (.slice pay y.parts.length pcy))] (fun t ht => (List.mem_cons.1 ht).elim (fun e => by rw [e]; exact hPx) (fun ht => by rw [List.mem_singleton.1 ht]; exact hPy)) (by intro t ht; simp at ht; rcases ht with rfl | rfl <;> exact ⟨rfl, rfl⟩) rfl rfl rfl (by simp; omega) hW0r ?_
       rintro v5 w7 ⟨ao5, c5, rfl⟩ R5 B5
       have b7 := B5 _ _ (hbx.drew) (Nat.le_refl _)
       refine hK2.out _ _ (fLDT b7) (fun _ => ?_)
       clear hK2
       try simp only [Act.put, lyt]
       refine rd1 12 (by kernel_rfl) rfl fun K3 hK3 => ?_
       go_simp
       refine hK3.out _ _ (fLDT b7) (fun _ => ?_)
       clear hK3
       try simp only [Act.put, lyt]
       refine wpAnyH_done (by kernel_rfl) ?_ _
       clear hS
       have e8 : flat2 (nx ++ [(x, y)]) = flat2 nx ++ [x, y] := flat2_app _ _
       rw [show [(x, (Value.slice nax x.names.length ncx), (Value.slice pax x.parts.length pcx)), (y, (Value.slice nay y.names.length ncy), (Value.slice pay y.parts.length pcy))].map (·.1) = [x, y] from rfl, ← e8] at R5
       have hfin := R5.mono hbl.size
       have hbw7 := hbl.trans (b7.mono hbl.size)
       clear hnx e8 fL fLD fLDT R5
       go_wp2
       go_roundg (G - 1)
       case measure => have := HGk.out; omega
       case rel => exact ⟨j + 1, i + 2, nx ++ [(x, y)], by go_num, HJ.out.1, HJ.out.2, by omega, HF, hfin, hbw7⟩
  ·have hltI : ¬ (i : Int) + 1 < L := by omega
   have HF : Hid (o = isrt (prs2 l)) := by
    show _ = _
    rw [HO.out, List.take_of_length_le (by omega)]
   clear HO hcell hcmp hofl hol
   go_wp2
   go_ret
   exact ⟨hbl, _, rfl, by rw [← HF.out]; exact hrow⟩
end Go.Proofs.YtlgieoabellbmaaGreatDoor
