/- The document's In of whatever is right; its twice. -/
import Derived.Test.YtlgieoabellbmaaGreatDoorVDocN
namespace Go.Proofs.YtlgieoabellbmaaGreatDoor
open Go.RowKit
set_option linter.unusedVariables false
set_option linter.unusedSimpArgs false
theorem cmpP_in {l : List D} (hk : ∀ (i : Nat) (a : D), l[2 * i]? = some a → keyB a.kind = true) {p q : D × D} (hp : p ∈ prs2 l) (hq : q ∈ prs2 l) : dcmp (inF p.1) (inF q.1) = cmpP p q ∧ cmpP (inF p.1, inF p.2) (inF q.1, inF q.2) = cmpP p q := by
 have k1 := prs2_key hk hp
 have k2 := prs2_key hk hq
 constructor
 ·rw [inF_flat _ (key_le k1), inF_flat _ (key_le k2)]
  exact rkF_cmp _ _ k1 k2
 ·unfold cmpP
  rw [rkF_in _ k1, rkF_in _ k2]
theorem any_cong {α : Type} {f g : α → Bool} : ∀ {l : List α}, (∀ x ∈ l, f x = g x) → l.any f = l.any g
 | [], _ => rfl
 | x :: t, h => by rw [List.any_cons, List.any_cons, h x (List.mem_cons_self ..), any_cong fun y hy => h y (List.mem_cons_of_mem _ hy)]
theorem dupM_map {l : List D} (hk : ∀ (i : Nat) (a : D), l[2 * i]? = some a → keyB a.kind = true) : dupM (l.map inF) = dupM l := by
 unfold dupM
 rw [prs2_map]
 have : ∀ m : List (D × D), (∀ p ∈ m, p ∈ prs2 l) → dupL (m.map (Prod.map inF inF)) = dupL m := by
  intro m
  induction m with
  | nil => intro _; rfl
  | cons p t ih =>
    intro hm
    rw [List.map_cons, dupL, dupL, ih fun q hq => hm q (List.mem_cons_of_mem _ hq), List.any_map]
    congr 1
    refine any_cong fun q hq => ?_
    show decide (cmpP (inF p.1, inF p.2) (inF q.1, inF q.2) = 0) = decide (cmpP p q = 0)
    rw [(cmpP_in hk (hm p (List.mem_cons_self ..)) (hm q (List.mem_cons_of_mem _ hq))).2]
 exact this _ fun p hp => hp
theorem inF_great {d : D} (hk : ¬ d.kind ≤ 17) : inF d = ⟨d.kind, d.ty, inBits d.kind d.bits, 0, ⟨#[]⟩, if d.kind = 18 then d.names else [], if d.kind = 21 then flat2 (srt (d.parts.map inF)) else if great d.kind then d.parts.map inF else [], d.hook⟩ := by
 rw [inF_eq, if_neg (by omega)]
 have e1 : inImag d.kind d.imag = 0 := by unfold inImag; rw [if_neg (by omega), if_neg (by omega)]
 have e2 : inText d.kind d.text = ⟨#[]⟩ := by unfold inText; rw [if_neg (by omega)]
 rw [e1, e2]
theorem oin_any : ∀ (n : Nat) (d : D), Good8 d → dupA d = false → InR n d := by
 intro n
 induction n with
 | zero => intro d _ _ V nv pv h; exact h.elim
 | succ n ih =>
   intro d hg hdu V nv pv hr
   have hs := hg.self
   have hfit := hs.fit
   obtain ⟨na, nc, pa, pc, rfl, rfl⟩ := hr.slices
   by_cases hk : d.kind ≤ 17
   ·refine (oin_flat d na pa _ nc _ pc V hfit.2.1.1 hfit.2.1.2 hfit.2.2.1.1 hfit.2.2.1.2 hs.lo hk).mono ?_
    rintro e W' ⟨rfl, hb⟩
    rw [← inF_flat d hk]
    refine ⟨hb, _, _, rfl, flat_rd (fit_inF hs.fit) ?_ ?_⟩
    ·rw [inF_names, if_neg (by omega)]
    ·rw [inF_flat d hk]
     unfold inFlat
     split <;> rfl
   ·have hgr : great d.kind = true := by have := hs.hi; simp [great]; omega
    have hfew := hs.few hgr
    have h22 := hs.hi
    have hde := dupA_eq d
    rw [hdu, hgr, Bool.true_and] at hde
    have hd1 : dup1 d = false ∧ d.parts.any dupA = false := Bool.or_eq_false_iff.1 hde.symm
    have hrec : ∀ x ∈ d.parts, InR n x := fun x hx => ih x (hg.part hgr hx) (by
     cases h : dupA x with
     | false => rfl
     | true => rw [List.any_eq_true.2 ⟨x, hx, h⟩] at hd1; cases hd1.2)
    have hF := inF_great hk
    have hfitF := fit_inF hs.fit
    have hnz := names_sz hs
    obtain ⟨-, hst, a', c', ep, -, -, hcell⟩ := hr
    obtain ⟨rfl, -, rfl⟩ := Value.slice.inj ep
    have hsS := hst.S
    have b0 : d.kind ≠ 22 → inBits d.kind d.bits = 0 := fun hne => by
     unfold inBits
     rw [if_neg (by omega), if_neg (by omega), if_neg (by omega), if_neg (by omega)]
    have hform := hs.form
    have hkey := key_of hform
    obtain ⟨kind, ty, bits, imag, text, names, parts, hook⟩ := d
    simp only at hk hfew h22 hd1 hrec hF hcell hsS b0 hform hgr
    have fin : ∀ (W' : World) (nv pv : Value) (b : Int) (ns : List ByteArray) (ps : List D), inF ⟨kind, ty, bits, imag, text, names, parts, hook⟩ = ⟨kind, ty, b, 0, ⟨#[]⟩, ns, ps, hook⟩ → Nm W' (fun b => V.heap.size ≤ b) nv ns → Pt n (fun b => V.heap.size ≤ b) W' pv ps → ∃ nv' pv', Ending.returned (Value.agg #[.int .i64 kind, .string ty, .int .u64 b, .int .u64 0, .string ⟨#[]⟩, nv, pv, .int .i64 hook]) = .returned (DV (inF ⟨kind, ty, bits, imag, text, names, parts, hook⟩) nv' pv') ∧ RdS (n + 1) (fun b => V.heap.size ≤ b) W' nv' pv' (inF ⟨kind, ty, bits, imag, text, names, parts, hook⟩) := by
     intro W' nv pv b ns ps e h1 h2
     refine ⟨nv, pv, by rw [e], RdS.mk hfitF hnz ?_ ?_⟩
     ·rw [e]; exact h1
     ·rw [e]; exact h2
    have hc : kind = 18 ∨ kind = 19 ∨ kind = 20 ∨ kind = 21 ∨ kind = 22 := by omega
    rcases hc with rfl | rfl | rfl | rfl | rfl
    ·have hnl : names.length = parts.length := by
      unfold frmB at hform
      simp at hform
      unfold fldB at hform
      simp at hform
      exact hform.2.1
     refine (oing_18 n ty bits imag text names parts hook na _ nc _ V hfew hsS (by omega) hrec hcell).mono ?_
     rintro e W' ⟨hb, nv, pv, rfl, h1, h2⟩
     exact ⟨hb, fin W' nv pv 0 names (parts.map inF) (by rw [hF, b0 (by decide)]; rfl) h1 h2⟩
    ·refine (oing_19 n ty bits imag text names parts hook na _ nc _ V hfew hrec hcell).mono ?_
     rintro e W' ⟨hb, nv, pv, rfl, h1, h2⟩
     exact ⟨hb, fin W' nv pv 0 [] (parts.map inF) (by rw [hF, b0 (by decide)]; rfl) h1 h2⟩
    ·refine (oing_20 n ty bits imag text names parts hook na _ nc _ V hfew hrec hcell).mono ?_
     rintro e W' ⟨hb, nv, pv, rfl, h1, h2⟩
     exact ⟨hb, fin W' nv pv 0 [] (parts.map inF) (by rw [hF, b0 (by decide)]; rfl) h1 h2⟩
    ·have hkk := hkey rfl
     have hev : parts.length % 2 = 0 := by
      unfold frmB at hform
      simp at hform
      unfold entB at hform
      simp at hform
      exact hform.2.2
     have hdm : dupM parts = false := by
      have := hd1.1
      unfold dup1 at this
      simpa using this
     have hcm : ∀ p ∈ prs2 (parts.map inF), ∀ q ∈ prs2 (parts.map inF), dcmp p.1 q.1 = cmpP p q := by
      intro p hp q hq
      rw [prs2_map] at hp hq
      obtain ⟨p0, hp0, rfl⟩ := List.mem_map.1 hp
      obtain ⟨q0, hq0, rfl⟩ := List.mem_map.1 hq
      obtain ⟨c1, c2⟩ := cmpP_in hkk hp0 hq0
      show dcmp (inF p0.1) (inF q0.1) = cmpP (inF p0.1, inF p0.2) (inF q0.1, inF q0.2)
      rw [c1, c2]
     refine (oing_21 n ty bits imag text names parts hook na _ nc _ V hfew hev hcm hrec hcell).mono ?_
     rintro e W' ⟨hb, nv, pv, rfl, h1, h2⟩
     exact ⟨hb, fin W' nv pv 0 [] _ (by rw [hF, b0 (by decide), ← isrt_srt (by rw [dupM_map hkk]; exact hdm)]; rfl) h1 h2⟩
    ·refine (oing_22 n ty bits imag text names parts hook na _ nc _ V hfew hrec hcell).mono ?_
     rintro e W' ⟨hb, nv, pv, rfl, h1, h2⟩
     exact ⟨hb, fin W' nv pv bits [] (parts.map inF) (by rw [hF]; rfl) h1 h2⟩
theorem dupL_snoc {l : List (D × D)} {y : D × D} (h : dupL l = false) (hy : ∀ x ∈ l, cmpP y x ≠ 0) : dupL (l ++ [y]) = false := by
 rw [dupL_pw, List.pairwise_append]
 refine ⟨(dupL_pw l).1 h, List.pairwise_singleton _ _, fun x hx z hz => ?_⟩
 rw [List.mem_singleton.1 hz]
 have := hy x hx
 have := cmpP_anti y x
 omega
theorem dup_two {l : List (D × D)} {i j : Nat} {p q : D × D} (hp : l[i]? = some p) (hq : l[j]? = some q) (hij : i < j) (h0 : cmpP q p = 0) : dupL l = true := by
 cases h : dupL l with
 | true => rfl
 | false =>
   have hw := (dupL_pw l).1 h
   have hi := List.getElem?_eq_some_iff.1 hp
   have hj := List.getElem?_eq_some_iff.1 hq
   have := List.pairwise_iff_getElem.1 hw i j hi.1 hj.1 hij
   rw [hi.2, hj.2] at this
   have := cmpP_anti q p
   omega
set_option maxRecDepth 1000000 in
set_option maxHeartbeats 4000000 in
theorem otwice_18 (d : D) (na pa : Option Addr) (nc pl pc : Nat) (w : World) (hk : d.kind = 18) (hs : Strs w (.slice na d.names.length nc) d.names) (hl : d.names.length ≤ 1000) :
  Calls Tryz.prog 65 #[DV d (.slice na d.names.length nc) (.slice pa pl pc)] w fun e w' => e = .returned (.bool (dupN d.names)) ∧ Below w.heap.size w w' := by
 obtain ⟨kind, ty, bits, imag, text, names, parts, hook⟩ := d
 simp only at hk hs hl ⊢
 subst hk
 obtain ⟨a', c', e', -, -, hcell⟩ := hs
 obtain ⟨rfl, -, rfl⟩ := Value.slice.inj e'
 clear e'
 obtain ⟨W1, hW1⟩ : ∃ W1, W1 = w.alloc (.cells #[.int .i64 18, .string ty, .int .u64 bits, .int .u64 imag, .string text, .slice na names.length nc, .slice pa pl pc, .int .i64 hook] 26) := ⟨_, rfl⟩
 have b1 : Below w.heap.size w W1 := by rw [hW1]; exact (Below.refl _ _).alloc (Nat.le_refl _) _
 have k0 : W1.cell? ⟨w.heap.size, 0, none⟩ = some (.int .i64 18) := by rw [hW1]; simp [go_sem]
 have k5 : W1.cell? ⟨w.heap.size, 5, none⟩ = some (.slice na names.length nc) := by rw [hW1]; simp [go_sem]
 have hc1 : ∀ (i : Nat) (s : ByteArray), names[i]? = some s → s.size ≤ maxLen ∧ ∃ b off, na = some ⟨b, off, none⟩ ∧ W1.cell? ⟨b, off + i, none⟩ = some (.string s) := fun i s hs => by
  obtain ⟨h1, b, off, h2, h3⟩ := hcell i s hs
  exact ⟨h1, b, off, h2, up_cell b1 h3⟩
 have hlI : (names.length : Int) ≤ 1000 := by omega
 clear hcell
 go_enter Tryz.func65, Tryz.ntmps65
 go_upto_region 1 with fail
 rw [← hW1]
 clear hW1
 go_wp2_with fail
 go_loopg [3, 4, 5, 14] names.length (fun g _ _ _ iv wr => ∃ (i : Nat), iv = .int .i64 (i : Nat) ∧ i + g = names.length ∧ wr = W1 ∧ Hid (dupTo names i = false))
 case atStart => exact ⟨0, rfl, by omega, rfl, rfl⟩
 case round =>
  obtain ⟨i, rfl, hig, hwr, HT⟩ := hrel
  subst hwr
  by_cases hlt : i < names.length
  ·have hltI : (i : Int) < names.length := by omega
   obtain ⟨x, hx⟩ : ∃ x, names[i]? = some x := ⟨_, List.getElem?_eq_getElem hlt⟩
   obtain ⟨hxz, b, off, rfl, cx⟩ := hc1 i x hx
   have hxzI : (x.size : Int) ≤ 9223372036854775807 := by unfold maxLen at hxz; omega
   have Hx : Hid (names[i]? = some x) := hx
   obtain ⟨G, hG⟩ : ∃ G, G = gk := ⟨_, rfl⟩
   have HGk : Hid (G = gk) := hG
   rw [← hG] at hig
   clear hG hx
   go_wp2_with fail
   go_loopg [5] i (fun g kv wx => ∃ (k : Nat), kv = .int .i64 (k : Nat) ∧ k + g = i ∧ wx = wr ∧ Hid ((names.take k).any (fun y => x.toList == y.toList) = false))
   case atStart => exact ⟨0, rfl, by omega, rfl, rfl⟩
   case round =>
    obtain ⟨k, rfl, hkg, hwx, HA⟩ := hrel
    subst hwx
    by_cases hlk : k < i
    ·have hlkI : (k : Int) < i := by omega
     have hlk2 : (k : Int) < names.length := by omega
     obtain ⟨y, hy⟩ : ∃ y, names[k]? = some y := ⟨_, List.getElem?_eq_getElem (by omega)⟩
     obtain ⟨hyz, b', off', e', cy⟩ := hc1 k y hy
     obtain ⟨rfl, rfl⟩ : b = b' ∧ off = off' := by
      have := Option.some.inj e'
      simp at this
      exact this
     have HA2 : Hid ((names.take (k + 1)).any (fun y => x.toList == y.toList) = ((names.take k).any (fun y => x.toList == y.toList) || (x.toList == y.toList))) := by
      show _ = _
      rw [List.take_add_one, hy]; simp
     have HY : Hid (names[k]? = some y) := hy
     clear e' hy
     by_cases hxy : (y.toList == x.toList) = true
     ·have HD : Hid (dupN names = true) := by
       show _ = _
       refine dupTo_bad names i names.length hlt ?_
       unfold dupAt
       rw [Hx.out]
       refine List.any_eq_true.2 ⟨y, ?_, by have := eq_of_beq hxy; rw [this]; simp⟩
       exact List.mem_of_getElem? (i := k) (by rw [List.getElem?_take, if_pos hlk]; exact HY.out)
      clear HA HA2 HT
      go_wp2
      go_ret
      exact ⟨by rw [HD.out]; rfl, b1⟩
     ·have hxy2 : (y.toList == x.toList) = false := by simpa using hxy
      have HA3 : Hid ((names.take (k + 1)).any (fun y => x.toList == y.toList) = false) := by
       show _ = _
       rw [HA2.out, HA.out, Bool.false_or]
       cases hq : (x.toList == y.toList) with
       | false => rfl
       | true => rw [eq_of_beq hq] at hxy2; simp at hxy2
      clear HA HA2 hxy
      go_wp2
      go_roundg (gk - 1)
      case measure => omega
      case rel => exact ⟨k + 1, by go_num, by omega, rfl, HA3⟩
    ·have hlkI : ¬ (k : Int) < i := by omega
     have hke : k = i := by omega
     have HT2 : Hid (dupTo names (i + 1) = false) := by
      show _ = _
      rw [dupTo_succ, HT.out, Bool.false_or]
      unfold dupAt
      rw [Hx.out]
      have := HA.out
      rw [hke] at this
      exact this
     clear HA HT
     go_wp2
     go_roundg (G - 1)
     case measure => have := HGk.out; omega
     case rel => exact ⟨i + 1, by go_num, by omega, rfl, HT2⟩
  ·have hltI : ¬ (i : Int) < names.length := by omega
   have HD : Hid (dupN names = false) := by
    show _ = _
    unfold dupN
    have : i = names.length := by omega
    rw [← this]
    exact HT.out
   clear HT hc1
   go_wp2
   go_ret
   exact ⟨by rw [HD.out]; rfl, b1⟩
theorem otwice_not (d : D) (na pa : Option Addr) (nl nc pl pc : Nat) (w : World) (hk : d.kind ≠ 18) (hk2 : d.kind ≠ 21) :
  Calls Tryz.prog 65 #[DV d (.slice na nl nc) (.slice pa pl pc)] w fun e w' => e = .returned (.bool false) ∧ Below w.heap.size w w' := by
 obtain ⟨kind, ty, bits, imag, text, names, parts, hook⟩ := d
 simp only at hk hk2
 have h1 : (kind == 18) = false := by simpa using hk
 have h2 : (kind == 21) = false := by simpa using hk2
 clear hk hk2
 go_enter Tryz.func65, Tryz.ntmps65
 go_wp2
 go_ret
 exact ⟨rfl, (Below.refl _ _).alloc (Nat.le_refl _) _⟩
set_option maxRecDepth 1000000 in
set_option maxHeartbeats 4000000 in
theorem otwice_21 (n : Nat) (d : D) (na pa : Option Addr) (nl nc pc : Nat) (w : World) (hk : d.kind = 21) (hl : d.parts.length ≤ 1000) (hev : d.parts.length % 2 = 0) (hkey : ∀ (i : Nat) (a : D), d.parts[2 * i]? = some a → keyB a.kind = true)
  (hcell : ∀ (i : Nat) (x : D), d.parts[i]? = some x → ∃ b off nv' pv', pa = some ⟨b, off, none⟩ ∧ At8 w b (off + i * 8) x nv' pv' ∧ RdC (n + 1) w nv' pv' x) :
  Calls Tryz.prog 65 #[DV d (.slice na nl nc) (.slice pa d.parts.length pc)] w fun e w' => e = .returned (.bool (dupM d.parts)) ∧ Below w.heap.size w w' := by
 obtain ⟨kind, ty, bits, imag, text, names, parts, hook⟩ := d
 simp only at hk hl hev hkey hcell ⊢
 subst hk
 obtain ⟨m, hm⟩ : ∃ m, parts.length = 2 * m := ⟨parts.length / 2, by omega⟩
 have hpl : (prs2 parts).length = m := by rw [prs2_len]; omega
 have HPL : Hid ((prs2 parts).length = m) := hpl
 have HM : Hid (parts.length = 2 * m) := hm
 obtain ⟨L, hL⟩ : ∃ L, parts.length = L := ⟨_, rfl⟩
 have hm500 : m ≤ 500 := by omega
 rw [hL] at hm ⊢
 have hLm1 : (L : Int) ≤ 2 * (m : Int) := by omega
 have hLm2 : 2 * (m : Int) ≤ L := by omega
 obtain ⟨W1, hW1⟩ : ∃ W1, W1 = w.alloc (.cells #[.int .i64 21, .string ty, .int .u64 bits, .int .u64 imag, .string text, .slice na nl nc, .slice pa L pc, .int .i64 hook] 26) := ⟨_, rfl⟩
 have b1 : Below w.heap.size w W1 := by rw [hW1]; exact (Below.refl _ _).alloc (Nat.le_refl _) _
 have k0 : W1.cell? ⟨w.heap.size, 0, none⟩ = some (.int .i64 21) := by rw [hW1]; simp [go_sem]
 have k6 : W1.cell? ⟨w.heap.size, 6, none⟩ = some (.slice pa L pc) := by rw [hW1]; simp [go_sem]
 clear hm hL hpl
 go_enter Tryz.func65, Tryz.ntmps65
 go_upto_region 1 with fail
 rw [← hW1]
 clear hW1
 go_wp2_with fail
 go_loopg [6, 7] m (fun g iv _ wr => ∃ (i j : Nat), iv = .int .i64 (i : Nat) ∧ i ≤ 2 * j ∧ 2 * j ≤ i ∧ j + g = m ∧ Hid (dupL ((prs2 parts).take j) = false) ∧ Below W1.heap.size W1 wr)
 case atStart => exact ⟨0, 0, rfl, Nat.le_refl _, Nat.le_refl _, by omega, rfl, Below.refl _ _⟩
 case round =>
  obtain ⟨i, j, rfl, hi1, hi2, hjg, HT, hbr⟩ := hrel
  have k6r := up_cell hbr k6
  have hiI1 : (i : Int) ≤ 2 * (j : Int) := by omega
  have hiI2 : 2 * (j : Int) ≤ i := by omega
  by_cases hlt : j < m
  ·have hltI : (i : Int) < L := by omega
   have hie : i = 2 * j := by omega
   have hpl2 := HM.out
   obtain ⟨x, hx⟩ : ∃ x, parts[i]? = some x := ⟨_, List.getElem?_eq_getElem (by omega)⟩
   obtain ⟨p, hp⟩ : ∃ p, (prs2 parts)[j]? = some p := ⟨_, List.getElem?_eq_getElem (by have := HPL.out; omega)⟩
   have hpx : p.1 = x := by
    have := (prs2_get _ _ _ hp).1
    rw [← hie, hx] at this
    exact (Option.some.inj this).symm
   obtain ⟨B, off, nvx, pvx, rfl, ax, hrx⟩ := hcell i x hx
   obtain ⟨nax, ncx, pax, pcx, rfl, rfl⟩ := hrx.slices
   have hkx := hkey j x (by rw [← hie]; exact hx)
   have hkx17 := key_le hkx
   have hkx0 : 0 ≤ x.kind := by simp [keyB] at hkx; omega
   have hfx := hrx.1
   have inx := fun V => oin_flat x nax pax x.names.length ncx x.parts.length pcx V hfx.2.1.1 hfx.2.1.2 hfx.2.2.1.1 hfx.2.2.1.2 hkx0 hkx17
   have Hp : Hid ((prs2 parts)[j]? = some p) := hp
   have Hpx : Hid (p.1 = x) := hpx
   have Hi : Hid (i ≤ 2 * j ∧ 2 * j ≤ i) := ⟨hi1, hi2⟩
   obtain ⟨G, hG⟩ : ∃ G, G = gk := ⟨_, rfl⟩
   have HGk : Hid (G = gk) := hG
   rw [← hG] at hjg
   have Hkx : Hid (keyB x.kind = true) := hkx
   have hiI : (i : Int) ≤ 1000 := by omega
   clear hG hx hp hpx hpl2 hie hkx hrx hi1 hi2 hkx0 hkx17 hfx
   go_wp2_with fail
   go_loopg [7] j (fun g kv wx => ∃ (k q : Nat), kv = .int .i64 (k : Nat) ∧ k ≤ 2 * q ∧ 2 * q ≤ k ∧ q + g = j ∧ Hid (∀ r ∈ (prs2 parts).take q, cmpP p r ≠ 0) ∧ Below W1.heap.size W1 wx)
   case atStart => exact ⟨0, 0, rfl, Nat.le_refl _, Nat.le_refl _, by omega, (fun r hr => by simp at hr), hbr⟩
   case round =>
    obtain ⟨k, q, rfl, hk1, hk2, hqg, HA, hbx⟩ := hrel
    have hkI1 : (k : Int) ≤ 2 * (q : Int) := by omega
    have hkI2 : 2 * (q : Int) ≤ k := by omega
    by_cases hlk : q < j
    ·have hlkI : (k : Int) < i := by omega
     have hlkL : (k : Int) < L := by omega
     have hke : k = 2 * q := by omega
     obtain ⟨y, hy⟩ : ∃ y, parts[k]? = some y := ⟨_, List.getElem?_eq_getElem (by have := HM.out; omega)⟩
     obtain ⟨r, hr⟩ : ∃ r, (prs2 parts)[q]? = some r := ⟨_, List.getElem?_eq_getElem (by have := HPL.out; omega)⟩
     have hry : r.1 = y := by
      have := (prs2_get _ _ _ hr).1
      rw [← hke, hy] at this
      exact (Option.some.inj this).symm
     obtain ⟨B', off', nvy, pvy, e', ay, hry2⟩ := hcell k y hy
     obtain ⟨rfl, rfl⟩ : B = B' ∧ off = off' := by
      have := Option.some.inj e'
      simp at this
      exact this
     obtain ⟨nay, ncy, pay, pcy, rfl, rfl⟩ := hry2.slices
     have hky := hkey q y (by rw [← hke]; exact hy)
     have hky17 := key_le hky
     have hky0 : 0 ≤ y.kind := by simp [keyB] at hky; omega
     have hfy := hry2.1
     have iny := fun V => oin_flat y nay pay y.names.length ncy y.parts.length pcy V hfy.2.1.1 hfy.2.1.2 hfy.2.2.1.1 hfy.2.2.1.2 hky0 hky17
     have hcp : ∀ V, Calls Tryz.prog 107 #[DV (inFlat x) (.slice none 0 0) (.slice none 0 0), DV (inFlat y) (.slice none 0 0) (.slice none 0 0)] V fun e w' => e = .returned (.int .i64 (cmpP p r)) ∧ Below V.heap.size V w' := fun V => by
      have e1 : (inFlat x).names.length = 0 ∧ (inFlat x).parts.length = 0 := by unfold inFlat; split <;> exact ⟨rfl, rfl⟩
      have e2 : (inFlat y).names.length = 0 ∧ (inFlat y).parts.length = 0 := by unfold inFlat; split <;> exact ⟨rfl, rfl⟩
      have := ocmp_any (inFlat x) (inFlat y) none none none none 0 0 0 0 V
      rw [e1.1, e1.2, e2.1, e2.2, rkF_cmp x y Hkx.out hky] at this
      unfold cmpP
      rw [Hpx.out, hry]
      exact this
     have Hr : Hid ((prs2 parts)[q]? = some r) := hr
     have f0 : ∀ V, Below W1.heap.size W1 V → (fun w' : World => w'.cell? ⟨w.heap.size, 6, none⟩ = some (.slice (some ⟨B, off, none⟩) L pc) ∧ At8 w' B (off + i * 8) x (.slice nax x.names.length ncx) (.slice pax x.parts.length pcx) ∧ At8 w' B (off + k * 8) y (.slice nay y.names.length ncy) (.slice pay y.parts.length pcy)) V := fun V hV => ⟨up_cell hV k6, ax.up (b1.trans (hV.mono b1.size)), ay.up (b1.trans (hV.mono b1.size))⟩
     have hkI : (k : Int) ≤ 1000 := by omega
     have Hk : Hid (k + 2 ≤ 2 * (q + 1) ∧ 2 * (q + 1) ≤ k + 2) := by constructor <;> omega
     obtain ⟨cv, hcv⟩ : ∃ cv, cmpP p r = cv := ⟨_, rfl⟩
     rw [hcv] at hcp
     have HCV : Hid (cmpP p r = cv) := hcv
     generalize inFlat x = fx at *
     generalize inFlat y = fy at *
     clear hy hr hry e' hry2 hky hky17 hky0 hfy hke hcv
     go_upto_region 18 with fail
     refine wp_region_held_drew (S := fun w' : World => w'.cell? ⟨w.heap.size, 6, none⟩ = some (.slice (some ⟨B, off, none⟩) L pc) ∧ At8 w' B (off + i * 8) x (.slice nax x.names.length ncx) (.slice pax x.parts.length pcx) ∧ At8 w' B (off + k * 8) y (.slice nay y.names.length ncy) (.slice pay y.parts.length pcy)) (by kernel_rfl) (f0 _ hbx.drew) ?_
     intro hS
     refine tk 0 (.pointer (some ⟨w.heap.size, 6, none⟩)) rfl (by kernel_rfl) (fun _ _ _ h => h) (by rfl) (by assumption) ?_ ?_
     ·intro w5 hSw
      obtain ⟨p6, ⟨s0, s1, s2, s3, s4, s5, s6, s7⟩, u0, u1, u2, u3, u4, u5, u6, u7⟩ := hSw
      go_simp
     try simp only [Act.put, lyt]
     refine tk 1 (.slice (some ⟨B, off, none⟩) L pc) rfl (by kernel_rfl) (fun _ _ _ h => h) (by rfl) (by assumption) ?_ ?_
     ·intro w5 hSw
      obtain ⟨p6, ⟨s0, s1, s2, s3, s4, s5, s6, s7⟩, u0, u1, u2, u3, u4, u5, u6, u7⟩ := hSw
      go_simp
     try simp only [Act.put, lyt]
     refine tk 2 (.int .i64 (i : Nat)) rfl (by kernel_rfl) (fun _ _ _ h => h) (by rfl) (by assumption) ?_ ?_
     ·intro w5 hSw
      obtain ⟨p6, ⟨s0, s1, s2, s3, s4, s5, s6, s7⟩, u0, u1, u2, u3, u4, u5, u6, u7⟩ := hSw
      go_simp
     try simp only [Act.put, lyt]
     refine tk 3 (.pointer (some ⟨B, off + i * 8, none⟩)) rfl (by kernel_rfl) (fun _ _ _ h => h) (by rfl) (by assumption) ?_ ?_
     ·intro w5 hSw
      obtain ⟨p6, ⟨s0, s1, s2, s3, s4, s5, s6, s7⟩, u0, u1, u2, u3, u4, u5, u6, u7⟩ := hSw
      go_simp
     try simp only [Act.put, lyt]
     refine tk 4 (.agg #[.int .i64 x.kind, .string x.ty, .int .u64 x.bits, .int .u64 x.imag, .string x.text, .slice nax x.names.length ncx, .slice pax x.parts.length pcx, .int .i64 x.hook]) rfl (by kernel_rfl) (fun _ _ _ h => h) (by rfl) (by assumption) ?_ ?_
     ·intro w5 hSw
      obtain ⟨p6, ⟨s0, s1, s2, s3, s4, s5, s6, s7⟩, u0, u1, u2, u3, u4, u5, u6, u7⟩ := hSw
      go_simp
     try simp only [Act.put, lyt]
     refine tk 6 (.pointer (some ⟨w.heap.size, 6, none⟩)) rfl (by kernel_rfl) (fun _ _ _ h => h) (by rfl) (by assumption) ?_ ?_
     ·intro w5 hSw
      obtain ⟨p6, ⟨s0, s1, s2, s3, s4, s5, s6, s7⟩, u0, u1, u2, u3, u4, u5, u6, u7⟩ := hSw
      go_simp
     try simp only [Act.put, lyt]
     refine tk 7 (.slice (some ⟨B, off, none⟩) L pc) rfl (by kernel_rfl) (fun _ _ _ h => h) (by rfl) (by assumption) ?_ ?_
     ·intro w5 hSw
      obtain ⟨p6, ⟨s0, s1, s2, s3, s4, s5, s6, s7⟩, u0, u1, u2, u3, u4, u5, u6, u7⟩ := hSw
      go_simp
     try simp only [Act.put, lyt]
     refine tk 8 (.int .i64 (k : Nat)) rfl (by kernel_rfl) (fun _ _ _ h => h) (by rfl) (by assumption) ?_ ?_
     ·intro w5 hSw
      obtain ⟨p6, ⟨s0, s1, s2, s3, s4, s5, s6, s7⟩, u0, u1, u2, u3, u4, u5, u6, u7⟩ := hSw
      go_simp
     try simp only [Act.put, lyt]
     refine tk 9 (.pointer (some ⟨B, off + k * 8, none⟩)) rfl (by kernel_rfl) (fun _ _ _ h => h) (by rfl) (by assumption) ?_ ?_
     ·intro w5 hSw
      obtain ⟨p6, ⟨s0, s1, s2, s3, s4, s5, s6, s7⟩, u0, u1, u2, u3, u4, u5, u6, u7⟩ := hSw
      go_simp
     try simp only [Act.put, lyt]
     refine tk 10 (.agg #[.int .i64 y.kind, .string y.ty, .int .u64 y.bits, .int .u64 y.imag, .string y.text, .slice nay y.names.length ncy, .slice pay y.parts.length pcy, .int .i64 y.hook]) rfl (by kernel_rfl) (fun _ _ _ h => h) (by rfl) (by assumption) ?_ ?_
     ·intro w5 hSw
      obtain ⟨p6, ⟨s0, s1, s2, s3, s4, s5, s6, s7⟩, u0, u1, u2, u3, u4, u5, u6, u7⟩ := hSw
      go_simp
     try simp only [Act.put, lyt]
     refine rd1 5 (by kernel_rfl) rfl fun K1 hK1 => ?_
     go_simp
     refine (inx _).mono ?_
     rintro e Z1 ⟨rfl, z1⟩
     have d1 := hbx.drew.trans (z1.mono hbx.size)
     refine hK1.out _ _ (f0 _ d1) (fun _ => ?_)
     clear hK1
     try simp only [Act.put, lyt]
     refine rd1 11 (by kernel_rfl) rfl fun K2 hK2 => ?_
     go_simp
     refine (iny _).mono ?_
     rintro e Z2 ⟨rfl, z2⟩
     have d2 := d1.trans (z2.mono d1.size)
     refine hK2.out _ _ (f0 _ d2) (fun _ => ?_)
     clear hK2
     try simp only [Act.put, lyt]
     refine rd1 12 (by kernel_rfl) rfl fun K3 hK3 => ?_
     go_simp
     refine (hcp _).mono ?_
     rintro e Z3 ⟨rfl, z3⟩
     have d3 := d2.trans (z3.mono d2.size)
     refine hK3.out _ _ (f0 _ d3) (fun _ => ?_)
     clear hK3
     try simp only [Act.put, lyt]
     refine rd1 13 (by kernel_rfl) rfl fun K4 hK4 => ?_
     go_simp
     refine hK4.out _ _ (f0 _ d3) (fun _ => ?_)
     clear hK4
     try simp only [Act.put, lyt]
     refine wpAnyH_done (by kernel_rfl) ?_ _
     clear hS inx iny hcp f0
     by_cases hc0 : cv = 0
     ·subst hc0
      have HD : Hid (dupM parts = true) := dup_two Hr.out Hp.out hlk HCV.out
      clear HA HT
      go_wp2
      go_ret
      exact ⟨by rw [HD.out]; rfl, b1.trans (d3.mono b1.size)⟩
     ·have hcb : (cv == 0) = false := by simpa using hc0
      have HA3 : Hid (∀ r ∈ (prs2 parts).take (q + 1), cmpP p r ≠ 0) := by
       intro r' hr'
       rw [List.take_add_one, Hr.out] at hr'
       rcases List.mem_append.1 hr' with h | h
       ·exact HA.out r' h
       ·rw [List.mem_singleton.1 h, HCV.out]; exact hc0
      clear HA hc0
      go_wp2
      go_roundg (gk - 1)
      case measure => omega
      case rel => exact ⟨k + 2, q + 1, by go_num, Hk.out.1, Hk.out.2, by omega, HA3, d3⟩
    ·have hlkI : ¬ (k : Int) < i := by omega
     have hqe : q = j := by omega
     have HT2 : Hid (dupL ((prs2 parts).take (j + 1)) = false) := by
      show _ = _
      rw [List.take_add_one, Hp.out]
      refine dupL_snoc HT.out fun r hr => ?_
      have := HA.out
      rw [hqe] at this
      exact this r hr
     have HJ : Hid (i + 2 ≤ 2 * (j + 1) ∧ 2 * (j + 1) ≤ i + 2) := by have := Hi.out; constructor <;> omega
     clear HA HT inx
     go_wp2
     go_roundg (G - 1)
     case measure => have := HGk.out; omega
     case rel => exact ⟨i + 2, j + 1, by go_num, HJ.out.1, HJ.out.2, by omega, HT2, hbx⟩
  ·have hltI : ¬ (i : Int) < L := by omega
   have HD : Hid (dupM parts = false) := by
    have h1 := HT.out
    rw [List.take_of_length_le (by have := HPL.out; omega)] at h1
    exact h1
   clear HT hcell hkey
   go_wp2
   go_ret
   exact ⟨by rw [HD.out]; rfl, b1.trans (hbr.mono b1.size)⟩
theorem otwice_any (n : Nat) (d : D) (nv pv : Value) (w : World) (hr : RdC (n + 2) w nv pv d) (hg : GoodN d) :
  Calls Tryz.prog 65 #[DV d nv pv] w fun e w' => e = .returned (.bool (dup1 d)) ∧ Below w.heap.size w w' := by
 obtain ⟨na, nc, pa, pc, rfl, rfl⟩ := hr.slices
 obtain ⟨-, hst, a', c', ep, -, -, hcell⟩ := hr
 obtain ⟨rfl, -, rfl⟩ := Value.slice.inj ep
 by_cases h18 : d.kind = 18
 ·have hd1 : dup1 d = dupN d.names := by unfold dup1; rw [decide_eq_true h18, decide_eq_false (by omega)]; simp
  rw [hd1]
  have hnl : d.names.length = d.parts.length := by
   have k2 := hg.form
   unfold frmB at k2
   rw [if_neg (by omega), if_pos h18] at k2
   unfold fldB at k2
   simp at k2
   exact k2.2.1
  have := hg.few (by simp [great]; omega)
  exact otwice_18 d na _ nc _ _ w h18 hst (by omega)
 by_cases h21 : d.kind = 21
 ·have hd1 : dup1 d = dupM d.parts := by unfold dup1; rw [decide_eq_false h18, decide_eq_true h21]; simp
  rw [hd1]
  have hen : entB d = true := by
   have k2 := hg.form
   unfold frmB at k2
   rw [if_neg (by omega), if_neg (by omega), if_pos h21] at k2
   simp at k2
   exact k2.2
  unfold entB at hen
  obtain ⟨e1, e2⟩ := Bool.and_eq_true_iff.1 hen
  exact otwice_21 n d na _ _ nc _ w h21 (hg.few (by simp [great]; omega)) (of_decide_eq_true e2) (fun i a ha => evB_key e1 ha) hcell
 ·have hd1 : dup1 d = false := by unfold dup1; rw [decide_eq_false h18, decide_eq_false h21]; rfl
  rw [hd1]
  exact otwice_not d na _ _ nc _ _ w h18 h21
end Go.Proofs.YtlgieoabellbmaaGreatDoor
