/- VMadeS, VMadeM: these texts in one. -/
import Derived.Test.YtlgieoabellbmaaGreatDoorPt9
import Derived.Test.YtlgieoabellbmaaGreatDoorVEnt
namespace Go.Proofs.YtlgieoabellbmaaGreatDoor
open Go.RowKit Go.Lib
set_option linter.unusedVariables false
set_option linter.unusedSimpArgs false
theorem info_str : ∃ i0, Tryz.prog.info? 9 = some i0 ∧ i0.zero = some (.string ⟨#[]⟩) ∧ i0.size = 1 ∧ i0.bytes = 16 := by
 have h : (Tryz.prog.info? 9).map (fun i => (i.zero, i.size, i.bytes)) = some (some (.string ⟨#[]⟩), 1, 16) := by kernel_rfl
 obtain ⟨i0, h1, h2⟩ := Option.map_eq_some_iff.1 h
 exact ⟨i0, h1, congrArg (·.1) h2, congrArg (·.2.1) h2, congrArg (·.2.2) h2⟩
theorem own_strs {w : World} {B n : Nat} {v : Value} {l : List ByteArray} (h : w.ownsRow B 9 1 v n (l.map Value.string)) (hn : l.length = n) : ∃ a c, v = .slice a n c ∧ n ≤ c ∧ c ≤ maxLen ∧ StrsS (fun b => B ≤ b) w a l := by
 obtain ⟨a, c, rfl, k1, k2⟩ := own_slice8 h
 refine ⟨a, c, rfl, k1, k2, fun i s hs => ?_⟩
 have hi : i < l.length := (List.getElem?_eq_some_iff.1 hs).1
 rcases h.2 with ⟨-, h0⟩ | ⟨g, cap', cur, hg1, hB, hg, -⟩
 ·omega
 ·obtain ⟨rfl, -, -⟩ := Value.slice.inj hg1
  refine ⟨g, 0, rfl, hB, ?_⟩
  rw [Nat.zero_add, h.cellAt i (by omega), List.getElem?_map, hs]; rfl
set_option maxRecDepth 1000000 in
set_option maxHeartbeats 4000000 in
theorem clone_any (names : List ByteArray) (nv : Value) (w : World) (hs : Strs w nv names) (h64 : names.length ≤ 1000) :
  Calls Tryz.prog 60 #[nv] w fun e w' => Below w.heap.size w w' ∧ ∃ a c, e = .returned (.slice a names.length c) ∧ names.length ≤ c ∧ c ≤ maxLen ∧ StrsS (fun b => w.heap.size ≤ b) w' a names := by
 obtain ⟨a, cap, rfl, hl1, hl2, hcell⟩ := hs
 cases a with
 | none =>
   have h0 : names = [] := by
    cases names with
    | nil => rfl
    | cons x l =>
      obtain ⟨-, b, off, he, -⟩ := hcell 0 x rfl
      cases he
   subst h0
   refine (Tryz.slices_Clone_nil 0 cap w).mono ?_
   rintro e w' ⟨rfl, rfl⟩
   exact ⟨Below.refl _ _, none, 0, rfl, Nat.le_refl _, Nat.zero_le _, fun i s h => by simp at h⟩
 | some ad =>
   obtain ⟨i0, hi, hz0, hz1, hz2⟩ := info_str
   have hne : ∀ w, (binOp .eql 23 (.slice (some ad) names.length cap) (.slice none 0 0)).run Tryz.prog w = .ok (.bool false) w := fun w => by kernel_rfl
   have hcs : ∀ (j : Nat) (u : Value), (names.map Value.string)[j]? = some u → w.cell? (ad.add j) = some u := by
    intro j u hj
    rw [List.getElem?_map] at hj
    obtain ⟨s, hs, rfl⟩ := Option.map_eq_some_iff.1 hj
    obtain ⟨-, b, off, he, hc⟩ := hcell j s hs
    obtain rfl := Option.some.inj he
    rw [show (⟨b, off, none⟩ : Addr).add j = ⟨b, off + j, none⟩ from by unfold Addr.add; split <;> simp_all]
    exact hc
   have how : (w.alloc (.cells #[] 9)).ownsRow w.heap.size 9 1 (.slice (some ⟨w.heap.size, 0, none⟩) 0 0) 0 [] := ⟨rfl, .inr ⟨w.heap.size, 0, #[], rfl, Nat.le_refl _, (MapKept.heap_alloc w _).1, Nat.le_refl _, Nat.zero_le _, rfl, rfl⟩⟩
   have hba : Below w.heap.size w (w.alloc (.cells #[] 9)) := (Below.refl _ _).alloc (Nat.le_refl _) _
   clear hcell
   go_enter Tryz.func60, Tryz.ntmps60
   go_wp2_with (at_builtin; refine wpList_append_own _ rfl _ _ 23 rfl w.heap.size 9 i0 (.string ⟨#[]⟩) 1 16 Tryz.underlying23 hi hz0 hz1 hz2 rfl (by decide) _ _ _ rfl how ad names.length cap (names.map Value.string) rfl ?c0 ?c1 ?c2 ?c3 ?c4 ?c5 ?_)
   case c0 => simp
   case c1 => exact fun j u hj => (World.cell?_of_block (w := w) (Below.heap_alloc _ _ _ (lt_of_cell (hcs j u hj)))).trans (hcs j u hj)
   case c2 => intro u hu; obtain ⟨s, -, rfl⟩ := List.mem_map.1 hu; rfl
   case c3 => unfold maxLen; omega
   case c4 => omega
   case c5 => simp
   intro v' w1 hown hgrow _
   first | rw [List.nil_append, Nat.zero_add] at hown | skip
   obtain ⟨a', c', rfl, k1, k2, k3⟩ := own_strs hown rfl
   have hb : Below w.heap.size w w1 := hba.grown hgrow (by simp) (fun k hk => by
    have : w.heap.size = k := Option.some.inj hk
    omega)
   clear hown hgrow hne hcs how
   go_wp2
   go_ret
   exact ⟨hb, a', c', rfl, k1, k2, k3⟩
set_option maxRecDepth 1000000 in
set_option maxHeartbeats 4000000 in
theorem madeq_18 (sr : List D → List (D × D)) (tw : D → Bool) (n : Nat) (d : D) (na pa : Option Addr) (nc pc : Nat) (w : World) (hk : d.kind = 18) (hs : Strs w (.slice na d.names.length nc) d.names) (h64 : d.names.length ≤ 1000) (hall : AllC sr tw n w pa pc d.parts) :
  Calls Tryz.prog 32 #[DV d (.slice na d.names.length nc) (.slice pa d.parts.length pc)] w fun e W' => Below w.heap.size w W' ∧
   (((dupN d.names || d.parts.any tw) = false ∧ ∃ t y, e = .returned (.iface t y) ∧ VlC sr (n + 1) (fun b => w.heap.size ≤ b) W' (.iface t y) d) ∨ ((dupN d.names || d.parts.any tw) = true ∧ e = .panicked (PE 5))) := by
 have hvl : ∀ (V W' : World) (ca fa : Option Addr) (cc fc : Nat), w.heap.size ≤ V.heap.size → d.names.length ≤ cc → cc ≤ maxLen → d.parts.length ≤ fc → fc ≤ maxLen → StrsS (fun b => w.heap.size ≤ b) W' ca d.names → Vals (VlC sr n (fun b => V.heap.size ≤ b) W') (fun b => V.heap.size ≤ b) W' fa d.parts → VlC sr (n + 1) (fun b => w.heap.size ≤ b) W' (.iface 86 (.agg #[.int .i64 d.kind, .string d.ty, .int .i64 d.hook, .slice ca d.names.length cc, .slice fa d.parts.length fc])) d := by
  intro V W' ca fa cc fc hV n1 n2 h1 h2 h4 h3
  have hkp : Kept (fun b => V.heap.size ≤ b) (fun b => w.heap.size ≤ b) W' W' := fun b hb _ => ⟨Nat.le_trans hV hb, fun _ => rfl⟩
  unfold VlC
  rw [if_neg (by omega), if_pos (by omega)]
  exact ⟨ca, cc, fa, fc, rfl, n1, n2, h1, h2, h4, h3.turn hkp fun v y h => h.turn hkp⟩
 obtain ⟨kind, ty, bits, imag, text, names, parts, hook⟩ := d
 simp only at hk hs h64 hall hvl ⊢
 subst hk
 obtain ⟨W2, hW2⟩ : ∃ W2, W2 = (w.alloc (.cells #[.int .i64 18, .string ty, .int .u64 bits, .int .u64 imag, .string text, .slice na names.length nc, .slice pa parts.length pc, .int .i64 hook] 26)).alloc (.cells #[.int .i64 18, .string ty, .int .i64 hook] 60) := ⟨_, rfl⟩
 have hbW : Below w.heap.size w W2 := by rw [hW2]; exact ((Below.refl _ _).alloc (Nat.le_refl _) _).alloc (by simp) _
 have f0 : ∀ V, Below W2.heap.size W2 V → (fun w' => w'.cell? ⟨w.heap.size, 6, none⟩ = some (.slice pa parts.length pc) ∧ w'.cell? ⟨w.heap.size + 1, 0, none⟩ = some (.int .i64 18) ∧ w'.cell? ⟨w.heap.size + 1, 1, none⟩ = some (.string ty) ∧ w'.cell? ⟨w.heap.size + 1, 2, none⟩ = some (.int .i64 hook) ∧ w'.cell? ⟨w.heap.size, 5, none⟩ = some (.slice na names.length nc)) V := by
  intro V hV
  refine ⟨?_, ?_, ?_, ?_, ?_⟩
  all_goals exact up_cell hV (by rw [hW2]; simp [go_sem])
 have hat := anytwice_any names _ W2 (hs.up hbW)
 have hbd : Below w.heap.size w W2.drew := hbW.trans (Below.drew (Below.refl _ _))
 have hcl := clone_any names _ W2.drew (hs.up hbd) h64
 clear hs
 generalize dupN names = q at hat ⊢
 cases q with
 | true =>
   go_enter Tryz.func32, Tryz.ntmps32
   go_wp2_with fail
   rw [← hW2]
   refine hat.mono ?_
   rintro e V ⟨rfl, hV⟩
   rw [hV]
   go_wp2_with fail
   refine (must_no _ _).mono ?_
   rintro e V5 ⟨rfl, hV5⟩
   rw [hV5]
   first | exact ⟨rfl, hbW, .inr ⟨rfl, rfl⟩⟩ | exact ⟨rfl, by rw [← hW2]; exact hbW, .inr ⟨rfl, rfl⟩⟩
 | false =>
   go_enter Tryz.func32, Tryz.ntmps32
   go_wp2_with fail
   rw [← hW2]
   refine hat.mono ?_
   rintro e V ⟨rfl, hV⟩
   rw [hV]
   clear hW2 hat hV V
   go_wp2_with fail
   refine (must_ok _ _).mono ?_
   rintro e V5 ⟨rfl, hV5⟩
   rw [hV5]
   clear hV5 V5
   go_wp2
   refine wp_region_held_drew (S := fun w' => w'.cell? ⟨w.heap.size, 6, none⟩ = some (.slice pa parts.length pc) ∧ w'.cell? ⟨w.heap.size + 1, 0, none⟩ = some (.int .i64 18) ∧ w'.cell? ⟨w.heap.size + 1, 1, none⟩ = some (.string ty) ∧ w'.cell? ⟨w.heap.size + 1, 2, none⟩ = some (.int .i64 hook) ∧ w'.cell? ⟨w.heap.size, 5, none⟩ = some (.slice na names.length nc)) (by kernel_rfl) (f0 _ (Below.refl W2.heap.size W2).drew) ?_
   intro hS
   refine tk 0 (.agg #[.int .i64 18, .string ty, .int .i64 hook]) rfl (by kernel_rfl) (fun _ _ _ h => h) (by rfl) (by assumption) ?_ ?_
   ·intro w5 hSw
    obtain ⟨s6, s0, s1, s2, s3⟩ := hSw
    go_simp
   simp only [Act.put, List.setIfInBounds_toArray, List.set_cons_zero, List.set_cons_succ]
   refine tk 1 (.pointer (some ⟨w.heap.size, 5, none⟩)) rfl (by kernel_rfl) (fun _ _ _ h => h) (by rfl) (by assumption) ?_ ?_
   ·intro w5 hSw
    obtain ⟨s6, s0, s1, s2, s3⟩ := hSw
    go_simp
   simp only [Act.put, List.setIfInBounds_toArray, List.set_cons_zero, List.set_cons_succ]
   refine tk 2 (.slice na names.length nc) rfl (by kernel_rfl) (fun _ _ _ h => h) (by rfl) (by assumption) ?_ ?_
   ·intro w5 hSw
    obtain ⟨s6, s0, s1, s2, s3⟩ := hSw
    go_simp
   simp only [Act.put, List.setIfInBounds_toArray, List.set_cons_zero, List.set_cons_succ]
   refine tk 4 (.pointer (some ⟨w.heap.size, 6, none⟩)) rfl (by kernel_rfl) (fun _ _ _ h => h) (by rfl) (by assumption) ?_ ?_
   ·intro w5 hSw
    obtain ⟨s6, s0, s1, s2, s3⟩ := hSw
    go_simp
   simp only [Act.put, List.setIfInBounds_toArray, List.set_cons_zero, List.set_cons_succ]
   refine tk 5 (.slice pa parts.length pc) rfl (by kernel_rfl) (fun _ _ _ h => h) (by rfl) (by assumption) ?_ ?_
   ·intro w5 hSw
    obtain ⟨s6, s0, s1, s2, s3⟩ := hSw
    go_simp
   simp only [Act.put, List.setIfInBounds_toArray, List.set_cons_zero, List.set_cons_succ]
   refine rd1 3 (by kernel_rfl) rfl fun K hK => ?_
   go_simp
   refine hcl.mono ?_
   rintro e Z1 ⟨hb1, ca, cc, rfl, n1, n2, hst⟩
   have hbV1 : Below W2.heap.size W2 Z1 := (Below.refl W2.heap.size W2).drew.trans hb1
   have hbw1 : Below w.heap.size w Z1 := hbW.trans (hbV1.mono hbW.size)
   have hdr := hall Z1 hbw1
   refine hK.out _ _ (f0 Z1 hbV1) (fun hHeld => ?_)
   refine rd1 6 (by kernel_rfl) rfl fun K4 hK4 => ?_
   go_simp
   refine hdr.mono ?_
   rintro e Z ⟨hbZ, (⟨htw, fa, fc, rfl, k1, k2, hv⟩ | ⟨htw, rfl⟩)⟩
   ·have hbZ2 : Below W2.heap.size W2 Z := hbV1.trans (hbZ.mono hbV1.size)
    have HT : Hid (parts.any tw = false) := htw
    clear htw
    refine hK4.out _ _ (f0 Z hbZ2) (fun hHeld => ?_)
    refine rd1 7 (by kernel_rfl) rfl fun K1 hK1 => ?_
    go_simp
    refine hK1.out _ _ (f0 Z hbZ2) (fun _ => ?_)
    refine rd1 8 (by kernel_rfl) rfl fun K2 hK2 => ?_
    go_simp
    refine hK2.out _ _ (f0 Z hbZ2) (fun _ => ?_)
    refine rd1 9 (by kernel_rfl) rfl fun K3 hK3 => ?_
    go_simp
    refine hK3.out _ _ (f0 Z hbZ2) (fun _ => ?_)
    refine wpAnyH_done (by kernel_rfl) ?_ _
    clear hK hK1 hK2 hK3 hK4 hdr
    go_wp2
    go_ret
    exact ⟨hbW.trans (hbZ2.mono hbW.size), .inl ⟨by simpa using HT.out, 86, .agg #[.int .i64 18, .string ty, .int .i64 hook, .slice ca names.length cc, .slice fa parts.length fc], rfl, hvl Z1 _ _ _ _ _ (Nat.le_trans hbW.size hbV1.size) n1 n2 k1 k2 ((hst.turn (Kept.below hbZ fun b hb _ => hb)).turn fun b hb _ => ⟨Nat.le_trans hbW.size hb, fun _ => rfl⟩) hv⟩⟩
   ·exact ⟨rfl, hbw1.trans (hbZ.mono hbw1.size), .inr ⟨by simpa using htw, rfl⟩⟩
end Go.Proofs.YtlgieoabellbmaaGreatDoor
namespace Go.Proofs.YtlgieoabellbmaaGreatDoor
open Go.RowKit
set_option linter.unusedVariables false
set_option linter.unusedSimpArgs false
set_option maxRecDepth 1000000 in
set_option maxHeartbeats 4000000 in
theorem madeq_21 (tw : D → Bool) (n : Nat) (d : D) (na pa : Option Addr) (nc pc : Nat) (w : World) (hk : d.kind = 21) (h1000 : d.parts.length ≤ 1000) (hev : d.parts.length % 2 = 0) (hkey : ∀ (i : Nat) (a : D), d.parts[2 * i]? = some a → keyB a.kind = true) (hall : AllC srt tw n w pa pc d.parts) :
  Calls Tryz.prog 32 #[DV d (.slice na d.names.length nc) (.slice pa d.parts.length pc)] w fun e W' => Below w.heap.size w W' ∧
   (((d.parts.any tw || dupM d.parts) = false ∧ ∃ t y, e = .returned (.iface t y) ∧ VlC srt (n + 1) (fun b => w.heap.size ≤ b) W' (.iface t y) d) ∨ ((d.parts.any tw || dupM d.parts) = true ∧ e = .panicked (PE 5))) := by
 have hvl : ∀ (V Z W' : World) (ga : Option Addr) (gc : Nat), w.heap.size ≤ V.heap.size → w.heap.size ≤ Z.heap.size → (srt d.parts).length ≤ gc → gc ≤ maxLen → Ents (VlC srt n (fun b => V.heap.size ≤ b) W') (fun b => Z.heap.size ≤ b) W' ga (srt d.parts) → VlC srt (n + 1) (fun b => w.heap.size ≤ b) W' (.iface 91 (.agg #[.int .i64 d.kind, .string d.ty, .int .i64 d.hook, .slice ga (srt d.parts).length gc])) d := by
  intro V Z W' ga gc hV hZ h1 h2 h3
  have hkp : Kept (fun b => V.heap.size ≤ b) (fun b => w.heap.size ≤ b) W' W' := fun b hb _ => ⟨Nat.le_trans hV hb, fun _ => rfl⟩
  have hkp2 : Kept (fun b => Z.heap.size ≤ b) (fun b => w.heap.size ≤ b) W' W' := fun b hb _ => ⟨Nat.le_trans hZ hb, fun _ => rfl⟩
  unfold VlC
  rw [if_neg (by omega), if_neg (by omega), if_pos hk]
  exact ⟨ga, gc, rfl, h1, h2, h3.turn hkp2 fun v y h => h.turn hkp⟩
 obtain ⟨kind, ty, bits, imag, text, names, parts, hook⟩ := d
 simp only at hk hall hvl h1000 hev hkey ⊢
 subst hk
 obtain ⟨W2, hW2⟩ : ∃ W2, W2 = (w.alloc (.cells #[.int .i64 21, .string ty, .int .u64 bits, .int .u64 imag, .string text, .slice na names.length nc, .slice pa parts.length pc, .int .i64 hook] 26)).alloc (.cells #[.int .i64 21, .string ty, .int .i64 hook] 60) := ⟨_, rfl⟩
 have hbW : Below w.heap.size w W2 := by rw [hW2]; exact ((Below.refl _ _).alloc (Nat.le_refl _) _).alloc (by simp) _
 have f0 : ∀ V, Below W2.heap.size W2 V → (fun w' => w'.cell? ⟨w.heap.size, 6, none⟩ = some (.slice pa parts.length pc) ∧ w'.cell? ⟨w.heap.size + 1, 0, none⟩ = some (.int .i64 21) ∧ w'.cell? ⟨w.heap.size + 1, 1, none⟩ = some (.string ty) ∧ w'.cell? ⟨w.heap.size + 1, 2, none⟩ = some (.int .i64 hook)) V := by
  intro V hV
  refine ⟨?_, ?_, ?_, ?_⟩
  all_goals exact up_cell hV (by rw [hW2]; simp [go_sem])
 have hdr := hall W2.drew (hbW.trans (Below.drew (Below.refl _ _)))
 clear hall
 go_enter Tryz.func32, Tryz.ntmps32
 go_wp2
 rw [← hW2]
 clear hW2
 refine wp_region_held_drew (S := fun w' => w'.cell? ⟨w.heap.size, 6, none⟩ = some (.slice pa parts.length pc) ∧ w'.cell? ⟨w.heap.size + 1, 0, none⟩ = some (.int .i64 21) ∧ w'.cell? ⟨w.heap.size + 1, 1, none⟩ = some (.string ty) ∧ w'.cell? ⟨w.heap.size + 1, 2, none⟩ = some (.int .i64 hook)) (by kernel_rfl) (f0 _ (Below.refl W2.heap.size W2).drew) ?_
 intro hS
 refine tk 0 (.agg #[.int .i64 21, .string ty, .int .i64 hook]) rfl (by kernel_rfl) (fun _ _ _ h => h) (by rfl) (by assumption) ?_ ?_
 ·intro w5 hSw
  obtain ⟨s6, s0, s1, s2⟩ := hSw
  go_simp
 try simp only [Act.put, lys]
 refine tk 1 (.pointer (some ⟨w.heap.size, 6, none⟩)) rfl (by kernel_rfl) (fun _ _ _ h => h) (by rfl) (by assumption) ?_ ?_
 ·intro w5 hSw
  obtain ⟨s6, s0, s1, s2⟩ := hSw
  go_simp
 try simp only [Act.put, lys]
 refine tk 2 (.slice pa parts.length pc) rfl (by kernel_rfl) (fun _ _ _ h => h) (by rfl) (by assumption) ?_ ?_
 ·intro w5 hSw
  obtain ⟨s6, s0, s1, s2⟩ := hSw
  go_simp
 try simp only [Act.put, lys]
 refine rd1 3 (by kernel_rfl) rfl fun K hK => ?_
 go_simp
 refine hdr.mono ?_
 rintro e Z ⟨hbZ, (⟨htw, fa, fc, rfl, k1, k2, hv⟩ | ⟨htw, rfl⟩)⟩
 ·have hbZ2 : Below W2.heap.size W2 Z := (Below.refl W2.heap.size W2).drew.trans hbZ
  have HT : Hid (parts.any tw = false) := htw
  have hen := entriesof_any srt n (fun b => W2.drew.heap.size ≤ b) parts fa fc Z h1000 hev k1 hkey hv
  clear htw hdr hkey
  refine hK.out _ _ (f0 Z hbZ2) (fun hHeld => ?_)
  clear hK
  try simp only [Act.put, lys]
  refine rd1 4 (by kernel_rfl) rfl fun K hK => ?_
  go_simp
  refine hen.mono ?_
  rintro e Y ⟨hbY, (⟨hdu, ga, gc, rfl, m1, m2, he⟩ | ⟨hdu, rfl⟩)⟩
  ·have hbY2 : Below W2.heap.size W2 Y := hbZ2.trans (hbY.mono hbZ2.size)
   have HU : Hid (dupM parts = false) := hdu
   have HV : Hid (VlC srt (n + 1) (fun b => w.heap.size ≤ b) Y (.iface 91 (.agg #[.int .i64 21, .string ty, .int .i64 hook, .slice ga (srt parts).length gc])) ⟨21, ty, bits, imag, text, names, parts, hook⟩) := hvl W2.drew Z Y ga gc hbW.size (Nat.le_trans hbW.size hbZ2.size) m1 m2 he
   clear hdu he hv hvl hen
   refine hK.out _ _ (f0 Y hbY2) (fun hHeld => ?_)
   clear hK
   try simp only [Act.put, lys]
   refine rd1 5 (by kernel_rfl) rfl fun K1 hK1 => ?_
   go_simp
   refine hK1.out _ _ (f0 Y hbY2) (fun _ => ?_)
   clear hK1
   try simp only [Act.put, lys]
   refine rd1 6 (by kernel_rfl) rfl fun K2 hK2 => ?_
   go_simp
   refine hK2.out _ _ (f0 Y hbY2) (fun _ => ?_)
   clear hK2
   try simp only [Act.put, lys]
   refine rd1 7 (by kernel_rfl) rfl fun K3 hK3 => ?_
   go_simp
   refine hK3.out _ _ (f0 Y hbY2) (fun _ => ?_)
   clear hK3
   try simp only [Act.put, lys]
   refine wpAnyH_done (by kernel_rfl) ?_ _
   go_wp2
   go_ret
   exact ⟨hbW.trans (hbY2.mono hbW.size), .inl ⟨by rw [HT.out, HU.out]; rfl, 91, _, rfl, HV.out⟩⟩
  ·exact ⟨rfl, hbW.trans ((hbZ2.trans (hbY.mono hbZ2.size)).mono hbW.size), .inr ⟨by rw [hdu, Bool.or_true], rfl⟩⟩
 ·exact ⟨rfl, hbW.trans (((Below.refl W2.heap.size W2).drew.trans hbZ).mono hbW.size), .inr ⟨by rw [htw, Bool.true_or], rfl⟩⟩
theorem evB_key {l : List D} (h : evB l l.length = true) {i : Nat} {a : D} (ha : l[2 * i]? = some a) : keyB a.kind = true := by
 cases hk : keyB a.kind with
 | true => rfl
 | false =>
   have := evB_bad l (2 * i) l.length a (List.getElem?_eq_some_iff.1 ha).1 ha (by rw [hk]; simp)
   rw [h] at this; cases this
theorem md_iface (d : D) : ∃ t x, mdV d = .iface t x := by
 unfold mdV
 repeat' split
 all_goals exact ⟨_, _, rfl⟩
theorem made_all : ∀ (n : Nat) (d : D), (∀ y ∈ nodes d, 0 ≤ y.kind ∧ y.kind ≤ 22 ∧ frmB y = true ∧ (great y.kind = true → y.parts.length ≤ 1000)) → ∀ W0, MadeC srt dupA n W0 d := by
 intro n
 induction n with
 | zero => intro d _ W0 nv pv W hr; exact hr.elim
 | succ n ih =>
   intro d hg W0 nv pv W hr
   have hr2 := hr.up W.below
   obtain ⟨na, nc, pa, pc, rfl, rfl⟩ := hr.slices
   obtain ⟨k0, k1, k2, k4⟩ := hg d (nodes_self d)
   have hde := dupA_eq d
   by_cases h17 : d.kind ≤ 17
   ·have hf := hr.1
    have hgr : great d.kind = false := by simp [great]; omega
    have e0 : dupA d = false := by
     rw [hde, hgr]
     unfold dup1
     rw [decide_eq_false (by omega), decide_eq_false (by omega)]
     rfl
    refine (made_flat d na pa nc pc W.w k0 h17 hf.2.1.1 hf.2.1.2 hf.2.2.1.1 hf.2.2.1.2).mono ?_
    rintro e W' ⟨rfl, hb⟩
    obtain ⟨t, x, hx⟩ := md_iface d
    exact ⟨hb, .inl ⟨e0, t, x, by rw [hx], by unfold VlC; rw [if_pos h17, hx]⟩⟩
   ·have hgr : great d.kind = true := by simp [great]; omega
    have hp := k4 hgr
    have hall := all_of (sr := srt) (tw := dupA) hr2 hp fun x hx V => ih x (fun y hy => hg y (nodes_part hgr hx hy)) V
    rw [hgr, Bool.true_and] at hde
    have h3 : d.kind = 18 ∨ d.kind = 19 ∨ d.kind = 20 ∨ d.kind = 21 ∨ d.kind = 22 := by omega
    rcases h3 with h3 | h3 | h3 | h3 | h3
    ·have hd1 : dup1 d = dupN d.names := by unfold dup1; rw [decide_eq_true h3, decide_eq_false (by omega)]; simp
     have hnl : d.names.length = d.parts.length := by
      unfold frmB at k2
      rw [if_neg (by omega), if_pos h3] at k2
      unfold fldB at k2
      simp at k2
      exact k2.2.1
     rw [hd1] at hde
     refine (madeq_18 srt _ n d na pa nc pc W.w h3 hr2.2.1 (by omega) hall).mono ?_
     rintro e W' ⟨hb, (⟨h, t, y, rfl, hv⟩ | ⟨h, rfl⟩)⟩
     ·exact ⟨hb, .inl ⟨by rw [hde]; exact h, t, y, rfl, hv⟩⟩
     ·exact ⟨hb, .inr ⟨by rw [hde]; exact h, rfl⟩⟩
    ·have hd1 : dup1 d = false := by unfold dup1; rw [decide_eq_false (by omega), decide_eq_false (by omega)]; rfl
     rw [hd1, Bool.false_or] at hde
     refine (madeq_19 srt _ n d na pa nc pc W.w h3 hall).mono ?_
     rintro e W' ⟨hb, (⟨h, t, y, rfl, hv⟩ | ⟨h, rfl⟩)⟩
     ·exact ⟨hb, .inl ⟨by rw [hde]; exact h, t, y, rfl, hv⟩⟩
     ·exact ⟨hb, .inr ⟨by rw [hde]; exact h, rfl⟩⟩
    ·have hd1 : dup1 d = false := by unfold dup1; rw [decide_eq_false (by omega), decide_eq_false (by omega)]; rfl
     rw [hd1, Bool.false_or] at hde
     refine (madeq_20 srt _ n d na pa nc pc W.w h3 hall).mono ?_
     rintro e W' ⟨hb, (⟨h, t, y, rfl, hv⟩ | ⟨h, rfl⟩)⟩
     ·exact ⟨hb, .inl ⟨by rw [hde]; exact h, t, y, rfl, hv⟩⟩
     ·exact ⟨hb, .inr ⟨by rw [hde]; exact h, rfl⟩⟩
    ·have hd1 : dup1 d = dupM d.parts := by unfold dup1; rw [decide_eq_false (by omega), decide_eq_true h3]; simp
     have hen : entB d = true := by
      unfold frmB at k2
      rw [if_neg (by omega), if_neg (by omega), if_pos h3] at k2
      simp at k2
      exact k2.2
     unfold entB at hen
     obtain ⟨e1, e2⟩ := Bool.and_eq_true_iff.1 hen
     rw [hd1, Bool.or_comm] at hde
     refine (madeq_21 _ n d na pa nc pc W.w h3 hp (of_decide_eq_true e2) (fun i a ha => evB_key e1 ha) hall).mono ?_
     rintro e W' ⟨hb, (⟨h, t, y, rfl, hv⟩ | ⟨h, rfl⟩)⟩
     ·exact ⟨hb, .inl ⟨by rw [hde]; exact h, t, y, rfl, hv⟩⟩
     ·exact ⟨hb, .inr ⟨by rw [hde]; exact h, rfl⟩⟩
    ·have hd1 : dup1 d = false := by unfold dup1; rw [decide_eq_false (by omega), decide_eq_false (by omega)]; rfl
     rw [hd1, Bool.false_or] at hde
     refine (madeq_22 srt _ n d na pa nc pc W.w h3 hall).mono ?_
     rintro e W' ⟨hb, (⟨h, t, y, rfl, hv⟩ | ⟨h, rfl⟩)⟩
     ·exact ⟨hb, .inl ⟨by rw [hde]; exact h, t, y, rfl, hv⟩⟩
     ·exact ⟨hb, .inr ⟨by rw [hde]; exact h, rfl⟩⟩
structure OkD (d : D) : Prop where
 few : (nodes d).length ≤ 64
 fits : ∀ y ∈ nodes d, fitsB y = true
 deep : ∀ p ∈ pre d 0, p.2 ≤ 7
 kind : ∀ y ∈ nodes d, 0 ≤ y.kind ∧ y.kind ≤ 22
 form : ∀ y ∈ nodes d, frmB y = true
theorem ok_of {d : D} (h : chk0 d = 0) : OkD d := by
 rw [chk0_eq] at h
 have hn := pre_nodes d 0
 have mem : ∀ y ∈ nodes d, ∃ p ∈ pre d 0, p.1 = y := by
  intro y hy
  rw [← hn] at hy
  exact List.mem_map.1 hy
 split at h
 ·omega
 rename_i h1
 split at h
 ·omega
 rename_i h2
 split at h
 ·omega
 rename_i h3
 split at h
 ·omega
 rename_i h4
 refine ⟨?_, ?_, ?_, ?_, ?_⟩
 ·rw [← hn, List.length_map]
  exact Nat.le_of_not_lt fun h => h1 (.inl h)
 ·intro y hy
  obtain ⟨p, hp, rfl⟩ := mem y hy
  cases hf : fitsB p.1 with
  | true => rfl
  | false => exact absurd (.inr ⟨p, hp, hf⟩) h1
 ·intro p hp
  have : ¬ 8 ≤ p.2 := fun h => h2 ⟨p, hp, h⟩
  omega
 ·intro y hy
  obtain ⟨p, hp, rfl⟩ := mem y hy
  exact Decidable.byContradiction fun h => h3 ⟨p, hp, h⟩
 ·intro y hy
  obtain ⟨p, hp, rfl⟩ := mem y hy
  cases hf : frmB p.1 with
  | true => rfl
  | false => exact absurd ⟨p, hp, hf⟩ h4
theorem OkD.zero {d : D} (h : OkD d) : chk0 d = 0 := by
 rw [chk0_eq]
 have hn := pre_nodes d 0
 have mem : ∀ p ∈ pre d 0, p.1 ∈ nodes d := fun p hp => by rw [← hn]; exact List.mem_map.2 ⟨p, hp, rfl⟩
 rw [if_neg, if_neg, if_neg, if_neg]
 ·rintro ⟨p, hp, hf⟩
  rw [h.form _ (mem p hp)] at hf; cases hf
 ·rintro ⟨p, hp, hf⟩
  exact hf (h.kind _ (mem p hp))
 ·rintro ⟨p, hp, hf⟩
  have := h.deep p hp
  omega
 ·rintro (hf | ⟨p, hp, hf⟩)
  ·have := h.few
   rw [← hn, List.length_map] at this
   omega
  ·rw [h.fits _ (mem p hp)] at hf; cases hf
theorem nodes_row : ∀ (l : List D), l.length ≤ (l.flatMap nodes).length
 | [] => Nat.le_refl _
 | x :: t => by
   have := nodes_row t
   have h1 : 1 ≤ (nodes x).length := by rw [nodes_eq]; simp
   rw [List.flatMap_cons, List.length_append, List.length_cons]
   omega
theorem nodes_in : ∀ (m : Nat) (d y : D), SizeOf.sizeOf d ≤ m → y ∈ nodes d → ∀ z ∈ nodes y, z ∈ nodes d
 | 0, d, y, h, _, _, _ => by cases d; simp at h
 | m + 1, d, y, h, hy, z, hz => by
   rw [nodes_eq] at hy
   rcases List.mem_cons.1 hy with rfl | hy
   ·exact hz
   ·split at hy
    ·rename_i hg
     obtain ⟨x, hx, hyx⟩ := List.mem_flatMap.1 hy
     exact nodes_part hg hx (nodes_in m x y (by have := parts_lt hx; omega) hyx z hz)
    ·cases hy
theorem nodes_parts_len : ∀ (m : Nat) (d y : D), SizeOf.sizeOf d ≤ m → y ∈ nodes d → (nodes y).length ≤ (nodes d).length
 | 0, d, y, h, _ => by cases d; simp at h
 | m + 1, d, y, h, hy => by
   rw [nodes_eq d] at hy
   rcases List.mem_cons.1 hy with rfl | hy
   ·exact Nat.le_refl _
   ·split at hy
    ·rename_i hg
     obtain ⟨x, hx, hyx⟩ := List.mem_flatMap.1 hy
     have h1 := nodes_parts_len m x y (by have := parts_lt hx; omega) hyx
     have h2 : (nodes x).length ≤ (d.parts.flatMap nodes).length := by
      obtain ⟨a, b, e⟩ := List.append_of_mem hx
      rw [e, List.flatMap_append, List.flatMap_cons, List.length_append, List.length_append]
      omega
     rw [nodes_eq d, if_pos hg, List.length_cons]
     omega
    ·cases hy
theorem great_len {d : D} (hg : great d.kind = true) : d.parts.length < (nodes d).length := by
 rw [nodes_eq, if_pos hg, List.length_cons]
 have := nodes_row d.parts
 omega
theorem OkD.parts {d y : D} (h : OkD d) (hy : y ∈ nodes d) (hg : great y.kind = true) : y.parts.length ≤ 63 := by
 have h1 := great_len hg
 have h2 := nodes_parts_len _ d y (Nat.le_refl _) hy
 have := h.few
 omega
def bErr (d : D) : Int := if chk0 d = 0 then (if dupA d then 5 else 0) else chk0 d
theorem bErr_zero (d : D) : bErr d = 0 ↔ chk0 d = 0 ∧ dupA d = false := by
 unfold bErr
 split
 ·rename_i h
  split <;> simp_all
 ·rename_i h
  simp [h]
theorem buildA (n : Nat) (d : D) (nv pv : Value) (w : World) (hr : RdC n w nv pv d) (hn : n ≤ 1000) :
  Calls Tryz.prog 20 #[DV d nv pv] w fun e w' => Below w.heap.size w w' ∧
   ((bErr d = 0 ∧ ∃ t x, e = .returned (.tuple #[.iface t x, .int .i64 0]) ∧ VlC srt n (fun b => w.heap.size + 3 ≤ b) w' (.iface t x) d) ∨ (bErr d ≠ 0 ∧ e = .returned (.tuple #[.nilIface, .int .i64 (bErr d)]))) := by
 refine (build_any n d nv pv w hr hn (dupA d = true) (fun W v => ∃ t x, v = .iface t x ∧ VlC srt n (fun b => w.heap.size + 3 ≤ b) W v d) ?_).mono ?_
 ·intro h0 W hW hsz
  have hok := ok_of h0
  have hm := made_all n d (fun y hy => ⟨(hok.kind y hy).1, (hok.kind y hy).2, hok.form y hy, fun hg => Nat.le_trans (hok.parts hy hg) (by omega)⟩) w nv pv ⟨W, hW⟩ hr
  refine hm.mono ?_
  rintro e W' ⟨hb, (⟨h, t, y, rfl, hv⟩ | ⟨h, rfl⟩)⟩
  ·refine ⟨hb, .inl ⟨by rw [h]; simp, t, y, rfl, fun W'' hk => ⟨t, y, rfl, ?_⟩⟩⟩
   refine hv.turn fun b hbS _ => ?_
   have hb2 : W.heap.size ≤ b := hbS
   refine ⟨by omega, fun o => ?_⟩
   exact hk ⟨b, o, none⟩ (by dsimp only; omega) (by dsimp only; omega)
  ·exact ⟨hb, .inr ⟨h, rfl⟩⟩
 ·rintro e w' ⟨hb, (⟨h0, hT, v, rfl, hne, t, x, rfl, hv⟩ | ⟨h0, hT, rfl⟩ | ⟨h0, rfl⟩)⟩
  ·exact ⟨hb, .inl ⟨(bErr_zero d).2 ⟨h0, by cases h : dupA d with | false => rfl | true => exact absurd h hT⟩, t, x, rfl, hv⟩⟩
  ·have e5 : bErr d = 5 := by unfold bErr; rw [if_pos h0, if_pos hT]
   exact ⟨hb, .inr ⟨by omega, by rw [e5]⟩⟩
  ·have e5 : bErr d = chk0 d := by unfold bErr; rw [if_neg h0]
   exact ⟨hb, .inr ⟨by omega, by rw [e5]⟩⟩
end Go.Proofs.YtlgieoabellbmaaGreatDoor
