/- The document's form: has a descriptor's own part an error? -/
import Derived.Test.YtlgieoabellbmaaGreatDoorPt7
namespace Go.Proofs.YtlgieoabellbmaaGreatDoor
open Go.RowKit
set_option linter.unusedVariables false
set_option linter.unusedSimpArgs false
theorem key_doc (k : Int) : keyB k = (decide (k = 1) || whoB k || decide (k = 16)) := rfl
set_option maxRecDepth 1000000 in
set_option maxHeartbeats 4000000 in
theorem oform_18 (d : D) (nv : Value) (a : Option Addr) (cap : Nat) (w : World) (hk : d.kind = 18) (hs : Strs w nv d.names) (hp : d.parts.length ≤ 9223372036854775807) (hty : d.ty.size ≤ 9223372036854775807) :
  Calls Tryz.prog 64 #[DV d nv (.slice a d.parts.length cap)] w fun e w' => e = .returned (.bool (typedB d.ty && fldB d)) ∧ Below w.heap.size w w' := by
 obtain ⟨kind, ty, bits, imag, text, names, parts, hook⟩ := d
 simp only at hk
 subst hk
 obtain ⟨a2, cap2, rfl, hl1, hl2, hcell⟩ := hs
 have bel : ∀ cs t, Below w.heap.size w (w.alloc (.cells cs t)) := fun _ _ => (Below.refl _ _).alloc (Nat.le_refl _) _
 simp only at hp hl1 hcell hty ⊢
 unfold maxLen at hl2 hcell
 have ht := fun W => otyped_any ty W hty
 generalize typedB ty = t at ht ⊢
 cases t with
 | false =>
   go_enter Tryz.func64, Tryz.ntmps64
   go_wp2_with (go_at_call 105; refine (ht _).mono ?_; rintro e w1 ⟨rfl, hw⟩; rw [hw]; clear hw)
   go_ret
   exact ⟨rfl, bel _ _⟩
 | true =>
   by_cases hn : names.length = parts.length
   ·have hnI : ((names.length : Int) != (parts.length : Int)) = false := by simp [hn]
    have HD : Hid (fldB ⟨18, ty, bits, imag, text, names, parts, hook⟩ = names.all namedB) := by show fldB _ = _; unfold fldB; simp [hn]
    clear hn
    obtain ⟨W1, hW1⟩ : ∃ W1, W1 = w.alloc (.cells #[.int .i64 18, .string ty, .int .u64 bits, .int .u64 imag, .string text, .slice a2 names.length cap2, .slice a parts.length cap, .int .i64 hook] 26) := ⟨_, rfl⟩
    have hb1 : Below w.heap.size w W1 := by rw [hW1]; exact bel _ _
    go_enter Tryz.func64, Tryz.ntmps64
    go_wp2_with (go_at_call 105; refine (ht _).mono ?_; rintro e w1 ⟨rfl, hw⟩; rw [hw]; clear hw)
    rw [← hW1]
    clear hW1 ht
    go_loopg [4, 30] names.length (fun g z i wr => wr = W1 ∧ ∃ k : Nat, i = .int .i64 k ∧ k + g = names.length ∧ Hid ((names.take k).all namedB = true))
    case atStart => exact ⟨rfl, 0, rfl, Nat.zero_add _, rfl⟩
    case round =>
     obtain ⟨hwr, k, rfl, hkg, HA⟩ := hrel
     have hwr2 : W1 = wr := hwr.symm
     subst hwr2
     by_cases hlt : k < names.length
     ·have hltI : (k : Int) < names.length := by omega
      obtain ⟨s, hs⟩ : ∃ s, names[k]? = some s := ⟨names[k], List.getElem?_eq_getElem hlt⟩
      obtain ⟨hsz, b, off, rfl, hc⟩ := hcell k s hs
      have hc' := up_cell hb1 hc
      have HN : Hid ((names.take (k + 1)).all namedB = ((names.take k).all namedB && namedB s)) := all_take namedB names k s hs
      have HB : Hid (namedB s = false → names.all namedB = false) := all_bad namedB names k s hs
      have hnm := fun W => onamed_any s W (by omega)
      clear hcell hs hc
      generalize namedB s = q at hnm HN HB
      cases q with
      | true =>
        go_wp2_with (go_at_call 106; refine (hnm _).mono ?_; rintro e w1 ⟨rfl, hw⟩; rw [hw]; clear hw)
        go_roundg (gk - 1)
        case measure => omega
        case rel => exact ⟨rfl, k + 1, by go_num, by omega, by show _ = _; rw [HN.out, HA.out]; rfl⟩
      | false =>
        go_wp2_with (go_at_call 106; refine (hnm _).mono ?_; rintro e w1 ⟨rfl, hw⟩; rw [hw]; clear hw)
        go_ret
        rw [HD.out, HB.out trivial]
        exact ⟨rfl, hb1⟩
     ·have hltI : ¬ (k : Int) < names.length := by omega
      have HF : Hid (names.all namedB = true) := by
       have := HA.out
       rw [List.take_of_length_le (by omega)] at this
       exact this
      go_wp2
      go_ret
      rw [HD.out, HF.out]
      exact ⟨rfl, hb1⟩
   ·have hnI : ((names.length : Int) != (parts.length : Int)) = true := by simp; omega
    have HD : Hid (fldB ⟨18, ty, bits, imag, text, names, parts, hook⟩ = false) := by show fldB _ = _; unfold fldB; simp [hn]
    clear hn
    go_enter Tryz.func64, Tryz.ntmps64
    go_wp2_with (go_at_call 105; refine (ht _).mono ?_; rintro e w1 ⟨rfl, hw⟩; rw [hw]; clear hw)
    go_ret
    rw [HD.out]
    exact ⟨rfl, bel _ _⟩
set_option maxRecDepth 1000000 in
set_option maxHeartbeats 4000000 in
theorem oform_21 (n : Nat) (d : D) (nv pv : Value) (w : World) (hk : d.kind = 21) (hr : RdC (n + 1) w nv pv d) :
  Calls Tryz.prog 64 #[DV d nv pv] w fun e w' => e = .returned (.bool (typedB d.ty && entB d)) ∧ Below w.heap.size w w' := by
 have hfit := hr.1
 obtain ⟨-, -, a, cap, rfl, hl1, hl2, hcell⟩ := hr
 obtain ⟨kind, ty, bits, imag, text, names, parts, hook⟩ := d
 simp only at hk
 subst hk
 have bel : ∀ cs t, Below w.heap.size w (w.alloc (.cells cs t)) := fun _ _ => (Below.refl _ _).alloc (Nat.le_refl _) _
 have hty : ty.size ≤ 9223372036854775807 := by have := hfit.2.2.2.2.1; unfold maxLen at this; exact this
 clear hfit
 simp only at hl1 hcell ⊢
 unfold maxLen at hl2
 have ht := fun W => otyped_any ty W hty
 have HD : Hid (entB ⟨21, ty, bits, imag, text, names, parts, hook⟩ = (evB parts parts.length && decide (parts.length % 2 = 0))) := rfl
 generalize typedB ty = t at ht ⊢
 obtain ⟨W1, hW1⟩ : ∃ W1, W1 = w.alloc (.cells #[.int .i64 21, .string ty, .int .u64 bits, .int .u64 imag, .string text, nv, .slice a parts.length cap, .int .i64 hook] 26) := ⟨_, rfl⟩
 have hb1 : Below w.heap.size w W1 := by rw [hW1]; exact bel _ _
 cases t with
 | false =>
   go_enter Tryz.func64, Tryz.ntmps64
   go_wp2_with (first | (go_at_call 105; refine (ht _).mono ?_; rintro e w1 ⟨rfl, hw⟩; rw [hw]; clear hw))
   go_ret
   exact ⟨rfl, bel _ _⟩
 | true =>
   have f6 : ∀ x : Cl W1, x.w.cell? ⟨w.heap.size, 6, none⟩ = some (.slice a parts.length cap) := fun x => x.cell (by rw [hW1]; simp)
   go_enter Tryz.func64, Tryz.ntmps64
   go_wp2_with (first | (go_at_call 105; refine (ht _).mono ?_; rintro e w1 ⟨rfl, hw⟩; rw [hw]; clear hw))
   rw [← hW1]
   clear hW1 ht
   go_loopg [5, 6, 43] parts.length (fun g z0 z1 i wr => ∃ (y : Cl W1) (k : Nat), wr = y.w ∧ i = .int .i64 k ∧ k + g = parts.length ∧ Hid (evB parts k = true))
   case atStart => exact ⟨⟨W1, Below.refl _ _⟩, 0, rfl, rfl, Nat.zero_add _, rfl⟩
   case round =>
    obtain ⟨y, k, rfl, rfl, hkg, HA⟩ := hrel
    by_cases hlt : k < parts.length
    ·have hltI : (k : Int) < parts.length := by omega
     obtain ⟨x, hx⟩ : ∃ x, parts[k]? = some x := ⟨parts[k], List.getElem?_eq_getElem hlt⟩
     obtain ⟨b, off, nv', pv', rfl, h8, hr'⟩ := hcell k x hx
     obtain ⟨na, nc, pa, pc, rfl, rfl⟩ := hr'.slices
     clear hr'
     obtain ⟨c0, c1, c2, c3, c4, c5, c6, c7⟩ := (h8.up hb1).up y.below
     have HN : Hid (evB parts (k + 1) = (evB parts k && (k % 2 == 1 || keyB x.kind))) := evB_succ parts k x hx
     have HB : Hid ((k % 2 == 1 || keyB x.kind) = false → evB parts parts.length = false) := evB_bad parts k _ x hlt hx
     have HK : Hid (keyB x.kind = (decide (x.kind = 1) || whoB x.kind || decide (x.kind = 16))) := key_doc x.kind
     have hwh := fun W => owhole_any x.kind W
     clear hcell hx h8
     have ydone : Below W1.heap.size W1 (y.w.alloc (.cells #[.int .i64 x.kind, .string x.ty, .int .u64 x.bits, .int .u64 x.imag, .string x.text, .slice na x.names.length nc, .slice pa x.parts.length pc, .int .i64 x.hook] 26)) := y.below.alloc y.below.size _
     by_cases hpar : k % 2 = 0
     ·have hpI : (((k : Int) % 2) == 0) = true := by simp; omega
      have HP : Hid ((k % 2 == 1) = false) := by show (k % 2 == 1) = false; simp; omega
      clear hpar
      by_cases hk1 : x.kind = 1
      ·have e1 : (x.kind != 1) = false := by simp [hk1]
       have HG : Hid (evB parts (k + 1) = true) := by show _ = _; rw [HN.out, HA.out, HK.out]; simp [hk1]
       clear hk1
       go_wp2_with (go_at_call 66; refine (hwh _).mono ?_; rintro e w1 ⟨rfl, hw⟩; rw [hw]; clear hw)
       go_roundg (gk - 1)
       case measure => omega
       case rel => exact ⟨⟨_, ydone⟩, k + 1, rfl, by go_num, by omega, HG⟩
      ·have e1 : (x.kind != 1) = true := by simp [hk1]
       have HK1 : Hid (decide (x.kind = 1) = false) := by show _ = _; simp [hk1]
       clear hk1
       generalize whoB x.kind = q at hwh HK
       cases q with
       | true =>
         have HG : Hid (evB parts (k + 1) = true) := by show _ = _; rw [HN.out, HA.out, HK.out]; simp
         go_wp2_with (go_at_call 66; refine (hwh _).mono ?_; rintro e w1 ⟨rfl, hw⟩; rw [hw]; clear hw)
         go_roundg (gk - 1)
         case measure => omega
         case rel => exact ⟨⟨_, ydone⟩, k + 1, rfl, by go_num, by omega, HG⟩
       | false =>
         by_cases hk16 : x.kind = 16
         ·have e16 : (x.kind != 16) = false := by simp [hk16]
          have HG : Hid (evB parts (k + 1) = true) := by show _ = _; rw [HN.out, HA.out, HK.out]; simp [hk16]
          clear hk16
          go_wp2_with (go_at_call 66; refine (hwh _).mono ?_; rintro e w1 ⟨rfl, hw⟩; rw [hw]; clear hw)
          go_roundg (gk - 1)
          case measure => omega
          case rel => exact ⟨⟨_, ydone⟩, k + 1, rfl, by go_num, by omega, HG⟩
         ·have e16 : (x.kind != 16) = true := by simp [hk16]
          have HF : Hid (evB parts parts.length = false) := HB.out (by rw [HP.out, HK.out, HK1.out]; simp [hk16])
          clear hk16
          go_wp2_with (go_at_call 66; refine (hwh _).mono ?_; rintro e w1 ⟨rfl, hw⟩; rw [hw]; clear hw)
          go_ret
          rw [HD.out, HF.out]
          exact ⟨rfl, hb1.trans (ydone.mono hb1.size)⟩
     ·have hpI : (((k : Int) % 2) == 0) = false := by simp; omega
      have HP : Hid ((k % 2 == 1) = true) := by show (k % 2 == 1) = true; simp; omega
      clear hpar
      go_wp2_with (go_at_call 66; refine (hwh _).mono ?_; rintro e w1 ⟨rfl, hw⟩; rw [hw]; clear hw)
      go_roundg (gk - 1)
      case measure => omega
      case rel => exact ⟨⟨_, ydone⟩, k + 1, rfl, by go_num, by omega, by show _ = _; rw [HN.out, HA.out, HP.out]; rfl⟩
    ·have hltI : ¬ (k : Int) < parts.length := by omega
     have hk : k = parts.length := by omega
     have HF : Hid (evB parts parts.length = true) := by rw [hk] at HA; exact HA
     clear hk
     by_cases hpar : parts.length % 2 = 0
     ·have hpI : (((parts.length : Int) % 2) == 0) = true := by simp; omega
      have HE : Hid (entB ⟨21, ty, bits, imag, text, names, parts, hook⟩ = true) := by show _ = _; rw [HD.out, HF.out]; simp [hpar]
      clear hpar
      go_wp2
      go_ret
      rw [HE.out]
      exact ⟨rfl, hb1.trans (y.below.mono hb1.size)⟩
     ·have hpI : (((parts.length : Int) % 2) == 0) = false := by simp; omega
      have HE : Hid (entB ⟨21, ty, bits, imag, text, names, parts, hook⟩ = false) := by show _ = _; rw [HD.out, HF.out]; simp [hpar]
      clear hpar
      go_wp2
      go_ret
      rw [HE.out]
      exact ⟨rfl, hb1.trans (y.below.mono hb1.size)⟩
set_option maxRecDepth 1000000 in
set_option maxHeartbeats 4000000 in
theorem oform_any (n : Nat) (d : D) (nv pv : Value) (w : World) (hr : RdC (n + 1) w nv pv d) :
  Calls Tryz.prog 64 #[DV d nv pv] w fun e w' => e = .returned (.bool (frmB d)) ∧ Below w.heap.size w w' := by
 have hfit := hr.1
 have hty : d.ty.size ≤ 9223372036854775807 := by have := hfit.2.2.2.2.1; unfold maxLen at this; exact this
 by_cases k18 : d.kind = 18
 ·have e : frmB d = (typedB d.ty && fldB d) := by unfold frmB; rw [if_neg (by omega), if_pos k18]
  rw [e]
  obtain ⟨-, hs, a, cap, rfl, h1, h2, -⟩ := hr
  exact oform_18 d nv a cap w k18 hs (by unfold maxLen at h2; omega) hty
 by_cases k21 : d.kind = 21
 ·have e : frmB d = (typedB d.ty && entB d) := by unfold frmB; rw [if_neg (by omega), if_neg k18, if_pos k21]
  rw [e]
  exact oform_21 n d nv pv w k21 hr
 obtain ⟨na, nc, pa, pc, rfl, rfl⟩ := hr.slices
 have hlen : d.parts.length ≤ 9223372036854775807 := by
  obtain ⟨-, -, a, cap, -, h1, h2, -⟩ := hr
  unfold maxLen at h2; omega
 clear hr hfit
 have ht := fun W => otyped_any d.ty W hty
 have HD : Hid (frmB d = if d.kind = 0 then true else typedB d.ty && (if d.kind = 18 then fldB d else if d.kind = 21 then entB d else if d.kind = 22 then decide (d.parts.length ≤ 1) else true)) := rfl
 generalize frmB d = R at HD ⊢
 generalize typedB d.ty = t at ht HD
 obtain ⟨kind, ty, bits, imag, text, names, parts, hook⟩ := d
 simp only at k18 k21 ht HD hlen ⊢
 have bel : ∀ cs t, Below w.heap.size w (w.alloc (.cells cs t)) := fun _ _ => (Below.refl _ _).alloc (Nat.le_refl _) _
 by_cases k0 : kind = 0
 ·subst k0
  go_enter Tryz.func64, Tryz.ntmps64
  go_wp2
  go_ret
  exact ⟨by rw [HD.out]; rfl, bel _ _⟩
 have e0 : (kind != 0) = true := by simp [k0]
 have e18 : (kind == 18) = false := by simp [k18]
 have e21 : (kind == 21) = false := by simp [k21]
 by_cases k22 : kind = 22
 ·subst k22
  cases t with
  | false =>
    go_enter Tryz.func64, Tryz.ntmps64
    go_wp2_with (first | (go_at_call 105; refine (ht _).mono ?_; rintro e w1 ⟨rfl, hw⟩; rw [hw]; clear hw))
    go_ret
    exact ⟨by rw [HD.out]; rfl, bel _ _⟩
  | true =>
    by_cases hp1 : parts.length ≤ 1
    ·have hp1I : (parts.length : Int) ≤ 1 := by omega
     have HE : Hid (R = true) := by show R = true; rw [HD.out]; simp [hp1]
     go_enter Tryz.func64, Tryz.ntmps64
     go_wp2_with (first | (go_at_call 105; refine (ht _).mono ?_; rintro e w1 ⟨rfl, hw⟩; rw [hw]; clear hw))
     go_ret
     rw [HE.out]
     exact ⟨by first | rfl | simp [hp1], bel _ _⟩
    ·have hp1I : ¬ (parts.length : Int) ≤ 1 := by omega
     have HE : Hid (R = false) := by show R = false; rw [HD.out]; simp [hp1]
     go_enter Tryz.func64, Tryz.ntmps64
     go_wp2_with (first | (go_at_call 105; refine (ht _).mono ?_; rintro e w1 ⟨rfl, hw⟩; rw [hw]; clear hw))
     go_ret
     rw [HE.out]
     refine ⟨?_, bel _ _⟩
     first | rfl | (simp; omega)
 ·have e22 : (kind == 22) = false := by simp [k22]
  have HE : Hid (R = t) := by show R = t; rw [HD.out]; simp [k0, k18, k21, k22]
  clear k0 k18 k21 k22 HD
  cases t with
  | false =>
    go_enter Tryz.func64, Tryz.ntmps64
    go_wp2_with (first | (go_at_call 105; refine (ht _).mono ?_; rintro e w1 ⟨rfl, hw⟩; rw [hw]; clear hw))
    go_ret
    rw [HE.out]
    exact ⟨rfl, bel _ _⟩
  | true =>
    go_enter Tryz.func64, Tryz.ntmps64
    go_wp2_with (first | (go_at_call 105; refine (ht _).mono ?_; rintro e w1 ⟨rfl, hw⟩; rw [hw]; clear hw))
    go_ret
    rw [HE.out]
    exact ⟨rfl, bel _ _⟩
end Go.Proofs.YtlgieoabellbmaaGreatDoor
