/- The document's Check and Build. -/
import Derived.Test.YtlgieoabellbmaaGreatDoorVDocL
import Derived.Test.YtlgieoabellbmaaGreatDoorVDocF
namespace Go.Proofs.YtlgieoabellbmaaGreatDoor
open Go.RowKit
set_option linter.unusedVariables false
set_option linter.unusedSimpArgs false
def badTo (f : D × Int → Bool) (L : List (D × Int)) (i : Nat) : Bool := (L.take i).any f
theorem badTo_succ {f : D × Int → Bool} {L : List (D × Int)} {i : Nat} {p : D × Int} (h : L[i]? = some p) : badTo f L (i + 1) = (badTo f L i || f p) := by
 unfold badTo
 rw [List.take_add_one, h]; simp
theorem badTo_all {f : D × Int → Bool} {L : List (D × Int)} {i : Nat} (hi : L.length ≤ i) : badTo f L i = L.any f := by
 unfold badTo
 rw [List.take_of_length_le hi]
theorem any_of {f : D × Int → Bool} {L : List (D × Int)} {i : Nat} {p : D × Int} (h : L[i]? = some p) (hf : f p = true) : L.any f = true := List.any_eq_true.2 ⟨p, List.mem_of_getElem? h, hf⟩
def lErr (L : List (D × Int)) : Int := if L.any (fun p => !fitsB p.1) then 2 else if L.any (fun p => decide (8 ≤ p.2)) then 6 else if L.any (fun p => decide (p.1.kind < 0) || decide (22 < p.1.kind)) then 3 else if L.any (fun p => !frmB p.1) then 4 else if L.any (fun p => dup1 p.1) then 5 else 0
theorem perm_any {f : D × Int → Bool} {L M : List (D × Int)} (h : L.Perm M) : L.any f = M.any f := by
 rw [Bool.eq_iff_iff, List.any_eq_true, List.any_eq_true]
 exact ⟨fun ⟨p, hp, hf⟩ => ⟨p, h.subset hp, hf⟩, fun ⟨p, hp, hf⟩ => ⟨p, h.symm.subset hp, hf⟩⟩
theorem lErr_eq {d : D} {L : List (D × Int)} (h : (pre d 0).Perm L) (hl : L.length ≤ 64) : lErr L = bErr d := by
 have hlen : (pre d 0).length ≤ 64 := by rw [h.length_eq]; exact hl
 unfold lErr bErr
 rw [chk0_eq, ← perm_any h, ← perm_any h, ← perm_any h, ← perm_any h, ← perm_any h]
 have e1 : (64 < (pre d 0).length ∨ ∃ p ∈ pre d 0, fitsB p.1 = false) ↔ (pre d 0).any (fun p => !fitsB p.1) = true := by
  rw [List.any_eq_true]
  constructor
  ·rintro (h | ⟨p, hp, hf⟩)
   ·omega
   ·exact ⟨p, hp, by rw [hf]; rfl⟩
  ·rintro ⟨p, hp, hf⟩
   exact .inr ⟨p, hp, by simpa using hf⟩
 have e2 : (∃ p ∈ pre d 0, 8 ≤ p.2) ↔ (pre d 0).any (fun p => decide (8 ≤ p.2)) = true := by
  rw [List.any_eq_true]; simp
 have e3 : (∃ p ∈ pre d 0, ¬ (0 ≤ p.1.kind ∧ p.1.kind ≤ 22)) ↔ (pre d 0).any (fun p => decide (p.1.kind < 0) || decide (22 < p.1.kind)) = true := by
  rw [List.any_eq_true]
  constructor
  ·rintro ⟨p, hp, hf⟩
   exact ⟨p, hp, by simp; omega⟩
  ·rintro ⟨p, hp, hf⟩
   exact ⟨p, hp, by simp at hf; omega⟩
 have e4 : (∃ p ∈ pre d 0, frmB p.1 = false) ↔ (pre d 0).any (fun p => !frmB p.1) = true := by
  rw [List.any_eq_true]; simp
 have e5 : dupA d = (pre d 0).any (fun p => dup1 p.1) := by
  unfold dupA
  rw [← pre_nodes d 0, List.any_map]
  rfl
 simp only [e1, e2, e3, e4, e5]
 cases (pre d 0).any (fun p => !fitsB p.1) <;> cases (pre d 0).any (fun p => decide (8 ≤ p.2)) <;> cases (pre d 0).any (fun p => decide (p.1.kind < 0) || decide (22 < p.1.kind)) <;> cases (pre d 0).any (fun p => !frmB p.1) <;> cases (pre d 0).any (fun p => dup1 p.1) <;> simp
theorem bErr_many {d : D} (h : 64 < (pre d 0).length) : bErr d = 2 := by
 have : chk0 d = 2 := by rw [chk0_eq, if_pos (.inl h)]
 unfold bErr
 rw [this, if_neg (by decide)]
theorem nodes_fit : ∀ (n : Nat) (d y : D) (nv pv : Value) (w : World), RdC n w nv pv d → y ∈ nodes d → Fit y
 | 0, d, y, nv, pv, w, h, _ => h.elim
 | n + 1, d, y, nv, pv, w, h, hy => by
   rw [nodes_eq] at hy
   obtain ⟨h1, -, a, c, -, -, -, hcell⟩ := h
   rcases List.mem_cons.1 hy with rfl | hy
   ·exact h1
   ·split at hy
    ·obtain ⟨x, hx, hyx⟩ := List.mem_flatMap.1 hy
     obtain ⟨i, hi⟩ := List.mem_iff_getElem?.1 hx
     obtain ⟨b, off, nv', pv', -, -, hr⟩ := hcell i x hi
     exact nodes_fit n x y nv' pv' w hr hyx
    ·cases hy
set_option maxRecDepth 1000000 in
set_option maxHeartbeats 8000000 in
theorem ocheck_any (n : Nat) (d : D) (nv pv : Value) (w : World) (hr : RdC (n + 1) w nv pv d) :
  Calls Tryz.prog 34 #[DV d nv pv] w fun e w' => e = .returned (.int .i64 (bErr d)) ∧ Below w.heap.size w w' := by
 obtain ⟨na, nc, pa, pc, rfl, rfl⟩ := hr.slices
 obtain ⟨W1, hW1⟩ : ∃ W1, W1 = w.alloc (.cells #[.int .i64 d.kind, .string d.ty, .int .u64 d.bits, .int .u64 d.imag, .string d.text, .slice na d.names.length nc, .slice pa d.parts.length pc, .int .i64 d.hook] 26) := ⟨_, rfl⟩
 have b1 : Below w.heap.size w W1 := by rw [hW1]; exact (Below.refl _ _).alloc (Nat.le_refl _) _
 have hal := oall_any n d _ _ W1 (hr.up b1)
 go_enter Tryz.func34, Tryz.ntmps34
 go_upto_region 2 with (go_at_call 63; rw [← hW1]; refine hal.mono ?_; rintro e W2 ⟨b2, L, v, dv, rfl, hrow, hown, hcase⟩; clear hal hW1)
 obtain ⟨ra, rc, e4, -, -⟩ := hrow.slice
 rw [List.length_map] at e4
 subst e4
 obtain ⟨oa, oc, rfl, -, -⟩ := own_sliceZ hown
 have bW : Below w.heap.size w W2 := b1.trans (b2.mono b1.size)
 rcases hcase with ⟨h65, hbig⟩ | ⟨hperm, h64⟩
 ·have hI : (64 : Int) < (L.length : Int) := by omega
  have HE : Hid (bErr d = 2) := bErr_many hbig
  clear hrow hown h65 hbig
  go_wp2
  go_ret
  exact ⟨by rw [HE.out]; rfl, bW⟩
 ·have hI : ¬ (64 : Int) < (L.length : Int) := by omega
  have HE : Hid (lErr L = bErr d) := lErr_eq hperm h64
  have hLI : (L.length : Int) ≤ 64 := by omega
  have hcellD : ∀ (i : Nat) (p : D × Int), L[i]? = some p → ∃ g nv' pv', ra = some ⟨g, 0, none⟩ ∧ g < W2.heap.size ∧ At8 W2 g (i * 8) p.1 nv' pv' ∧ RdC (n + 1) W1 nv' pv' p.1 := by
   obtain ⟨ra', rc', er, -, -, hrd⟩ := hrow.reads
   rw [List.length_map] at er
   obtain ⟨rfl, -, rfl⟩ := Value.slice.inj er
   intro i p hp
   obtain ⟨g, nv', pv', q1, -, q3, q4, q5⟩ := hrd i p.1 (by rw [List.getElem?_map, hp]; rfl)
   exact ⟨g, nv', pv', q1, q3, q4, q5⟩
  have hcellI : ∀ (i : Nat) (p : D × Int), L[i]? = some p → ∃ g, oa = some ⟨g, 0, none⟩ ∧ g < W2.heap.size ∧ W2.cell? ⟨g, i, none⟩ = some (.int .i64 p.2) := by
   intro i p hp
   have hil := (List.getElem?_eq_some_iff.1 hp).1
   rcases hown.2 with ⟨q1, q2⟩ | ⟨g, cap, cur, q1, -, q3, -⟩
   ·omega
   ·obtain ⟨rfl, -, -⟩ := Value.slice.inj q1
    refine ⟨g, rfl, (Array.getElem?_eq_some_iff.1 q3).1, ?_⟩
    rw [hown.cellAt i (by omega)]
    unfold dl
    rw [List.getElem?_map, hp]; rfl
  have HK : Hid (∀ p ∈ L, great p.1.kind = true → p.1.parts.length ≤ 63) := by
   intro p hp hg
   have hm : p.1 ∈ nodes d := by rw [← pre_nodes d 0]; exact List.mem_map.2 ⟨p, hperm.symm.subset hp, rfl⟩
   have q1 := great_len hg
   have q2 := nodes_parts_len _ d p.1 (Nat.le_refl _) hm
   have q3 : (nodes d).length ≤ 64 := by rw [← pre_nodes d 0, List.length_map, hperm.length_eq]; exact h64
   omega
  clear hrow hown hperm h64 hI
  go_wp2_with fail
  go_loopg [6, 25] L.length (fun g _ iv wr => ∃ (i : Nat), iv = .int .i64 (i : Nat) ∧ i + g = L.length ∧ Below W2.heap.size W2 wr ∧ Hid (badTo (fun p => !fitsB p.1) L i = false))
  case atStart => exact ⟨0, rfl, by omega, Below.refl _ _, rfl⟩
  case round =>
   obtain ⟨i, rfl, hig, hbr, HT⟩ := hrel
   have hbw := bW.trans (hbr.mono bW.size)
   by_cases hlt : i < L.length
   ·have hltI : (i : Int) < L.length := by omega
    obtain ⟨p, hp⟩ : ∃ p, L[i]? = some p := ⟨_, List.getElem?_eq_getElem hlt⟩
    have Hp : Hid (L[i]? = some p) := hp
    obtain ⟨g, nv', pv', rfl, hgl, ax, hrx⟩ := hcellD i p hp
    obtain ⟨na', nc', pa', pc', rfl, rfl⟩ := hrx.slices
    obtain ⟨a0, a1, a2, a3, a4, a5, a6, a7⟩ := ax.up hbr
    have hbB : Below W2.heap.size W2 (wr.alloc (.cells #[.int .i64 p.1.kind, .string p.1.ty, .int .u64 p.1.bits, .int .u64 p.1.imag, .string p.1.text, .slice na' p.1.names.length nc', .slice pa' p.1.parts.length pc', .int .i64 p.1.hook] 26)) := hbr.alloc hbr.size _
    have hbwB : Below w.heap.size w (wr.alloc (.cells #[.int .i64 p.1.kind, .string p.1.ty, .int .u64 p.1.bits, .int .u64 p.1.imag, .string p.1.text, .slice na' p.1.names.length nc', .slice pa' p.1.parts.length pc', .int .i64 p.1.hook] 26)) := bW.trans (hbB.mono bW.size)
    obtain ⟨⟨kind, ty, bits, imag, text, names, parts, hook⟩, dp⟩ := p
    dsimp only at *
    have hrt : text.size ≤ 9223372036854775807 := by have := hrx.1.2.2.2.2.2; unfold maxLen at this; exact this
    clear hp hrx ax
    have htz : (text.size : Int) ≤ 9223372036854775807 := by have := hrt; omega
    by_cases h16 : kind = 16
    ·subst h16
     by_cases ht : text.size ≤ 1024
     ·have htI : ¬ (1024 : Int) < text.size := by omega
      have HB : Hid ((fun p : D × Int => !fitsB p.1) (⟨16, ty, bits, imag, text, names, parts, hook⟩, dp) = false) := by show _ = _; simp [fitsB, ht]
      have HN : Hid (badTo (fun p => !fitsB p.1) L (i + 1) = false) := by show _ = _; rw [badTo_succ Hp.out, HT.out, Bool.false_or]; exact HB.out
      clear HT HB
      go_wp2
      go_roundg (gk - 1)
      case measure => omega
      case rel => exact ⟨i + 1, by go_num, by omega, hbB, HN⟩
     ·have htI : (1024 : Int) < text.size := by omega
      have HB : Hid ((fun p : D × Int => !fitsB p.1) (⟨16, ty, bits, imag, text, names, parts, hook⟩, dp) = true) := by show _ = _; simp [fitsB, ht]
      clear HT
      have HR : Hid (bErr d = 2) := by
       show _ = _
       rw [← HE.out]
       unfold lErr; rw [if_pos (any_of Hp.out (f := (fun p => !fitsB p.1)) HB.out)]
      go_wp2
      go_ret
      exact ⟨by rw [HR.out]; rfl, hbwB⟩
    ·have h16b : (kind == 16) = false := by simpa using h16
     by_cases h17 : kind = 17
     ·subst h17
      by_cases ht : text.size ≤ 1024
      ·have htI : ¬ (1024 : Int) < text.size := by omega
       have HB : Hid ((fun p : D × Int => !fitsB p.1) (⟨17, ty, bits, imag, text, names, parts, hook⟩, dp) = false) := by show _ = _; simp [fitsB, ht]
       have HN : Hid (badTo (fun p => !fitsB p.1) L (i + 1) = false) := by show _ = _; rw [badTo_succ Hp.out, HT.out, Bool.false_or]; exact HB.out
       clear HT HB h16
       go_wp2
       go_roundg (gk - 1)
       case measure => omega
       case rel => exact ⟨i + 1, by go_num, by omega, hbB, HN⟩
      ·have htI : (1024 : Int) < text.size := by omega
       have HB : Hid ((fun p : D × Int => !fitsB p.1) (⟨17, ty, bits, imag, text, names, parts, hook⟩, dp) = true) := by show _ = _; simp [fitsB, ht]
       clear HT h16
       have HR : Hid (bErr d = 2) := by
        show _ = _
        rw [← HE.out]
        unfold lErr; rw [if_pos (any_of Hp.out (f := (fun p => !fitsB p.1)) HB.out)]
       go_wp2
       go_ret
       exact ⟨by rw [HR.out]; rfl, hbwB⟩
     ·have h17b : (kind == 17) = false := by simpa using h17
      have HB : Hid ((fun p : D × Int => !fitsB p.1) (⟨kind, ty, bits, imag, text, names, parts, hook⟩, dp) = false) := by show _ = _; simp [fitsB, h16, h17]
      have HN : Hid (badTo (fun p => !fitsB p.1) L (i + 1) = false) := by show _ = _; rw [badTo_succ Hp.out, HT.out, Bool.false_or]; exact HB.out
      clear HT HB h16 h17
      go_wp2
      go_roundg (gk - 1)
      case measure => omega
      case rel => exact ⟨i + 1, by go_num, by omega, hbB, HN⟩
   ·have hltI : ¬ (i : Int) < L.length := by omega
    have H0 : Hid (L.any (fun p => !fitsB p.1) = false) := by show _ = _; rw [← badTo_all (i := i) (by omega)]; exact HT.out
    clear HT
    go_wp2_with fail
    go_loopg [8, 46] L.length (fun g _ iv wr => ∃ (i : Nat), iv = .int .i64 (i : Nat) ∧ i + g = L.length ∧ Below W2.heap.size W2 wr ∧ Hid (badTo (fun p => decide (8 ≤ p.2)) L i = false))
    case atStart => exact ⟨0, rfl, by omega, hbr, rfl⟩
    case round =>
     clear hbr; obtain ⟨i, rfl, hig, hbr, HT⟩ := hrel
     have hbw := bW.trans (hbr.mono bW.size)
     by_cases hlt : i < L.length
     ·have hltI : (i : Int) < L.length := by omega
      obtain ⟨p, hp⟩ : ∃ p, L[i]? = some p := ⟨_, List.getElem?_eq_getElem hlt⟩
      have Hp : Hid (L[i]? = some p) := hp
      obtain ⟨g, rfl, hgl, cx⟩ := hcellI i p hp
      have cx' := up_cell hbr cx
      clear hp cx
      by_cases hb : 8 ≤ p.2
      ·have hbI : 7 < p.2 := by omega
       have HB : Hid ((fun p : D × Int => decide (8 ≤ p.2)) p = true) := decide_eq_true hb
       clear hb HT
       have HR : Hid (bErr d = 6) := by
        show _ = _
        rw [← HE.out]
        unfold lErr; rw [if_neg (by rw [H0.out]; simp), if_pos (any_of Hp.out (f := (fun p => decide (8 ≤ p.2))) HB.out)]
       go_wp2
       go_ret
       exact ⟨by rw [HR.out]; rfl, hbw⟩
      ·have hbI : ¬ 7 < p.2 := by omega
       have HB : Hid ((fun p : D × Int => decide (8 ≤ p.2)) p = false) := decide_eq_false hb
       have HN : Hid (badTo (fun p => decide (8 ≤ p.2)) L (i + 1) = false) := by show _ = _; rw [badTo_succ Hp.out, HT.out, Bool.false_or]; exact HB.out
       clear hb HT HB
       go_wp2
       go_roundg (gk - 1)
       case measure => omega
       case rel => exact ⟨i + 1, by go_num, by omega, hbr, HN⟩
     ·have hltI : ¬ (i : Int) < L.length := by omega
      have H1 : Hid (L.any (fun p => decide (8 ≤ p.2)) = false) := by show _ = _; rw [← badTo_all (i := i) (by omega)]; exact HT.out
      clear HT
      go_wp2_with fail
      go_loopg [10, 55] L.length (fun g _ iv wr => ∃ (i : Nat), iv = .int .i64 (i : Nat) ∧ i + g = L.length ∧ Below W2.heap.size W2 wr ∧ Hid (badTo (fun p => decide (p.1.kind < 0) || decide (22 < p.1.kind)) L i = false))
      case atStart => exact ⟨0, rfl, by omega, hbr, rfl⟩
      case round =>
       clear hbr; obtain ⟨i, rfl, hig, hbr, HT⟩ := hrel
       have hbw := bW.trans (hbr.mono bW.size)
       by_cases hlt : i < L.length
       ·have hltI : (i : Int) < L.length := by omega
        obtain ⟨p, hp⟩ : ∃ p, L[i]? = some p := ⟨_, List.getElem?_eq_getElem hlt⟩
        have Hp : Hid (L[i]? = some p) := hp
        obtain ⟨g, nv', pv', rfl, hgl, ax, hrx⟩ := hcellD i p hp
        obtain ⟨na', nc', pa', pc', rfl, rfl⟩ := hrx.slices
        obtain ⟨a0, a1, a2, a3, a4, a5, a6, a7⟩ := ax.up hbr
        have hbB : Below W2.heap.size W2 (wr.alloc (.cells #[.int .i64 p.1.kind, .string p.1.ty, .int .u64 p.1.bits, .int .u64 p.1.imag, .string p.1.text, .slice na' p.1.names.length nc', .slice pa' p.1.parts.length pc', .int .i64 p.1.hook] 26)) := hbr.alloc hbr.size _
        have hbwB : Below w.heap.size w (wr.alloc (.cells #[.int .i64 p.1.kind, .string p.1.ty, .int .u64 p.1.bits, .int .u64 p.1.imag, .string p.1.text, .slice na' p.1.names.length nc', .slice pa' p.1.parts.length pc', .int .i64 p.1.hook] 26)) := bW.trans (hbB.mono bW.size)
        clear hp hrx ax
        by_cases hb : 0 ≤ p.1.kind ∧ p.1.kind ≤ 22
        ·have h0 : ¬ p.1.kind < 0 := by omega
         have h1 : ¬ 22 < p.1.kind := by omega
         have HB : Hid ((fun p : D × Int => decide (p.1.kind < 0) || decide (22 < p.1.kind)) p = false) := by show _ = _; simp [h0, h1]
         have HN : Hid (badTo (fun p => decide (p.1.kind < 0) || decide (22 < p.1.kind)) L (i + 1) = false) := by show _ = _; rw [badTo_succ Hp.out, HT.out, Bool.false_or]; exact HB.out
         clear HT HB hb
         go_wp2
         go_roundg (gk - 1)
         case measure => omega
         case rel => exact ⟨i + 1, by go_num, by omega, hbB, HN⟩
        ·have HB : Hid ((fun p : D × Int => decide (p.1.kind < 0) || decide (22 < p.1.kind)) p = true) := by show _ = _; simp; omega
         clear HT
         by_cases h0 : p.1.kind < 0
         ·clear hb
          have HR : Hid (bErr d = 3) := by
           show _ = _
           rw [← HE.out]
           unfold lErr; rw [if_neg (by rw [H0.out]; simp), if_neg (by rw [H1.out]; simp), if_pos (any_of Hp.out (f := (fun p => decide (p.1.kind < 0) || decide (22 < p.1.kind))) HB.out)]
          go_wp2
          go_ret
          exact ⟨by rw [HR.out]; rfl, hbwB⟩
         ·have h1 : 22 < p.1.kind := by omega
          clear hb
          have HR : Hid (bErr d = 3) := by
           show _ = _
           rw [← HE.out]
           unfold lErr; rw [if_neg (by rw [H0.out]; simp), if_neg (by rw [H1.out]; simp), if_pos (any_of Hp.out (f := (fun p => decide (p.1.kind < 0) || decide (22 < p.1.kind))) HB.out)]
          go_wp2
          go_ret
          exact ⟨by rw [HR.out]; rfl, hbwB⟩
       ·have hltI : ¬ (i : Int) < L.length := by omega
        have H2 : Hid (L.any (fun p => decide (p.1.kind < 0) || decide (22 < p.1.kind)) = false) := by show _ = _; rw [← badTo_all (i := i) (by omega)]; exact HT.out
        clear HT
        go_wp2_with fail
        go_loopg [12, 70] L.length (fun g _ iv wr => ∃ (i : Nat), iv = .int .i64 (i : Nat) ∧ i + g = L.length ∧ Below W2.heap.size W2 wr ∧ Hid (badTo (fun p => !frmB p.1) L i = false))
        case atStart => exact ⟨0, rfl, by omega, hbr, rfl⟩
        case round =>
         clear hbr; obtain ⟨i, rfl, hig, hbr, HT⟩ := hrel
         have hbw := bW.trans (hbr.mono bW.size)
         by_cases hlt : i < L.length
         ·have hltI : (i : Int) < L.length := by omega
          obtain ⟨p, hp⟩ : ∃ p, L[i]? = some p := ⟨_, List.getElem?_eq_getElem hlt⟩
          have Hp : Hid (L[i]? = some p) := hp
          obtain ⟨g, nv', pv', rfl, hgl, ax, hrx⟩ := hcellD i p hp
          obtain ⟨na', nc', pa', pc', rfl, rfl⟩ := hrx.slices
          obtain ⟨a0, a1, a2, a3, a4, a5, a6, a7⟩ := ax.up hbr
          have hbB : Below W2.heap.size W2 (wr.alloc (.cells #[.int .i64 p.1.kind, .string p.1.ty, .int .u64 p.1.bits, .int .u64 p.1.imag, .string p.1.text, .slice na' p.1.names.length nc', .slice pa' p.1.parts.length pc', .int .i64 p.1.hook] 26)) := hbr.alloc hbr.size _
          have hbwB : Below w.heap.size w (wr.alloc (.cells #[.int .i64 p.1.kind, .string p.1.ty, .int .u64 p.1.bits, .int .u64 p.1.imag, .string p.1.text, .slice na' p.1.names.length nc', .slice pa' p.1.parts.length pc', .int .i64 p.1.hook] 26)) := bW.trans (hbB.mono bW.size)
          have hcl := oform_any n p.1 _ _ _ (hrx.up (b2.trans (hbB.mono b2.size)))
          clear hp hrx ax
          cases hb : frmB p.1 with
          | false =>
            rw [hb] at hcl
            have HB : Hid ((fun p : D × Int => !frmB p.1) p = true) := by show _ = _; simp [hb]
            clear HT hb
            have HR : Hid (bErr d = 4) := by
             show _ = _
             rw [← HE.out]
             unfold lErr; rw [if_neg (by rw [H0.out]; simp), if_neg (by rw [H1.out]; simp), if_neg (by rw [H2.out]; simp), if_pos (any_of Hp.out (f := (fun p => !frmB p.1)) HB.out)]
            go_wp2_with (go_at_call 64; refine hcl.mono ?_; rintro e w9 ⟨rfl, b9⟩)
            go_ret
            exact ⟨by rw [HR.out]; rfl, hbwB.trans (b9.mono hbwB.size)⟩
          | true =>
            rw [hb] at hcl
            have HB : Hid ((fun p : D × Int => !frmB p.1) p = false) := by show _ = _; simp [hb]
            have HN : Hid (badTo (fun p => !frmB p.1) L (i + 1) = false) := by show _ = _; rw [badTo_succ Hp.out, HT.out, Bool.false_or]; exact HB.out
            clear HT HB hb
            go_wp2_with (go_at_call 64; refine hcl.mono ?_; rintro e w9 ⟨rfl, b9⟩)
            go_roundg (gk - 1)
            case measure => omega
            case rel => exact ⟨i + 1, by go_num, by omega, hbB.trans (b9.mono hbB.size), HN⟩
         ·have hltI : ¬ (i : Int) < L.length := by omega
          have H3 : Hid (L.any (fun p => !frmB p.1) = false) := by show _ = _; rw [← badTo_all (i := i) (by omega)]; exact HT.out
          clear HT
          go_wp2_with fail
          go_loopg [14, 80] L.length (fun g _ iv wr => ∃ (i : Nat), iv = .int .i64 (i : Nat) ∧ i + g = L.length ∧ Below W2.heap.size W2 wr ∧ Hid (badTo (fun p => dup1 p.1) L i = false))
          case atStart => exact ⟨0, rfl, by omega, hbr, rfl⟩
          case round =>
           clear hbr; obtain ⟨i, rfl, hig, hbr, HT⟩ := hrel
           have hbw := bW.trans (hbr.mono bW.size)
           by_cases hlt : i < L.length
           ·have hltI : (i : Int) < L.length := by omega
            obtain ⟨p, hp⟩ : ∃ p, L[i]? = some p := ⟨_, List.getElem?_eq_getElem hlt⟩
            have Hp : Hid (L[i]? = some p) := hp
            obtain ⟨g, nv', pv', rfl, hgl, ax, hrx⟩ := hcellD i p hp
            obtain ⟨na', nc', pa', pc', rfl, rfl⟩ := hrx.slices
            obtain ⟨a0, a1, a2, a3, a4, a5, a6, a7⟩ := ax.up hbr
            have hbB : Below W2.heap.size W2 (wr.alloc (.cells #[.int .i64 p.1.kind, .string p.1.ty, .int .u64 p.1.bits, .int .u64 p.1.imag, .string p.1.text, .slice na' p.1.names.length nc', .slice pa' p.1.parts.length pc', .int .i64 p.1.hook] 26)) := hbr.alloc hbr.size _
            have hbwB : Below w.heap.size w (wr.alloc (.cells #[.int .i64 p.1.kind, .string p.1.ty, .int .u64 p.1.bits, .int .u64 p.1.imag, .string p.1.text, .slice na' p.1.names.length nc', .slice pa' p.1.parts.length pc', .int .i64 p.1.hook] 26)) := bW.trans (hbB.mono bW.size)
            have hgn : GoodN p.1 := by
             have hm := List.mem_of_getElem? hp
             have q3 := H2.out
             have q4 := H3.out
             rw [List.any_eq_false] at q3 q4
             have k3 := q3 p hm
             have k4 := q4 p hm
             simp at k3 k4
             exact ⟨hrx.1, by omega, by omega, k4, fun hg => Nat.le_trans (HK.out p hm hg) (by omega)⟩
            have hcl := otwice_any n p.1 _ _ _ ((hrx.up (b2.trans (hbB.mono b2.size))).more (by omega)) hgn
            clear hp hrx ax hgn
            cases hb : dup1 p.1 with
            | false =>
              rw [hb] at hcl
              have HB : Hid ((fun p : D × Int => dup1 p.1) p = false) := by show _ = _; simp [hb]
              have HN : Hid (badTo (fun p => dup1 p.1) L (i + 1) = false) := by show _ = _; rw [badTo_succ Hp.out, HT.out, Bool.false_or]; exact HB.out
              clear HT HB hb
              go_wp2_with (go_at_call 65; refine hcl.mono ?_; rintro e w9 ⟨rfl, b9⟩)
              go_roundg (gk - 1)
              case measure => omega
              case rel => exact ⟨i + 1, by go_num, by omega, hbB.trans (b9.mono hbB.size), HN⟩
            | true =>
              rw [hb] at hcl
              have HB : Hid ((fun p : D × Int => dup1 p.1) p = true) := by show _ = _; simp [hb]
              clear HT hb
              have HR : Hid (bErr d = 5) := by
               show _ = _
               rw [← HE.out]
               unfold lErr; rw [if_neg (by rw [H0.out]; simp), if_neg (by rw [H1.out]; simp), if_neg (by rw [H2.out]; simp), if_neg (by rw [H3.out]; simp), if_pos (any_of Hp.out (f := (fun p => dup1 p.1)) HB.out)]
              go_wp2_with (go_at_call 65; refine hcl.mono ?_; rintro e w9 ⟨rfl, b9⟩)
              go_ret
              exact ⟨by rw [HR.out]; rfl, hbwB.trans (b9.mono hbwB.size)⟩
           ·have hltI : ¬ (i : Int) < L.length := by omega
            have H4 : Hid (L.any (fun p => dup1 p.1) = false) := by show _ = _; rw [← badTo_all (i := i) (by omega)]; exact HT.out
            clear HT
            have HR : Hid (bErr d = 0) := by
             show _ = _
             rw [← HE.out]
             unfold lErr
             rw [if_neg (by rw [H0.out]; simp), if_neg (by rw [H1.out]; simp), if_neg (by rw [H2.out]; simp), if_neg (by rw [H3.out]; simp), if_neg (by rw [H4.out]; simp)]
            clear hcellD hcellI
            go_wp2
            go_ret
            exact ⟨by rw [HR.out]; rfl, hbw⟩
set_option maxRecDepth 1000000 in
set_option maxHeartbeats 4000000 in
theorem obuild_any (n : Nat) (d : D) (nv pv : Value) (w : World) (hr : RdC (n + 1) w nv pv d) :
  Calls Tryz.prog 23 #[DV d nv pv] w fun e w' => Below w.heap.size w w' ∧ ((bErr d = 0 ∧ ∃ nv' pv', e = .returned (.tuple #[DV (inF d) nv' pv', .int .i64 0]) ∧ RdS (n + 1) (fun b => w.heap.size ≤ b) w' nv' pv' (inF d)) ∨ (bErr d ≠ 0 ∧ e = .returned (.tuple #[DV d00 (.slice none 0 0) (.slice none 0 0), .int .i64 (bErr d)]))) := by
 obtain ⟨na, nc, pa, pc, rfl, rfl⟩ := hr.slices
 obtain ⟨W1, hW1⟩ : ∃ W1, W1 = (w.alloc (.cells #[.int .i64 d.kind, .string d.ty, .int .u64 d.bits, .int .u64 d.imag, .string d.text, .slice na d.names.length nc, .slice pa d.parts.length pc, .int .i64 d.hook] 26)).alloc (.cells #[.int .i64 0, .string ⟨#[]⟩, .int .u64 0, .int .u64 0, .string ⟨#[]⟩, .slice none 0 0, .slice none 0 0, .int .i64 0] 26) := ⟨_, rfl⟩
 have b1 : Below w.heap.size w W1 := by rw [hW1]; exact bel2 _ _ _
 have hck := ocheck_any n d _ _ W1 (hr.up b1)
 have a1 : At8 W1 w.heap.size 0 d (.slice na d.names.length nc) (.slice pa d.parts.length pc) := by
  rw [hW1]
  refine ⟨?_, ?_, ?_, ?_, ?_, ?_, ?_, ?_⟩
  all_goals simp [go_sem]
 have zz1 : Zero8 W1 (w.heap.size + 1) := by
  have e1 : (w.alloc (.cells #[.int .i64 d.kind, .string d.ty, .int .u64 d.bits, .int .u64 d.imag, .string d.text, .slice na d.names.length nc, .slice pa d.parts.length pc, .int .i64 d.hook] 26)).heap.size = w.heap.size + 1 := by simp
  refine ⟨by rw [hW1]; refine ⟨?_, ?_, ?_, ?_, ?_, ?_, ?_, ?_⟩ <;> simp [go_sem], fun i => ?_⟩
  rw [hW1, frozen?_alloc_cells, ← e1]
  exact frozen_none _ _ (Nat.le_refl _)
 obtain ⟨c0, c1, c2, c3, c4, c5, c6, c7⟩ := a1
 simp only [Nat.zero_add] at c0 c1 c2 c3 c4 c5 c6 c7
 go_enter Tryz.func23, Tryz.ntmps23
 go_upto_region 1 with fail
 rw [← hW1]
 clear hW1
 obtain ⟨q, hq⟩ : ∃ q, bErr d = q := ⟨_, rfl⟩
 rw [hq] at hck
 have HQ : Hid (bErr d = q) := hq
 clear hq
 go_upto_region 2 with (go_at_call 34; refine hck.mono ?_; rintro e W2 ⟨rfl, b2⟩)
 have bW : Below w.heap.size w W2 := b1.trans (b2.mono b1.size)
 have zz2 := zz1.up b2
 have d0 := up_cell b2 c0
 have d1 := up_cell b2 c1
 have d2 := up_cell b2 c2
 have d3 := up_cell b2 c3
 have d4 := up_cell b2 c4
 have d5 := up_cell b2 c5
 have d6 := up_cell b2 c6
 have d7 := up_cell b2 c7
 clear hck zz1 c0 c1 c2 c3 c4 c5 c6 c7
 by_cases hz : q = 0
 ·subst hz
  obtain ⟨h0, hdu⟩ := (bErr_zero d).1 HQ.out
  have hok := ok_of h0
  have hg8 : Good8 d := by
   intro y hy
   have hfy : Fit y := nodes_fit (n + 1) d y _ _ w hr hy
   exact ⟨hfy, (hok.kind y hy).1, (hok.kind y hy).2, hok.form y hy, fun hg => Nat.le_trans (hok.parts hy hg) (by omega)⟩
  have hin := oin_any (n + 1) d hg8 hdu W2 _ _ (hr.up bW)
  have hbx : w.heap.size + 1 < W2.heap.size := lt_of_cell zz2.1.1
  go_upto_region 4 with fail
  have HQ0 : Hid (bErr d = 0) := HQ.out
  clear HQ hok hg8 h0 hdu
  go_wp2_with (go_at_call 35; refine hin.mono ?_; rintro e W3 ⟨b3, nv', pv', rfl, hrd⟩; have zz3 := zz2.up b3; obtain ⟨⟨z0, z1, z2, z3, z4, z5, z6, z7⟩, zf⟩ := zz3; have y0 := zf 0; have y1 := zf 1; have y2 := zf 2; have y3 := zf 3; have y4 := zf 4; have y5 := zf 5; have y6 := zf 6; have y7 := zf 7; obtain ⟨na', nc', pa', pc', rfl, rfl⟩ := hrd.slices)
  obtain ⟨r0, r1, r2, r3, r4, r5, r6, r7⟩ := set8 z0 z1 z2 z3 z4 z5 z6 z7 (.int .i64 (inF d).kind) (.string (inF d).ty) (.int .u64 (inF d).bits) (.int .u64 (inF d).imag) (.string (inF d).text) (.slice na' (inF d).names.length nc') (.slice pa' (inF d).parts.length pc') (.int .i64 (inF d).hook)
  refine bodyPost_ret (v := .tuple #[DV (inF d) (.slice na' (inF d).names.length nc') (.slice pa' (inF d).parts.length pc'), .int .i64 0]) (by simp [results, Tryz.results23, go_sem, r0, r1, r2, r3, r4, r5, r6, r7]) rfl ?_
  refine ⟨set8_below (bW.trans (b3.mono bW.size)) (by omega), .inl ⟨HQ0.out, _, _, rfl, hrd.turn fun b hb hlt => ⟨?_, fun o => set8_other ?_ o⟩⟩⟩
  ·have := bW.size; have h2 : W2.heap.size ≤ b := hb; omega
  ·have h2 : W2.heap.size ≤ b := hb; omega
 ·have hqb : (q != 0) = true := by simpa using hz
  have HN : Hid (bErr d ≠ 0) := by show _ ≠ _; rw [HQ.out]; exact hz
  have hbd : ∀ w, (Instr.build 26 #[]).run Tryz.prog w = .ok (.agg #[.int .i64 0, .string ⟨#[]⟩, .int .u64 0, .int .u64 0, .string ⟨#[]⟩, .slice none 0 0, .slice none 0 0, .int .i64 0]) w := fun w => by kernel_rfl
  obtain ⟨⟨z0, z1, z2, z3, z4, z5, z6, z7⟩, zf⟩ := zz2
  have y0 := zf 0
  have y1 := zf 1
  have y2 := zf 2
  have y3 := zf 3
  have y4 := zf 4
  have y5 := zf 5
  have y6 := zf 6
  have y7 := zf 7
  clear hz
  go_wp2
  obtain ⟨r0, r1, r2, r3, r4, r5, r6, r7⟩ := set8 z0 z1 z2 z3 z4 z5 z6 z7 (.int .i64 0) (.string ⟨#[]⟩) (.int .u64 0) (.int .u64 0) (.string ⟨#[]⟩) (.slice none 0 0) (.slice none 0 0) (.int .i64 0)
  refine bodyPost_ret (v := .tuple #[DV d00 (.slice none 0 0) (.slice none 0 0), .int .i64 q]) (by simp [results, Tryz.results23, go_sem, d00, r0, r1, r2, r3, r4, r5, r6, r7]) rfl ?_
  exact ⟨set8_below bW (by omega), .inr ⟨HN.out, by rw [HQ.out]⟩⟩
end Go.Proofs.YtlgieoabellbmaaGreatDoor
