/- VWalkC, VWalkD: these texts in one. -/
import Derived.Test.YtdlnmnipnkeabaaGreatDoorPt8
import Derived.Shelf.Abstract
namespace Go.Proofs.YtdlnmnipnkeabaaGreatDoor
open Go.RowKit
set_option linter.unusedVariables false
def fldB (d : D) : Bool := decide (d.names.length = d.parts.length) && d.names.all namedB
theorem all_take {α : Type} (p : α → Bool) (l : List α) (k : Nat) (x : α) (h : l[k]? = some x) : (l.take (k + 1)).all p = ((l.take k).all p && p x) := by
 rw [List.take_add_one, h]
 simp
theorem all_bad {α : Type} (p : α → Bool) (l : List α) (k : Nat) (x : α) (h : l[k]? = some x) (hb : p x = false) : l.all p = false := by
 cases ha : l.all p with
 | false => rfl
 | true => have := List.all_eq_true.1 ha x (List.mem_of_getElem? h); rw [hb] at this; cases this
set_option maxRecDepth 1000000 in
set_option maxHeartbeats 4000000 in
theorem fields_any (d : D) (nv : Value) (a : Option Addr) (cap : Nat) (w : World) (hs : Strs w nv d.names) (hp : d.parts.length ≤ 9223372036854775807) :
  Calls Tryz.prog 120 #[DV d nv (.slice a d.parts.length cap)] w fun e w' => e = .returned (.bool (fldB d)) ∧ Below w.heap.size w w' := by
 obtain ⟨kind, ty, bits, imag, text, names, parts, hook⟩ := d
 obtain ⟨a2, cap2, rfl, hl1, hl2, hcell⟩ := hs
 have bel : ∀ cs t, Below w.heap.size w (w.alloc (.cells cs t)) := fun _ _ => (Below.refl _ _).alloc (Nat.le_refl _) _
 simp only at hp hl1 hcell ⊢
 unfold maxLen at hl2 hcell
 by_cases hn : names.length = parts.length
 ·have hnI : ((names.length : Int) != (parts.length : Int)) = false := by simp [hn]
  have HD : Hid (fldB ⟨kind, ty, bits, imag, text, names, parts, hook⟩ = names.all namedB) := by show fldB _ = _; unfold fldB; simp [hn]
  clear hn
  go_enter Tryz.func120, Tryz.ntmps120
  go_wp2
  go_loopg [4, 15] names.length (fun g z i wr => wr = w.alloc (.cells #[.int .i64 kind, .string ty, .int .u64 bits, .int .u64 imag, .string text, .slice a2 names.length cap2, .slice a parts.length cap, .int .i64 hook] 29) ∧ ∃ k : Nat, i = .int .i64 k ∧ k + g = names.length ∧ Hid ((names.take k).all namedB = true))
  case atStart => exact ⟨rfl, 0, rfl, Nat.zero_add _, rfl⟩
  case round =>
   obtain ⟨rfl, k, rfl, hkg, HA⟩ := hrel
   by_cases hlt : k < names.length
   ·have hltI : (k : Int) < names.length := by omega
    obtain ⟨s, hs⟩ : ∃ s, names[k]? = some s := ⟨names[k], List.getElem?_eq_getElem hlt⟩
    obtain ⟨hsz, b, off, rfl, hc⟩ := hcell k s hs
    have hc' := fun cs t => up_cell (bel cs t) hc
    have HN : Hid ((names.take (k + 1)).all namedB = ((names.take k).all namedB && namedB s)) := all_take namedB names k s hs
    have HB : Hid (namedB s = false → names.all namedB = false) := all_bad namedB names k s hs
    have hnm := fun W => named_any s W (by omega)
    clear hcell hs
    generalize namedB s = q at hnm HN HB
    cases q with
    | true =>
      go_wp2_with (go_at_call 146; refine (hnm _).mono ?_; rintro e w1 ⟨rfl, rfl⟩)
      go_roundg (gk - 1)
      case measure => omega
      case rel => exact ⟨rfl, k + 1, by go_num, by omega, by show _ = _; rw [HN.out, HA.out]; rfl⟩
    | false =>
      go_wp2_with (go_at_call 146; refine (hnm _).mono ?_; rintro e w1 ⟨rfl, rfl⟩)
      go_ret
      rw [HD.out, HB.out trivial]
      exact ⟨rfl, bel _ _⟩
   ·have hltI : ¬ (k : Int) < names.length := by omega
    have HF : Hid (names.all namedB = true) := by
     have := HA.out
     rw [List.take_of_length_le (by omega)] at this
     exact this
    go_wp2
    go_ret
    rw [HD.out, HF.out]
    exact ⟨rfl, bel _ _⟩
 ·have hnI : ((names.length : Int) != (parts.length : Int)) = true := by simp; omega
  have HD : Hid (fldB ⟨kind, ty, bits, imag, text, names, parts, hook⟩ = false) := by show fldB _ = _; unfold fldB; simp [hn]
  clear hn
  go_enter Tryz.func120, Tryz.ntmps120
  go_wp2
  go_ret
  rw [HD.out]
  exact ⟨rfl, bel _ _⟩
def evB (l : List D) (k : Nat) : Bool := (List.range k).all fun i => match l[i]? with | some x => i % 2 == 1 || keyB x.kind | none => true
def entB (d : D) : Bool := evB d.parts d.parts.length && decide (d.parts.length % 2 = 0)
theorem evB_succ (l : List D) (k : Nat) (x : D) (h : l[k]? = some x) : evB l (k + 1) = (evB l k && (k % 2 == 1 || keyB x.kind)) := by
 unfold evB
 rw [List.range_succ]
 simp [h]
theorem evB_bad (l : List D) (k n : Nat) (x : D) (hk : k < n) (h : l[k]? = some x) (hb : (k % 2 == 1 || keyB x.kind) = false) : evB l n = false := by
 cases ha : evB l n with
 | false => rfl
 | true =>
   unfold evB at ha
   have := List.all_eq_true.1 ha k (List.mem_range.2 hk)
   simp only [h] at this
   rw [hb] at this; cases this
set_option maxRecDepth 1000000 in
set_option maxHeartbeats 4000000 in
theorem entries_any (n : Nat) (d : D) (nv pv : Value) (w : World) (hr : RdC (n + 1) w nv pv d) :
  Calls Tryz.prog 121 #[DV d nv pv] w fun e w' => e = .returned (.bool (entB d)) ∧ Below w.heap.size w w' := by
 obtain ⟨-, -, a, cap, rfl, hl1, hl2, hcell⟩ := hr
 obtain ⟨kind, ty, bits, imag, text, names, parts, hook⟩ := d
 have bel : ∀ cs t, Below w.heap.size w (w.alloc (.cells cs t)) := fun _ _ => (Below.refl _ _).alloc (Nat.le_refl _) _
 simp only at hl1 hcell ⊢
 unfold maxLen at hl2
 have HD : Hid (entB ⟨kind, ty, bits, imag, text, names, parts, hook⟩ = (evB parts parts.length && decide (parts.length % 2 = 0))) := rfl
 obtain ⟨W1, hW1⟩ : ∃ W1, W1 = w.alloc (.cells #[.int .i64 kind, .string ty, .int .u64 bits, .int .u64 imag, .string text, nv, .slice a parts.length cap, .int .i64 hook] 29) := ⟨_, rfl⟩
 have hb1 : Below w.heap.size w W1 := by rw [hW1]; exact bel _ _
 have f6 : ∀ x : Cl W1, x.w.cell? ⟨w.heap.size, 6, none⟩ = some (.slice a parts.length cap) := fun x => x.cell (by rw [hW1]; simp)
 go_enter Tryz.func121, Tryz.ntmps121
 go_wp2
 rw [← hW1]
 go_loopg [3, 4, 8] parts.length (fun g z0 z1 i wr => ∃ (y : Cl W1) (k : Nat), wr = y.w ∧ i = .int .i64 k ∧ k + g = parts.length ∧ Hid (evB parts k = true))
 case atStart => exact ⟨⟨W1, Below.refl _ _⟩, 0, rfl, rfl, Nat.zero_add _, rfl⟩
 case round =>
  obtain ⟨y, k, rfl, rfl, hkg, HA⟩ := hrel
  by_cases hlt : k < parts.length
  ·have hltI : (k : Int) < parts.length := by omega
   obtain ⟨x, hx⟩ : ∃ x, parts[k]? = some x := ⟨parts[k], List.getElem?_eq_getElem hlt⟩
   obtain ⟨b, off, nv', pv', rfl, h8, hr'⟩ := hcell k x hx
   obtain ⟨na, nc, pa, pc, rfl, rfl⟩ := hr'.slices
   clear hr'
   obtain ⟨c0, c1, c2, c3, c4, c5, c6, c7⟩ := (h8.up hb1).up y.below
   have HN : Hid (evB parts (k + 1) = (evB parts k && (k % 2 == 1 || keyB x.kind))) := evB_succ parts k x hx
   have HB : Hid ((k % 2 == 1 || keyB x.kind) = false → evB parts parts.length = false) := evB_bad parts k _ x hlt hx
   have hky := fun W => iskey_any x.kind W
   clear hcell hx h8
   have ydone : Below W1.heap.size W1 (y.w.alloc (.cells #[.int .i64 x.kind, .string x.ty, .int .u64 x.bits, .int .u64 x.imag, .string x.text, .slice na x.names.length nc, .slice pa x.parts.length pc, .int .i64 x.hook] 29)) := y.below.alloc y.below.size _
   by_cases hpar : k % 2 = 0
   ·have hpI : (((k : Int) % 2) == 0) = true := by simp; omega
    have HP : Hid ((k % 2 == 1) = false) := by show (k % 2 == 1) = false; simp; omega
    clear hpar
    generalize keyB x.kind = q at hky HN HB
    cases q with
    | true =>
      go_wp2_with (go_at_call 147; refine (hky _).mono ?_; rintro e w1 ⟨rfl, rfl⟩)
      go_roundg (gk - 1)
      case measure => omega
      case rel => exact ⟨⟨_, ydone⟩, k + 1, rfl, by go_num, by omega, by show _ = _; rw [HN.out, HA.out]; simp⟩
    | false =>
      go_wp2_with (go_at_call 147; refine (hky _).mono ?_; rintro e w1 ⟨rfl, rfl⟩)
      go_ret
      rw [HD.out, HB.out (by rw [HP.out]; rfl)]
      exact ⟨rfl, hb1.trans (ydone.mono hb1.size)⟩
   ·have hpI : (((k : Int) % 2) == 0) = false := by simp; omega
    have HP : Hid ((k % 2 == 1) = true) := by show (k % 2 == 1) = true; simp; omega
    clear hpar
    go_wp2_with (go_at_call 147; refine (hky _).mono ?_; rintro e w1 ⟨rfl, rfl⟩)
    go_roundg (gk - 1)
    case measure => omega
    case rel => exact ⟨⟨_, ydone⟩, k + 1, rfl, by go_num, by omega, by show _ = _; rw [HN.out, HA.out, HP.out]; rfl⟩
  ·have hltI : ¬ (k : Int) < parts.length := by omega
   have hk : k = parts.length := by omega
   have HF : Hid (evB parts parts.length = true) := by rw [hk] at HA; exact HA
   clear hk
   by_cases hpar : parts.length % 2 = 0
   ·have hpI : (((parts.length : Int) % 2) == 0) = true := by simp; omega
    have HE : Hid (entB ⟨kind, ty, bits, imag, text, names, parts, hook⟩ = true) := by show _ = _; rw [HD.out, HF.out]; simp [hpar]
    clear hpar
    go_wp2
    go_ret
    rw [HE.out]
    exact ⟨rfl, hb1.trans (y.below.mono hb1.size)⟩
   ·have hpI : (((parts.length : Int) % 2) == 0) = false := by simp; omega
    have HE : Hid (entB ⟨kind, ty, bits, imag, text, names, parts, hook⟩ = false) := by show _ = _; rw [HD.out, HF.out]; simp [hpar]
    clear hpar
    go_wp2
    go_ret
    rw [HE.out]
    exact ⟨rfl, hb1.trans (y.below.mono hb1.size)⟩
def frmB (d : D) : Bool :=
 if d.kind = 0 then true else typedB d.ty && (if d.kind = 18 then fldB d else if d.kind = 21 then entB d else if d.kind = 22 then decide (d.parts.length ≤ 1) else true)
set_option maxRecDepth 1000000 in
set_option maxHeartbeats 4000000 in
theorem formed_any (n : Nat) (d : D) (nv pv : Value) (w : World) (hr : RdC (n + 1) w nv pv d) :
  Calls Tryz.prog 95 #[DV d nv pv] w fun e w' => e = .returned (.bool (frmB d)) ∧ Below w.heap.size w w' := by
 obtain ⟨na, nc, pa, pc, rfl, rfl⟩ := hr.slices
 have hfit := hr.1
 have hty := fun W => typed_any d.ty W (by have := hfit.2.2.2.2.1; unfold maxLen at this; omega)
 have hlen : d.parts.length ≤ 9223372036854775807 := by
  obtain ⟨-, -, a, cap, -, h1, h2, -⟩ := hr
  unfold maxLen at h2; omega
 have hst := hr.2.1
 obtain ⟨W1, hW1⟩ : ∃ W1, W1 = w.alloc (.cells #[.int .i64 d.kind, .string d.ty, .int .u64 d.bits, .int .u64 d.imag, .string d.text, .slice na d.names.length nc, .slice pa d.parts.length pc, .int .i64 d.hook] 29) := ⟨_, rfl⟩
 have hb1 : Below w.heap.size w W1 := by rw [hW1]; exact (Below.refl _ _).alloc (Nat.le_refl _) _
 have hfl := fun (W : World) (h : Below w.heap.size w W) => fields_any d (.slice na d.names.length nc) pa pc W (hst.up h) hlen
 have hen := fun (W : World) (h : Below w.heap.size w W) => entries_any n d (.slice na d.names.length nc) (.slice pa d.parts.length pc) W (hr.up h)
 clear hr hst hfit
 have HD : Hid (frmB d = if d.kind = 0 then true else typedB d.ty && (if d.kind = 18 then fldB d else if d.kind = 21 then entB d else if d.kind = 22 then decide (d.parts.length ≤ 1) else true)) := rfl
 generalize frmB d = R at HD ⊢
 generalize typedB d.ty = t at hty HD
 generalize fldB d = fl at hfl HD
 generalize entB d = en at hen HD
 have fin : ∀ {W : World}, Below W1.heap.size W1 W → Below w.heap.size w W := fun h => hb1.trans (h.mono hb1.size)
 obtain ⟨kind, ty, bits, imag, text, names, parts, hook⟩ := d
 simp only at *
 have hfl1 := hfl W1 hb1
 have hen1 := hen W1 hb1
 have c1 : W1.cell? ⟨w.heap.size, 1, none⟩ = some (.string ty) := by rw [hW1]; simp
 by_cases k0 : kind = 0
 ·subst k0
  go_enter Tryz.func95, Tryz.ntmps95
  go_wp2
  go_ret
  exact ⟨by rw [HD.out]; rfl, by rw [← hW1]; exact hb1⟩
 by_cases k18 : kind = 18
 ·subst k18
  cases t with
  | true =>
    go_enter Tryz.func95, Tryz.ntmps95
    go_wp2_with (first | (go_at_call 119; refine (hty _).mono ?_; rintro e w1 ⟨rfl, rfl⟩) | (go_at_call 120; rw [← hW1]; refine hfl1.mono ?_; rintro e w1 ⟨rfl, hb⟩))
    go_ret
    exact ⟨by rw [HD.out]; rfl, fin hb⟩
  | false =>
    go_enter Tryz.func95, Tryz.ntmps95
    go_wp2_with (first | (go_at_call 119; refine (hty _).mono ?_; rintro e w1 ⟨rfl, rfl⟩))
    go_ret
    exact ⟨by rw [HD.out]; rfl, by rw [← hW1]; exact hb1⟩
 by_cases k21 : kind = 21
 ·subst k21
  cases t with
  | true =>
    go_enter Tryz.func95, Tryz.ntmps95
    go_wp2_with (first | (go_at_call 119; refine (hty _).mono ?_; rintro e w1 ⟨rfl, rfl⟩) | (go_at_call 121; rw [← hW1]; refine hen1.mono ?_; rintro e w1 ⟨rfl, hb⟩))
    go_ret
    exact ⟨by rw [HD.out]; rfl, fin hb⟩
  | false =>
    go_enter Tryz.func95, Tryz.ntmps95
    go_wp2_with (first | (go_at_call 119; refine (hty _).mono ?_; rintro e w1 ⟨rfl, rfl⟩))
    go_ret
    exact ⟨by rw [HD.out]; rfl, by rw [← hW1]; exact hb1⟩
 by_cases k22 : kind = 22
 ·subst k22
  cases t with
  | true =>
    by_cases hp1 : parts.length ≤ 1
    ·have hp1I : (parts.length : Int) ≤ 1 := by omega
     go_enter Tryz.func95, Tryz.ntmps95
     go_wp2_with (first | (go_at_call 119; refine (hty _).mono ?_; rintro e w1 ⟨rfl, rfl⟩))
     go_ret
     exact ⟨by rw [HD.out]; simp [hp1], by rw [← hW1]; exact hb1⟩
    ·have hp1I : ¬ (parts.length : Int) ≤ 1 := by omega
     go_enter Tryz.func95, Tryz.ntmps95
     go_wp2_with (first | (go_at_call 119; refine (hty _).mono ?_; rintro e w1 ⟨rfl, rfl⟩))
     go_ret
     exact ⟨by rw [HD.out]; simp [hp1]; omega, by rw [← hW1]; exact hb1⟩
  | false =>
    go_enter Tryz.func95, Tryz.ntmps95
    go_wp2_with (first | (go_at_call 119; refine (hty _).mono ?_; rintro e w1 ⟨rfl, rfl⟩))
    go_ret
    exact ⟨by rw [HD.out]; rfl, by rw [← hW1]; exact hb1⟩
 have e0 : (kind == 0) = false := by simp [k0]
 have e18 : (kind == 18) = false := by simp [k18]
 have e21 : (kind == 21) = false := by simp [k21]
 have e22 : (kind == 22) = false := by simp [k22]
 have HE : Hid (R = t) := by show R = t; rw [HD.out]; simp [k0, k18, k21, k22]
 clear k0 k18 k21 k22 HD
 go_enter Tryz.func95, Tryz.ntmps95
 go_wp2_with (first | (go_at_call 119; refine (hty _).mono ?_; rintro e w1 ⟨rfl, rfl⟩))
 go_ret
 exact ⟨by rw [HE.out]; rfl, by rw [← hW1]; exact hb1⟩
end Go.Proofs.YtdlnmnipnkeabaaGreatDoor
namespace Go.Proofs.YtdlnmnipnkeabaaGreatDoor
open Go.RowKit
set_option linter.unusedVariables false
def Keep (c : Nat) (W W' : World) : Prop := W.heap.size ≤ W'.heap.size ∧ ∀ p : Addr, p.block < W.heap.size → p.block ≠ c → W'.cell? p = W.cell? p
theorem Keep.refl (c : Nat) (W : World) : Keep c W W := ⟨Nat.le_refl _, fun _ _ _ => rfl⟩
theorem Keep.trans {c : Nat} {W W' W'' : World} (h : Keep c W W') (h' : Keep c W' W'') : Keep c W W'' :=
 ⟨Nat.le_trans h.1 h'.1, fun p hp hc => (h'.2 p (by have := h.1; omega) hc).trans (h.2 p hp hc)⟩
theorem Keep.of {c : Nat} {W W' : World} (h : Below W.heap.size W W') : Keep c W W' := ⟨h.size, fun p hp _ => h.cell hp⟩
theorem lt_of_cell {W : World} {p : Addr} {v : Value} (h : W.cell? p = some v) : p.block < W.heap.size := by
 rcases Nat.lt_or_ge p.block W.heap.size with h1 | h1
 ·exact h1
 ·simp [World.cell?, Array.getElem?_eq_none h1] at h
theorem Keep.cell {c : Nat} {W W' : World} (h : Keep c W W') {p : Addr} {v : Value} (hp : W.cell? p = some v) (hc : p.block ≠ c) : W'.cell? p = some v :=
 (h.2 p (lt_of_cell hp) hc).trans hp
theorem cs_same8 (W : World) (a : Addr) (v : Value) (h : (W.cell? a).isSome = true) : (W.setCell a v).cell? a = some v := by
 obtain ⟨u, hu⟩ := Option.isSome_iff_exists.1 h
 exact World.cell?_setCell_same _ _ _ hu
def Num (W : World) (c : Nat) (s : Int) : Prop := W.cell? ⟨c, 0, none⟩ = some (.int .i64 s) ∧ W.frozen? ⟨c, 0, none⟩ = false
theorem Num.up {W W' : World} {c : Nat} {s : Int} (h : Num W c s) (hb : Below W.heap.size W W') : Num W' c s :=
 ⟨up_cell hb h.1, (hb.frozen (p := ⟨c, 0, none⟩) (lt_of_cell h.1)).trans h.2⟩
theorem Num.put {W : World} {c : Nat} {s : Int} (h : Num W c s) (s' : Int) : Num (W.setCell ⟨c, 0, none⟩ (.int .i64 s')) c s' := by
 refine ⟨?_, (World.frozen?_setCell _ _ _ _).trans h.2⟩
 exact cs_same8 W _ _ (by rw [h.1]; rfl)
def runV (ok : Int → D → Int → Bool) (inc : Int) : Int → List (D × Int) → Option Int
 | s, [] => some s
 | s, (d, k) :: l => if ok s d k then runV ok inc (s + inc) l else none
theorem runV_append (ok : Int → D → Int → Bool) (inc : Int) : ∀ (l l' : List (D × Int)) (s : Int), runV ok inc s (l ++ l') = (runV ok inc s l).bind fun s' => runV ok inc s' l'
 | [], l', s => rfl
 | (d, k) :: l, l', s => by
   simp only [List.cons_append, runV]
   split
   ·exact runV_append ok inc l l' (s + inc)
   ·rfl
def Look (w0 : World) (c g : Nat) (cb : Array Value) (ok : Int → D → Int → Bool) (inc err : Int) : Prop :=
 ∀ (W : Cl w0) (s : Int) (d : D) (na pa : Option Addr) (nc pc : Nat) (k : Int) (n : Nat), Num W.w c s → 0 ≤ s → s ≤ 1000 → RdC n w0 (.slice na d.names.length nc) (.slice pa d.parts.length pc) d →
   Calls Tryz.prog g (#[DV d (.slice na d.names.length nc) (.slice pa d.parts.length pc), .int .i64 k] ++ cb) W.w fun e w' => ∃ W' : Cl w0, w' = W'.w ∧ Keep c W.w W'.w ∧
    ((ok s d k = true ∧ e = .returned (.tuple #[]) ∧ Num W'.w c (s + inc)) ∨ (ok s d k = false ∧ e = .panicked (PE err)))
set_option maxRecDepth 1000000 in
set_option maxHeartbeats 4000000 in
theorem walk_any (w0 : World) (c g : Nat) (cb : Array Value) (ok : Int → D → Int → Bool) (inc err : Int) (hc : w0.heap.size ≤ c) (hlook : Look w0 c g cb ok inc err) (hin : ∀ s d k, ok s d k = true → 0 ≤ s → s ≤ 1000 → 0 ≤ s + inc ∧ s + inc ≤ 1000) (eg : ∀ args w, (callFunc g args).run Tryz.prog w = .ok (.enter g args) w) :
  ∀ (n : Nat) (W : Cl w0) (s : Int) (d : D) (nv pv : Value) (k : Int), Num W.w c s → 0 ≤ s → s ≤ 1000 → RdC n w0 nv pv d → 0 ≤ k → k + n ≤ 1000000 →
  Calls Tryz.prog 87 #[DV d nv pv, .int .i64 k, .func (.func g) #[] cb] W.w fun e w' => ∃ W' : Cl w0, w' = W'.w ∧ Keep c W.w W'.w ∧
   ((∃ s', runV ok inc s (pre d k) = some s' ∧ e = .returned (.tuple #[]) ∧ Num W'.w c s' ∧ 0 ≤ s' ∧ s' ≤ 1000) ∨ (runV ok inc s (pre d k) = none ∧ e = .panicked (PE err))) := by
 intro n
 induction n with
 | zero => intro W s d nv pv k _ _ _ h; exact h.elim
 | succ n ih =>
   intro W s d nv pv k hs hz0 hz1 hr hk0 hkn
   obtain ⟨na, nc, pa, pc, rfl, rfl⟩ := hr.slices
   have hpre := pre_eq d k
   obtain ⟨W1, hW1⟩ : ∃ W1, W1 = W.w.alloc (.cells #[.int .i64 d.kind, .string d.ty, .int .u64 d.bits, .int .u64 d.imag, .string d.text, .slice na d.names.length nc, .slice pa d.parts.length pc, .int .i64 d.hook] 29) := ⟨_, rfl⟩
   have hb1 : Below W.w.heap.size W.w W1 := by rw [hW1]; exact (Below.refl _ _).alloc (Nat.le_refl _) _
   have hcW : c < W.w.heap.size := lt_of_cell hs.1
   obtain ⟨C1, hC1⟩ : ∃ C1 : Cl w0, C1.w = W1 := ⟨⟨W1, W.below.trans (hb1.mono W.below.size)⟩, rfl⟩
   have hs1 : Num C1.w c s := by rw [hC1]; exact hs.up hb1
   have hv := hlook C1 s d na pa nc pc k (n + 1) hs1 hz0 hz1 hr
   rw [hC1] at hv
   have hkp1 : Keep c W.w W1 := Keep.of hb1
   have hbx : ∀ (x : Cl w0), Keep c W1 x.w → x.w.cell? ⟨W.w.heap.size, 0, none⟩ = some (.int .i64 d.kind) ∧ x.w.cell? ⟨W.w.heap.size, 6, none⟩ = some (.slice pa d.parts.length pc) := fun x hx =>
    ⟨hx.cell (by rw [hW1]; simp) (by show W.w.heap.size ≠ c; omega), hx.cell (by rw [hW1]; simp) (by show W.w.heap.size ≠ c; omega)⟩
   have hgr := fun W => hasparts_any d.kind W
   go_enter Tryz.func87, Tryz.ntmps87
   go_wp2_with fail
   rw [← hW1]
   refine hv.mono ?_
   rintro e w1 ⟨V, rfl, hK, (⟨hok, rfl, hs2⟩ | ⟨hno, rfl⟩)⟩
   ·obtain ⟨f0, f6⟩ := hbx V hK
    cases hgB : great d.kind with
    | false =>
      have HR : Hid (runV ok inc s (pre d k) = some (s + inc)) := by show _ = _; rw [hpre, hgB]; simp [runV, hok]
      rw [hgB] at hgr
      go_wp2_with (go_at_call 118; refine (hgr _).mono ?_; rintro e w1 ⟨rfl, rfl⟩)
      refine bodyPost_ret (results_none rfl _ _ _) rfl ?_
      exact ⟨V, rfl, hkp1.trans hK, .inl ⟨_, HR.out, rfl, hs2, hin s d k hok hz0 hz1⟩⟩
    | true =>
      have HP : Hid (runV ok inc s (pre d k) = runV ok inc (s + inc) (preAll d.parts (k + 1))) := by show _ = _; rw [hpre, hgB]; simp [runV, hok]
      rw [hgB] at hgr
      clear hpre hgB
      obtain ⟨-, -, a, cap, hsl, hl1, hl2, hcell⟩ := hr
      obtain ⟨rfl, -, rfl⟩ := Value.slice.inj hsl
      unfold maxLen at hl2
      go_wp2_with (go_at_call 118; refine (hgr _).mono ?_; rintro e w1 ⟨rfl, rfl⟩)
      go_loopg [7, 19] d.parts.length (fun gg z i wr => ∃ (Y : Cl w0) (j : Nat) (s' : Int), wr = Y.w ∧ i = .int .i64 j ∧ j + gg = d.parts.length ∧ Keep c V.w Y.w ∧ Num Y.w c s' ∧ (0 ≤ s' ∧ s' ≤ 1000) ∧ Hid (runV ok inc (s + inc) (preAll (d.parts.take j) (k + 1)) = some s'))
      case atStart => exact ⟨V, 0, s + inc, rfl, rfl, Nat.zero_add _, Keep.refl _ _, hs2, hin s d k hok hz0 hz1, rfl⟩
      case round =>
       obtain ⟨Y, j, s', rfl, rfl, hjg, hKY, hsY, hz2, HA⟩ := hrel
       by_cases hlt : j < d.parts.length
       ·have hltI : (j : Int) < d.parts.length := by omega
        obtain ⟨x, hx⟩ : ∃ x, d.parts[j]? = some x := ⟨d.parts[j], List.getElem?_eq_getElem hlt⟩
        obtain ⟨b, off, nv', pv', rfl, h8, hr'⟩ := hcell j x hx
        obtain ⟨na', nc', pa', pc', rfl, rfl⟩ := hr'.slices
        obtain ⟨c0, c1, c2, c3, c4, c5, c6, c7⟩ := h8.up Y.below
        have HN : Hid (runV ok inc (s + inc) (preAll (d.parts.take (j + 1)) (k + 1)) = runV ok inc s' (pre x (k + 1))) := by
         show _ = _
         rw [preAll_take d.parts (k + 1) j x hx, runV_append, HA.out]
         rfl
        have HX : Hid (runV ok inc s' (pre x (k + 1)) = none → runV ok inc (s + inc) (preAll d.parts (k + 1)) = none) := by
         intro hnone
         have e : d.parts = d.parts.take (j + 1) ++ d.parts.drop (j + 1) := (List.take_append_drop _ _).symm
         show runV ok inc (s + inc) (preAll d.parts (k + 1)) = none
         rw [e]
         unfold preAll at HN ⊢
         rw [List.flatMap_append, runV_append, HN.out, hnone]
         rfl
        clear hx h8 hlook
        obtain ⟨Y2, hY2⟩ : ∃ Y2, Y2 = Y.w.alloc (.cells #[.int .i64 x.kind, .string x.ty, .int .u64 x.bits, .int .u64 x.imag, .string x.text, .slice na' x.names.length nc', .slice pa' x.parts.length pc', .int .i64 x.hook] 29) := ⟨_, rfl⟩
        have hbY : Below Y.w.heap.size Y.w Y2 := by rw [hY2]; exact (Below.refl _ _).alloc (Nat.le_refl _) _
        obtain ⟨C2, hC2⟩ : ∃ C2 : Cl w0, C2.w = Y2 := ⟨⟨Y2, Y.below.trans (hbY.mono Y.below.size)⟩, rfl⟩
        have hrec := ih C2 s' x _ _ (k + 1) (by rw [hC2]; exact hsY.up hbY) hz2.1 hz2.2 hr' (by omega) (by omega)
        rw [hC2] at hrec
        clear ih hr' hcell
        go_wp2_with fail
        rw [← hY2]
        refine hrec.mono ?_
        rintro e w1 ⟨Z, rfl, hKZ, (⟨s2, hrun, rfl, hsZ, hz3⟩ | ⟨hrun, rfl⟩)⟩
        ·go_wp2
         go_roundg (gk - 1)
         case measure => omega
         case rel => exact ⟨Z, j + 1, s2, rfl, by go_num, by omega, hKY.trans ((Keep.of hbY).trans hKZ), hsZ, hz3, by show _ = _; rw [HN.out, hrun]⟩
        ·refine ⟨rfl, Z, rfl, hkp1.trans (hK.trans (hKY.trans ((Keep.of hbY).trans hKZ))), .inr ⟨?_, rfl⟩⟩
         rw [HP.out, HX.out hrun]
       ·have hltI : ¬ (j : Int) < d.parts.length := by omega
        have HF : Hid (runV ok inc (s + inc) (preAll d.parts (k + 1)) = some s') := by
         have := HA.out
         rw [List.take_of_length_le (by omega)] at this
         exact this
        go_wp2
        go_end0
        exact ⟨Y, rfl, hkp1.trans (hK.trans hKY), .inl ⟨s', by rw [HP.out, HF.out], rfl, hsY, hz2⟩⟩
   ·have HR : Hid (runV ok inc s (pre d k) = none) := by show _ = _; rw [hpre]; simp [runV, hno]
    exact ⟨rfl, V, rfl, hkp1.trans hK, .inr ⟨HR.out, rfl⟩⟩
def ok1 (s : Int) (d : D) (k : Int) : Bool := decide (s + 1 ≤ 64) && fitsB d
def ok2 (s : Int) (d : D) (k : Int) : Bool := decide (k < 8)
def ok3 (s : Int) (d : D) (k : Int) : Bool := decide (0 ≤ d.kind) && decide (d.kind ≤ 22)
def ok4 (s : Int) (d : D) (k : Int) : Bool := frmB d
set_option maxRecDepth 1000000 in
set_option maxHeartbeats 4000000 in
theorem look1 (w0 : World) (c : Nat) (hc : w0.heap.size ≤ c) : Look w0 c 88 #[.pointer (some ⟨c, 0, none⟩)] ok1 1 2 := by
 intro W s d na pa nc pc k n hs h0 h1 hr
 have hcW : c < W.w.heap.size := lt_of_cell hs.1
 obtain ⟨f1, f2⟩ := hs
 have hs' : Num W.w c s := ⟨f1, f2⟩
 obtain ⟨W1, hW1⟩ : ∃ W1, W1 = (W.w.setCell ⟨c, 0, none⟩ (.int .i64 (s + 1))).alloc (.cells #[.int .i64 d.kind, .string d.ty, .int .u64 d.bits, .int .u64 d.imag, .string d.text, .slice na d.names.length nc, .slice pa d.parts.length pc, .int .i64 d.hook] 29) := ⟨_, rfl⟩
 have hb1 : Below (W.w.setCell ⟨c, 0, none⟩ (.int .i64 (s + 1))).heap.size (W.w.setCell ⟨c, 0, none⟩ (.int .i64 (s + 1))) W1 := by rw [hW1]; exact (Below.refl _ _).alloc (Nat.le_refl _) _
 have hsz : (W.w.setCell ⟨c, 0, none⟩ (.int .i64 (s + 1))).heap.size = W.w.heap.size := by simp
 have hn1 : Num W1 c (s + 1) := (hs'.put (s + 1)).up hb1
 have hk1 : Keep c W.w W1 := by
  refine ⟨by have := hb1.size; omega, fun p hp hpc => ?_⟩
  rw [hb1.cell (by rw [hsz]; exact hp)]
  exact World.cell?_of_block (w := W.w) (Below.heap_setCell _ _ _ _ hpc)
 have hcl : Below w0.heap.size w0 W1 := by
  have h3 : Below w0.heap.size w0 (W.w.setCell ⟨c, 0, none⟩ (.int .i64 (s + 1))) := W.below.setCell hc _
  exact h3.trans (hb1.mono h3.size)
 have fin : ∀ V : World, Below W1.heap.size W1 V → (∃ W' : Cl w0, V = W'.w ∧ Keep c W.w W'.w) ∧ Num V c (s + 1) := fun V hV =>
  ⟨⟨⟨V, hcl.trans (hV.mono hcl.size)⟩, rfl, hk1.trans (Keep.of hV)⟩, hn1.up hV⟩
 have hft := fun W => textfits_any d (.slice na d.names.length nc) (.slice pa d.parts.length pc) W
 have HD : Hid (ok1 s d k = (decide (s + 1 ≤ 64) && fitsB d)) := rfl
 generalize ok1 s d k = R at HD ⊢
 generalize fitsB d = f at hft HD
 by_cases h64 : s + 1 ≤ 64
 ·cases f with
  | true =>
    have HR : Hid (R = true) := by show R = true; rw [HD.out]; simp [h64]
    go_enter Tryz.func88, Tryz.ntmps88
    go_wp2_with (first | (go_at_call 90; rw [← hW1]; refine (hft _).mono ?_; rintro e w1 ⟨rfl, hb⟩) | (go_at_call 89; refine (must_ok _ _).mono ?_; rintro e w1 ⟨rfl, rfl⟩))
    go_end0
    obtain ⟨⟨W', e1, e2⟩, e3⟩ := fin _ hb
    exact ⟨W', e1, e2, .inl ⟨HR.out, rfl, by rw [← e1]; exact e3⟩⟩
  | false =>
    have HR : Hid (R = false) := by show R = false; rw [HD.out]; simp
    go_enter Tryz.func88, Tryz.ntmps88
    go_wp2_with (first | (go_at_call 90; rw [← hW1]; refine (hft _).mono ?_; rintro e w1 ⟨rfl, hb⟩) | (go_at_call 89; refine (must_no _ _).mono ?_; rintro e w1 ⟨rfl, rfl⟩))
    obtain ⟨⟨W', e1, e2⟩, e3⟩ := fin _ hb
    exact ⟨rfl, W', e1, e2, .inr ⟨HR.out, rfl⟩⟩
 ·have HR : Hid (R = false) := by show R = false; rw [HD.out]; simp [h64]
  go_enter Tryz.func88, Tryz.ntmps88
  go_wp2_with (first | (go_at_call 89; refine (must_no _ _).mono ?_; rintro e w1 ⟨rfl, hw1⟩))
  obtain ⟨⟨W', e1, e2⟩, e3⟩ := fin _ (Below.refl _ _)
  exact ⟨rfl, W', by rw [← hW1]; exact e1, e2, .inr ⟨HR.out, rfl⟩⟩
theorem look_of {w0 : World} {c : Nat} {W : Cl w0} {s : Int} (hs : Num W.w c s) {V : World} (hV : Below W.w.heap.size W.w V) : (∃ W' : Cl w0, V = W'.w ∧ Keep c W.w W'.w) ∧ Num V c s :=
 ⟨⟨⟨V, W.below.trans (hV.mono W.below.size)⟩, rfl, Keep.of hV⟩, hs.up hV⟩
set_option maxRecDepth 1000000 in
set_option maxHeartbeats 4000000 in
theorem look2 (w0 : World) (c : Nat) : Look w0 c 91 #[] ok2 0 6 := by
 intro W s d na pa nc pc k n hs h0 h1 hr
 have HD : Hid (ok2 s d k = decide (k < 8)) := rfl
 generalize ok2 s d k = R at HD ⊢
 by_cases hk : k < 8
 ·have HR : Hid (R = true) := by show R = true; rw [HD.out]; simp [hk]
  go_enter Tryz.func91, Tryz.ntmps91
  go_wp2_with (first | (go_at_call 89; refine (must_ok _ _).mono ?_; rintro e w1 ⟨rfl, rfl⟩))
  go_end0
  obtain ⟨⟨W', e1, e2⟩, e3⟩ := look_of hs ((Below.refl _ _).alloc (Nat.le_refl _) _)
  exact ⟨W', e1, e2, .inl ⟨HR.out, rfl, by rw [← e1, Int.add_zero]; exact e3⟩⟩
 ·have HR : Hid (R = false) := by show R = false; rw [HD.out]; simp [hk]
  go_enter Tryz.func91, Tryz.ntmps91
  go_wp2_with (first | (go_at_call 89; refine (must_no _ _).mono ?_; rintro e w1 ⟨rfl, rfl⟩))
  obtain ⟨⟨W', e1, e2⟩, e3⟩ := look_of hs ((Below.refl _ _).alloc (Nat.le_refl _) _)
  exact ⟨rfl, W', e1, e2, .inr ⟨HR.out, rfl⟩⟩
set_option maxRecDepth 1000000 in
set_option maxHeartbeats 4000000 in
theorem look3 (w0 : World) (c : Nat) : Look w0 c 92 #[] ok3 0 3 := by
 intro W s d na pa nc pc k n hs h0 h1 hr
 have HD : Hid (ok3 s d k = (decide (0 ≤ d.kind) && decide (d.kind ≤ 22))) := rfl
 have hik := fun W => iskind_any d.kind W
 generalize (decide (0 ≤ d.kind) && decide (d.kind ≤ 22)) = q at HD hik
 generalize ok3 s d k = R at HD ⊢
 cases q with
 | true =>
   go_enter Tryz.func92, Tryz.ntmps92
   go_wp2_with (first | (go_at_call 93; refine (hik _).mono ?_; rintro e w1 ⟨rfl, rfl⟩) | (go_at_call 89; refine (must_ok _ _).mono ?_; rintro e w1 ⟨rfl, rfl⟩))
   go_end0
   obtain ⟨⟨W', e1, e2⟩, e3⟩ := look_of hs ((Below.refl _ _).alloc (Nat.le_refl _) _)
   exact ⟨W', e1, e2, .inl ⟨HD.out, rfl, by rw [← e1, Int.add_zero]; exact e3⟩⟩
 | false =>
   go_enter Tryz.func92, Tryz.ntmps92
   go_wp2_with (first | (go_at_call 93; refine (hik _).mono ?_; rintro e w1 ⟨rfl, rfl⟩) | (go_at_call 89; refine (must_no _ _).mono ?_; rintro e w1 ⟨rfl, rfl⟩))
   obtain ⟨⟨W', e1, e2⟩, e3⟩ := look_of hs ((Below.refl _ _).alloc (Nat.le_refl _) _)
   exact ⟨rfl, W', e1, e2, .inr ⟨HD.out, rfl⟩⟩
set_option maxRecDepth 1000000 in
set_option maxHeartbeats 4000000 in
theorem look4 (w0 : World) (c : Nat) : Look w0 c 94 #[] ok4 0 4 := by
 intro W s d na pa nc pc k n hs h0 h1 hr
 obtain ⟨m, rfl⟩ : ∃ m, n = m + 1 := by
  cases n with
  | zero => exact hr.elim
  | succ m => exact ⟨m, rfl⟩
 have HD : Hid (ok4 s d k = frmB d) := rfl
 obtain ⟨W1, hW1⟩ : ∃ W1, W1 = W.w.alloc (.cells #[.int .i64 d.kind, .string d.ty, .int .u64 d.bits, .int .u64 d.imag, .string d.text, .slice na d.names.length nc, .slice pa d.parts.length pc, .int .i64 d.hook] 29) := ⟨_, rfl⟩
 have hb1 : Below W.w.heap.size W.w W1 := by rw [hW1]; exact (Below.refl _ _).alloc (Nat.le_refl _) _
 have hfo := formed_any m d _ _ W1 (hr.up (W.below.trans (hb1.mono W.below.size)))
 clear hr
 generalize frmB d = q at HD hfo
 generalize ok4 s d k = R at HD ⊢
 cases q with
 | true =>
   go_enter Tryz.func94, Tryz.ntmps94
   go_wp2_with (first | (go_at_call 95; rw [← hW1]; refine hfo.mono ?_; rintro e w1 ⟨rfl, hb⟩) | (go_at_call 89; refine (must_ok _ _).mono ?_; rintro e w1 ⟨rfl, rfl⟩))
   go_end0
   obtain ⟨⟨W', e1, e2⟩, e3⟩ := look_of hs (hb1.trans (hb.mono hb1.size))
   exact ⟨W', e1, e2, .inl ⟨HD.out, rfl, by rw [← e1, Int.add_zero]; exact e3⟩⟩
 | false =>
   go_enter Tryz.func94, Tryz.ntmps94
   go_wp2_with (first | (go_at_call 95; rw [← hW1]; refine hfo.mono ?_; rintro e w1 ⟨rfl, hb⟩) | (go_at_call 89; refine (must_no _ _).mono ?_; rintro e w1 ⟨rfl, rfl⟩))
   obtain ⟨⟨W', e1, e2⟩, e3⟩ := look_of hs (hb1.trans (hb.mono hb1.size))
   exact ⟨rfl, W', e1, e2, .inr ⟨HD.out, rfl⟩⟩
end Go.Proofs.YtdlnmnipnkeabaaGreatDoor
