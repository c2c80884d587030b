/- The walks of package values that look at one descriptor: fieldsFormed, entriesFormed, formed. -/
import Derived.Test.YtjphklhfigammaaDoorVWalkB
namespace Go.Proofs.YtjphklhfigammaaDoor
open Go.RowKit
set_option linter.unusedVariables false

/-- Are the names of a struct as they must be? -/
def fldB (d : D) : Bool := decide (d.names.length = d.parts.length) && d.names.all namedB
theorem all_take {α : Type} (p : α → Bool) (l : List α) (k : Nat) (x : α) (h : l[k]? = some x) : (l.take (k + 1)).all p = ((l.take k).all p && p x) := by
  rw [List.take_add_one, h]
  simp
theorem all_bad {α : Type} (p : α → Bool) (l : List α) (k : Nat) (x : α) (h : l[k]? = some x) (hb : p x = false) : l.all p = false := by
  cases ha : l.all p with
  | false => rfl
  | true => have := List.all_eq_true.1 ha x (List.mem_of_getElem? h); rw [hb] at this; cases this
set_option maxRecDepth 1000000 in
set_option maxHeartbeats 4000000 in
theorem fields_any (d : D) (nv : Value) (a : Option Addr) (cap : Nat) (w : World) (hs : Strs w nv d.names) (hp : d.parts.length ≤ 9223372036854775807) :
    Calls Tryd.prog 66 #[DV d nv (.slice a d.parts.length cap)] w fun e w' => e = .returned (.bool (fldB d)) ∧ Below w.heap.size w w' := by
  obtain ⟨kind, ty, bits, imag, text, names, parts, hook⟩ := d
  obtain ⟨a2, cap2, rfl, hl1, hl2, hcell⟩ := hs
  have bel : ∀ cs t, Below w.heap.size w (w.alloc (.cells cs t)) := fun _ _ => (Below.refl _ _).alloc (Nat.le_refl _) _
  simp only at hp hl1 hcell ⊢
  unfold maxLen at hl2 hcell
  by_cases hn : names.length = parts.length
  · have hnI : ((names.length : Int) != (parts.length : Int)) = false := by simp [hn]
    have HD : Hid (fldB ⟨kind, ty, bits, imag, text, names, parts, hook⟩ = names.all namedB) := by show fldB _ = _; unfold fldB; simp [hn]
    clear hn
    go_enter Tryd.func66, Tryd.ntmps66
    go_wp2
    go_loopg [4, 15] names.length (fun g z i wr => wr = w.alloc (.cells #[.int .i64 kind, .string ty, .int .u64 bits, .int .u64 imag, .string text, .slice a2 names.length cap2, .slice a parts.length cap, .int .i64 hook] 26) ∧ ∃ k : Nat, i = .int .i64 k ∧ k + g = names.length ∧ Hid ((names.take k).all namedB = true))
    case atStart => exact ⟨rfl, 0, rfl, Nat.zero_add _, rfl⟩
    case round =>
      obtain ⟨rfl, k, rfl, hkg, HA⟩ := hrel
      by_cases hlt : k < names.length
      · have hltI : (k : Int) < names.length := by omega
        obtain ⟨s, hs⟩ : ∃ s, names[k]? = some s := ⟨names[k], List.getElem?_eq_getElem hlt⟩
        obtain ⟨hsz, b, off, rfl, hc⟩ := hcell k s hs
        have hc' := fun cs t => up_cell (bel cs t) hc
        have HN : Hid ((names.take (k + 1)).all namedB = ((names.take k).all namedB && namedB s)) := all_take namedB names k s hs
        have HB : Hid (namedB s = false → names.all namedB = false) := all_bad namedB names k s hs
        have hnm := fun W => named_any s W (by omega)
        clear hcell hs
        generalize namedB s = q at hnm HN HB
        cases q with
        | true =>
          go_wp2_with (go_at_call 21; refine (hnm _).mono ?_; rintro e w1 ⟨rfl, rfl⟩)
          go_roundg (gk - 1)
          case measure => omega
          case rel => exact ⟨rfl, k + 1, by go_num, by omega, by show _ = _; rw [HN.out, HA.out]; rfl⟩
        | false =>
          go_wp2_with (go_at_call 21; refine (hnm _).mono ?_; rintro e w1 ⟨rfl, rfl⟩)
          go_ret
          rw [HD.out, HB.out trivial]
          exact ⟨rfl, bel _ _⟩
      · have hltI : ¬ (k : Int) < names.length := by omega
        have HF : Hid (names.all namedB = true) := by
          have := HA.out
          rw [List.take_of_length_le (by omega)] at this
          exact this
        go_wp2
        go_ret
        rw [HD.out, HF.out]
        exact ⟨rfl, bel _ _⟩
  · have hnI : ((names.length : Int) != (parts.length : Int)) = true := by simp; omega
    have HD : Hid (fldB ⟨kind, ty, bits, imag, text, names, parts, hook⟩ = false) := by show fldB _ = _; unfold fldB; simp [hn]
    clear hn
    go_enter Tryd.func66, Tryd.ntmps66
    go_wp2
    go_ret
    rw [HD.out]
    exact ⟨rfl, bel _ _⟩

/-- Are the parts of a map as they must be? -/
def kyB : List D → Bool
  | [] => true
  | [x] => false
  | x :: y :: l => keyB x.kind && kyB l
def evB (l : List D) (k : Nat) : Bool := (List.range k).all fun i => match l[i]? with | some x => i % 2 == 1 || keyB x.kind | none => true
def entB (d : D) : Bool := evB d.parts d.parts.length && decide (d.parts.length % 2 = 0)
theorem evB_succ (l : List D) (k : Nat) (x : D) (h : l[k]? = some x) : evB l (k + 1) = (evB l k && (k % 2 == 1 || keyB x.kind)) := by
  unfold evB
  rw [List.range_succ]
  simp [h]
theorem evB_bad (l : List D) (k n : Nat) (x : D) (hk : k < n) (h : l[k]? = some x) (hb : (k % 2 == 1 || keyB x.kind) = false) : evB l n = false := by
  cases ha : evB l n with
  | false => rfl
  | true =>
    unfold evB at ha
    have := List.all_eq_true.1 ha k (List.mem_range.2 hk)
    simp only [h] at this
    rw [hb] at this; cases this
set_option maxRecDepth 1000000 in
set_option maxHeartbeats 4000000 in
theorem entries_any (n : Nat) (d : D) (nv pv : Value) (w : World) (hr : RdC (n + 1) w nv pv d) :
    Calls Tryd.prog 67 #[DV d nv pv] w fun e w' => e = .returned (.bool (entB d)) ∧ Below w.heap.size w w' := by
  obtain ⟨-, -, a, cap, rfl, hl1, hl2, hcell⟩ := hr
  obtain ⟨kind, ty, bits, imag, text, names, parts, hook⟩ := d
  have bel : ∀ cs t, Below w.heap.size w (w.alloc (.cells cs t)) := fun _ _ => (Below.refl _ _).alloc (Nat.le_refl _) _
  simp only at hl1 hcell ⊢
  unfold maxLen at hl2
  have HD : Hid (entB ⟨kind, ty, bits, imag, text, names, parts, hook⟩ = (evB parts parts.length && decide (parts.length % 2 = 0))) := rfl
  obtain ⟨W1, hW1⟩ : ∃ W1, W1 = w.alloc (.cells #[.int .i64 kind, .string ty, .int .u64 bits, .int .u64 imag, .string text, nv, .slice a parts.length cap, .int .i64 hook] 26) := ⟨_, rfl⟩
  have hb1 : Below w.heap.size w W1 := by rw [hW1]; exact bel _ _
  have f6 : ∀ x : Cl W1, x.w.cell? ⟨w.heap.size, 6, none⟩ = some (.slice a parts.length cap) := fun x => x.cell (by rw [hW1]; simp)
  go_enter Tryd.func67, Tryd.ntmps67
  go_wp2
  rw [← hW1]
  go_loopg [3, 4, 8] parts.length (fun g z0 z1 i wr => ∃ (y : Cl W1) (k : Nat), wr = y.w ∧ i = .int .i64 k ∧ k + g = parts.length ∧ Hid (evB parts k = true))
  case atStart => exact ⟨⟨W1, Below.refl _ _⟩, 0, rfl, rfl, Nat.zero_add _, rfl⟩
  case round =>
    obtain ⟨y, k, rfl, rfl, hkg, HA⟩ := hrel
    by_cases hlt : k < parts.length
    · have hltI : (k : Int) < parts.length := by omega
      obtain ⟨x, hx⟩ : ∃ x, parts[k]? = some x := ⟨parts[k], List.getElem?_eq_getElem hlt⟩
      obtain ⟨b, off, nv', pv', rfl, h8, hr'⟩ := hcell k x hx
      obtain ⟨na, nc, pa, pc, rfl, rfl⟩ := hr'.slices
      clear hr'
      obtain ⟨c0, c1, c2, c3, c4, c5, c6, c7⟩ := (h8.up hb1).up y.below
      have HN : Hid (evB parts (k + 1) = (evB parts k && (k % 2 == 1 || keyB x.kind))) := evB_succ parts k x hx
      have HB : Hid ((k % 2 == 1 || keyB x.kind) = false → evB parts parts.length = false) := evB_bad parts k _ x hlt hx
      have hky := fun W => iskey_any x.kind W
      clear hcell hx h8
      have ydone : Below W1.heap.size W1 (y.w.alloc (.cells #[.int .i64 x.kind, .string x.ty, .int .u64 x.bits, .int .u64 x.imag, .string x.text, .slice na x.names.length nc, .slice pa x.parts.length pc, .int .i64 x.hook] 26)) := y.below.alloc y.below.size _
      by_cases hpar : k % 2 = 0
      · have hpI : (((k : Int) % 2) == 0) = true := by simp; omega
        have HP : Hid ((k % 2 == 1) = false) := by show (k % 2 == 1) = false; simp; omega
        clear hpar
        generalize keyB x.kind = q at hky HN HB
        cases q with
        | true =>
          go_wp2_with (go_at_call 76; refine (hky _).mono ?_; rintro e w1 ⟨rfl, rfl⟩)
          go_roundg (gk - 1)
          case measure => omega
          case rel => exact ⟨⟨_, ydone⟩, k + 1, rfl, by go_num, by omega, by show _ = _; rw [HN.out, HA.out]; simp⟩
        | false =>
          go_wp2_with (go_at_call 76; refine (hky _).mono ?_; rintro e w1 ⟨rfl, rfl⟩)
          go_ret
          rw [HD.out, HB.out (by rw [HP.out]; rfl)]
          exact ⟨rfl, hb1.trans (ydone.mono hb1.size)⟩
      · have hpI : (((k : Int) % 2) == 0) = false := by simp; omega
        have HP : Hid ((k % 2 == 1) = true) := by show (k % 2 == 1) = true; simp; omega
        clear hpar
        go_wp2_with (go_at_call 76; refine (hky _).mono ?_; rintro e w1 ⟨rfl, rfl⟩)
        go_roundg (gk - 1)
        case measure => omega
        case rel => exact ⟨⟨_, ydone⟩, k + 1, rfl, by go_num, by omega, by show _ = _; rw [HN.out, HA.out, HP.out]; rfl⟩
    · have hltI : ¬ (k : Int) < parts.length := by omega
      have hk : k = parts.length := by omega
      have HF : Hid (evB parts parts.length = true) := by rw [hk] at HA; exact HA
      clear hk
      by_cases hpar : parts.length % 2 = 0
      · have hpI : (((parts.length : Int) % 2) == 0) = true := by simp; omega
        have HE : Hid (entB ⟨kind, ty, bits, imag, text, names, parts, hook⟩ = true) := by show _ = _; rw [HD.out, HF.out]; simp [hpar]
        clear hpar
        go_wp2
        go_ret
        rw [HE.out]
        exact ⟨rfl, hb1.trans (y.below.mono hb1.size)⟩
      · have hpI : (((parts.length : Int) % 2) == 0) = false := by simp; omega
        have HE : Hid (entB ⟨kind, ty, bits, imag, text, names, parts, hook⟩ = false) := by show _ = _; rw [HD.out, HF.out]; simp [hpar]
        clear hpar
        go_wp2
        go_ret
        rw [HE.out]
        exact ⟨rfl, hb1.trans (y.below.mono hb1.size)⟩

/-- Has a descriptor the type, the names and the parts that one of its kind may have? -/
def frmB (d : D) : Bool :=
  if d.kind = 0 then true else typedB d.ty && (if d.kind = 18 then fldB d else if d.kind = 21 then entB d else if d.kind = 22 then decide (d.parts.length ≤ 1) else true)
set_option maxRecDepth 1000000 in
set_option maxHeartbeats 4000000 in
theorem formed_any (n : Nat) (d : D) (nv pv : Value) (w : World) (hr : RdC (n + 1) w nv pv d) :
    Calls Tryd.prog 48 #[DV d nv pv] w fun e w' => e = .returned (.bool (frmB d)) ∧ Below w.heap.size w w' := by
  obtain ⟨na, nc, pa, pc, rfl, rfl⟩ := hr.slices
  have hfit := hr.1
  have hty := fun W => typed_any d.ty W (by have := hfit.2.2.2.2.1; unfold maxLen at this; omega)
  have hlen : d.parts.length ≤ 9223372036854775807 := by
    obtain ⟨-, -, a, cap, -, h1, h2, -⟩ := hr
    unfold maxLen at h2; omega
  have hst := hr.2.1
  obtain ⟨W1, hW1⟩ : ∃ W1, W1 = w.alloc (.cells #[.int .i64 d.kind, .string d.ty, .int .u64 d.bits, .int .u64 d.imag, .string d.text, .slice na d.names.length nc, .slice pa d.parts.length pc, .int .i64 d.hook] 26) := ⟨_, rfl⟩
  have hb1 : Below w.heap.size w W1 := by rw [hW1]; exact (Below.refl _ _).alloc (Nat.le_refl _) _
  have hfl := fun (W : World) (h : Below w.heap.size w W) => fields_any d (.slice na d.names.length nc) pa pc W (hst.up h) hlen
  have hen := fun (W : World) (h : Below w.heap.size w W) => entries_any n d (.slice na d.names.length nc) (.slice pa d.parts.length pc) W (hr.up h)
  clear hr hst hfit
  have HD : Hid (frmB d = if d.kind = 0 then true else typedB d.ty && (if d.kind = 18 then fldB d else if d.kind = 21 then entB d else if d.kind = 22 then decide (d.parts.length ≤ 1) else true)) := rfl
  generalize frmB d = R at HD ⊢
  generalize typedB d.ty = t at hty HD
  generalize fldB d = fl at hfl HD
  generalize entB d = en at hen HD
  have fin : ∀ {W : World}, Below W1.heap.size W1 W → Below w.heap.size w W := fun h => hb1.trans (h.mono hb1.size)
  obtain ⟨kind, ty, bits, imag, text, names, parts, hook⟩ := d
  simp only at *
  have hfl1 := hfl W1 hb1
  have hen1 := hen W1 hb1
  have c1 : W1.cell? ⟨w.heap.size, 1, none⟩ = some (.string ty) := by rw [hW1]; simp
  by_cases k0 : kind = 0
  · subst k0
    go_enter Tryd.func48, Tryd.ntmps48
    go_wp2
    go_ret
    exact ⟨by rw [HD.out]; rfl, by rw [← hW1]; exact hb1⟩
  by_cases k18 : kind = 18
  · subst k18
    cases t with
    | true =>
      go_enter Tryd.func48, Tryd.ntmps48
      go_wp2_with (first | (go_at_call 65; refine (hty _).mono ?_; rintro e w1 ⟨rfl, rfl⟩) | (go_at_call 66; rw [← hW1]; refine hfl1.mono ?_; rintro e w1 ⟨rfl, hb⟩))
      go_ret
      exact ⟨by rw [HD.out]; rfl, fin hb⟩
    | false =>
      go_enter Tryd.func48, Tryd.ntmps48
      go_wp2_with (first | (go_at_call 65; refine (hty _).mono ?_; rintro e w1 ⟨rfl, rfl⟩))
      go_ret
      exact ⟨by rw [HD.out]; rfl, by rw [← hW1]; exact hb1⟩
  by_cases k21 : kind = 21
  · subst k21
    cases t with
    | true =>
      go_enter Tryd.func48, Tryd.ntmps48
      go_wp2_with (first | (go_at_call 65; refine (hty _).mono ?_; rintro e w1 ⟨rfl, rfl⟩) | (go_at_call 67; rw [← hW1]; refine hen1.mono ?_; rintro e w1 ⟨rfl, hb⟩))
      go_ret
      exact ⟨by rw [HD.out]; rfl, fin hb⟩
    | false =>
      go_enter Tryd.func48, Tryd.ntmps48
      go_wp2_with (first | (go_at_call 65; refine (hty _).mono ?_; rintro e w1 ⟨rfl, rfl⟩))
      go_ret
      exact ⟨by rw [HD.out]; rfl, by rw [← hW1]; exact hb1⟩
  by_cases k22 : kind = 22
  · subst k22
    cases t with
    | true =>
      by_cases hp1 : parts.length ≤ 1
      · have hp1I : (parts.length : Int) ≤ 1 := by omega
        go_enter Tryd.func48, Tryd.ntmps48
        go_wp2_with (first | (go_at_call 65; refine (hty _).mono ?_; rintro e w1 ⟨rfl, rfl⟩))
        go_ret
        exact ⟨by rw [HD.out]; simp [hp1], by rw [← hW1]; exact hb1⟩
      · have hp1I : ¬ (parts.length : Int) ≤ 1 := by omega
        go_enter Tryd.func48, Tryd.ntmps48
        go_wp2_with (first | (go_at_call 65; refine (hty _).mono ?_; rintro e w1 ⟨rfl, rfl⟩))
        go_ret
        exact ⟨by rw [HD.out]; simp [hp1]; omega, by rw [← hW1]; exact hb1⟩
    | false =>
      go_enter Tryd.func48, Tryd.ntmps48
      go_wp2_with (first | (go_at_call 65; refine (hty _).mono ?_; rintro e w1 ⟨rfl, rfl⟩))
      go_ret
      exact ⟨by rw [HD.out]; rfl, by rw [← hW1]; exact hb1⟩
  have e0 : (kind == 0) = false := by simp [k0]
  have e18 : (kind == 18) = false := by simp [k18]
  have e21 : (kind == 21) = false := by simp [k21]
  have e22 : (kind == 22) = false := by simp [k22]
  have HE : Hid (R = t) := by show R = t; rw [HD.out]; simp [k0, k18, k21, k22]
  clear k0 k18 k21 k22 HD
  go_enter Tryd.func48, Tryd.ntmps48
  go_wp2_with (first | (go_at_call 65; refine (hty _).mono ?_; rintro e w1 ⟨rfl, rfl⟩))
  go_ret
  exact ⟨by rw [HE.out]; rfl, by rw [← hW1]; exact hb1⟩
end Go.Proofs.YtjphklhfigammaaDoor
