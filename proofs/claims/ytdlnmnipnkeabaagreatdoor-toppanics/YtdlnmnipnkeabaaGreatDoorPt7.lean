/- VWalkA, VWalkB, VWalkC: these texts in one. -/
import Derived.Test.YtdlnmnipnkeabaaGreatDoorPt6
import Derived.Test.YtdlnmnipnkeabaaGreatDoorChecked
import Derived.Deep.LoopGhost
import Derived.WalkKit
import Derived.Handy
import Derived.Lib.MapLaws
import Derived.WalkLawsBesides
namespace Go.Proofs.YtdlnmnipnkeabaaGreatDoor
open Go.RowKit
set_option linter.unusedVariables false
theorem isdigit_any (c : UInt8) (w : World) : Calls Tryz.prog 188 #[.int .u8 c.toNat] w fun e w' => e = .returned (.bool (dgB c)) ∧ w' = w := by
 have hc := c.toNat_lt
 unfold dgB
 by_cases h1 : 48 ≤ c.toNat <;> by_cases h2 : c.toNat ≤ 57
 all_goals first
  | omega
  | (go_enter Tryz.func188, Tryz.ntmps188
     go_wp2
     go_ret
     try (simp [h1, h2]; done)
     try (simp [h1, h2]; omega))
theorem isletter_any (c : UInt8) (w : World) : Calls Tryz.prog 189 #[.int .u8 c.toNat] w fun e w' => e = .returned (.bool (ltB c)) ∧ w' = w := by
 have hc := c.toNat_lt
 unfold ltB
 by_cases h1 : 97 ≤ c.toNat <;> by_cases h2 : c.toNat ≤ 122 <;> by_cases h3 : 65 ≤ c.toNat <;> by_cases h4 : c.toNat ≤ 90
 all_goals first
  | omega
  | (go_enter Tryz.func189, Tryz.ntmps189
     go_wp2
     go_ret
     try (simp [h1, h2, h3, h4]; done)
     try (simp [h1, h2, h3, h4]; omega))
set_option maxRecDepth 1000000 in
set_option maxHeartbeats 4000000 in
theorem typed_any (s : ByteArray) (w : World) (hs : s.size ≤ 9223372036854775807) :
  Calls Tryz.prog 119 #[.string s] w fun e w' => e = .returned (.bool (typedB s)) ∧ w' = w := by
 go_enter Tryz.func119, Tryz.ntmps119
 go_wp2
 go_loopg [6] s.size (fun g i wr => wr = w ∧ ∃ k : Nat, i = .int .i64 k ∧ k + g = s.size ∧ Hid (allB tyB (s.data.toList.take k) = true))
 case atStart => exact ⟨rfl, 0, rfl, Nat.zero_add _, rfl⟩
 case round =>
  obtain ⟨rfl, k, rfl, hkg, HA⟩ := hrel
  by_cases hlt : k < s.size
  ·have hltI : (k : Int) < s.size := by omega
   have hx : (s[k]'hlt).toNat < 256 := (s[k]'hlt).toNat_lt
   have HN : Hid (allB tyB (s.data.toList.take (k + 1)) = (allB tyB (s.data.toList.take k) && tyB (s[k]'hlt))) := allB_take tyB s k hlt
   have HB : Hid (tyB (s[k]'hlt) = false → typedB s = false) := fun h => by unfold typedB; rw [allB_bad tyB s k hlt h, Bool.and_false]
   have HD : Hid (tyB (s[k]'hlt) = (decide (33 ≤ (s[k]'hlt).toNat) && decide ((s[k]'hlt).toNat ≤ 126))) := rfl
   by_cases h1 : (s[k]'hlt).toNat < 33
   ·have h1I : ((s[k]'hlt).toNat : Int) < 33 := by omega
    have HF : Hid (typedB s = false) := HB.out (by rw [HD.out]; simp; omega)
    go_wp2
    go_ret
    rw [HF.out]
    exact ⟨rfl, rfl⟩
   ·have h1I : ¬ ((s[k]'hlt).toNat : Int) < 33 := by omega
    by_cases h2 : 126 < (s[k]'hlt).toNat
    ·have h2I : 126 < ((s[k]'hlt).toNat : Int) := by omega
     have HF : Hid (typedB s = false) := HB.out (by rw [HD.out]; simp; omega)
     go_wp2
     go_ret
     rw [HF.out]
     exact ⟨rfl, rfl⟩
    ·have h2I : ¬ 126 < ((s[k]'hlt).toNat : Int) := by omega
     have HG : Hid (allB tyB (s.data.toList.take (k + 1)) = true) := by
      show allB tyB (s.data.toList.take (k + 1)) = true
      rw [HN.out, HA.out, HD.out]; simp; omega
     go_wp2
     go_roundg (gk - 1)
     case measure => omega
     case rel => exact ⟨rfl, k + 1, by go_num, by omega, HG⟩
  ·have hltI : ¬ (k : Int) < s.size := by omega
   have HF : Hid (allB tyB s.data.toList = true) := allB_whole tyB s k (by omega) HA.out
   by_cases h32 : s.size ≤ 32
   ·have h32I : (s.size : Int) ≤ 32 := by omega
    go_wp2
    go_ret
    exact ⟨by unfold typedB; rw [HF.out]; simp [h32], rfl⟩
   ·have h32I : ¬ (s.size : Int) ≤ 32 := by omega
    go_wp2
    go_ret
    exact ⟨by unfold typedB; rw [HF.out]; simp [h32], rfl⟩
set_option maxRecDepth 1000000 in
set_option maxHeartbeats 4000000 in
theorem named_any (s : ByteArray) (w : World) (hs : s.size ≤ 9223372036854775807) :
  Calls Tryz.prog 146 #[.string s] w fun e w' => e = .returned (.bool (namedB s)) ∧ w' = w := by
 by_cases h0 : 0 < s.size
 ·have h0I : (0 : Int) < s.size := by omega
  have hne : ¬ s.toList = [] := by
   rw [Lib.toList_data]
   intro e
   have := congrArg List.length e
   rw [len_sz, List.length_nil] at this
   omega
  have hie : s.toList.isEmpty = false := by simpa using hne
  by_cases h32 : s.size ≤ 32
  ·have h32I : (s.size : Int) ≤ 32 := by omega
   cases hd : dgB (s[0]'h0) with
   | true =>
     have HF : Hid (namedB s = false) := by show namedB s = false; unfold namedB; rw [dif_pos h0, hd]; simp
     have hc := isdigit_any (s[0]'h0) w
     rw [hd] at hc
     clear hd
     go_enter Tryz.func146, Tryz.ntmps146
     go_wp2_with (go_at_call 188; refine hc.mono ?_; rintro e w1 ⟨rfl, rfl⟩)
     go_ret
     rw [HF.out]
     exact ⟨rfl, rfl⟩
   | false =>
     have HT : Hid (allB nmB s.data.toList = namedB s) := by show allB nmB s.data.toList = namedB s; unfold namedB; rw [dif_pos h0, hd]; simp [h32]
     have hc := isdigit_any (s[0]'h0) w
     rw [hd] at hc
     clear hd
     go_enter Tryz.func146, Tryz.ntmps146
     go_wp2_with (go_at_call 188; refine hc.mono ?_; rintro e w1 ⟨rfl, rfl⟩)
     clear hc
     go_loopg [18] s.size (fun g i wr => wr = w1 ∧ ∃ k : Nat, i = .int .i64 k ∧ k + g = s.size ∧ Hid (allB nmB (s.data.toList.take k) = true))
     case atStart => exact ⟨rfl, 0, rfl, Nat.zero_add _, rfl⟩
     case round =>
      obtain ⟨rfl, k, rfl, hkg, HA⟩ := hrel
      by_cases hlt : k < s.size
      ·have hltI : (k : Int) < s.size := by omega
       have hx : (s[k]'hlt).toNat < 256 := (s[k]'hlt).toNat_lt
       have HN : Hid (allB nmB (s.data.toList.take (k + 1)) = (allB nmB (s.data.toList.take k) && nmB (s[k]'hlt))) := allB_take nmB s k hlt
       have HB : Hid (nmB (s[k]'hlt) = false → namedB s = false) := fun h => by rw [← HT.out]; exact allB_bad nmB s k hlt h
       have HM : Hid (nmB (s[k]'hlt) = (dgB (s[k]'hlt) || ltB (s[k]'hlt) || decide ((s[k]'hlt).toNat = 95))) := rfl
       have hc := isdigit_any (s[k]'hlt) wr
       have hl := isletter_any (s[k]'hlt) wr
       generalize dgB (s[k]'hlt) = dg at hc HM
       generalize ltB (s[k]'hlt) = lt at hl HM
       cases dg with
       | true =>
         have HG : Hid (allB nmB (s.data.toList.take (k + 1)) = true) := by
          show allB nmB (s.data.toList.take (k + 1)) = true
          rw [HN.out, HA.out, HM.out]; rfl
         go_wp2_with (first | (go_at_call 188; refine hc.mono ?_; rintro e w1 ⟨rfl, rfl⟩) | (go_at_call 189; refine hl.mono ?_; rintro e w1 ⟨rfl, rfl⟩))
         go_roundg (gk - 1)
         case measure => omega
         case rel => exact ⟨rfl, k + 1, by go_num, by omega, HG⟩
       | false =>
         cases lt with
         | true =>
           have HG : Hid (allB nmB (s.data.toList.take (k + 1)) = true) := by
            show allB nmB (s.data.toList.take (k + 1)) = true
            rw [HN.out, HA.out, HM.out]; rfl
           go_wp2_with (first | (go_at_call 188; refine hc.mono ?_; rintro e w1 ⟨rfl, rfl⟩) | (go_at_call 189; refine hl.mono ?_; rintro e w1 ⟨rfl, rfl⟩))
           go_roundg (gk - 1)
           case measure => omega
           case rel => exact ⟨rfl, k + 1, by go_num, by omega, HG⟩
         | false =>
           by_cases h95 : (s[k]'hlt).toNat = 95
           ·have h95I : (((s[k]'hlt).toNat : Int) != 95) = false := by simp [h95]
            have HG : Hid (allB nmB (s.data.toList.take (k + 1)) = true) := by
             show allB nmB (s.data.toList.take (k + 1)) = true
             rw [HN.out, HA.out, HM.out]; simp [h95]
            clear h95
            go_wp2_with (first | (go_at_call 188; refine hc.mono ?_; rintro e w1 ⟨rfl, rfl⟩) | (go_at_call 189; refine hl.mono ?_; rintro e w1 ⟨rfl, rfl⟩))
            go_roundg (gk - 1)
            case measure => omega
            case rel => exact ⟨rfl, k + 1, by go_num, by omega, HG⟩
           ·have h95I : ¬ ((s[k]'hlt).toNat : Int) = 95 := by omega
            have HF : Hid (namedB s = false) := HB.out (by rw [HM.out]; simp [h95])
            go_wp2_with (first | (go_at_call 188; refine hc.mono ?_; rintro e w1 ⟨rfl, rfl⟩) | (go_at_call 189; refine hl.mono ?_; rintro e w1 ⟨rfl, rfl⟩))
            go_ret
            rw [HF.out]
            exact ⟨rfl, rfl⟩
      ·have hltI : ¬ (k : Int) < s.size := by omega
       have HF : Hid (namedB s = true) := by show namedB s = true; rw [← HT.out]; exact allB_whole nmB s k (by omega) HA.out
       go_wp2
       go_ret
       rw [HF.out]
       exact ⟨rfl, rfl⟩
  ·have h32I : ¬ (s.size : Int) ≤ 32 := by omega
   have HF : Hid (namedB s = false) := by show namedB s = false; unfold namedB; rw [dif_pos h0]; simp [h32]
   go_enter Tryz.func146, Tryz.ntmps146
   go_wp2
   go_ret
   rw [HF.out]
   exact ⟨rfl, rfl⟩
 ·have h0' : s.size = 0 := by omega
  have HF : Hid (namedB s = false) := by show namedB s = false; unfold namedB; rw [dif_neg h0]
  obtain rfl : s = ⟨#[]⟩ := by
   obtain ⟨⟨l⟩⟩ := s
   have : l.length = 0 := h0'
   rw [List.length_eq_zero_iff.1 this]
  go_enter Tryz.func146, Tryz.ntmps146
  go_wp2
  go_ret
  rw [HF.out]
  exact ⟨rfl, rfl⟩
end Go.Proofs.YtdlnmnipnkeabaaGreatDoor
namespace Go.Proofs.YtdlnmnipnkeabaaGreatDoor
open Go.RowKit
set_option linter.unusedVariables false
abbrev PE (n : Int) : List PanicEntry := [{ v := .iface 124 (.int .i64 n), recovered := false }]
theorem must_ok (n : Int) (w : World) : Calls Tryz.prog 89 #[.bool true, .int .i64 n] w fun e w' => e = .returned (.tuple #[]) ∧ w' = w := by
 go_enter Tryz.func89, Tryz.ntmps89
 go_wp2
 go_end0
 exact ⟨rfl, rfl⟩
theorem must_no (n : Int) (w : World) : Calls Tryz.prog 89 #[.bool false, .int .i64 n] w fun e w' => e = .panicked (PE n) ∧ w' = w := by
 go_enter Tryz.func89, Tryz.ntmps89
 go_wp2
 exact ⟨rfl, rfl, rfl⟩
theorem iskind_any (k : Int) (w : World) : Calls Tryz.prog 93 #[.int .i64 k] w fun e w' => e = .returned (.bool (decide (0 ≤ k) && decide (k ≤ 22))) ∧ w' = w := by
 by_cases h1 : 0 ≤ k <;> by_cases h2 : k ≤ 22
 all_goals first
  | omega
  | (go_enter Tryz.func93, Tryz.ntmps93
     go_wp2
     go_ret
     try (simp [h1, h2]; done))
theorem hasparts_any (k : Int) (w : World) : Calls Tryz.prog 118 #[.int .i64 k] w fun e w' => e = .returned (.bool (great k)) ∧ w' = w := by
 unfold great
 by_cases h1 : 18 ≤ k <;> by_cases h2 : k ≤ 22
 all_goals first
  | omega
  | (go_enter Tryz.func118, Tryz.ntmps118
     go_wp2
     go_ret
     try (simp [h1, h2]; done))
def keyB (k : Int) : Bool := decide (k = 1) || (decide (2 ≤ k) && decide (k ≤ 11)) || decide (k = 16)
theorem iskey_any (k : Int) (w : World) : Calls Tryz.prog 147 #[.int .i64 k] w fun e w' => e = .returned (.bool (keyB k)) ∧ w' = w := by
 by_cases h1 : k = 1
 ·subst h1
  go_enter Tryz.func147, Tryz.ntmps147
  go_wp2
  go_ret
  exact ⟨rfl, rfl⟩
 by_cases h16 : k = 16
 ·subst h16
  go_enter Tryz.func147, Tryz.ntmps147
  go_wp2
  go_ret
  exact ⟨rfl, rfl⟩
 have e1 : (k == 1) = false := by simp [h1]
 have e16 : (k == 16) = false := by simp [h16]
 have HK : Hid (keyB k = (decide (2 ≤ k) && decide (k ≤ 11))) := by show keyB k = _; unfold keyB; simp [h1, h16]
 clear h1 h16
 by_cases h2 : 2 ≤ k <;> by_cases h3 : k ≤ 11
 all_goals first
  | omega
  | (go_enter Tryz.func147, Tryz.ntmps147
     go_wp2
     go_ret
     refine ⟨?_, rfl⟩
     rw [HK.out]
     simp [h2, h3])
def fitsB (d : D) : Bool := (decide (d.kind ≠ 16) && decide (d.kind ≠ 17)) || decide (d.text.size ≤ 1024)
theorem textfits_any (d : D) (nv pv : Value) (w : World) : Calls Tryz.prog 90 #[DV d nv pv] w fun e w' => e = .returned (.bool (fitsB d)) ∧ Below w.heap.size w w' := by
 obtain ⟨kind, ty, bits, imag, text, names, parts, hook⟩ := d
 have bel : ∀ cs t, Below w.heap.size w (w.alloc (.cells cs t)) := fun _ _ => (Below.refl _ _).alloc (Nat.le_refl _) _
 by_cases h16 : kind = 16
 ·subst h16
  by_cases ht : text.size ≤ 1024
  ·have htI : (text.size : Int) ≤ 1024 := by omega
   go_enter Tryz.func90, Tryz.ntmps90
   go_wp2
   go_ret
   exact ⟨by simp [fitsB, ht], bel _ _⟩
  ·have htI : ¬ (text.size : Int) ≤ 1024 := by omega
   go_enter Tryz.func90, Tryz.ntmps90
   go_wp2
   go_ret
   exact ⟨by simp [fitsB, ht], bel _ _⟩
 by_cases h17 : kind = 17
 ·subst h17
  by_cases ht : text.size ≤ 1024
  ·have htI : (text.size : Int) ≤ 1024 := by omega
   go_enter Tryz.func90, Tryz.ntmps90
   go_wp2
   go_ret
   exact ⟨by simp [fitsB, ht], bel _ _⟩
  ·have htI : ¬ (text.size : Int) ≤ 1024 := by omega
   go_enter Tryz.func90, Tryz.ntmps90
   go_wp2
   go_ret
   exact ⟨by simp [fitsB, ht], bel _ _⟩
 have e16 : (kind != 16) = true := by simp [h16]
 have e17 : (kind != 17) = true := by simp [h17]
 go_enter Tryz.func90, Tryz.ntmps90
 go_wp2
 go_ret
 exact ⟨by simp [fitsB, h16, h17], bel _ _⟩
end Go.Proofs.YtdlnmnipnkeabaaGreatDoor
namespace Go.Proofs.YtdlnmnipnkeabaaGreatDoor
open Go.RowKit
set_option linter.unusedVariables false
def fldB (d : D) : Bool := decide (d.names.length = d.parts.length) && d.names.all namedB
theorem all_take {α : Type} (p : α → Bool) (l : List α) (k : Nat) (x : α) (h : l[k]? = some x) : (l.take (k + 1)).all p = ((l.take k).all p && p x) := by
 rw [List.take_add_one, h]
 simp
theorem all_bad {α : Type} (p : α → Bool) (l : List α) (k : Nat) (x : α) (h : l[k]? = some x) (hb : p x = false) : l.all p = false := by
 cases ha : l.all p with
 | false => rfl
 | true => have := List.all_eq_true.1 ha x (List.mem_of_getElem? h); rw [hb] at this; cases this
set_option maxRecDepth 1000000 in
set_option maxHeartbeats 4000000 in
theorem fields_any (d : D) (nv : Value) (a : Option Addr) (cap : Nat) (w : World) (hs : Strs w nv d.names) (hp : d.parts.length ≤ 9223372036854775807) :
  Calls Tryz.prog 120 #[DV d nv (.slice a d.parts.length cap)] w fun e w' => e = .returned (.bool (fldB d)) ∧ Below w.heap.size w w' := by
 obtain ⟨kind, ty, bits, imag, text, names, parts, hook⟩ := d
 obtain ⟨a2, cap2, rfl, hl1, hl2, hcell⟩ := hs
 have bel : ∀ cs t, Below w.heap.size w (w.alloc (.cells cs t)) := fun _ _ => (Below.refl _ _).alloc (Nat.le_refl _) _
 simp only at hp hl1 hcell ⊢
 unfold maxLen at hl2 hcell
 by_cases hn : names.length = parts.length
 ·have hnI : ((names.length : Int) != (parts.length : Int)) = false := by simp [hn]
  have HD : Hid (fldB ⟨kind, ty, bits, imag, text, names, parts, hook⟩ = names.all namedB) := by show fldB _ = _; unfold fldB; simp [hn]
  clear hn
  go_enter Tryz.func120, Tryz.ntmps120
  go_wp2
  go_loopg [4, 15] names.length (fun g z i wr => wr = w.alloc (.cells #[.int .i64 kind, .string ty, .int .u64 bits, .int .u64 imag, .string text, .slice a2 names.length cap2, .slice a parts.length cap, .int .i64 hook] 29) ∧ ∃ k : Nat, i = .int .i64 k ∧ k + g = names.length ∧ Hid ((names.take k).all namedB = true))
  case atStart => exact ⟨rfl, 0, rfl, Nat.zero_add _, rfl⟩
  case round =>
   obtain ⟨rfl, k, rfl, hkg, HA⟩ := hrel
   by_cases hlt : k < names.length
   ·have hltI : (k : Int) < names.length := by omega
    obtain ⟨s, hs⟩ : ∃ s, names[k]? = some s := ⟨names[k], List.getElem?_eq_getElem hlt⟩
    obtain ⟨hsz, b, off, rfl, hc⟩ := hcell k s hs
    have hc' := fun cs t => up_cell (bel cs t) hc
    have HN : Hid ((names.take (k + 1)).all namedB = ((names.take k).all namedB && namedB s)) := all_take namedB names k s hs
    have HB : Hid (namedB s = false → names.all namedB = false) := all_bad namedB names k s hs
    have hnm := fun W => named_any s W (by omega)
    clear hcell hs
    generalize namedB s = q at hnm HN HB
    cases q with
    | true =>
      go_wp2_with (go_at_call 146; refine (hnm _).mono ?_; rintro e w1 ⟨rfl, rfl⟩)
      go_roundg (gk - 1)
      case measure => omega
      case rel => exact ⟨rfl, k + 1, by go_num, by omega, by show _ = _; rw [HN.out, HA.out]; rfl⟩
    | false =>
      go_wp2_with (go_at_call 146; refine (hnm _).mono ?_; rintro e w1 ⟨rfl, rfl⟩)
      go_ret
      rw [HD.out, HB.out trivial]
      exact ⟨rfl, bel _ _⟩
   ·have hltI : ¬ (k : Int) < names.length := by omega
    have HF : Hid (names.all namedB = true) := by
     have := HA.out
     rw [List.take_of_length_le (by omega)] at this
     exact this
    go_wp2
    go_ret
    rw [HD.out, HF.out]
    exact ⟨rfl, bel _ _⟩
 ·have hnI : ((names.length : Int) != (parts.length : Int)) = true := by simp; omega
  have HD : Hid (fldB ⟨kind, ty, bits, imag, text, names, parts, hook⟩ = false) := by show fldB _ = _; unfold fldB; simp [hn]
  clear hn
  go_enter Tryz.func120, Tryz.ntmps120
  go_wp2
  go_ret
  rw [HD.out]
  exact ⟨rfl, bel _ _⟩
def evB (l : List D) (k : Nat) : Bool := (List.range k).all fun i => match l[i]? with | some x => i % 2 == 1 || keyB x.kind | none => true
def entB (d : D) : Bool := evB d.parts d.parts.length && decide (d.parts.length % 2 = 0)
theorem evB_succ (l : List D) (k : Nat) (x : D) (h : l[k]? = some x) : evB l (k + 1) = (evB l k && (k % 2 == 1 || keyB x.kind)) := by
 unfold evB
 rw [List.range_succ]
 simp [h]
theorem evB_bad (l : List D) (k n : Nat) (x : D) (hk : k < n) (h : l[k]? = some x) (hb : (k % 2 == 1 || keyB x.kind) = false) : evB l n = false := by
 cases ha : evB l n with
 | false => rfl
 | true =>
   unfold evB at ha
   have := List.all_eq_true.1 ha k (List.mem_range.2 hk)
   simp only [h] at this
   rw [hb] at this; cases this
set_option maxRecDepth 1000000 in
set_option maxHeartbeats 4000000 in
theorem entries_any (n : Nat) (d : D) (nv pv : Value) (w : World) (hr : RdC (n + 1) w nv pv d) :
  Calls Tryz.prog 121 #[DV d nv pv] w fun e w' => e = .returned (.bool (entB d)) ∧ Below w.heap.size w w' := by
 obtain ⟨-, -, a, cap, rfl, hl1, hl2, hcell⟩ := hr
 obtain ⟨kind, ty, bits, imag, text, names, parts, hook⟩ := d
 have bel : ∀ cs t, Below w.heap.size w (w.alloc (.cells cs t)) := fun _ _ => (Below.refl _ _).alloc (Nat.le_refl _) _
 simp only at hl1 hcell ⊢
 unfold maxLen at hl2
 have HD : Hid (entB ⟨kind, ty, bits, imag, text, names, parts, hook⟩ = (evB parts parts.length && decide (parts.length % 2 = 0))) := rfl
 obtain ⟨W1, hW1⟩ : ∃ W1, W1 = w.alloc (.cells #[.int .i64 kind, .string ty, .int .u64 bits, .int .u64 imag, .string text, nv, .slice a parts.length cap, .int .i64 hook] 29) := ⟨_, rfl⟩
 have hb1 : Below w.heap.size w W1 := by rw [hW1]; exact bel _ _
 have f6 : ∀ x : Cl W1, x.w.cell? ⟨w.heap.size, 6, none⟩ = some (.slice a parts.length cap) := fun x => x.cell (by rw [hW1]; simp)
 go_enter Tryz.func121, Tryz.ntmps121
 go_wp2
 rw [← hW1]
 go_loopg [3, 4, 8] parts.length (fun g z0 z1 i wr => ∃ (y : Cl W1) (k : Nat), wr = y.w ∧ i = .int .i64 k ∧ k + g = parts.length ∧ Hid (evB parts k = true))
 case atStart => exact ⟨⟨W1, Below.refl _ _⟩, 0, rfl, rfl, Nat.zero_add _, rfl⟩
 case round =>
  obtain ⟨y, k, rfl, rfl, hkg, HA⟩ := hrel
  by_cases hlt : k < parts.length
  ·have hltI : (k : Int) < parts.length := by omega
   obtain ⟨x, hx⟩ : ∃ x, parts[k]? = some x := ⟨parts[k], List.getElem?_eq_getElem hlt⟩
   obtain ⟨b, off, nv', pv', rfl, h8, hr'⟩ := hcell k x hx
   obtain ⟨na, nc, pa, pc, rfl, rfl⟩ := hr'.slices
   clear hr'
   obtain ⟨c0, c1, c2, c3, c4, c5, c6, c7⟩ := (h8.up hb1).up y.below
   have HN : Hid (evB parts (k + 1) = (evB parts k && (k % 2 == 1 || keyB x.kind))) := evB_succ parts k x hx
   have HB : Hid ((k % 2 == 1 || keyB x.kind) = false → evB parts parts.length = false) := evB_bad parts k _ x hlt hx
   have hky := fun W => iskey_any x.kind W
   clear hcell hx h8
   have ydone : Below W1.heap.size W1 (y.w.alloc (.cells #[.int .i64 x.kind, .string x.ty, .int .u64 x.bits, .int .u64 x.imag, .string x.text, .slice na x.names.length nc, .slice pa x.parts.length pc, .int .i64 x.hook] 29)) := y.below.alloc y.below.size _
   by_cases hpar : k % 2 = 0
   ·have hpI : (((k : Int) % 2) == 0) = true := by simp; omega
    have HP : Hid ((k % 2 == 1) = false) := by show (k % 2 == 1) = false; simp; omega
    clear hpar
    generalize keyB x.kind = q at hky HN HB
    cases q with
    | true =>
      go_wp2_with (go_at_call 147; refine (hky _).mono ?_; rintro e w1 ⟨rfl, rfl⟩)
      go_roundg (gk - 1)
      case measure => omega
      case rel => exact ⟨⟨_, ydone⟩, k + 1, rfl, by go_num, by omega, by show _ = _; rw [HN.out, HA.out]; simp⟩
    | false =>
      go_wp2_with (go_at_call 147; refine (hky _).mono ?_; rintro e w1 ⟨rfl, rfl⟩)
      go_ret
      rw [HD.out, HB.out (by rw [HP.out]; rfl)]
      exact ⟨rfl, hb1.trans (ydone.mono hb1.size)⟩
   ·have hpI : (((k : Int) % 2) == 0) = false := by simp; omega
    have HP : Hid ((k % 2 == 1) = true) := by show (k % 2 == 1) = true; simp; omega
    clear hpar
    go_wp2_with (go_at_call 147; refine (hky _).mono ?_; rintro e w1 ⟨rfl, rfl⟩)
    go_roundg (gk - 1)
    case measure => omega
    case rel => exact ⟨⟨_, ydone⟩, k + 1, rfl, by go_num, by omega, by show _ = _; rw [HN.out, HA.out, HP.out]; rfl⟩
  ·have hltI : ¬ (k : Int) < parts.length := by omega
   have hk : k = parts.length := by omega
   have HF : Hid (evB parts parts.length = true) := by rw [hk] at HA; exact HA
   clear hk
   by_cases hpar : parts.length % 2 = 0
   ·have hpI : (((parts.length : Int) % 2) == 0) = true := by simp; omega
    have HE : Hid (entB ⟨kind, ty, bits, imag, text, names, parts, hook⟩ = true) := by show _ = _; rw [HD.out, HF.out]; simp [hpar]
    clear hpar
    go_wp2
    go_ret
    rw [HE.out]
    exact ⟨rfl, hb1.trans (y.below.mono hb1.size)⟩
   ·have hpI : (((parts.length : Int) % 2) == 0) = false := by simp; omega
    have HE : Hid (entB ⟨kind, ty, bits, imag, text, names, parts, hook⟩ = false) := by show _ = _; rw [HD.out, HF.out]; simp [hpar]
    clear hpar
    go_wp2
    go_ret
    rw [HE.out]
    exact ⟨rfl, hb1.trans (y.below.mono hb1.size)⟩
def frmB (d : D) : Bool :=
 if d.kind = 0 then true else typedB d.ty && (if d.kind = 18 then fldB d else if d.kind = 21 then entB d else if d.kind = 22 then decide (d.parts.length ≤ 1) else true)
set_option maxRecDepth 1000000 in
set_option maxHeartbeats 4000000 in
theorem formed_any (n : Nat) (d : D) (nv pv : Value) (w : World) (hr : RdC (n + 1) w nv pv d) :
  Calls Tryz.prog 95 #[DV d nv pv] w fun e w' => e = .returned (.bool (frmB d)) ∧ Below w.heap.size w w' := by
 obtain ⟨na, nc, pa, pc, rfl, rfl⟩ := hr.slices
 have hfit := hr.1
 have hty := fun W => typed_any d.ty W (by have := hfit.2.2.2.2.1; unfold maxLen at this; omega)
 have hlen : d.parts.length ≤ 9223372036854775807 := by
  obtain ⟨-, -, a, cap, -, h1, h2, -⟩ := hr
  unfold maxLen at h2; omega
 have hst := hr.2.1
 obtain ⟨W1, hW1⟩ : ∃ W1, W1 = w.alloc (.cells #[.int .i64 d.kind, .string d.ty, .int .u64 d.bits, .int .u64 d.imag, .string d.text, .slice na d.names.length nc, .slice pa d.parts.length pc, .int .i64 d.hook] 29) := ⟨_, rfl⟩
 have hb1 : Below w.heap.size w W1 := by rw [hW1]; exact (Below.refl _ _).alloc (Nat.le_refl _) _
 have hfl := fun (W : World) (h : Below w.heap.size w W) => fields_any d (.slice na d.names.length nc) pa pc W (hst.up h) hlen
 have hen := fun (W : World) (h : Below w.heap.size w W) => entries_any n d (.slice na d.names.length nc) (.slice pa d.parts.length pc) W (hr.up h)
 clear hr hst hfit
 have HD : Hid (frmB d = if d.kind = 0 then true else typedB d.ty && (if d.kind = 18 then fldB d else if d.kind = 21 then entB d else if d.kind = 22 then decide (d.parts.length ≤ 1) else true)) := rfl
 generalize frmB d = R at HD ⊢
 generalize typedB d.ty = t at hty HD
 generalize fldB d = fl at hfl HD
 generalize entB d = en at hen HD
 have fin : ∀ {W : World}, Below W1.heap.size W1 W → Below w.heap.size w W := fun h => hb1.trans (h.mono hb1.size)
 obtain ⟨kind, ty, bits, imag, text, names, parts, hook⟩ := d
 simp only at *
 have hfl1 := hfl W1 hb1
 have hen1 := hen W1 hb1
 have c1 : W1.cell? ⟨w.heap.size, 1, none⟩ = some (.string ty) := by rw [hW1]; simp
 by_cases k0 : kind = 0
 ·subst k0
  go_enter Tryz.func95, Tryz.ntmps95
  go_wp2
  go_ret
  exact ⟨by rw [HD.out]; rfl, by rw [← hW1]; exact hb1⟩
 by_cases k18 : kind = 18
 ·subst k18
  cases t with
  | true =>
    go_enter Tryz.func95, Tryz.ntmps95
    go_wp2_with (first | (go_at_call 119; refine (hty _).mono ?_; rintro e w1 ⟨rfl, rfl⟩) | (go_at_call 120; rw [← hW1]; refine hfl1.mono ?_; rintro e w1 ⟨rfl, hb⟩))
    go_ret
    exact ⟨by rw [HD.out]; rfl, fin hb⟩
  | false =>
    go_enter Tryz.func95, Tryz.ntmps95
    go_wp2_with (first | (go_at_call 119; refine (hty _).mono ?_; rintro e w1 ⟨rfl, rfl⟩))
    go_ret
    exact ⟨by rw [HD.out]; rfl, by rw [← hW1]; exact hb1⟩
 by_cases k21 : kind = 21
 ·subst k21
  cases t with
  | true =>
    go_enter Tryz.func95, Tryz.ntmps95
    go_wp2_with (first | (go_at_call 119; refine (hty _).mono ?_; rintro e w1 ⟨rfl, rfl⟩) | (go_at_call 121; rw [← hW1]; refine hen1.mono ?_; rintro e w1 ⟨rfl, hb⟩))
    go_ret
    exact ⟨by rw [HD.out]; rfl, fin hb⟩
  | false =>
    go_enter Tryz.func95, Tryz.ntmps95
    go_wp2_with (first | (go_at_call 119; refine (hty _).mono ?_; rintro e w1 ⟨rfl, rfl⟩))
    go_ret
    exact ⟨by rw [HD.out]; rfl, by rw [← hW1]; exact hb1⟩
 by_cases k22 : kind = 22
 ·subst k22
  cases t with
  | true =>
    by_cases hp1 : parts.length ≤ 1
    ·have hp1I : (parts.length : Int) ≤ 1 := by omega
     go_enter Tryz.func95, Tryz.ntmps95
     go_wp2_with (first | (go_at_call 119; refine (hty _).mono ?_; rintro e w1 ⟨rfl, rfl⟩))
     go_ret
     exact ⟨by rw [HD.out]; simp [hp1], by rw [← hW1]; exact hb1⟩
    ·have hp1I : ¬ (parts.length : Int) ≤ 1 := by omega
     go_enter Tryz.func95, Tryz.ntmps95
     go_wp2_with (first | (go_at_call 119; refine (hty _).mono ?_; rintro e w1 ⟨rfl, rfl⟩))
     go_ret
     exact ⟨by rw [HD.out]; simp [hp1]; omega, by rw [← hW1]; exact hb1⟩
  | false =>
    go_enter Tryz.func95, Tryz.ntmps95
    go_wp2_with (first | (go_at_call 119; refine (hty _).mono ?_; rintro e w1 ⟨rfl, rfl⟩))
    go_ret
    exact ⟨by rw [HD.out]; rfl, by rw [← hW1]; exact hb1⟩
 have e0 : (kind == 0) = false := by simp [k0]
 have e18 : (kind == 18) = false := by simp [k18]
 have e21 : (kind == 21) = false := by simp [k21]
 have e22 : (kind == 22) = false := by simp [k22]
 have HE : Hid (R = t) := by show R = t; rw [HD.out]; simp [k0, k18, k21, k22]
 clear k0 k18 k21 k22 HD
 go_enter Tryz.func95, Tryz.ntmps95
 go_wp2_with (first | (go_at_call 119; refine (hty _).mono ?_; rintro e w1 ⟨rfl, rfl⟩))
 go_ret
 exact ⟨by rw [HE.out]; rfl, by rw [← hW1]; exact hb1⟩
end Go.Proofs.YtdlnmnipnkeabaaGreatDoor
