/- VD, VWalkA, VWalkB: these texts in one. -/
import Derived.Test.YtdlnmnipnkeabaaGreatDoorPt1
import Derived.Handy
import Derived.Deep.RegionHeld
import Derived.Test.YtdlnmnipnkeabaaGreatDoorChecked
import Derived.Deep.LoopGhost
import Derived.WalkKit
import Derived.Lib.MapLaws
import Derived.WalkLawsBesides
namespace Go.Proofs.YtdlnmnipnkeabaaGreatDoor
open Go.RowKit
set_option linter.unusedVariables false
theorem lys : (∀ (l : List Value) (i : Nat) (h : i < l.toArray.size), l.toArray[i] = l[i]'(by simpa using h)) ∧ (∀ (a : Value) (l : List Value) (h : 0 < (a :: l).length), (a :: l)[0] = a) ∧ (∀ (a : Value) (l : List Value) (i : Nat) (h : i + 1 < (a :: l).length), (a :: l)[i + 1] = l[i]'(Nat.lt_of_succ_lt_succ h)) ∧ (∀ (l : List Value) (i : Nat) (v : Value), l.toArray.setIfInBounds i v = (l.set i v).toArray) ∧ (∀ (a b : Value) (l : List Value), (a :: l).set 0 b = b :: l) ∧ (∀ (a b : Value) (l : List Value) (i : Nat), (a :: l).set (i + 1) b = a :: l.set i b) :=
 ⟨fun _ _ _ => by simp, fun _ _ _ => rfl, fun _ _ _ _ => rfl, fun _ _ _ => by simp, fun _ _ _ => rfl, fun _ _ _ _ => rfl⟩
theorem tk (i : Nat) (v : Value) {P : Program} {ops : Array Oper} {Q : Exit → Act → World → Prop} {md : Region.Mode} {S : World → Prop} {oi : Oper} {fuel : Nat} {listed : Array Bool} {a : Act} {w : World} (hi : ops[i]? = some oi)
  (hb : (Region.noSelect ops && Region.free md ops listed i && (Region.ready md ops listed).contains i) = true) (hQ : ∀ c a w, Q (.panic c) (a.put oi.dst v) w → Q (.panic c) a w)
  (hg : Region.wanted oi (yielded ops a.tmps) = true) (hS : S w) (hy : ∀ w, S w → (execOp a.eval oi).run P w = .ok (.value v) w)
  (h : wpAnyH P md ops Q S fuel (listed.setIfInBounds i true) (a.put oi.dst v) w) : wpAnyH P md ops Q S (fuel + 1) listed a w := by
 rw [Bool.and_eq_true, Bool.and_eq_true] at hb
 exact wpAnyH_take hi hb.1.1 hb.1.2 hb.2 hQ (Or.inl ⟨hg, hy⟩) hS h
theorem rd1 (i : Nat) {P : Program} {ops : Array Oper} {Q : Exit → Act → World → Prop} {md : Region.Mode} {S : World → Prop} {o : Oper} {fuel : Nat} {listed : Array Bool} {a : Act} {w : World} (hr : Region.ready md ops listed = [i]) (ho : ops[i]? = some o)
  (h : ∀ K' : Act → World → Prop, Shut (∀ a w, S w → (S w → wpAnyH P md ops Q S fuel (listed.setIfInBounds i true) a w) → K' a w) → if Region.wanted o (yielded ops a.tmps) = true then Oper.wp P o a w K' Q else K' (a.put o.dst undef) w) :
  wpAnyH P md ops Q S (fuel + 1) listed a w :=
 wpAnyH_ready hr (by simp) (AllReadyH.cons ho h AllReadyH.nil)
structure D where
 kind : Int
 ty : ByteArray
 bits : Int
 imag : Int
 text : ByteArray
 names : List ByteArray
 parts : List D
 hook : Int
abbrev DV (d : D) (nv pv : Value) : Value := .agg #[.int .i64 d.kind, .string d.ty, .int .u64 d.bits, .int .u64 d.imag, .string d.text, nv, pv, .int .i64 d.hook]
def At8 (W : World) (b o : Nat) (d : D) (nv pv : Value) : Prop :=
 W.cell? ⟨b, o, none⟩ = some (.int .i64 d.kind) ∧ W.cell? ⟨b, o + 1, none⟩ = some (.string d.ty) ∧ W.cell? ⟨b, o + 2, none⟩ = some (.int .u64 d.bits) ∧ W.cell? ⟨b, o + 3, none⟩ = some (.int .u64 d.imag) ∧
 W.cell? ⟨b, o + 4, none⟩ = some (.string d.text) ∧ W.cell? ⟨b, o + 5, none⟩ = some nv ∧ W.cell? ⟨b, o + 6, none⟩ = some pv ∧ W.cell? ⟨b, o + 7, none⟩ = some (.int .i64 d.hook)
def Strs (W : World) (v : Value) (l : List ByteArray) : Prop :=
 ∃ a cap, v = .slice a l.length cap ∧ l.length ≤ cap ∧ cap ≤ maxLen ∧ ∀ (i : Nat) (s : ByteArray), l[i]? = some s → s.size ≤ maxLen ∧ ∃ b off, a = some ⟨b, off, none⟩ ∧ W.cell? ⟨b, off + i, none⟩ = some (.string s)
def Fit (d : D) : Prop := (-9223372036854775808 ≤ d.kind ∧ d.kind ≤ 9223372036854775807) ∧ (0 ≤ d.bits ∧ d.bits ≤ 18446744073709551615) ∧ (0 ≤ d.imag ∧ d.imag ≤ 18446744073709551615) ∧ (-9223372036854775808 ≤ d.hook ∧ d.hook ≤ 9223372036854775807) ∧ d.ty.size ≤ maxLen ∧ d.text.size ≤ maxLen
def RdC : Nat → World → Value → Value → D → Prop
 | 0, _, _, _, _ => False
 | n + 1, W, nv, pv, d => Fit d ∧ Strs W nv d.names ∧ ∃ a cap, pv = .slice a d.parts.length cap ∧ d.parts.length ≤ cap ∧ cap ≤ maxLen ∧
     ∀ (i : Nat) (x : D), d.parts[i]? = some x → ∃ b off nv' pv', a = some ⟨b, off, none⟩ ∧ At8 W b (off + i * 8) x nv' pv' ∧ RdC n W nv' pv' x
def Rd (W : World) (v : Value) (d : D) : Prop := ∃ n nv pv, v = DV d nv pv ∧ RdC n W nv pv d
theorem up_cell {W W' : World} (h : Below W.heap.size W W') {p : Addr} {v : Value} (hc : W.cell? p = some v) : W'.cell? p = some v :=
 Cl.cell (⟨W', h⟩ : Cl W) hc
theorem At8.up {W W' : World} {b o : Nat} {d : D} {nv pv : Value} (h : At8 W b o d nv pv) (hb : Below W.heap.size W W') : At8 W' b o d nv pv :=
 ⟨up_cell hb h.1, up_cell hb h.2.1, up_cell hb h.2.2.1, up_cell hb h.2.2.2.1, up_cell hb h.2.2.2.2.1, up_cell hb h.2.2.2.2.2.1, up_cell hb h.2.2.2.2.2.2.1, up_cell hb h.2.2.2.2.2.2.2⟩
theorem Strs.up {W W' : World} {v : Value} {l : List ByteArray} (h : Strs W v l) (hb : Below W.heap.size W W') : Strs W' v l := by
 obtain ⟨a, cap, h1, h2, h3, h4⟩ := h
 refine ⟨a, cap, h1, h2, h3, fun i s hs => ?_⟩
 obtain ⟨hz, b, off, ha, hc⟩ := h4 i s hs
 exact ⟨hz, b, off, ha, up_cell hb hc⟩
theorem RdC.up {W W' : World} (hb : Below W.heap.size W W') : ∀ {n : Nat} {nv pv : Value} {d : D}, RdC n W nv pv d → RdC n W' nv pv d
 | 0, _, _, _, h => h
 | n + 1, nv, pv, d, h => by
   obtain ⟨h1, h2, a, cap, h3, h4, h5, h6⟩ := h
   refine ⟨h1, h2.up hb, a, cap, h3, h4, h5, fun i x hx => ?_⟩
   obtain ⟨b, off, nv', pv', e1, e2, e3⟩ := h6 i x hx
   exact ⟨b, off, nv', pv', e1, e2.up hb, RdC.up hb e3⟩
theorem RdC.more {W : World} : ∀ {n m : Nat} {nv pv : Value} {d : D}, n ≤ m → RdC n W nv pv d → RdC m W nv pv d
 | 0, _, _, _, _, _, h => h.elim
 | n + 1, m, nv, pv, d, hm, h => by
   obtain ⟨k, rfl⟩ : ∃ k, m = k + 1 := ⟨m - 1, by omega⟩
   obtain ⟨h1, h2, a, cap, h3, h4, h5, h6⟩ := h
   refine ⟨h1, h2, a, cap, h3, h4, h5, fun i x hx => ?_⟩
   obtain ⟨b, off, nv', pv', e1, e2, e3⟩ := h6 i x hx
   exact ⟨b, off, nv', pv', e1, e2, RdC.more (by omega) e3⟩
theorem RdC.slices {W : World} : ∀ {n : Nat} {nv pv : Value} {d : D}, RdC n W nv pv d → ∃ na nc pa pc, nv = .slice na d.names.length nc ∧ pv = .slice pa d.parts.length pc
 | 0, _, _, _, h => h.elim
 | n + 1, nv, pv, d, h => by
   obtain ⟨-, ⟨na, nc, h1, -⟩, pa, pc, h2, -⟩ := h
   exact ⟨na, nc, pa, pc, h1, h2⟩
theorem Rd.up {W W' : World} {v : Value} {d : D} (h : Rd W v d) (hb : Below W.heap.size W W') : Rd W' v d := by
 obtain ⟨n, nv, pv, h1, h2⟩ := h
 exact ⟨n, nv, pv, h1, h2.up hb⟩
def great (k : Int) : Bool := decide (18 ≤ k) && decide (k ≤ 22)
def pre : D → Int → List (D × Int)
 | ⟨kind, ty, bits, imag, text, names, parts, hook⟩, k => (⟨kind, ty, bits, imag, text, names, parts, hook⟩, k) :: (if great kind then parts.flatMap fun x => pre x (k + 1) else [])
def preAll (l : List D) (k : Int) : List (D × Int) := l.flatMap fun x => pre x k
theorem pre_eq (d : D) (k : Int) : pre d k = (d, k) :: (if great d.kind then preAll d.parts (k + 1) else []) := by
 obtain ⟨kind, ty, bits, imag, text, names, parts, hook⟩ := d
 rw [pre]; rfl
theorem preAll_take (l : List D) (k : Int) (i : Nat) (x : D) (h : l[i]? = some x) : preAll (l.take (i + 1)) k = preAll (l.take i) k ++ pre x k := by
 rw [List.take_add_one, h]
 simp [preAll]
def dgB (c : UInt8) : Bool := decide (48 ≤ c.toNat) && decide (c.toNat ≤ 57)
def ltB (c : UInt8) : Bool := (decide (97 ≤ c.toNat) && decide (c.toNat ≤ 122)) || (decide (65 ≤ c.toNat) && decide (c.toNat ≤ 90))
def nmB (c : UInt8) : Bool := dgB c || ltB c || decide (c.toNat = 95)
def tyB (c : UInt8) : Bool := decide (33 ≤ c.toNat) && decide (c.toNat ≤ 126)
def allB (p : UInt8 → Bool) (l : List UInt8) : Bool := l.all p
theorem len_sz (s : ByteArray) : s.data.toList.length = s.size := by rw [Array.length_toList]; rfl
theorem allB_take (p : UInt8 → Bool) (s : ByteArray) (k : Nat) (h : k < s.size) : allB p (s.data.toList.take (k + 1)) = (allB p (s.data.toList.take k) && p (s[k]'h)) := by
 have hl : k < s.data.toList.length := by rw [len_sz]; exact h
 have e : s.data.toList[k]'hl = s[k]'h := rfl
 rw [List.take_succ_eq_append_getElem hl, e]
 simp [allB]
theorem allB_bad (p : UInt8 → Bool) (s : ByteArray) (k : Nat) (h : k < s.size) (hb : p (s[k]'h) = false) : allB p s.data.toList = false := by
 have hl : k < s.data.toList.length := by rw [len_sz]; exact h
 have hm : (s[k]'h) ∈ s.data.toList := List.getElem_mem hl
 cases ha : allB p s.data.toList with
 | false => rfl
 | true => have := List.all_eq_true.1 ha _ hm; rw [hb] at this; cases this
theorem allB_whole (p : UInt8 → Bool) (s : ByteArray) (k : Nat) (h : s.size ≤ k) (ha : allB p (s.data.toList.take k) = true) : allB p s.data.toList = true := by
 rw [List.take_of_length_le (by rw [len_sz]; omega)] at ha
 exact ha
def namedB (s : ByteArray) : Bool := if h : 0 < s.size then decide (s.size ≤ 32) && !dgB (s[0]'h) && allB nmB s.data.toList else false
def typedB (s : ByteArray) : Bool := decide (s.size ≤ 32) && allB tyB s.data.toList
end Go.Proofs.YtdlnmnipnkeabaaGreatDoor
namespace Go.Proofs.YtdlnmnipnkeabaaGreatDoor
open Go.RowKit
set_option linter.unusedVariables false
theorem isdigit_any (c : UInt8) (w : World) : Calls Tryz.prog 188 #[.int .u8 c.toNat] w fun e w' => e = .returned (.bool (dgB c)) ∧ w' = w := by
 have hc := c.toNat_lt
 unfold dgB
 by_cases h1 : 48 ≤ c.toNat <;> by_cases h2 : c.toNat ≤ 57
 all_goals first
  | omega
  | (go_enter Tryz.func188, Tryz.ntmps188
     go_wp2
     go_ret
     try (simp [h1, h2]; done)
     try (simp [h1, h2]; omega))
theorem isletter_any (c : UInt8) (w : World) : Calls Tryz.prog 189 #[.int .u8 c.toNat] w fun e w' => e = .returned (.bool (ltB c)) ∧ w' = w := by
 have hc := c.toNat_lt
 unfold ltB
 by_cases h1 : 97 ≤ c.toNat <;> by_cases h2 : c.toNat ≤ 122 <;> by_cases h3 : 65 ≤ c.toNat <;> by_cases h4 : c.toNat ≤ 90
 all_goals first
  | omega
  | (go_enter Tryz.func189, Tryz.ntmps189
     go_wp2
     go_ret
     try (simp [h1, h2, h3, h4]; done)
     try (simp [h1, h2, h3, h4]; omega))
set_option maxRecDepth 1000000 in
set_option maxHeartbeats 4000000 in
theorem typed_any (s : ByteArray) (w : World) (hs : s.size ≤ 9223372036854775807) :
  Calls Tryz.prog 119 #[.string s] w fun e w' => e = .returned (.bool (typedB s)) ∧ w' = w := by
 go_enter Tryz.func119, Tryz.ntmps119
 go_wp2
 go_loopg [6] s.size (fun g i wr => wr = w ∧ ∃ k : Nat, i = .int .i64 k ∧ k + g = s.size ∧ Hid (allB tyB (s.data.toList.take k) = true))
 case atStart => exact ⟨rfl, 0, rfl, Nat.zero_add _, rfl⟩
 case round =>
  obtain ⟨rfl, k, rfl, hkg, HA⟩ := hrel
  by_cases hlt : k < s.size
  ·have hltI : (k : Int) < s.size := by omega
   have hx : (s[k]'hlt).toNat < 256 := (s[k]'hlt).toNat_lt
   have HN : Hid (allB tyB (s.data.toList.take (k + 1)) = (allB tyB (s.data.toList.take k) && tyB (s[k]'hlt))) := allB_take tyB s k hlt
   have HB : Hid (tyB (s[k]'hlt) = false → typedB s = false) := fun h => by unfold typedB; rw [allB_bad tyB s k hlt h, Bool.and_false]
   have HD : Hid (tyB (s[k]'hlt) = (decide (33 ≤ (s[k]'hlt).toNat) && decide ((s[k]'hlt).toNat ≤ 126))) := rfl
   by_cases h1 : (s[k]'hlt).toNat < 33
   ·have h1I : ((s[k]'hlt).toNat : Int) < 33 := by omega
    have HF : Hid (typedB s = false) := HB.out (by rw [HD.out]; simp; omega)
    go_wp2
    go_ret
    rw [HF.out]
    exact ⟨rfl, rfl⟩
   ·have h1I : ¬ ((s[k]'hlt).toNat : Int) < 33 := by omega
    by_cases h2 : 126 < (s[k]'hlt).toNat
    ·have h2I : 126 < ((s[k]'hlt).toNat : Int) := by omega
     have HF : Hid (typedB s = false) := HB.out (by rw [HD.out]; simp; omega)
     go_wp2
     go_ret
     rw [HF.out]
     exact ⟨rfl, rfl⟩
    ·have h2I : ¬ 126 < ((s[k]'hlt).toNat : Int) := by omega
     have HG : Hid (allB tyB (s.data.toList.take (k + 1)) = true) := by
      show allB tyB (s.data.toList.take (k + 1)) = true
      rw [HN.out, HA.out, HD.out]; simp; omega
     go_wp2
     go_roundg (gk - 1)
     case measure => omega
     case rel => exact ⟨rfl, k + 1, by go_num, by omega, HG⟩
  ·have hltI : ¬ (k : Int) < s.size := by omega
   have HF : Hid (allB tyB s.data.toList = true) := allB_whole tyB s k (by omega) HA.out
   by_cases h32 : s.size ≤ 32
   ·have h32I : (s.size : Int) ≤ 32 := by omega
    go_wp2
    go_ret
    exact ⟨by unfold typedB; rw [HF.out]; simp [h32], rfl⟩
   ·have h32I : ¬ (s.size : Int) ≤ 32 := by omega
    go_wp2
    go_ret
    exact ⟨by unfold typedB; rw [HF.out]; simp [h32], rfl⟩
set_option maxRecDepth 1000000 in
set_option maxHeartbeats 4000000 in
theorem named_any (s : ByteArray) (w : World) (hs : s.size ≤ 9223372036854775807) :
  Calls Tryz.prog 146 #[.string s] w fun e w' => e = .returned (.bool (namedB s)) ∧ w' = w := by
 by_cases h0 : 0 < s.size
 ·have h0I : (0 : Int) < s.size := by omega
  have hne : ¬ s.toList = [] := by
   rw [Lib.toList_data]
   intro e
   have := congrArg List.length e
   rw [len_sz, List.length_nil] at this
   omega
  have hie : s.toList.isEmpty = false := by simpa using hne
  by_cases h32 : s.size ≤ 32
  ·have h32I : (s.size : Int) ≤ 32 := by omega
   cases hd : dgB (s[0]'h0) with
   | true =>
     have HF : Hid (namedB s = false) := by show namedB s = false; unfold namedB; rw [dif_pos h0, hd]; simp
     have hc := isdigit_any (s[0]'h0) w
     rw [hd] at hc
     clear hd
     go_enter Tryz.func146, Tryz.ntmps146
     go_wp2_with (go_at_call 188; refine hc.mono ?_; rintro e w1 ⟨rfl, rfl⟩)
     go_ret
     rw [HF.out]
     exact ⟨rfl, rfl⟩
   | false =>
     have HT : Hid (allB nmB s.data.toList = namedB s) := by show allB nmB s.data.toList = namedB s; unfold namedB; rw [dif_pos h0, hd]; simp [h32]
     have hc := isdigit_any (s[0]'h0) w
     rw [hd] at hc
     clear hd
     go_enter Tryz.func146, Tryz.ntmps146
     go_wp2_with (go_at_call 188; refine hc.mono ?_; rintro e w1 ⟨rfl, rfl⟩)
     clear hc
     go_loopg [18] s.size (fun g i wr => wr = w1 ∧ ∃ k : Nat, i = .int .i64 k ∧ k + g = s.size ∧ Hid (allB nmB (s.data.toList.take k) = true))
     case atStart => exact ⟨rfl, 0, rfl, Nat.zero_add _, rfl⟩
     case round =>
      obtain ⟨rfl, k, rfl, hkg, HA⟩ := hrel
      by_cases hlt : k < s.size
      ·have hltI : (k : Int) < s.size := by omega
       have hx : (s[k]'hlt).toNat < 256 := (s[k]'hlt).toNat_lt
       have HN : Hid (allB nmB (s.data.toList.take (k + 1)) = (allB nmB (s.data.toList.take k) && nmB (s[k]'hlt))) := allB_take nmB s k hlt
       have HB : Hid (nmB (s[k]'hlt) = false → namedB s = false) := fun h => by rw [← HT.out]; exact allB_bad nmB s k hlt h
       have HM : Hid (nmB (s[k]'hlt) = (dgB (s[k]'hlt) || ltB (s[k]'hlt) || decide ((s[k]'hlt).toNat = 95))) := rfl
       have hc := isdigit_any (s[k]'hlt) wr
       have hl := isletter_any (s[k]'hlt) wr
       generalize dgB (s[k]'hlt) = dg at hc HM
       generalize ltB (s[k]'hlt) = lt at hl HM
       cases dg with
       | true =>
         have HG : Hid (allB nmB (s.data.toList.take (k + 1)) = true) := by
          show allB nmB (s.data.toList.take (k + 1)) = true
          rw [HN.out, HA.out, HM.out]; rfl
         go_wp2_with (first | (go_at_call 188; refine hc.mono ?_; rintro e w1 ⟨rfl, rfl⟩) | (go_at_call 189; refine hl.mono ?_; rintro e w1 ⟨rfl, rfl⟩))
         go_roundg (gk - 1)
         case measure => omega
         case rel => exact ⟨rfl, k + 1, by go_num, by omega, HG⟩
       | false =>
         cases lt with
         | true =>
           have HG : Hid (allB nmB (s.data.toList.take (k + 1)) = true) := by
            show allB nmB (s.data.toList.take (k + 1)) = true
            rw [HN.out, HA.out, HM.out]; rfl
           go_wp2_with (first | (go_at_call 188; refine hc.mono ?_; rintro e w1 ⟨rfl, rfl⟩) | (go_at_call 189; refine hl.mono ?_; rintro e w1 ⟨rfl, rfl⟩))
           go_roundg (gk - 1)
           case measure => omega
           case rel => exact ⟨rfl, k + 1, by go_num, by omega, HG⟩
         | false =>
           by_cases h95 : (s[k]'hlt).toNat = 95
           ·have h95I : (((s[k]'hlt).toNat : Int) != 95) = false := by simp [h95]
            have HG : Hid (allB nmB (s.data.toList.take (k + 1)) = true) := by
             show allB nmB (s.data.toList.take (k + 1)) = true
             rw [HN.out, HA.out, HM.out]; simp [h95]
            clear h95
            go_wp2_with (first | (go_at_call 188; refine hc.mono ?_; rintro e w1 ⟨rfl, rfl⟩) | (go_at_call 189; refine hl.mono ?_; rintro e w1 ⟨rfl, rfl⟩))
            go_roundg (gk - 1)
            case measure => omega
            case rel => exact ⟨rfl, k + 1, by go_num, by omega, HG⟩
           ·have h95I : ¬ ((s[k]'hlt).toNat : Int) = 95 := by omega
            have HF : Hid (namedB s = false) := HB.out (by rw [HM.out]; simp [h95])
            go_wp2_with (first | (go_at_call 188; refine hc.mono ?_; rintro e w1 ⟨rfl, rfl⟩) | (go_at_call 189; refine hl.mono ?_; rintro e w1 ⟨rfl, rfl⟩))
            go_ret
            rw [HF.out]
            exact ⟨rfl, rfl⟩
      ·have hltI : ¬ (k : Int) < s.size := by omega
       have HF : Hid (namedB s = true) := by show namedB s = true; rw [← HT.out]; exact allB_whole nmB s k (by omega) HA.out
       go_wp2
       go_ret
       rw [HF.out]
       exact ⟨rfl, rfl⟩
  ·have h32I : ¬ (s.size : Int) ≤ 32 := by omega
   have HF : Hid (namedB s = false) := by show namedB s = false; unfold namedB; rw [dif_pos h0]; simp [h32]
   go_enter Tryz.func146, Tryz.ntmps146
   go_wp2
   go_ret
   rw [HF.out]
   exact ⟨rfl, rfl⟩
 ·have h0' : s.size = 0 := by omega
  have HF : Hid (namedB s = false) := by show namedB s = false; unfold namedB; rw [dif_neg h0]
  obtain rfl : s = ⟨#[]⟩ := by
   obtain ⟨⟨l⟩⟩ := s
   have : l.length = 0 := h0'
   rw [List.length_eq_zero_iff.1 this]
  go_enter Tryz.func146, Tryz.ntmps146
  go_wp2
  go_ret
  rw [HF.out]
  exact ⟨rfl, rfl⟩
end Go.Proofs.YtdlnmnipnkeabaaGreatDoor
namespace Go.Proofs.YtdlnmnipnkeabaaGreatDoor
open Go.RowKit
set_option linter.unusedVariables false
abbrev PE (n : Int) : List PanicEntry := [{ v := .iface 124 (.int .i64 n), recovered := false }]
theorem must_ok (n : Int) (w : World) : Calls Tryz.prog 89 #[.bool true, .int .i64 n] w fun e w' => e = .returned (.tuple #[]) ∧ w' = w := by
 go_enter Tryz.func89, Tryz.ntmps89
 go_wp2
 go_end0
 exact ⟨rfl, rfl⟩
theorem must_no (n : Int) (w : World) : Calls Tryz.prog 89 #[.bool false, .int .i64 n] w fun e w' => e = .panicked (PE n) ∧ w' = w := by
 go_enter Tryz.func89, Tryz.ntmps89
 go_wp2
 exact ⟨rfl, rfl, rfl⟩
theorem iskind_any (k : Int) (w : World) : Calls Tryz.prog 93 #[.int .i64 k] w fun e w' => e = .returned (.bool (decide (0 ≤ k) && decide (k ≤ 22))) ∧ w' = w := by
 by_cases h1 : 0 ≤ k <;> by_cases h2 : k ≤ 22
 all_goals first
  | omega
  | (go_enter Tryz.func93, Tryz.ntmps93
     go_wp2
     go_ret
     try (simp [h1, h2]; done))
theorem hasparts_any (k : Int) (w : World) : Calls Tryz.prog 118 #[.int .i64 k] w fun e w' => e = .returned (.bool (great k)) ∧ w' = w := by
 unfold great
 by_cases h1 : 18 ≤ k <;> by_cases h2 : k ≤ 22
 all_goals first
  | omega
  | (go_enter Tryz.func118, Tryz.ntmps118
     go_wp2
     go_ret
     try (simp [h1, h2]; done))
def keyB (k : Int) : Bool := decide (k = 1) || (decide (2 ≤ k) && decide (k ≤ 11)) || decide (k = 16)
theorem iskey_any (k : Int) (w : World) : Calls Tryz.prog 147 #[.int .i64 k] w fun e w' => e = .returned (.bool (keyB k)) ∧ w' = w := by
 by_cases h1 : k = 1
 ·subst h1
  go_enter Tryz.func147, Tryz.ntmps147
  go_wp2
  go_ret
  exact ⟨rfl, rfl⟩
 by_cases h16 : k = 16
 ·subst h16
  go_enter Tryz.func147, Tryz.ntmps147
  go_wp2
  go_ret
  exact ⟨rfl, rfl⟩
 have e1 : (k == 1) = false := by simp [h1]
 have e16 : (k == 16) = false := by simp [h16]
 have HK : Hid (keyB k = (decide (2 ≤ k) && decide (k ≤ 11))) := by show keyB k = _; unfold keyB; simp [h1, h16]
 clear h1 h16
 by_cases h2 : 2 ≤ k <;> by_cases h3 : k ≤ 11
 all_goals first
  | omega
  | (go_enter Tryz.func147, Tryz.ntmps147
     go_wp2
     go_ret
     refine ⟨?_, rfl⟩
     rw [HK.out]
     simp [h2, h3])
def fitsB (d : D) : Bool := (decide (d.kind ≠ 16) && decide (d.kind ≠ 17)) || decide (d.text.size ≤ 1024)
theorem textfits_any (d : D) (nv pv : Value) (w : World) : Calls Tryz.prog 90 #[DV d nv pv] w fun e w' => e = .returned (.bool (fitsB d)) ∧ Below w.heap.size w w' := by
 obtain ⟨kind, ty, bits, imag, text, names, parts, hook⟩ := d
 have bel : ∀ cs t, Below w.heap.size w (w.alloc (.cells cs t)) := fun _ _ => (Below.refl _ _).alloc (Nat.le_refl _) _
 by_cases h16 : kind = 16
 ·subst h16
  by_cases ht : text.size ≤ 1024
  ·have htI : (text.size : Int) ≤ 1024 := by omega
   go_enter Tryz.func90, Tryz.ntmps90
   go_wp2
   go_ret
   exact ⟨by simp [fitsB, ht], bel _ _⟩
  ·have htI : ¬ (text.size : Int) ≤ 1024 := by omega
   go_enter Tryz.func90, Tryz.ntmps90
   go_wp2
   go_ret
   exact ⟨by simp [fitsB, ht], bel _ _⟩
 by_cases h17 : kind = 17
 ·subst h17
  by_cases ht : text.size ≤ 1024
  ·have htI : (text.size : Int) ≤ 1024 := by omega
   go_enter Tryz.func90, Tryz.ntmps90
   go_wp2
   go_ret
   exact ⟨by simp [fitsB, ht], bel _ _⟩
  ·have htI : ¬ (text.size : Int) ≤ 1024 := by omega
   go_enter Tryz.func90, Tryz.ntmps90
   go_wp2
   go_ret
   exact ⟨by simp [fitsB, ht], bel _ _⟩
 have e16 : (kind != 16) = true := by simp [h16]
 have e17 : (kind != 17) = true := by simp [h17]
 go_enter Tryz.func90, Tryz.ntmps90
 go_wp2
 go_ret
 exact ⟨by simp [fitsB, h16, h17], bel _ _⟩
end Go.Proofs.YtdlnmnipnkeabaaGreatDoor
