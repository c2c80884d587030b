/- tree: the shapes of values. -/
import Derived.Test.YtlgieoabellbmaaGreatDoorPt13
namespace Go.Proofs.YtlgieoabellbmaaGreatDoor
open Go.RowKit
set_option linter.unusedVariables false
set_option linter.unusedSimpArgs false
def shV (d : D) (nv pv : Value) : Value :=
 if d.kind = 1 then .iface 143 (.bool (d.bits == 1))
 else if 2 ≤ d.kind ∧ d.kind ≤ 6 then .iface 144 (.int .i64 (wrap64 d.bits))
 else if 7 ≤ d.kind ∧ d.kind ≤ 11 then .iface 145 (.int .u64 d.bits)
 else if d.kind = 12 then .iface 147 (.agg #[.int .u64 d.bits, .int .i64 32])
 else if d.kind = 13 then .iface 147 (.agg #[.int .u64 d.bits, .int .i64 64])
 else if d.kind = 14 then .iface 149 (.agg #[.int .u64 d.bits, .int .u64 d.imag, .int .i64 64])
 else if d.kind = 15 then .iface 149 (.agg #[.int .u64 d.bits, .int .u64 d.imag, .int .i64 128])
 else if d.kind = 16 then .iface 150 (.string d.text)
 else if d.kind = 17 then .iface 151 (.string d.text)
 else if d.kind = 18 then .iface 153 (.agg #[nv, pv])
 else if d.kind = 19 ∨ d.kind = 20 then .iface 154 pv
 else if d.kind = 21 then .iface 155 pv
 else if d.kind = 22 then .iface 157 (if d.parts.length = 0 then .agg #[.int .u64 0, .slice none 0 0] else .agg #[.int .u64 d.bits, pv])
 else .nilIface
theorem shV_some {d : D} {nv pv : Value} (h1 : 1 ≤ d.kind) (h2 : d.kind ≤ 22) : ∃ t x, shV d nv pv = .iface t x := by
 unfold shV
 by_cases e0 : d.kind = 1
 ·rw [if_pos e0]; exact ⟨_, _, rfl⟩
 rw [if_neg e0]
 by_cases e1 : 2 ≤ d.kind ∧ d.kind ≤ 6
 ·rw [if_pos e1]; exact ⟨_, _, rfl⟩
 rw [if_neg e1]
 by_cases e2 : 7 ≤ d.kind ∧ d.kind ≤ 11
 ·rw [if_pos e2]; exact ⟨_, _, rfl⟩
 rw [if_neg e2]
 by_cases e3 : d.kind = 12
 ·rw [if_pos e3]; exact ⟨_, _, rfl⟩
 rw [if_neg e3]
 by_cases e4 : d.kind = 13
 ·rw [if_pos e4]; exact ⟨_, _, rfl⟩
 rw [if_neg e4]
 by_cases e5 : d.kind = 14
 ·rw [if_pos e5]; exact ⟨_, _, rfl⟩
 rw [if_neg e5]
 by_cases e6 : d.kind = 15
 ·rw [if_pos e6]; exact ⟨_, _, rfl⟩
 rw [if_neg e6]
 by_cases e7 : d.kind = 16
 ·rw [if_pos e7]; exact ⟨_, _, rfl⟩
 rw [if_neg e7]
 by_cases e8 : d.kind = 17
 ·rw [if_pos e8]; exact ⟨_, _, rfl⟩
 rw [if_neg e8]
 by_cases e9 : d.kind = 18
 ·rw [if_pos e9]; exact ⟨_, _, rfl⟩
 rw [if_neg e9]
 by_cases e10 : d.kind = 19 ∨ d.kind = 20
 ·rw [if_pos e10]; exact ⟨_, _, rfl⟩
 rw [if_neg e10]
 by_cases e11 : d.kind = 21
 ·rw [if_pos e11]; exact ⟨_, _, rfl⟩
 rw [if_neg e11]
 by_cases e12 : d.kind = 22
 ·rw [if_pos e12]; exact ⟨_, _, rfl⟩
 rw [if_neg e12]
 exfalso
 omega
set_option maxRecDepth 1000000 in
theorem pointerOf_any (d : D) (na pa : Option Addr) (nl nc pl pc : Nat) (w : World) (hl : pl ≤ 9223372036854775807) :
  Calls Tryz.prog 81 #[DV d (.slice na nl nc) (.slice pa pl pc)] w fun e w' => e = .returned (if pl = 0 then .agg #[.int .u64 0, .slice none 0 0] else .agg #[.int .u64 d.bits, .slice pa pl pc]) ∧ Below w.heap.size w w' := by
 by_cases h : pl = 0
 ·rw [if_pos h]
  subst h
  go_enter Tryz.func81, Tryz.ntmps81
  go_wp2
  go_returns
  exact ⟨rfl, by go_grown⟩
 ·rw [if_neg h]
  have hi : ¬ (pl : Int) = 0 := by omega
  go_enter Tryz.func81, Tryz.ntmps81
  go_wp2
  go_returns
  exact ⟨rfl, by go_grown⟩
set_option maxRecDepth 1000000 in
set_option maxHeartbeats 4000000 in
theorem shapeOf_any (n : Nat) (d : D) (hg : Good8 d) (S : Nat → Prop) (w : World) (v : Value) (hv : VlC srt n S w v d) (h0 : 0 ≤ (inF d).kind) (h22 : (inF d).kind ≤ 22) (hb : 0 ≤ (inF d).bits) (hpl : (inF d).parts.length ≤ 1000) :
  Calls Tryz.prog 42 #[v] w fun e w' => Below w.heap.size w w' ∧ ∃ na nc pa pc, e = .returned (shV (inF d) (.slice na (inF d).names.length nc) (.slice pa (inF d).parts.length pc)) ∧ RdS n (fun b => w.heap.size ≤ b) w' (.slice na (inF d).names.length nc) (.slice pa (inF d).parts.length pc) (inF d) := by
 have hR := vraw_any n d hg S w v hv
 generalize inF d = fd at *
 go_enter Tryz.func42, Tryz.ntmps42
 go_upto_region 2 with (go_at_call 80; refine hR.mono ?_; rintro e W2 ⟨b2, nv, pv, rfl, hd⟩; obtain ⟨na, nc, pa, pc, rfl, rfl⟩ := hd.slices; obtain ⟨W3, hW3⟩ : ∃ W3, W3 = W2.alloc (.cells #[.int .i64 fd.kind, .string fd.ty, .int .u64 fd.bits, .int .u64 fd.imag, .string fd.text, .slice na fd.names.length nc, .slice pa fd.parts.length pc, .int .i64 fd.hook] 26) := ⟨_, rfl⟩)
 rw [← hW3]
 have b3 : Below W2.heap.size W2 W3 := by rw [hW3]; exact (Below.refl _ _).alloc (Nat.le_refl _) _
 have a3 : At8 W3 W2.heap.size 0 fd (.slice na fd.names.length nc) (.slice pa fd.parts.length pc) := by
  rw [hW3]
  refine ⟨?_, ?_, ?_, ?_, ?_, ?_, ?_, ?_⟩
  all_goals simp [go_sem]
 have bW : Below w.heap.size w W3 := b2.trans (b3.mono b2.size)
 have hd3 : RdS n (fun b => w.heap.size ≤ b) W3 (.slice na fd.names.length nc) (.slice pa fd.parts.length pc) fd := hd.turn (Kept.below b3 fun _ h _ => h)
 obtain ⟨X, hX⟩ : ∃ X, W2.heap.size = X := ⟨_, rfl⟩
 rw [hX] at a3
 try simp only [hX]
 clear hW3 hX hR hd b2 b3
 obtain ⟨c0, c1, c2, c3, c4, c5, c6, c7⟩ := a3
 simp only [Nat.zero_add] at c0 c1 c2 c3 c4 c5 c6 c7
 have hk : fd.kind = 0 ∨ fd.kind = 1 ∨ fd.kind = 2 ∨ fd.kind = 3 ∨ fd.kind = 4 ∨ fd.kind = 5 ∨ fd.kind = 6 ∨ fd.kind = 7 ∨ fd.kind = 8 ∨ fd.kind = 9 ∨ fd.kind = 10 ∨ fd.kind = 11 ∨ fd.kind = 12 ∨ fd.kind = 13 ∨ fd.kind = 14 ∨ fd.kind = 15 ∨ fd.kind = 16 ∨ fd.kind = 17 ∨ fd.kind = 18 ∨ fd.kind = 19 ∨ fd.kind = 20 ∨ fd.kind = 21 ∨ fd.kind = 22 := by omega
 have hp := fun (na pa : Option Addr) (nl nc pl pc : Nat) (W : World) (h : pl ≤ 9223372036854775807) => pointerOf_any fd na pa nl nc pl pc W h
 have hpz : fd.parts.length ≤ 9223372036854775807 := by omega
 clear h0 h22 hg hv hpl
 rcases hk with h | h | h | h | h | h | h | h | h | h | h | h | h | h | h | h | h | h | h | h | h | h | h
 case inr.inr.inr.inr.inr.inr.inr.inr.inr.inr.inr.inr.inr.inr.inr.inr.inr.inr.inr.inr.inr.inr =>
  rw [h] at c0
  have hpp := hp na pa fd.names.length nc fd.parts.length pc W3 hpz
  unfold DV at hpp
  rw [h] at hpp
  obtain ⟨PV, hPV⟩ : ∃ PV : Value, (if fd.parts.length = 0 then Value.agg #[.int .u64 0, .slice none 0 0] else .agg #[.int .u64 fd.bits, .slice pa fd.parts.length pc]) = PV := ⟨_, rfl⟩
  rw [hPV] at hpp
  have HPV : Unit → (if fd.parts.length = 0 then Value.agg #[.int .u64 0, .slice none 0 0] else .agg #[.int .u64 fd.bits, .slice pa fd.parts.length pc]) = PV := fun _ => hPV
  clear hp hPV
  go_wp2_with (go_at_call 81; refine hpp.mono ?_; rintro e W4 ⟨rfl, b4⟩)
  go_ret
  refine ⟨bW.trans (b4.mono bW.size), na, nc, pa, pc, ?_, hd3.turn (Kept.below b4 fun _ h _ => h)⟩
  rw [← HPV ()]
  simp [shV, h]
 all_goals
  rw [h] at c0
  go_wp2
  go_ret
  refine ⟨bW, na, nc, pa, pc, ?_, hd3⟩
  simp [shV, h]
end Go.Proofs.YtlgieoabellbmaaGreatDoor
