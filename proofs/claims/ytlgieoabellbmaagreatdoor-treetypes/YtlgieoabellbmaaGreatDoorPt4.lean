/- QReg, VD: these texts in one. -/
import Derived.WalkKit
import Derived.Deep.QuietTactic
import Derived.BigQuiet
import Derived.Handy
import Derived.Deep.RegionHeld
namespace Go.Proofs.YtlgieoabellbmaaGreatDoor
open Go.RowKit
def Cl (w0 : World) : Type := { w : World // Below w0.heap.size w0 w }
def Cl.w {w0 : World} (x : Cl w0) : World := x.1
theorem Cl.below {w0 : World} (x : Cl w0) : Below w0.heap.size w0 x.w := x.2
theorem Cl.some_one {w0 : World} : Nonempty (Cl w0) := ⟨⟨w0, Below.refl _ _⟩⟩
theorem Cl.cell {w0 : World} (x : Cl w0) {p : Addr} {v : Value} (h : w0.cell? p = some v) : x.w.cell? p = some v := by
 have hp : p.block < w0.heap.size := by
  rcases Nat.lt_or_ge p.block w0.heap.size with h1 | h1
  ·exact h1
  ·simp [World.cell?, Array.getElem?_eq_none h1] at h
 exact (x.2.cell hp).trans h
theorem Cl.call {P : Program} {f : FuncId} {args : Array Value} {w0 : World} {x : Cl w0} {v : Value}
  (h : Calls P f args x.w fun e w' => e = .returned v ∧ Below x.w.heap.size x.w w') : Calls P f args x.w fun e w'' => e = .returned v ∧ ∃ y : Cl w0, w'' = y.w :=
 h.mono fun _ w' ⟨he, hb⟩ => ⟨he, ⟨w', x.2.trans (hb.mono x.2.size)⟩, rfl⟩
theorem Cl.call_same {P : Program} {f : FuncId} {args : Array Value} {w0 : World} {x : Cl w0} {v : Value}
  (h : Calls P f args x.w fun e w' => e = .returned v ∧ w' = x.w) : Calls P f args x.w fun e w'' => e = .returned v ∧ ∃ y : Cl w0, w'' = y.w :=
 h.mono fun _ _ ⟨he, hb⟩ => ⟨he, x, hb⟩
theorem Cl.go {P : Program} {f : FuncId} {args : Array Value} {w0 : World} {x : Cl w0} {v : Value}
  (h : Calls P f args x.w fun e w' => e = .returned v ∧ Below x.w.heap.size x.w w') : Calls P f args x.w fun e w'' => ∃ y : Cl w0, e = .returned v ∧ w'' = y.w :=
 h.mono fun _ w' ⟨he, hb⟩ => ⟨⟨w', x.2.trans (hb.mono x.2.size)⟩, he, rfl⟩
theorem Cl.go0 {P : Program} {f : FuncId} {args : Array Value} {w0 : World} {v : Value}
  (h : Calls P f args w0 fun e w' => e = .returned v ∧ Below w0.heap.size w0 w') : Calls P f args w0 fun e w'' => ∃ y : Cl w0, e = .returned v ∧ w'' = y.w :=
 h.mono fun _ w' ⟨he, hb⟩ => ⟨⟨w', hb⟩, he, rfl⟩
theorem wp_region_above {P : Program} {id : Nat} {Q : Exit → Act → World → Prop} {a : Act} {w : World} {l : List Oper} (w0 : World) (hw : Below w0.heap.size w0 w) (hm : P.follows .mixedOrders = true) (hB : Region.lexB .any l.toArray = true)
  (h : Nonempty (Cl w0) → wpQuiet P l.toArray (fun w' => ∃ x : Cl w0, w' = x.w) (fun a' => ∀ w', (∃ x : Cl w0, w' = x.w) → Q .normal a' w') l a) : (Code.region id l.toArray true).wp P Q a w :=
 wp_region_quiet (C := fun w' => ∃ x : Cl w0, w' = x.w) hm hB ⟨⟨_, hw.drew⟩, rfl⟩ (by simpa using h Cl.some_one)
end Go.Proofs.YtlgieoabellbmaaGreatDoor
namespace Go.Proofs.YtlgieoabellbmaaGreatDoor
open Go.RowKit
set_option linter.unusedVariables false
theorem lys : (∀ (l : List Value) (i : Nat) (h : i < l.toArray.size), l.toArray[i] = l[i]'(by simpa using h)) ∧ (∀ (a : Value) (l : List Value) (h : 0 < (a :: l).length), (a :: l)[0] = a) ∧ (∀ (a : Value) (l : List Value) (i : Nat) (h : i + 1 < (a :: l).length), (a :: l)[i + 1] = l[i]'(Nat.lt_of_succ_lt_succ h)) ∧ (∀ (l : List Value) (i : Nat) (v : Value), l.toArray.setIfInBounds i v = (l.set i v).toArray) ∧ (∀ (a b : Value) (l : List Value), (a :: l).set 0 b = b :: l) ∧ (∀ (a b : Value) (l : List Value) (i : Nat), (a :: l).set (i + 1) b = a :: l.set i b) :=
 ⟨fun _ _ _ => by simp, fun _ _ _ => rfl, fun _ _ _ _ => rfl, fun _ _ _ => by simp, fun _ _ _ => rfl, fun _ _ _ _ => rfl⟩
theorem tk (i : Nat) (v : Value) {P : Program} {ops : Array Oper} {Q : Exit → Act → World → Prop} {md : Region.Mode} {S : World → Prop} {oi : Oper} {fuel : Nat} {listed : Array Bool} {a : Act} {w : World} (hi : ops[i]? = some oi)
  (hb : (Region.noSelect ops && Region.free md ops listed i && (Region.ready md ops listed).contains i) = true) (hQ : ∀ c a w, Q (.panic c) (a.put oi.dst v) w → Q (.panic c) a w)
  (hg : Region.wanted oi (yielded ops a.tmps) = true) (hS : S w) (hy : ∀ w, S w → (execOp a.eval oi).run P w = .ok (.value v) w)
  (h : wpAnyH P md ops Q S fuel (listed.setIfInBounds i true) (a.put oi.dst v) w) : wpAnyH P md ops Q S (fuel + 1) listed a w := by
 rw [Bool.and_eq_true, Bool.and_eq_true] at hb
 exact wpAnyH_take hi hb.1.1 hb.1.2 hb.2 hQ (Or.inl ⟨hg, hy⟩) hS h
theorem rd1 (i : Nat) {P : Program} {ops : Array Oper} {Q : Exit → Act → World → Prop} {md : Region.Mode} {S : World → Prop} {o : Oper} {fuel : Nat} {listed : Array Bool} {a : Act} {w : World} (hr : Region.ready md ops listed = [i]) (ho : ops[i]? = some o)
  (h : ∀ K' : Act → World → Prop, Shut (∀ a w, S w → (S w → wpAnyH P md ops Q S fuel (listed.setIfInBounds i true) a w) → K' a w) → if Region.wanted o (yielded ops a.tmps) = true then Oper.wp P o a w K' Q else K' (a.put o.dst undef) w) :
  wpAnyH P md ops Q S (fuel + 1) listed a w :=
 wpAnyH_ready hr (by simp) (AllReadyH.cons ho h AllReadyH.nil)
structure D where
 kind : Int
 ty : ByteArray
 bits : Int
 imag : Int
 text : ByteArray
 names : List ByteArray
 parts : List D
 hook : Int
abbrev DV (d : D) (nv pv : Value) : Value := .agg #[.int .i64 d.kind, .string d.ty, .int .u64 d.bits, .int .u64 d.imag, .string d.text, nv, pv, .int .i64 d.hook]
def At8 (W : World) (b o : Nat) (d : D) (nv pv : Value) : Prop :=
 W.cell? ⟨b, o, none⟩ = some (.int .i64 d.kind) ∧ W.cell? ⟨b, o + 1, none⟩ = some (.string d.ty) ∧ W.cell? ⟨b, o + 2, none⟩ = some (.int .u64 d.bits) ∧ W.cell? ⟨b, o + 3, none⟩ = some (.int .u64 d.imag) ∧
 W.cell? ⟨b, o + 4, none⟩ = some (.string d.text) ∧ W.cell? ⟨b, o + 5, none⟩ = some nv ∧ W.cell? ⟨b, o + 6, none⟩ = some pv ∧ W.cell? ⟨b, o + 7, none⟩ = some (.int .i64 d.hook)
def Strs (W : World) (v : Value) (l : List ByteArray) : Prop :=
 ∃ a cap, v = .slice a l.length cap ∧ l.length ≤ cap ∧ cap ≤ maxLen ∧ ∀ (i : Nat) (s : ByteArray), l[i]? = some s → s.size ≤ maxLen ∧ ∃ b off, a = some ⟨b, off, none⟩ ∧ W.cell? ⟨b, off + i, none⟩ = some (.string s)
def Fit (d : D) : Prop := (-9223372036854775808 ≤ d.kind ∧ d.kind ≤ 9223372036854775807) ∧ (0 ≤ d.bits ∧ d.bits ≤ 18446744073709551615) ∧ (0 ≤ d.imag ∧ d.imag ≤ 18446744073709551615) ∧ (-9223372036854775808 ≤ d.hook ∧ d.hook ≤ 9223372036854775807) ∧ d.ty.size ≤ maxLen ∧ d.text.size ≤ maxLen
def RdC : Nat → World → Value → Value → D → Prop
 | 0, _, _, _, _ => False
 | n + 1, W, nv, pv, d => Fit d ∧ Strs W nv d.names ∧ ∃ a cap, pv = .slice a d.parts.length cap ∧ d.parts.length ≤ cap ∧ cap ≤ maxLen ∧
     ∀ (i : Nat) (x : D), d.parts[i]? = some x → ∃ b off nv' pv', a = some ⟨b, off, none⟩ ∧ At8 W b (off + i * 8) x nv' pv' ∧ RdC n W nv' pv' x
def Rd (W : World) (v : Value) (d : D) : Prop := ∃ n nv pv, v = DV d nv pv ∧ RdC n W nv pv d
theorem up_cell {W W' : World} (h : Below W.heap.size W W') {p : Addr} {v : Value} (hc : W.cell? p = some v) : W'.cell? p = some v :=
 Cl.cell (⟨W', h⟩ : Cl W) hc
theorem At8.up {W W' : World} {b o : Nat} {d : D} {nv pv : Value} (h : At8 W b o d nv pv) (hb : Below W.heap.size W W') : At8 W' b o d nv pv :=
 ⟨up_cell hb h.1, up_cell hb h.2.1, up_cell hb h.2.2.1, up_cell hb h.2.2.2.1, up_cell hb h.2.2.2.2.1, up_cell hb h.2.2.2.2.2.1, up_cell hb h.2.2.2.2.2.2.1, up_cell hb h.2.2.2.2.2.2.2⟩
theorem Strs.up {W W' : World} {v : Value} {l : List ByteArray} (h : Strs W v l) (hb : Below W.heap.size W W') : Strs W' v l := by
 obtain ⟨a, cap, h1, h2, h3, h4⟩ := h
 refine ⟨a, cap, h1, h2, h3, fun i s hs => ?_⟩
 obtain ⟨hz, b, off, ha, hc⟩ := h4 i s hs
 exact ⟨hz, b, off, ha, up_cell hb hc⟩
theorem RdC.up {W W' : World} (hb : Below W.heap.size W W') : ∀ {n : Nat} {nv pv : Value} {d : D}, RdC n W nv pv d → RdC n W' nv pv d
 | 0, _, _, _, h => h
 | n + 1, nv, pv, d, h => by
   obtain ⟨h1, h2, a, cap, h3, h4, h5, h6⟩ := h
   refine ⟨h1, h2.up hb, a, cap, h3, h4, h5, fun i x hx => ?_⟩
   obtain ⟨b, off, nv', pv', e1, e2, e3⟩ := h6 i x hx
   exact ⟨b, off, nv', pv', e1, e2.up hb, RdC.up hb e3⟩
theorem RdC.more {W : World} : ∀ {n m : Nat} {nv pv : Value} {d : D}, n ≤ m → RdC n W nv pv d → RdC m W nv pv d
 | 0, _, _, _, _, _, h => h.elim
 | n + 1, m, nv, pv, d, hm, h => by
   obtain ⟨k, rfl⟩ : ∃ k, m = k + 1 := ⟨m - 1, by omega⟩
   obtain ⟨h1, h2, a, cap, h3, h4, h5, h6⟩ := h
   refine ⟨h1, h2, a, cap, h3, h4, h5, fun i x hx => ?_⟩
   obtain ⟨b, off, nv', pv', e1, e2, e3⟩ := h6 i x hx
   exact ⟨b, off, nv', pv', e1, e2, RdC.more (by omega) e3⟩
theorem RdC.slices {W : World} : ∀ {n : Nat} {nv pv : Value} {d : D}, RdC n W nv pv d → ∃ na nc pa pc, nv = .slice na d.names.length nc ∧ pv = .slice pa d.parts.length pc
 | 0, _, _, _, h => h.elim
 | n + 1, nv, pv, d, h => by
   obtain ⟨-, ⟨na, nc, h1, -⟩, pa, pc, h2, -⟩ := h
   exact ⟨na, nc, pa, pc, h1, h2⟩
theorem Rd.up {W W' : World} {v : Value} {d : D} (h : Rd W v d) (hb : Below W.heap.size W W') : Rd W' v d := by
 obtain ⟨n, nv, pv, h1, h2⟩ := h
 exact ⟨n, nv, pv, h1, h2.up hb⟩
def great (k : Int) : Bool := decide (18 ≤ k) && decide (k ≤ 22)
theorem parts_lt {d x : D} (h : x ∈ d.parts) : SizeOf.sizeOf x < SizeOf.sizeOf d := by
 have := List.sizeOf_lt_of_mem h
 cases d
 simp only [D.mk.sizeOf_spec]
 simp only at this
 omega
def pre : D → Int → List (D × Int)
 | ⟨kind, ty, bits, imag, text, names, parts, hook⟩, k => (⟨kind, ty, bits, imag, text, names, parts, hook⟩, k) :: (if great kind then parts.flatMap fun x => pre x (k + 1) else [])
def preAll (l : List D) (k : Int) : List (D × Int) := l.flatMap fun x => pre x k
theorem pre_eq (d : D) (k : Int) : pre d k = (d, k) :: (if great d.kind then preAll d.parts (k + 1) else []) := by
 obtain ⟨kind, ty, bits, imag, text, names, parts, hook⟩ := d
 rw [pre]; rfl
theorem preAll_take (l : List D) (k : Int) (i : Nat) (x : D) (h : l[i]? = some x) : preAll (l.take (i + 1)) k = preAll (l.take i) k ++ pre x k := by
 rw [List.take_add_one, h]
 simp [preAll]
def dgB (c : UInt8) : Bool := decide (48 ≤ c.toNat) && decide (c.toNat ≤ 57)
def ltB (c : UInt8) : Bool := (decide (97 ≤ c.toNat) && decide (c.toNat ≤ 122)) || (decide (65 ≤ c.toNat) && decide (c.toNat ≤ 90))
def nmB (c : UInt8) : Bool := dgB c || ltB c || decide (c.toNat = 95)
def tyB (c : UInt8) : Bool := decide (33 ≤ c.toNat) && decide (c.toNat ≤ 126)
def allB (p : UInt8 → Bool) (l : List UInt8) : Bool := l.all p
theorem len_sz (s : ByteArray) : s.data.toList.length = s.size := by rw [Array.length_toList]; rfl
theorem allB_take (p : UInt8 → Bool) (s : ByteArray) (k : Nat) (h : k < s.size) : allB p (s.data.toList.take (k + 1)) = (allB p (s.data.toList.take k) && p (s[k]'h)) := by
 have hl : k < s.data.toList.length := by rw [len_sz]; exact h
 have e : s.data.toList[k]'hl = s[k]'h := rfl
 rw [List.take_succ_eq_append_getElem hl, e]
 simp [allB]
theorem allB_bad (p : UInt8 → Bool) (s : ByteArray) (k : Nat) (h : k < s.size) (hb : p (s[k]'h) = false) : allB p s.data.toList = false := by
 have hl : k < s.data.toList.length := by rw [len_sz]; exact h
 have hm : (s[k]'h) ∈ s.data.toList := List.getElem_mem hl
 cases ha : allB p s.data.toList with
 | false => rfl
 | true => have := List.all_eq_true.1 ha _ hm; rw [hb] at this; cases this
theorem allB_whole (p : UInt8 → Bool) (s : ByteArray) (k : Nat) (h : s.size ≤ k) (ha : allB p (s.data.toList.take k) = true) : allB p s.data.toList = true := by
 rw [List.take_of_length_le (by rw [len_sz]; omega)] at ha
 exact ha
def namedB (s : ByteArray) : Bool := if h : 0 < s.size then decide (s.size ≤ 32) && !dgB (s[0]'h) && allB nmB s.data.toList else false
def typedB (s : ByteArray) : Bool := decide (s.size ≤ 32) && allB tyB s.data.toList
end Go.Proofs.YtlgieoabellbmaaGreatDoor
