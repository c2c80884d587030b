/- Descriptors as they are read: the tree, its nodes, the names; no program is met here. -/
import Derived.Test.YtjphklhfigammaaDoorQReg
import Derived.Handy
namespace Go.Proofs.YtjphklhfigammaaDoor
open Go.RowKit
set_option linter.unusedVariables false

/-- A descriptor, as it is read. -/
structure D where
  kind : Int
  ty : ByteArray
  bits : Int
  imag : Int
  text : ByteArray
  names : List ByteArray
  parts : List D
  hook : Int

/-- Its value: the names' and the parts' slices are handed in. -/
abbrev DV (d : D) (nv pv : Value) : Value := .agg #[.int .i64 d.kind, .string d.ty, .int .u64 d.bits, .int .u64 d.imag, .string d.text, nv, pv, .int .i64 d.hook]
/-- Eight cells that hold a descriptor. -/
def At8 (W : World) (b o : Nat) (d : D) (nv pv : Value) : Prop :=
  W.cell? ⟨b, o, none⟩ = some (.int .i64 d.kind) ∧ W.cell? ⟨b, o + 1, none⟩ = some (.string d.ty) ∧ W.cell? ⟨b, o + 2, none⟩ = some (.int .u64 d.bits) ∧ W.cell? ⟨b, o + 3, none⟩ = some (.int .u64 d.imag) ∧
  W.cell? ⟨b, o + 4, none⟩ = some (.string d.text) ∧ W.cell? ⟨b, o + 5, none⟩ = some nv ∧ W.cell? ⟨b, o + 6, none⟩ = some pv ∧ W.cell? ⟨b, o + 7, none⟩ = some (.int .i64 d.hook)
/-- A slice of texts. -/
def Strs (W : World) (v : Value) (l : List ByteArray) : Prop :=
  ∃ a cap, v = .slice a l.length cap ∧ l.length ≤ cap ∧ cap ≤ maxLen ∧ ∀ (i : Nat) (s : ByteArray), l[i]? = some s → s.size ≤ maxLen ∧ ∃ b off, a = some ⟨b, off, none⟩ ∧ W.cell? ⟨b, off + i, none⟩ = some (.string s)
/-- What its own cells are, as numbers and lengths. -/
def Fit (d : D) : Prop := (-9223372036854775808 ≤ d.kind ∧ d.kind ≤ 9223372036854775807) ∧ (0 ≤ d.bits ∧ d.bits ≤ 18446744073709551615) ∧ (0 ≤ d.imag ∧ d.imag ≤ 18446744073709551615) ∧ (-9223372036854775808 ≤ d.hook ∧ d.hook ≤ 9223372036854775807) ∧ d.ty.size ≤ maxLen ∧ d.text.size ≤ maxLen
/-- The slices of its names and parts are read as the descriptor says, n deep. -/
def RdC : Nat → World → Value → Value → D → Prop
  | 0, _, _, _, _ => False
  | n + 1, W, nv, pv, d => Fit d ∧ Strs W nv d.names ∧ ∃ a cap, pv = .slice a d.parts.length cap ∧ d.parts.length ≤ cap ∧ cap ≤ maxLen ∧
      ∀ (i : Nat) (x : D), d.parts[i]? = some x → ∃ b off nv' pv', a = some ⟨b, off, none⟩ ∧ At8 W b (off + i * 8) x nv' pv' ∧ RdC n W nv' pv' x
/-- A value that is read as a descriptor. -/
def Rd (W : World) (v : Value) (d : D) : Prop := ∃ n nv pv, v = DV d nv pv ∧ RdC n W nv pv d

theorem up_cell {W W' : World} (h : Below W.heap.size W W') {p : Addr} {v : Value} (hc : W.cell? p = some v) : W'.cell? p = some v :=
  Cl.cell (⟨W', h⟩ : Cl W) hc
theorem At8.up {W W' : World} {b o : Nat} {d : D} {nv pv : Value} (h : At8 W b o d nv pv) (hb : Below W.heap.size W W') : At8 W' b o d nv pv :=
  ⟨up_cell hb h.1, up_cell hb h.2.1, up_cell hb h.2.2.1, up_cell hb h.2.2.2.1, up_cell hb h.2.2.2.2.1, up_cell hb h.2.2.2.2.2.1, up_cell hb h.2.2.2.2.2.2.1, up_cell hb h.2.2.2.2.2.2.2⟩
theorem Strs.up {W W' : World} {v : Value} {l : List ByteArray} (h : Strs W v l) (hb : Below W.heap.size W W') : Strs W' v l := by
  obtain ⟨a, cap, h1, h2, h3, h4⟩ := h
  refine ⟨a, cap, h1, h2, h3, fun i s hs => ?_⟩
  obtain ⟨hz, b, off, ha, hc⟩ := h4 i s hs
  exact ⟨hz, b, off, ha, up_cell hb hc⟩
theorem RdC.up {W W' : World} (hb : Below W.heap.size W W') : ∀ {n : Nat} {nv pv : Value} {d : D}, RdC n W nv pv d → RdC n W' nv pv d
  | 0, _, _, _, h => h
  | n + 1, nv, pv, d, h => by
    obtain ⟨h1, h2, a, cap, h3, h4, h5, h6⟩ := h
    refine ⟨h1, h2.up hb, a, cap, h3, h4, h5, fun i x hx => ?_⟩
    obtain ⟨b, off, nv', pv', e1, e2, e3⟩ := h6 i x hx
    exact ⟨b, off, nv', pv', e1, e2.up hb, RdC.up hb e3⟩
theorem RdC.more {W : World} : ∀ {n m : Nat} {nv pv : Value} {d : D}, n ≤ m → RdC n W nv pv d → RdC m W nv pv d
  | 0, _, _, _, _, _, h => h.elim
  | n + 1, m, nv, pv, d, hm, h => by
    obtain ⟨k, rfl⟩ : ∃ k, m = k + 1 := ⟨m - 1, by omega⟩
    obtain ⟨h1, h2, a, cap, h3, h4, h5, h6⟩ := h
    refine ⟨h1, h2, a, cap, h3, h4, h5, fun i x hx => ?_⟩
    obtain ⟨b, off, nv', pv', e1, e2, e3⟩ := h6 i x hx
    exact ⟨b, off, nv', pv', e1, e2, RdC.more (by omega) e3⟩
theorem RdC.slices {W : World} : ∀ {n : Nat} {nv pv : Value} {d : D}, RdC n W nv pv d → ∃ na nc pa pc, nv = .slice na d.names.length nc ∧ pv = .slice pa d.parts.length pc
  | 0, _, _, _, h => h.elim
  | n + 1, nv, pv, d, h => by
    obtain ⟨-, ⟨na, nc, h1, -⟩, pa, pc, h2, -⟩ := h
    exact ⟨na, nc, pa, pc, h1, h2⟩
theorem Rd.up {W W' : World} {v : Value} {d : D} (h : Rd W v d) (hb : Below W.heap.size W W') : Rd W' v d := by
  obtain ⟨n, nv, pv, h1, h2⟩ := h
  exact ⟨n, nv, pv, h1, h2.up hb⟩

/-- Are its parts looked at? -/
def great (k : Int) : Bool := decide (18 ≤ k) && decide (k ≤ 22)
theorem parts_lt {d x : D} (h : x ∈ d.parts) : SizeOf.sizeOf x < SizeOf.sizeOf d := by
  have := List.sizeOf_lt_of_mem h
  cases d
  simp only [D.mk.sizeOf_spec]
  simp only at this
  omega
/-- All that are looked at, each with how many it stands in. -/
def pre : D → Int → List (D × Int)
  | ⟨kind, ty, bits, imag, text, names, parts, hook⟩, k => (⟨kind, ty, bits, imag, text, names, parts, hook⟩, k) :: (if great kind then parts.flatMap fun x => pre x (k + 1) else [])
/-- The same of a row of parts. -/
def preAll (l : List D) (k : Int) : List (D × Int) := l.flatMap fun x => pre x k
theorem pre_eq (d : D) (k : Int) : pre d k = (d, k) :: (if great d.kind then preAll d.parts (k + 1) else []) := by
  obtain ⟨kind, ty, bits, imag, text, names, parts, hook⟩ := d
  rw [pre]; rfl
theorem preAll_take (l : List D) (k : Int) (i : Nat) (x : D) (h : l[i]? = some x) : preAll (l.take (i + 1)) k = preAll (l.take i) k ++ pre x k := by
  rw [List.take_add_one, h]
  simp [preAll]

/-- A digit, a letter, what a name has. -/
def dgB (c : UInt8) : Bool := decide (48 ≤ c.toNat) && decide (c.toNat ≤ 57)
def ltB (c : UInt8) : Bool := (decide (97 ≤ c.toNat) && decide (c.toNat ≤ 122)) || (decide (65 ≤ c.toNat) && decide (c.toNat ≤ 90))
def nmB (c : UInt8) : Bool := dgB c || ltB c || decide (c.toNat = 95)
def tyB (c : UInt8) : Bool := decide (33 ≤ c.toNat) && decide (c.toNat ≤ 126)
def allB (p : UInt8 → Bool) (l : List UInt8) : Bool := l.all p
theorem len_sz (s : ByteArray) : s.data.toList.length = s.size := by rw [Array.length_toList]; rfl
theorem allB_take (p : UInt8 → Bool) (s : ByteArray) (k : Nat) (h : k < s.size) : allB p (s.data.toList.take (k + 1)) = (allB p (s.data.toList.take k) && p (s[k]'h)) := by
  have hl : k < s.data.toList.length := by rw [len_sz]; exact h
  have e : s.data.toList[k]'hl = s[k]'h := rfl
  rw [List.take_succ_eq_append_getElem hl, e]
  simp [allB]
theorem allB_bad (p : UInt8 → Bool) (s : ByteArray) (k : Nat) (h : k < s.size) (hb : p (s[k]'h) = false) : allB p s.data.toList = false := by
  have hl : k < s.data.toList.length := by rw [len_sz]; exact h
  have hm : (s[k]'h) ∈ s.data.toList := List.getElem_mem hl
  cases ha : allB p s.data.toList with
  | false => rfl
  | true => have := List.all_eq_true.1 ha _ hm; rw [hb] at this; cases this
theorem allB_whole (p : UInt8 → Bool) (s : ByteArray) (k : Nat) (h : s.size ≤ k) (ha : allB p (s.data.toList.take k) = true) : allB p s.data.toList = true := by
  rw [List.take_of_length_le (by rw [len_sz]; omega)] at ha
  exact ha
/-- May a field have that name; a type? -/
def namedB (s : ByteArray) : Bool := if h : 0 < s.size then decide (s.size ≤ 32) && !dgB (s[0]'h) && allB nmB s.data.toList else false
def typedB (s : ByteArray) : Bool := decide (s.size ≤ 32) && allB tyB s.data.toList
end Go.Proofs.YtjphklhfigammaaDoor
