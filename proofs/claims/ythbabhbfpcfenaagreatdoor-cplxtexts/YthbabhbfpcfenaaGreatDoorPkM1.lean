/- Decode, Inq, Inq2, Quot, Char, INumA, INumB, INumC, DDig, RFill, EDig, DPlain: these texts in one. -/
import Derived.Test.YthbabhbfpcfenaaGreatDoorPkF8
import Derived.Test.YthbabhbfpcfenaaGreatDoorPkF1
import Derived.Test.YthbabhbfpcfenaaGreatDoorPkF9
import Derived.Deep.LoopGhost
/- The walk of Decode. -/
namespace Go.Proofs.YthbabhbfpcfenaaGreatDoor
open Go.RowKit

end Go.Proofs.YthbabhbfpcfenaaGreatDoor

/- The walks of isBroken, inQuotes and Quote. -/
namespace Go.Proofs.YthbabhbfpcfenaaGreatDoor
open Go.RowKit

/-- The table of letters, as it lies in memory. -/
def Esc (w : World) : Prop := 0 < w.heap.size ∧ ∀ i, i < 7 → w.cell? ⟨0, i, none⟩ = some (.int .i32 (escT i : Nat))
theorem Esc.below {w w' : World} (h : Esc w) (hb : Below w.heap.size w w') : Esc w' :=
  ⟨Nat.lt_of_lt_of_le h.1 hb.size, fun i hi => by rw [hb.cell (p := ⟨0, i, none⟩) h.1]; exact h.2 i hi⟩

theorem inL_q (c q : Nat) (a : Bool) (h : c = q ∨ c = 92) : inL c q a = [92, UInt8.ofNat c] := by unfold inL; rw [if_pos h]
theorem inL_e (c q : Nat) (a : Bool) (h : ¬ (c = q ∨ c = 92)) (h1 : 7 ≤ c ∧ c ≤ 13) : inL c q a = [92, UInt8.ofNat (escT (c - 7))] := by unfold inL; rw [if_neg h, if_pos h1]
theorem inL_p (c q : Nat) (a : Bool) (h : ¬ (c = q ∨ c = 92)) (h1 : ¬ (7 ≤ c ∧ c ≤ 13)) (h2 : plainP c = true ∧ (c ≤ 126 ∨ a = false)) : inL c q a = (Utf8.encode (c : Int)).data.toList := by unfold inL; rw [if_neg h, if_neg h1, if_pos h2]
theorem inL_x (c q : Nat) (a : Bool) (h : ¬ (c = q ∨ c = 92)) (h1 : ¬ (7 ≤ c ∧ c ≤ 13)) (h2 : ¬ (plainP c = true ∧ (c ≤ 126 ∨ a = false))) (h3 : c < 128) : inL c q a = [92, 120] ++ hexL c 2 := by unfold inL; rw [if_neg h, if_neg h1, if_neg h2, if_pos h3]; rfl
theorem inL_u (c q : Nat) (a : Bool) (h : ¬ (c = q ∨ c = 92)) (h1 : ¬ (7 ≤ c ∧ c ≤ 13)) (h2 : ¬ (plainP c = true ∧ (c ≤ 126 ∨ a = false))) (h3 : ¬ c < 128) (h4 : c ≤ 65535) : inL c q a = [92, 117] ++ hexL c 4 := by unfold inL; rw [if_neg h, if_neg h1, if_neg h2, if_neg h3, if_pos h4]; rfl
theorem inL_U (c q : Nat) (a : Bool) (h : ¬ (c = q ∨ c = 92)) (h1 : ¬ (7 ≤ c ∧ c ≤ 13)) (h2 : ¬ (plainP c = true ∧ (c ≤ 126 ∨ a = false))) (h3 : ¬ c < 128) (h4 : ¬ c ≤ 65535) : inL c q a = [92, 85] ++ hexL c 8 := by unfold inL; rw [if_neg h, if_neg h1, if_neg h2, if_neg h3, if_neg h4]; rfl
theorem hex_size (c k : Nat) : (ByteArray.mk (hexL c k).toArray).size = k := by
  show (hexL c k).toArray.size = k
  simp [hexL_len]

theorem hex_bytes (x : UInt8) (c k : Nat) : (ByteArray.mk #[92, x]) ++ (ByteArray.mk (hexL c k).toArray) = ⟨([92, x] ++ hexL c k).toArray⟩ := ba_app [92, x] (hexL c k)

end Go.Proofs.YthbabhbfpcfenaaGreatDoor

/- The walk of inQuotes, whatever the code point. -/
namespace Go.Proofs.YthbabhbfpcfenaaGreatDoor
open Go.RowKit

end Go.Proofs.YthbabhbfpcfenaaGreatDoor

/- The walk of Quote. -/
namespace Go.Proofs.YthbabhbfpcfenaaGreatDoor
open Go.RowKit

theorem isB_below {T e : TypeId} {B b : Nat} {bs : List Value} {W W' : World} (h : Lib.IsBuilderF T e B b bs W) (hb : Below W.heap.size W W') : Lib.IsBuilderF T e B b bs W' := by
  have key : ∀ p, Lib.BuilderAtF T e B b p bs W → Lib.BuilderAtF T e B b p bs W' := by
    rintro p ⟨hB, v, hbk, hown, hne⟩
    have blk : ∀ k o, W.heap[k]? = some o → W'.heap[k]? = some o := fun k o hk => (hb.block k (Array.getElem?_eq_some_iff.1 hk).1).trans hk
    refine ⟨hB, v, blk _ _ hbk, ⟨hown.1, ?_⟩, hne⟩
    rcases hown.2 with hn | ⟨g, cap, cur, fz, hv, hbg, hg, rest⟩
    · exact .inl hn
    · exact .inr ⟨g, cap, cur, fz, hv, hbg, blk _ _ hg, rest⟩
  exact h.elim (fun x => .inl (key _ x)) (fun x => .inr (key _ x))
theorem iter_keep {W W' : World} (hb : Below W.heap.size W W') {k : Nat} {o : Obj} (hk : W.heap[k]? = some o) : W'.heap[k]? = some o :=
  (hb.block k (Array.getElem?_eq_some_iff.1 hk).1).trans hk
theorem str_cells (l : List UInt8) : Lib.strCells ⟨l.toArray⟩ = Lib.byteCells l := by
  simp [Lib.strCells, Lib.byteCells]
theorem dec_pt_le (s : ByteArray) (p : Nat) : (Utf8.decode s p).1 ≤ 1114111 := by
  rw [← dec_tail_list]; exact Lib.decodeL_rune _
theorem drop_ne (s : ByteArray) (p : Nat) (h : p < s.size) : s.data.toList.drop p ≠ [] := by
  intro h0
  have := congrArg List.length h0
  rw [List.length_drop, list_len] at this
  simp at this
  omega
theorem item_at (a : Bool) (s : ByteArray) (p : Nat) (h : p < s.size) : quoI a (s.data.toList.drop p) = itemL a (s.data.toList.drop p) ++ quoI a (s.data.toList.drop (p + (Utf8.decode s p).2)) := by
  rw [quoI_step a _ (drop_ne s p h), dec_tail_list, List.drop_drop]
theorem item_brk (a : Bool) (s : ByteArray) (p : Nat) (h : p < s.size) (hb : brk (Utf8.decode s p) = true) : itemL a (s.data.toList.drop p) = [92, 120] ++ hexL (s[p]'h).toNat 2 := by
  have e : ((s.data.toList.drop p).getD 0 0) = s[p]'h := by
    rw [List.getD_eq_getElem?_getD, List.getElem?_drop]
    simp [List.getElem?_eq_getElem (show p < s.data.toList.length by rw [list_len]; exact h)]
    rfl
  unfold itemL
  rw [dec_tail_list, if_pos hb, e]; rfl
theorem item_in (a : Bool) (s : ByteArray) (p : Nat) (hb : brk (Utf8.decode s p) = false) : itemL a (s.data.toList.drop p) = inL (Utf8.decode s p).1 34 a := by
  unfold itemL
  rw [dec_tail_list, if_neg (by rw [hb]; simp)]

theorem str_cells' (r : ByteArray) : Lib.strCells r = Lib.byteCells r.data.toList := by
  simp [Lib.strCells, Lib.byteCells]
theorem two_sum (x y : UInt8) (t : ByteArray) (h : t.size ≤ 8) : ¬ 9223372036854775807 < (ByteArray.mk #[x, y]).size + t.size := by
  show ¬ 9223372036854775807 < 2 + t.size
  omega
theorem wrap32_byte (n : Nat) (h : n < 256) : wrap32 (n : Int) = (n : Int) := by unfold wrap32; omega
end Go.Proofs.YthbabhbfpcfenaaGreatDoor

/- The walks of Char, hindersRaw and Raw. -/
namespace Go.Proofs.YthbabhbfpcfenaaGreatDoor
open Go.RowKit
set_option linter.unusedVariables false

/-- A code point in single quotes. -/
def chrS (c : Int) (a : Bool) : ByteArray := ⟨(39 :: (inL (pt c) 39 a ++ [39])).toArray⟩
theorem pt_le (c : Int) : pt c ≤ 1114111 := by
  have := (valid_iff _).1 (pt_valid c)
  omega
theorem one_sum (x : UInt8) (t : ByteArray) (h : t.size ≤ 100000000) : ¬ 9223372036854775807 < (ByteArray.mk #[x]).size + t.size := by
  show ¬ 9223372036854775807 < 1 + t.size
  omega
theorem sum_one (x : UInt8) (t : ByteArray) (h : t.size ≤ 100000000) : ¬ 9223372036854775807 < t.size + (ByteArray.mk #[x]).size := by
  show ¬ 9223372036854775807 < t.size + 1
  omega
theorem dec_enc (c : Int) : dec (Utf8.encode c) = (pt c, (Utf8.encode c).size) := by
  have := back_dec c ⟨#[]⟩
  have e : Utf8.encode c ++ (ByteArray.mk #[]) = Utf8.encode c := by
    have := ba_app (Utf8.encode c).data.toList []
    rw [List.append_nil, ba_list] at this
    exact this
  rw [e] at this
  exact this

/-- Does a code point hinder Raw? -/
def hind (c : Int) : Bool := decide (c = 96 ∨ (c < 32 ∧ c ≠ 9) ∨ c = 127 ∨ c = 65279)
/-- Does anything in a text, from a place on, hinder Raw? -/
def rawGo (s : ByteArray) : Nat → Nat → Bool
  | 0, _ => true
  | f + 1, p => if p < s.size then (if hind (Utf8.decode s p).1 = true ∨ brk (Utf8.decode s p) = true then false else rawGo s f (p + (Utf8.decode s p).2)) else true
theorem rawGo_fuel (s : ByteArray) : ∀ (f g p : Nat), s.size - p ≤ f → s.size - p ≤ g → rawGo s f p = rawGo s g p
  | 0, 0, _, _, _ => rfl
  | 0, g + 1, p, h, _ => by simp [rawGo, show ¬ p < s.size by omega]
  | f + 1, 0, p, _, h => by simp [rawGo, show ¬ p < s.size by omega]
  | f + 1, g + 1, p, h1, h2 => by
    have hw := wid_pos s p
    by_cases hp : p < s.size
    · simp only [rawGo, if_pos hp]
      rw [rawGo_fuel s f g _ (by omega) (by omega)]
    · simp [rawGo, hp]
def rawF (s : ByteArray) (p : Nat) : Bool := rawGo s (s.size - p) p
theorem rawF_end (s : ByteArray) (p : Nat) (h : ¬ p < s.size) : rawF s p = true := by
  unfold rawF
  rw [show s.size - p = 0 by omega]; rfl
theorem rawF_no (s : ByteArray) (p : Nat) (h : p < s.size) (hh : hind (Utf8.decode s p).1 = true ∨ brk (Utf8.decode s p) = true) : rawF s p = false := by
  unfold rawF
  obtain ⟨f, hf⟩ : ∃ f, s.size - p = f + 1 := ⟨s.size - p - 1, by omega⟩
  rw [hf]
  simp only [rawGo, if_pos h, if_pos hh]
theorem rawF_on (s : ByteArray) (p : Nat) (h : p < s.size) (hh : ¬ (hind (Utf8.decode s p).1 = true ∨ brk (Utf8.decode s p) = true)) : rawF s p = rawF s (p + (Utf8.decode s p).2) := by
  have hw := wid_pos s p
  unfold rawF
  obtain ⟨f, hf⟩ : ∃ f, s.size - p = f + 1 := ⟨s.size - p - 1, by omega⟩
  rw [hf]
  simp only [rawGo, if_pos h, if_neg hh]
  rw [rawGo_fuel s f _ _ (by omega) (Nat.le_refl _)]
end Go.Proofs.YthbabhbfpcfenaaGreatDoor

/- The walks of package ints. -/
namespace Go.Proofs.YthbabhbfpcfenaaGreatDoor
open Go.RowKit
set_option linter.unusedVariables false

end Go.Proofs.YthbabhbfpcfenaaGreatDoor

/- The walks of package ints: numbers by a verb. -/
namespace Go.Proofs.YthbabhbfpcfenaaGreatDoor
open Go.RowKit
set_option linter.unusedVariables false

theorem iupper_any (b n : Nat) (w : World) (hb : 2 ≤ b) (h16 : b ≤ 16) :
    Calls Tryz.prog 28 #[.string (digT false b n)] w fun e w' => e = .returned (.string (digT true b n)) ∧ Below w.heap.size w w' := by
  have hz := digT_size false b n
  have h := Tryz.strings_ToUpper_ascii (digT false b n) w (by omega) (fun j x hx => digS_ascii false b n (by omega) h16 x (List.mem_of_getElem? hx))
  have e : (⟨(Lib.toUpperA (digT false b n).data.toList).toArray⟩ : ByteArray) = digT true b n := by
    show (⟨(Lib.toUpperA (digS false b n)).toArray⟩ : ByteArray) = _
    rw [upperA_digS b n (by omega) h16]; rfl
  rw [e] at h
  exact h
theorem digBy_zero (b : Nat) (verb : Int) : digBy 0 b 0 verb = ⟨#[]⟩ := by simp [digBy]
theorem digBy_more (size b : Nat) (prec verb : Int) (h : ¬ (size = 0 ∧ prec = 0)) : digBy size b prec verb = lenS (digT (decide (verb = 88)) b size) (wdt prec : Nat) := by
  unfold digBy; rw [if_neg h]
theorem digBy_pos (size b : Nat) (prec verb : Int) (h : ¬ (size = 0 ∧ prec = 0)) : 0 < (digBy size b prec verb).size := by
  have h1 := digT_size (decide (verb = 88)) b size
  have h2 := lenS_size (digT (decide (verb = 88)) b size) (wdt prec : Nat)
  rw [digBy_more size b prec verb h]; omega

theorem name_pack (bits : Nat) (prec : Int) : ∃ A L : ByteArray, lenS (digT true 16 bits) (max 4 (wdt prec : Nat)) = L ∧ (⟨#[85, 43]⟩ : ByteArray) ++ L = A ∧ ¬ 9223372036854775807 < (⟨#[85, 43]⟩ : ByteArray).size + L.size ∧ nameA bits prec = A := by
  have h1 := digT_size true 16 bits
  have h2 := lenS_size (digT true 16 bits) (max 4 (wdt prec : Nat))
  have h3 : (⟨#[85, 43]⟩ : ByteArray).size = 2 := rfl
  exact ⟨_, _, rfl, rfl, by omega, rfl⟩
theorem name_pack2 (A E : ByteArray) (hA : A.size ≤ 1100) (hE : E.size ≤ 4) : ∃ B C D : ByteArray, A ++ (⟨#[32, 39]⟩ : ByteArray) = B ∧ B ++ E = C ∧ C ++ (⟨#[39]⟩ : ByteArray) = D ∧ ¬ 9223372036854775807 < A.size + (⟨#[32, 39]⟩ : ByteArray).size ∧ ¬ 9223372036854775807 < B.size + E.size ∧ ¬ 9223372036854775807 < C.size + (⟨#[39]⟩ : ByteArray).size ∧ D = ((A ++ ⟨#[32, 39]⟩) ++ E) ++ ⟨#[39]⟩ := by
  have h3 : (⟨#[32, 39]⟩ : ByteArray).size = 2 := rfl
  have h4 : (⟨#[39]⟩ : ByteArray).size = 1 := rfl
  refine ⟨_, _, _, rfl, rfl, rfl, ?_, ?_, ?_, rfl⟩
  · omega
  · rw [app_size]; omega
  · rw [app_size, app_size]; omega

theorem based_pack (sign m d2 : ByteArray) (hs : sign.size ≤ 1) (hm : m.size ≤ 2) : ∃ A : ByteArray, sign ++ m = A ∧ A.size ≤ 3 ∧ ¬ 9223372036854775807 < sign.size + m.size := by
  refine ⟨_, rfl, by rw [app_size]; omega, by omega⟩

end Go.Proofs.YthbabhbfpcfenaaGreatDoor

/- The walks of number, Signed and Unsigned of package ints. -/
namespace Go.Proofs.YthbabhbfpcfenaaGreatDoor
open Go.RowKit
set_option linter.unusedVariables false

theorem chrS_size (c : Int) (a : Bool) : (chrS c a).size ≤ 12 := by
  have h := inL_len (pt c) 39 a
  show (39 :: (inL (pt c) 39 a ++ [39])).toArray.size ≤ 12
  simp; omega

/-- What is written of a number ahead of a width's filling, and with what it is filled; none: the verb is refused. -/
def numO (bits size : Nat) (sign : ByteArray) (p mi sh z : Bool) (wid prec verb : Int) : Option (ByteArray × Bool) :=
  if verb = 99 then some (Utf8.encode ((ptN bits : Nat) : Int), z) else if verb = 113 then some (chrS ((ptN bits : Nat) : Int) p, z) else if verb = 85 then some (nameS bits sh prec, false) else if baseV verb = 0 then none else some (coreB size (baseV verb) sign mi sh z wid prec verb, false)
def numS (bits size : Nat) (sign : ByteArray) (p mi sh z : Bool) (wid prec verb : Int) : ByteArray :=
  match numO bits size sign p mi sh z wid prec verb with
  | some (r, z') => padS r mi z' wid
  | none => ⟨#[]⟩
def numK (verb : Int) : Bool := decide (verb = 99 ∨ verb = 113 ∨ verb = 85 ∨ ¬ baseV verb = 0)
theorem numO_size (bits size : Nat) (sign : ByteArray) (p mi sh z : Bool) (wid prec verb : Int) (hs : sign.size ≤ 1) (r : ByteArray) (z' : Bool) (h : numO bits size sign p mi sh z wid prec verb = some (r, z')) : r.size ≤ 4000 := by
  have h1 := enc_size4 (ptN bits)
  have h2 := chrS_size ((ptN bits : Nat) : Int) p
  have h3 := nameS_size bits sh prec
  have h4 := coreB_size size (baseV verb) sign mi sh z wid prec verb hs
  unfold numO at h
  split at h
  · have := (Prod.mk.inj (Option.some.inj h)).1; rw [← this]; omega
  · split at h
    · have := (Prod.mk.inj (Option.some.inj h)).1; rw [← this]; omega
    · split at h
      · have := (Prod.mk.inj (Option.some.inj h)).1; rw [← this]; omega
      · split at h
        · exact absurd h (by simp)
        · have := (Prod.mk.inj (Option.some.inj h)).1; rw [← this]; omega
theorem numO_none (bits size : Nat) (sign : ByteArray) (p mi sh z : Bool) (wid prec verb : Int) (h : numK verb = false) : numO bits size sign p mi sh z wid prec verb = none := by
  simp only [numK, decide_eq_false_iff_not] at h
  unfold numO
  rw [if_neg (fun h1 => h (.inl h1)), if_neg (fun h1 => h (.inr (.inl h1))), if_neg (fun h1 => h (.inr (.inr (.inl h1)))), if_pos (Classical.byContradiction fun h1 => h (.inr (.inr (.inr h1))))]
/-- The 64 bits of a number with a sign; its size; its sign. -/
def uN (v : Int) : Nat := (v % 18446744073709551616).toNat
def sgS (v : Int) (p sp : Bool) : ByteArray := if v < 0 then ⟨#[45]⟩ else signA p sp
theorem uN_lt (v : Int) : uN v < 18446744073709551616 := by unfold uN; omega
theorem sgS_size (v : Int) (p sp : Bool) : (sgS v p sp).size ≤ 1 := by
  have := signA_size p sp
  unfold sgS
  split
  · decide
  · omega
theorem wrap_u64 (n : Int) : IntKind.u64.wrap n = n % 18446744073709551616 := by
  unfold IntKind.wrap
  simp [IntKind.bits, IntKind.signed]
theorem wrap_uN (v : Int) : IntKind.u64.wrap v = ((uN v : Nat) : Int) := by
  rw [wrap_u64]; unfold uN; omega
theorem wrap_neg (v : Int) (h1 : v < 0) (h2 : -9223372036854775808 ≤ v) : IntKind.u64.wrap (-((uN v : Nat) : Int)) = ((v.natAbs : Nat) : Int) := by
  rw [wrap_u64]; unfold uN; omega

/-- The verb that Unsigned goes by. -/
def uVerb (sh : Bool) (verb : Int) : Int := if verb = 118 ∧ sh = true then 120 else verb
end Go.Proofs.YthbabhbfpcfenaaGreatDoor

/- The walks of the document's Digit and Digits. -/
namespace Go.Proofs.YthbabhbfpcfenaaGreatDoor
open Go.RowKit
set_option linter.unusedVariables false

theorem dig_small (n : Nat) (h : n < 16) : (ByteArray.mk #[48, 49, 50, 51, 52, 53, 54, 55, 56, 57, 97, 98, 99, 100, 101, 102]).extract n (n + 1) = ⟨#[hexB false n]⟩ := by
  have hd : ∀ n, n < 16 → (ByteArray.mk #[48, 49, 50, 51, 52, 53, 54, 55, 56, 57, 97, 98, 99, 100, 101, 102]).extract n (n + 1) = ⟨#[hexB false n]⟩ := by decide +kernel
  exact hd n h
theorem dig_great (n : Nat) (h : n < 16) : (ByteArray.mk #[48, 49, 50, 51, 52, 53, 54, 55, 56, 57, 65, 66, 67, 68, 69, 70]).extract n (n + 1) = ⟨#[hexB true n]⟩ := by
  have hd : ∀ n, n < 16 → (ByteArray.mk #[48, 49, 50, 51, 52, 53, 54, 55, 56, 57, 65, 66, 67, 68, 69, 70]).extract n (n + 1) = ⟨#[hexB true n]⟩ := by decide +kernel
  exact hd n h

set_option maxRecDepth 1000000 in
set_option maxHeartbeats 400000 in
theorem digit_any (n : Nat) (g : Bool) (h : n < 16) (w : World) :
    Calls Tryz.prog 105 #[.int .i64 n, .bool g] w fun e w' => e = .returned (.string ⟨#[hexB g n]⟩) ∧ w' = w := by
  have h1 := dig_small n h
  have h2 := dig_great n h
  have hn : (n : Int) < 16 := by omega
  cases g with
  | true =>
    clear h1
    generalize (⟨#[hexB true n]⟩ : ByteArray) = r at *
    go_enter Tryz.func105, Tryz.ntmps105
    go_wp2
    go_ret
    exact ⟨rfl, rfl⟩
  | false =>
    clear h2
    generalize (⟨#[hexB false n]⟩ : ByteArray) = r at *
    go_enter Tryz.func105, Tryz.ntmps105
    go_wp2
    go_ret
    exact ⟨rfl, rfl⟩
theorem digits_step (n : Nat) (l : List UInt8) : ∃ t : ByteArray, (ByteArray.mk #[hexB false (n % 16)]) = t ∧ t ++ (ByteArray.mk l.toArray) = ⟨(hexB false (n % 16) :: l).toArray⟩ ∧ t.size = 1 :=
  ⟨_, rfl, ba_app [hexB false (n % 16)] l, rfl⟩
theorem tmod16 (n : Nat) : ((n : Int)).tmod 16 = ((n % 16 : Nat) : Int) := by
  rw [Int.tmod_eq_emod_of_nonneg (by omega)]; omega
theorem tdiv16 (n : Nat) : ((n : Int)).tdiv 16 = ((n / 16 : Nat) : Int) := by
  rw [Int.tdiv_eq_ediv_of_nonneg (by omega)]; omega

end Go.Proofs.YthbabhbfpcfenaaGreatDoor

/- The walk of the document's Fill. -/
namespace Go.Proofs.YthbabhbfpcfenaaGreatDoor
open Go.RowKit

theorem val_str {a b : ByteArray} (h : a = b) : Value.string a = .string b := by rw [h]

set_option maxRecDepth 1000000 in
set_option maxHeartbeats 400000 in
theorem rfill_mid (c : Nat) (n : Int) (w : World) (hn : n ≤ 1000) :
    Calls Tryz.prog 100 #[.int .u8 c, .int .i64 n] w fun e w' => e = .returned (.string (run c (wdt n))) ∧ Below w.heap.size w w' := by
  go_enter Tryz.func100, Tryz.ntmps100
  go_wp2
  go_loopw [5, 6] (fun s i w' => ∃ k : Nat, k ≤ wdt n ∧ s = .string (run c k) ∧ i = .int .i64 k ∧ Below w.heap.size w w') (fun _ i _ => wdt n - (intOf i).toNat)
  case atStart => exact ⟨0, Nat.zero_le _, rfl, rfl, Below.refl _ _⟩
  case round =>
    obtain ⟨k, hk, rfl, rfl, hb⟩ := hrel
    have hwl := wdt_le n
    by_cases hlt : (k : Int) < n
    · have hm : ((wdt n : Nat) : Int) = n := wdt_mid n (by omega) hn
      have hlt' : k < wdt n := by omega
      clear hm
      have hsum : ¬ 9223372036854775807 < (run c k).size + (strOfNums [(c : Int)]).size := by rw [run_size, strOfNums_size]; simp; omega
      have kc := conv1
      go_wp2
      go_roundw
      case rel => exact ⟨k + 1, hlt', val_str (run_snoc c k), by go_num, hb.alloc hb.size _⟩
      case measure => simp [intOf]; omega
    · have hm : wdt n = k := by unfold wdt at hk ⊢; omega
      have HM : Hid (wdt n = k) := hm
      clear hm
      go_wp2
      go_ret
      rw [HM.out]
      exact ⟨rfl, hb⟩

set_option maxRecDepth 1000000 in
set_option maxHeartbeats 400000 in
theorem rfill_big (c : Nat) (n : Int) (w : World) (hn : 1000 < n) :
    Calls Tryz.prog 100 #[.int .u8 c, .int .i64 n] w fun e w' => e = .returned (.string (run c 1000)) ∧ Below w.heap.size w w' := by
  go_enter Tryz.func100, Tryz.ntmps100
  go_wp2
  go_loopw [5, 6] (fun s i w' => ∃ k : Nat, k ≤ 1000 ∧ s = .string (run c k) ∧ i = .int .i64 k ∧ Below w.heap.size w w') (fun _ i _ => 1000 - (intOf i).toNat)
  case atStart => exact ⟨0, Nat.zero_le _, rfl, rfl, Below.refl _ _⟩
  case round =>
    obtain ⟨k, hk, rfl, rfl, hb⟩ := hrel
    by_cases hlt : (k : Int) < 1000
    · have hsum : ¬ 9223372036854775807 < (run c k).size + (strOfNums [(c : Int)]).size := by rw [run_size, strOfNums_size]; simp; omega
      have kc := conv1
      go_wp2
      go_roundw
      case rel => exact ⟨k + 1, by omega, val_str (run_snoc c k), by go_num, hb.alloc hb.size _⟩
      case measure => simp [intOf]; omega
    · have HM : Hid (k = 1000) := by show k = 1000; omega
      go_wp2
      go_ret
      refine ⟨ret_str ?_, hb⟩
      rw [HM.out]

theorem rfill_any (c : Nat) (n : Int) (w : World) :
    Calls Tryz.prog 100 #[.int .u8 c, .int .i64 n] w fun e w' => e = .returned (.string (run c (wdt n))) ∧ Below w.heap.size w w' := by
  by_cases h : n ≤ 1000
  · exact rfill_mid c n w h
  · rw [wdt_big n (by omega)]; exact rfill_big c n w (by omega)

end Go.Proofs.YthbabhbfpcfenaaGreatDoor

/- The walks of the document's Digits, Great and Zeros of layer 3. -/
namespace Go.Proofs.YthbabhbfpcfenaaGreatDoor
open Go.RowKit
set_option linter.unusedVariables false

/-- What the document's digits so far are. -/
def eRel (b n q : Nat) (ds : List UInt8) : Prop := (ds = [] ∧ q = n) ∨ (ds ≠ [] ∧ digP false b q ++ ds = digS false b n)
theorem eRel_step (b n q : Nat) (ds : List UInt8) (hb : 2 ≤ b) (hq : q < 2 ^ 64) (h : eRel b n q ds) (hgo : ds = [] ∨ q ≠ 0) : eRel b n (q / b) (hexB false (q % b) :: ds) := by
  refine .inr ⟨by simp, ?_⟩
  rcases h with ⟨rfl, rfl⟩ | ⟨h1, h2⟩
  · rfl
  · rw [← h2, digP_step false b q hb (hgo.resolve_left h1) hq]
    simp

theorem eRel_len (b n q : Nat) (ds : List UInt8) (h : eRel b n q ds) : ds.length ≤ 65 := by
  rcases h with ⟨rfl, -⟩ | ⟨-, h⟩
  · simp
  · have h1 := digS_len false b n
    rw [← h, List.length_append] at h1
    omega

set_option maxRecDepth 1000000 in
set_option maxHeartbeats 800000 in
theorem edigits_2 (n : Nat) (w : World) (hn : n < 18446744073709551616) :
    Calls Tryz.prog 61 #[.int .u64 n, .int .i64 2] w fun e w' => e = .returned (.string (digT false 2 n)) ∧ w' = w := by
  go_enter Tryz.func61, Tryz.ntmps61
  go_wp2
  go_loopg [0, 5] (n + 1) (fun g nn s wr => wr = w ∧ ∃ (q : Nat) (u : ByteArray) (ds : List UInt8), nn = .int .u64 q ∧ s = .string u ∧ q + (1 - ds.length) ≤ g ∧ q ≤ n ∧ ds.length + q ≤ n + 1 ∧ u.size = ds.length ∧ Hid (u = ⟨ds.toArray⟩) ∧ Hid (eRel 2 n q ds))
  case atStart => exact ⟨rfl, n, ⟨#[]⟩, [], rfl, rfl, by simp, Nat.le_refl _, by simp, rfl, rfl, .inl ⟨rfl, rfl⟩⟩
  case round =>
    obtain ⟨rfl, q, u, ds, rfl, rfl, hg, hqn, hdn, hus, HU, HR⟩ := hrel
    by_cases hgo : u.size = 0 ∨ 0 < q
    · have h16 : q % 2 < 16 := by omega
      have hdg : ∀ w, Calls Tryz.prog 105 #[.int .i64 ((q % 2 : Nat) : Int), .bool false] w fun e w' => e = .returned (.string ⟨#[hexB false (q % 2)]⟩) ∧ w' = w := fun w => digit_any (q % 2) false h16 w
      have hW : Hid (eRel 2 n (q / 2) (hexB false (q % 2) :: ds)) := eRel_step 2 n q ds (by omega) (by omega) HR.out (by rcases hgo with h | h; exact .inl (List.eq_nil_of_length_eq_zero (by omega)); exact .inr (by omega))
      have hcat : (⟨#[hexB false (q % 2)]⟩ : ByteArray) ++ u = ⟨(hexB false (q % 2) :: ds).toArray⟩ := by rw [HU.out]; exact ba_app [hexB false (q % 2)] ds
      obtain ⟨t, ht⟩ : ∃ t, (⟨#[hexB false (q % 2)]⟩ : ByteArray) = t := ⟨_, rfl⟩
      have htz : t.size = 1 := by rw [← ht]; rfl
      rw [ht] at hdg hcat
      obtain ⟨u2, hu2⟩ : ∃ u2, t ++ u = u2 := ⟨_, rfl⟩
      have HU2 : Hid (u2 = ⟨(hexB false (q % 2) :: ds).toArray⟩) := by rw [← hu2]; exact hcat
      have hz2 : u2.size = (hexB false (q % 2) :: ds).length := by rw [HU2.out]; simp [ByteArray.size]
      have hsum : ¬ 9223372036854775807 < t.size + u.size := by
        have := eRel_len 2 n q ds HR.out
        omega
      have hm1 : (q : Int) % 2 = ((q % 2 : Nat) : Int) := by omega
      have hm2 : (q : Int) / 2 = ((q / 2 : Nat) : Int) := by omega
      have hlen : q / 2 + (1 - (hexB false (q % 2) :: ds).length) ≤ gk - 1 ∧ 1 ≤ gk := by
        simp only [List.length_cons]
        rcases hgo with h | h <;> omega
      have hlen2 : (hexB false (q % 2) :: ds).length + q / 2 ≤ n + 1 := by
        simp only [List.length_cons]
        rcases hgo with h | h <;> omega
      clear ht hcat HU HR
      have hle : q / 2 ≤ q := Nat.div_le_self _ _
      generalize hexB false (q % 2) :: ds = ds2 at *
      generalize q % 2 = d at *
      generalize q / 2 = q2 at *
      by_cases hq : 0 < q
      · have hq1 : 0 < (q : Int) := by omega
        go_wp2_with (go_at_call 105; refine (hdg _).mono ?_; rintro e w2 ⟨rfl, rfl⟩)
        go_roundg (gk - 1)
        case measure => omega
        case rel => exact ⟨rfl, q2, u2, ds2, rfl, rfl, hlen.1, by omega, hlen2, hz2, HU2, hW⟩
      · have hq1 : ¬ 0 < (q : Int) := by omega
        have hq2 : decide (0 < q) = false := by simp; omega
        have hue : u.toList.isEmpty = true := empty_yes u (by omega)
        go_wp2_with (go_at_call 105; refine (hdg _).mono ?_; rintro e w2 ⟨rfl, rfl⟩)
        go_roundg (gk - 1)
        case measure => omega
        case rel => exact ⟨rfl, q2, u2, ds2, rfl, rfl, hlen.1, by omega, hlen2, hz2, HU2, hW⟩
    · have hq1 : ¬ 0 < (q : Int) := by omega
      have hq2 : decide (0 < q) = false := by simp; omega
      have hue : u.toList.isEmpty = false := empty_no u (by omega)
      have HF : Hid (u = digT false 2 n) := by
        have hq0 : q = 0 := by omega
        rcases HR.out with ⟨h, -⟩ | ⟨-, h⟩
        · rw [h, List.length_nil] at hus; omega
        · rw [hq0, digP_zero] at h
          show u = digT false 2 n
          rw [HU.out]
          unfold digT
          rw [← h]; rfl
      go_wp2
      go_ret
      rw [HF.out]
      exact ⟨rfl, rfl⟩
set_option maxRecDepth 1000000 in
set_option maxHeartbeats 800000 in
theorem edigits_8 (n : Nat) (w : World) (hn : n < 18446744073709551616) :
    Calls Tryz.prog 61 #[.int .u64 n, .int .i64 8] w fun e w' => e = .returned (.string (digT false 8 n)) ∧ w' = w := by
  go_enter Tryz.func61, Tryz.ntmps61
  go_wp2
  go_loopg [0, 5] (n + 1) (fun g nn s wr => wr = w ∧ ∃ (q : Nat) (u : ByteArray) (ds : List UInt8), nn = .int .u64 q ∧ s = .string u ∧ q + (1 - ds.length) ≤ g ∧ q ≤ n ∧ ds.length + q ≤ n + 1 ∧ u.size = ds.length ∧ Hid (u = ⟨ds.toArray⟩) ∧ Hid (eRel 8 n q ds))
  case atStart => exact ⟨rfl, n, ⟨#[]⟩, [], rfl, rfl, by simp, Nat.le_refl _, by simp, rfl, rfl, .inl ⟨rfl, rfl⟩⟩
  case round =>
    obtain ⟨rfl, q, u, ds, rfl, rfl, hg, hqn, hdn, hus, HU, HR⟩ := hrel
    by_cases hgo : u.size = 0 ∨ 0 < q
    · have h16 : q % 8 < 16 := by omega
      have hdg : ∀ w, Calls Tryz.prog 105 #[.int .i64 ((q % 8 : Nat) : Int), .bool false] w fun e w' => e = .returned (.string ⟨#[hexB false (q % 8)]⟩) ∧ w' = w := fun w => digit_any (q % 8) false h16 w
      have hW : Hid (eRel 8 n (q / 8) (hexB false (q % 8) :: ds)) := eRel_step 8 n q ds (by omega) (by omega) HR.out (by rcases hgo with h | h; exact .inl (List.eq_nil_of_length_eq_zero (by omega)); exact .inr (by omega))
      have hcat : (⟨#[hexB false (q % 8)]⟩ : ByteArray) ++ u = ⟨(hexB false (q % 8) :: ds).toArray⟩ := by rw [HU.out]; exact ba_app [hexB false (q % 8)] ds
      obtain ⟨t, ht⟩ : ∃ t, (⟨#[hexB false (q % 8)]⟩ : ByteArray) = t := ⟨_, rfl⟩
      have htz : t.size = 1 := by rw [← ht]; rfl
      rw [ht] at hdg hcat
      obtain ⟨u2, hu2⟩ : ∃ u2, t ++ u = u2 := ⟨_, rfl⟩
      have HU2 : Hid (u2 = ⟨(hexB false (q % 8) :: ds).toArray⟩) := by rw [← hu2]; exact hcat
      have hz2 : u2.size = (hexB false (q % 8) :: ds).length := by rw [HU2.out]; simp [ByteArray.size]
      have hsum : ¬ 9223372036854775807 < t.size + u.size := by
        have := eRel_len 8 n q ds HR.out
        omega
      have hm1 : (q : Int) % 8 = ((q % 8 : Nat) : Int) := by omega
      have hm2 : (q : Int) / 8 = ((q / 8 : Nat) : Int) := by omega
      have hlen : q / 8 + (1 - (hexB false (q % 8) :: ds).length) ≤ gk - 1 ∧ 1 ≤ gk := by
        simp only [List.length_cons]
        rcases hgo with h | h <;> omega
      have hlen2 : (hexB false (q % 8) :: ds).length + q / 8 ≤ n + 1 := by
        simp only [List.length_cons]
        rcases hgo with h | h <;> omega
      clear ht hcat HU HR
      have hle : q / 8 ≤ q := Nat.div_le_self _ _
      generalize hexB false (q % 8) :: ds = ds2 at *
      generalize q % 8 = d at *
      generalize q / 8 = q2 at *
      by_cases hq : 0 < q
      · have hq1 : 0 < (q : Int) := by omega
        go_wp2_with (go_at_call 105; refine (hdg _).mono ?_; rintro e w2 ⟨rfl, rfl⟩)
        go_roundg (gk - 1)
        case measure => omega
        case rel => exact ⟨rfl, q2, u2, ds2, rfl, rfl, hlen.1, by omega, hlen2, hz2, HU2, hW⟩
      · have hq1 : ¬ 0 < (q : Int) := by omega
        have hq2 : decide (0 < q) = false := by simp; omega
        have hue : u.toList.isEmpty = true := empty_yes u (by omega)
        go_wp2_with (go_at_call 105; refine (hdg _).mono ?_; rintro e w2 ⟨rfl, rfl⟩)
        go_roundg (gk - 1)
        case measure => omega
        case rel => exact ⟨rfl, q2, u2, ds2, rfl, rfl, hlen.1, by omega, hlen2, hz2, HU2, hW⟩
    · have hq1 : ¬ 0 < (q : Int) := by omega
      have hq2 : decide (0 < q) = false := by simp; omega
      have hue : u.toList.isEmpty = false := empty_no u (by omega)
      have HF : Hid (u = digT false 8 n) := by
        have hq0 : q = 0 := by omega
        rcases HR.out with ⟨h, -⟩ | ⟨-, h⟩
        · rw [h, List.length_nil] at hus; omega
        · rw [hq0, digP_zero] at h
          show u = digT false 8 n
          rw [HU.out]
          unfold digT
          rw [← h]; rfl
      go_wp2
      go_ret
      rw [HF.out]
      exact ⟨rfl, rfl⟩
set_option maxRecDepth 1000000 in
set_option maxHeartbeats 800000 in
theorem edigits_10 (n : Nat) (w : World) (hn : n < 18446744073709551616) :
    Calls Tryz.prog 61 #[.int .u64 n, .int .i64 10] w fun e w' => e = .returned (.string (digT false 10 n)) ∧ w' = w := by
  go_enter Tryz.func61, Tryz.ntmps61
  go_wp2
  go_loopg [0, 5] (n + 1) (fun g nn s wr => wr = w ∧ ∃ (q : Nat) (u : ByteArray) (ds : List UInt8), nn = .int .u64 q ∧ s = .string u ∧ q + (1 - ds.length) ≤ g ∧ q ≤ n ∧ ds.length + q ≤ n + 1 ∧ u.size = ds.length ∧ Hid (u = ⟨ds.toArray⟩) ∧ Hid (eRel 10 n q ds))
  case atStart => exact ⟨rfl, n, ⟨#[]⟩, [], rfl, rfl, by simp, Nat.le_refl _, by simp, rfl, rfl, .inl ⟨rfl, rfl⟩⟩
  case round =>
    obtain ⟨rfl, q, u, ds, rfl, rfl, hg, hqn, hdn, hus, HU, HR⟩ := hrel
    by_cases hgo : u.size = 0 ∨ 0 < q
    · have h16 : q % 10 < 16 := by omega
      have hdg : ∀ w, Calls Tryz.prog 105 #[.int .i64 ((q % 10 : Nat) : Int), .bool false] w fun e w' => e = .returned (.string ⟨#[hexB false (q % 10)]⟩) ∧ w' = w := fun w => digit_any (q % 10) false h16 w
      have hW : Hid (eRel 10 n (q / 10) (hexB false (q % 10) :: ds)) := eRel_step 10 n q ds (by omega) (by omega) HR.out (by rcases hgo with h | h; exact .inl (List.eq_nil_of_length_eq_zero (by omega)); exact .inr (by omega))
      have hcat : (⟨#[hexB false (q % 10)]⟩ : ByteArray) ++ u = ⟨(hexB false (q % 10) :: ds).toArray⟩ := by rw [HU.out]; exact ba_app [hexB false (q % 10)] ds
      obtain ⟨t, ht⟩ : ∃ t, (⟨#[hexB false (q % 10)]⟩ : ByteArray) = t := ⟨_, rfl⟩
      have htz : t.size = 1 := by rw [← ht]; rfl
      rw [ht] at hdg hcat
      obtain ⟨u2, hu2⟩ : ∃ u2, t ++ u = u2 := ⟨_, rfl⟩
      have HU2 : Hid (u2 = ⟨(hexB false (q % 10) :: ds).toArray⟩) := by rw [← hu2]; exact hcat
      have hz2 : u2.size = (hexB false (q % 10) :: ds).length := by rw [HU2.out]; simp [ByteArray.size]
      have hsum : ¬ 9223372036854775807 < t.size + u.size := by
        have := eRel_len 10 n q ds HR.out
        omega
      have hm1 : (q : Int) % 10 = ((q % 10 : Nat) : Int) := by omega
      have hm2 : (q : Int) / 10 = ((q / 10 : Nat) : Int) := by omega
      have hlen : q / 10 + (1 - (hexB false (q % 10) :: ds).length) ≤ gk - 1 ∧ 1 ≤ gk := by
        simp only [List.length_cons]
        rcases hgo with h | h <;> omega
      have hlen2 : (hexB false (q % 10) :: ds).length + q / 10 ≤ n + 1 := by
        simp only [List.length_cons]
        rcases hgo with h | h <;> omega
      clear ht hcat HU HR
      have hle : q / 10 ≤ q := Nat.div_le_self _ _
      generalize hexB false (q % 10) :: ds = ds2 at *
      generalize q % 10 = d at *
      generalize q / 10 = q2 at *
      by_cases hq : 0 < q
      · have hq1 : 0 < (q : Int) := by omega
        go_wp2_with (go_at_call 105; refine (hdg _).mono ?_; rintro e w2 ⟨rfl, rfl⟩)
        go_roundg (gk - 1)
        case measure => omega
        case rel => exact ⟨rfl, q2, u2, ds2, rfl, rfl, hlen.1, by omega, hlen2, hz2, HU2, hW⟩
      · have hq1 : ¬ 0 < (q : Int) := by omega
        have hq2 : decide (0 < q) = false := by simp; omega
        have hue : u.toList.isEmpty = true := empty_yes u (by omega)
        go_wp2_with (go_at_call 105; refine (hdg _).mono ?_; rintro e w2 ⟨rfl, rfl⟩)
        go_roundg (gk - 1)
        case measure => omega
        case rel => exact ⟨rfl, q2, u2, ds2, rfl, rfl, hlen.1, by omega, hlen2, hz2, HU2, hW⟩
    · have hq1 : ¬ 0 < (q : Int) := by omega
      have hq2 : decide (0 < q) = false := by simp; omega
      have hue : u.toList.isEmpty = false := empty_no u (by omega)
      have HF : Hid (u = digT false 10 n) := by
        have hq0 : q = 0 := by omega
        rcases HR.out with ⟨h, -⟩ | ⟨-, h⟩
        · rw [h, List.length_nil] at hus; omega
        · rw [hq0, digP_zero] at h
          show u = digT false 10 n
          rw [HU.out]
          unfold digT
          rw [← h]; rfl
      go_wp2
      go_ret
      rw [HF.out]
      exact ⟨rfl, rfl⟩
set_option maxRecDepth 1000000 in
set_option maxHeartbeats 800000 in
theorem edigits_16 (n : Nat) (w : World) (hn : n < 18446744073709551616) :
    Calls Tryz.prog 61 #[.int .u64 n, .int .i64 16] w fun e w' => e = .returned (.string (digT false 16 n)) ∧ w' = w := by
  go_enter Tryz.func61, Tryz.ntmps61
  go_wp2
  go_loopg [0, 5] (n + 1) (fun g nn s wr => wr = w ∧ ∃ (q : Nat) (u : ByteArray) (ds : List UInt8), nn = .int .u64 q ∧ s = .string u ∧ q + (1 - ds.length) ≤ g ∧ q ≤ n ∧ ds.length + q ≤ n + 1 ∧ u.size = ds.length ∧ Hid (u = ⟨ds.toArray⟩) ∧ Hid (eRel 16 n q ds))
  case atStart => exact ⟨rfl, n, ⟨#[]⟩, [], rfl, rfl, by simp, Nat.le_refl _, by simp, rfl, rfl, .inl ⟨rfl, rfl⟩⟩
  case round =>
    obtain ⟨rfl, q, u, ds, rfl, rfl, hg, hqn, hdn, hus, HU, HR⟩ := hrel
    by_cases hgo : u.size = 0 ∨ 0 < q
    · have h16 : q % 16 < 16 := by omega
      have hdg : ∀ w, Calls Tryz.prog 105 #[.int .i64 ((q % 16 : Nat) : Int), .bool false] w fun e w' => e = .returned (.string ⟨#[hexB false (q % 16)]⟩) ∧ w' = w := fun w => digit_any (q % 16) false h16 w
      have hW : Hid (eRel 16 n (q / 16) (hexB false (q % 16) :: ds)) := eRel_step 16 n q ds (by omega) (by omega) HR.out (by rcases hgo with h | h; exact .inl (List.eq_nil_of_length_eq_zero (by omega)); exact .inr (by omega))
      have hcat : (⟨#[hexB false (q % 16)]⟩ : ByteArray) ++ u = ⟨(hexB false (q % 16) :: ds).toArray⟩ := by rw [HU.out]; exact ba_app [hexB false (q % 16)] ds
      obtain ⟨t, ht⟩ : ∃ t, (⟨#[hexB false (q % 16)]⟩ : ByteArray) = t := ⟨_, rfl⟩
      have htz : t.size = 1 := by rw [← ht]; rfl
      rw [ht] at hdg hcat
      obtain ⟨u2, hu2⟩ : ∃ u2, t ++ u = u2 := ⟨_, rfl⟩
      have HU2 : Hid (u2 = ⟨(hexB false (q % 16) :: ds).toArray⟩) := by rw [← hu2]; exact hcat
      have hz2 : u2.size = (hexB false (q % 16) :: ds).length := by rw [HU2.out]; simp [ByteArray.size]
      have hsum : ¬ 9223372036854775807 < t.size + u.size := by
        have := eRel_len 16 n q ds HR.out
        omega
      have hm1 : (q : Int) % 16 = ((q % 16 : Nat) : Int) := by omega
      have hm2 : (q : Int) / 16 = ((q / 16 : Nat) : Int) := by omega
      have hlen : q / 16 + (1 - (hexB false (q % 16) :: ds).length) ≤ gk - 1 ∧ 1 ≤ gk := by
        simp only [List.length_cons]
        rcases hgo with h | h <;> omega
      have hlen2 : (hexB false (q % 16) :: ds).length + q / 16 ≤ n + 1 := by
        simp only [List.length_cons]
        rcases hgo with h | h <;> omega
      clear ht hcat HU HR
      have hle : q / 16 ≤ q := Nat.div_le_self _ _
      generalize hexB false (q % 16) :: ds = ds2 at *
      generalize q % 16 = d at *
      generalize q / 16 = q2 at *
      by_cases hq : 0 < q
      · have hq1 : 0 < (q : Int) := by omega
        go_wp2_with (go_at_call 105; refine (hdg _).mono ?_; rintro e w2 ⟨rfl, rfl⟩)
        go_roundg (gk - 1)
        case measure => omega
        case rel => exact ⟨rfl, q2, u2, ds2, rfl, rfl, hlen.1, by omega, hlen2, hz2, HU2, hW⟩
      · have hq1 : ¬ 0 < (q : Int) := by omega
        have hq2 : decide (0 < q) = false := by simp; omega
        have hue : u.toList.isEmpty = true := empty_yes u (by omega)
        go_wp2_with (go_at_call 105; refine (hdg _).mono ?_; rintro e w2 ⟨rfl, rfl⟩)
        go_roundg (gk - 1)
        case measure => omega
        case rel => exact ⟨rfl, q2, u2, ds2, rfl, rfl, hlen.1, by omega, hlen2, hz2, HU2, hW⟩
    · have hq1 : ¬ 0 < (q : Int) := by omega
      have hq2 : decide (0 < q) = false := by simp; omega
      have hue : u.toList.isEmpty = false := empty_no u (by omega)
      have HF : Hid (u = digT false 16 n) := by
        have hq0 : q = 0 := by omega
        rcases HR.out with ⟨h, -⟩ | ⟨-, h⟩
        · rw [h, List.length_nil] at hus; omega
        · rw [hq0, digP_zero] at h
          show u = digT false 16 n
          rw [HU.out]
          unfold digT
          rw [← h]; rfl
      go_wp2
      go_ret
      rw [HF.out]
      exact ⟨rfl, rfl⟩
theorem edigits_any (n b : Nat) (w : World) (hn : n < 18446744073709551616) (hb : b = 2 ∨ b = 8 ∨ b = 10 ∨ b = 16) :
    Calls Tryz.prog 61 #[.int .u64 n, .int .i64 b] w fun e w' => e = .returned (.string (digT false b n)) ∧ w' = w := by
  rcases hb with rfl | rfl | rfl | rfl
  · exact edigits_2 n w hn
  · exact edigits_8 n w hn
  · exact edigits_10 n w hn
  · exact edigits_16 n w hn
set_option maxRecDepth 1000000 in
set_option maxHeartbeats 400000 in
theorem edigits_no (n : Nat) (b : Int) (w : World) (h1 : ¬ b = 2) (h2 : ¬ b = 8) (h3 : ¬ b = 10) (h4 : ¬ b = 16) :
    Calls Tryz.prog 61 #[.int .u64 n, .int .i64 b] w fun e w' => e = .returned (.string ⟨#[]⟩) ∧ w' = w := by
  have k1 : (b != 2) = true := by simp [h1]
  have k2 : (b != 8) = true := by simp [h2]
  have k3 : (b != 10) = true := by simp [h3]
  have k4 : (b != 16) = true := by simp [h4]
  go_enter Tryz.func61, Tryz.ntmps61
  go_wp2
  go_ret
  exact ⟨rfl, rfl⟩

theorem zero_run (k : Nat) (s : ByteArray) : (ByteArray.mk #[48]) ++ (run 48 k ++ s) = run 48 (k + 1) ++ s := by
  apply ByteArray.ext
  rw [ByteArray.data_append, ByteArray.data_append, ByteArray.data_append, ← Array.append_assoc]
  congr 1
  show #[48] ++ Array.replicate k (UInt8.ofNat 48) = Array.replicate (k + 1) (UInt8.ofNat 48)
  rw [Array.replicate_succ']
  rfl
set_option maxRecDepth 1000000 in
set_option maxHeartbeats 400000 in
theorem ezeros_any (s : ByteArray) (n : Int) (w : World) (hs : s.size ≤ 100000) (hn : n ≤ 1000) :
    Calls Tryz.prog 106 #[.string s, .int .i64 n] w fun e w' => e = .returned (.string (lenS s n)) ∧ w' = w := by
  go_enter Tryz.func106, Tryz.ntmps106
  go_wp2
  go_loopg [0] (wdt (n - (s.size : Nat))) (fun g t wr => wr = w ∧ ∃ (k : Nat) (u : ByteArray), t = .string u ∧ k + g = wdt (n - (s.size : Nat)) ∧ u.size = k + s.size ∧ Hid (u = run 48 k ++ s))
  case atStart =>
    refine ⟨rfl, 0, s, rfl, Nat.zero_add _, by omega, ?_⟩
    show s = run 48 0 ++ s
    apply ByteArray.ext
    rw [ByteArray.data_append]
    simp [run]
  case round =>
    obtain ⟨rfl, k, u, rfl, hkg, huz, HU⟩ := hrel
    have hwl := wdt_le (n - (s.size : Nat))
    by_cases hlt : (u.size : Int) < n
    · have hk1 : 1 ≤ gk := by unfold wdt at hkg; omega
      have hsum : ¬ 9223372036854775807 < (ByteArray.mk #[48]).size + u.size := by
        have : (ByteArray.mk #[48]).size = 1 := rfl
        omega
      obtain ⟨u2, hu2⟩ : ∃ u2, (ByteArray.mk #[48]) ++ u = u2 := ⟨_, rfl⟩
      have HU2 : Hid (u2 = run 48 (k + 1) ++ s) := by rw [← hu2, HU.out]; exact zero_run k s
      have hz2 : u2.size = k + 1 + s.size := by rw [HU2.out, app_size, run_size]
      clear HU
      generalize wdt (n - (s.size : Nat)) = K at *
      go_wp2
      go_roundg (gk - 1)
      case measure => omega
      case rel => exact ⟨rfl, k + 1, u2, rfl, by omega, hz2, HU2⟩
    · have HF : Hid (u = lenS s n) := by
        have hk0 : k = wdt (n - (s.size : Nat)) := by unfold wdt at hkg ⊢; omega
        show u = lenS s n
        rw [HU.out, hk0]; rfl
      clear hkg
      go_wp2
      go_ret
      rw [HF.out]
      exact ⟨rfl, rfl⟩

theorem upB_nat (x : UInt8) : (Lib.upperB x).toNat = if 97 ≤ x.toNat ∧ x.toNat ≤ 122 then x.toNat - 32 else x.toNat := by
  have : ∀ i : Fin 256, (Lib.upperB (UInt8.ofNat i.val)).toNat = if 97 ≤ i.val ∧ i.val ≤ 122 then i.val - 32 else i.val := by decide +kernel
  have h := this ⟨x.toNat, x.toNat_lt⟩
  simpa using h
theorem great_snoc (acc : List UInt8) (y : UInt8) (c : Int) (hc : c = ((Lib.upperB y).toNat : Nat)) (T : ByteArray) (hT : T = ⟨acc.toArray⟩) : T ++ strOfNums [c] = ⟨(acc ++ [Lib.upperB y]).toArray⟩ := by
  have e : strOfNums [c] = ⟨[Lib.upperB y].toArray⟩ := by
    rw [hc]
    show (⟨#[UInt8.ofNat (((Lib.upperB y).toNat : Nat) : Int).toNat]⟩ : ByteArray) = _
    simp
  rw [e, hT]; exact ba_app acc _
theorem take_up (s : ByteArray) (k : Nat) (h : k < s.size) : Lib.toUpperA (s.data.toList.take (k + 1)) = Lib.toUpperA (s.data.toList.take k) ++ [Lib.upperB (s[k]'h)] := by
  rw [List.take_succ_eq_append_getElem (by rw [list_len]; exact h)]
  unfold Lib.toUpperA
  rw [List.map_append]
  rfl
set_option maxRecDepth 1000000 in
set_option maxHeartbeats 800000 in
theorem egreat_any (s : ByteArray) (w : World) (hs : s.size ≤ 100000) :
    Calls Tryz.prog 64 #[.string s] w fun e w' => e = .returned (.string ⟨(Lib.toUpperA s.data.toList).toArray⟩) ∧ Below w.heap.size w w' := by
  go_enter Tryz.func64, Tryz.ntmps64
  go_wp2
  go_loopg [3, 4] s.size (fun g t i wr => ∃ (k : Nat) (u : ByteArray), t = .string u ∧ i = .int .i64 k ∧ k + g = s.size ∧ u.size = k ∧ Below w.heap.size w wr ∧ Hid (u = ⟨(Lib.toUpperA (s.data.toList.take k)).toArray⟩))
  case atStart => exact ⟨0, ⟨#[]⟩, rfl, rfl, Nat.zero_add _, rfl, Below.refl _ _, rfl⟩
  case round =>
    obtain ⟨k, u, rfl, rfl, hkg, huz, hbl, HU⟩ := hrel
    by_cases hlt : k < s.size
    · have hltI : (k : Int) < s.size := by omega
      have kc := conv1
      have hx : (s[k]'hlt).toNat < 256 := (s[k]'hlt).toNat_lt
      have hup := upB_nat (s[k]'hlt)
      have hsum : ∀ c : Int, ¬ 9223372036854775807 < u.size + (strOfNums [c]).size := fun c => by
        have : (strOfNums [c]).size = 1 := rfl
        omega
      have HS : Hid (∀ c : Int, c = ((Lib.upperB (s[k]'hlt)).toNat : Nat) → u ++ strOfNums [c] = ⟨(Lib.toUpperA (s.data.toList.take (k + 1))).toArray⟩) := fun c hc => by
        rw [take_up s k hlt]
        exact great_snoc _ _ c hc u HU.out
      have HZ : Hid (∀ c : Int, (u ++ strOfNums [c]).size = k + 1) := fun c => by
        have : (strOfNums [c]).size = 1 := rfl
        rw [app_size]; omega
      obtain ⟨x, hx0⟩ : ∃ x, (s[k]'hlt).toNat = x := ⟨_, rfl⟩
      rw [hx0] at hup hx
      have HUP : Hid ((Lib.upperB (s[k]'hlt)).toNat = if 97 ≤ x ∧ x ≤ 122 then x - 32 else x) := hup
      clear hup HU
      have hs1 := hsum ((x : Int) - 32)
      have hs2 := hsum (x : Int)
      clear hsum
      by_cases h1 : 97 ≤ x
      · have h1I : (97 : Int) ≤ x := by omega
        by_cases h2 : x ≤ 122
        · have h2I : (x : Int) ≤ 122 := by omega
          go_wp2
          go_roundg (gk - 1)
          case measure => omega
          case rel =>
            refine ⟨k + 1, _, rfl, by go_num, by omega, HZ.out _, hbl.alloc hbl.size _, HS.out _ ?_⟩
            rw [HUP.out, if_pos ⟨h1, h2⟩]; omega
        · have h2I : ¬ (x : Int) ≤ 122 := by omega
          go_wp2
          go_roundg (gk - 1)
          case measure => omega
          case rel =>
            refine ⟨k + 1, _, rfl, by go_num, by omega, HZ.out _, hbl.alloc hbl.size _, HS.out _ ?_⟩
            rw [HUP.out, if_neg (fun h => h2 h.2)]
      · have h1I : ¬ (97 : Int) ≤ x := by omega
        go_wp2
        go_roundg (gk - 1)
        case measure => omega
        case rel =>
          refine ⟨k + 1, _, rfl, by go_num, by omega, HZ.out _, hbl.alloc hbl.size _, HS.out _ ?_⟩
          rw [HUP.out, if_neg (fun h => h1 h.1)]
    · have hltI : ¬ (k : Int) < s.size := by omega
      have HF : Hid (u = ⟨(Lib.toUpperA s.data.toList).toArray⟩) := by
        show u = _
        rw [HU.out, List.take_of_length_le (by rw [list_len]; omega)]
      go_wp2
      go_ret
      rw [← HF.out]
      exact ⟨rfl, hbl⟩
theorem egreat_dig (b n : Nat) (w : World) (hb : 2 ≤ b) (h16 : b ≤ 16) :
    Calls Tryz.prog 64 #[.string (digT false b n)] w fun e w' => e = .returned (.string (digT true b n)) ∧ Below w.heap.size w w' := by
  have hz := digT_size false b n
  have h := egreat_any (digT false b n) w (by omega)
  have e : (⟨(Lib.toUpperA (digT false b n).data.toList).toArray⟩ : ByteArray) = digT true b n := by
    show (⟨(Lib.toUpperA (digS false b n)).toArray⟩ : ByteArray) = _
    rw [upperA_digS b n (by omega) h16]; rfl
  rw [e] at h
  exact h
end Go.Proofs.YthbabhbfpcfenaaGreatDoor

/- The walk of the document's Plain. -/
namespace Go.Proofs.YthbabhbfpcfenaaGreatDoor
open Go.RowKit
set_option linter.unusedVariables false

end Go.Proofs.YthbabhbfpcfenaaGreatDoor
