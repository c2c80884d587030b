/- The walks of precision and Hex. -/
import Derived.Test.YtdlnmnipnkeabaaGreatDoorPt4
import Derived.Test.YtdlnmnipnkeabaaGreatDoorPt5
import Derived.Deep.RegionWith
import Derived.Deep.QuietTactic
import Derived.BigQuiet
import Derived.Deep.DeepCutAuto
import Derived.Deep.CutBlock
namespace Go.Proofs.YtdlnmnipnkeabaaGreatDoor
open Go.RowKit
set_option linter.unusedVariables false
set_option maxRecDepth 1000000 in
set_option maxHeartbeats 400000 in
theorem prec_any (p mi sh sp z : Bool) (wid prec verb : Int) (w : World) :
  Calls Tryz.prog 132 #[.agg #[.bool p, .bool mi, .bool sh, .bool sp, .bool z, .int .i64 wid, .int .i64 prec, .int .i32 verb]] w fun e w' => e = .returned (.int .i64 (min prec 1000)) ∧ Below w.heap.size w w' := by
 go_enter Tryz.func132, Tryz.ntmps132
 go_wp2
 go_ret
 exact ⟨rfl, (Below.refl _ _).alloc (Nat.le_refl _) _⟩
def hexItem (sh sp g : Bool) (i : Nat) (x : UInt8) : List UInt8 :=
 (if sp = true ∧ 0 < i then [32] else []) ++ (if sh = true ∧ (sp = true ∨ i = 0) then [48, if g then 88 else 120] else []) ++ [hexB g (x.toNat / 16), hexB g (x.toNat % 16)]
def hexGo (sh sp g : Bool) : Nat → List UInt8 → List UInt8
 | _, [] => []
 | i, x :: t => hexItem sh sp g i x ++ hexGo sh sp g (i + 1) t
def cutB (s : ByteArray) (prec : Int) : ByteArray := if 0 ≤ min prec 1000 ∧ min prec 1000 < s.size then s.extract 0 (min prec 1000).toNat else s
theorem hexItem_len (sh sp g : Bool) (i : Nat) (x : UInt8) : (hexItem sh sp g i x).length ≤ 5 := by
 unfold hexItem
 split <;> split <;> simp
def hexS (s : ByteArray) (sh sp g : Bool) (prec : Int) : ByteArray := ⟨(hexGo sh sp g 0 (cutB s prec).data.toList).toArray⟩
theorem hexGo_at (sh sp g : Bool) (u : ByteArray) (i : Nat) (h : i < u.size) : hexGo sh sp g i (u.data.toList.drop i) = hexItem sh sp g i (u[i]'h) ++ hexGo sh sp g (i + 1) (u.data.toList.drop (i + 1)) := by
 have e : u.data.toList.drop i = (u[i]'h) :: u.data.toList.drop (i + 1) := by
  rw [List.drop_eq_getElem_cons (show i < u.data.toList.length by rw [list_len]; exact h)]
  rfl
 rw [e]; rfl
theorem wraps_u8 (n : Int) (h₀ : 0 ≤ n) (h₁ : n < 2 ^ 8) : IntKind.u8.wrap n = n := by
 have e : (2 : Int) ^ 8 = 256 := by decide
 rw [e] at h₁
 unfold IntKind.wrap
 simp [IntKind.bits, IntKind.signed]
 omega
theorem bits8 (x : Nat) (h : x < 256) : bits .and .u8 (x : Int) 15 = ((x % 16 : Nat) : Int) := by
 have e2 : (2 : Int) ^ 8 = 256 := by decide
 have e := bits_mask .u8 8 (by decide) wraps_u8 4 (by decide) (x : Int) (by omega) (by omega)
 have e1 : ((2 : Int) ^ 4 - 1) = 15 := by decide
 have e3 : ((2 : Int) ^ 4) = 16 := by decide
 rw [e1, e3] at e
 rw [e]
 omega
theorem byte_pack (u : ByteArray) (n : Nat) (h : n < u.size) : ∃ x hi lo : Nat, (u[n]'h).toNat = x ∧ hi < 16 ∧ lo < 16 ∧ bits .and .u8 (x : Int) 15 = ((lo : Nat) : Int) ∧ (x : Int) / 16 = (hi : Nat) ∧ Hid (x / 16 = hi ∧ x % 16 = lo) := by
 have hx : (u[n]'h).toNat < 256 := (u[n]'h).toNat_lt
 refine ⟨_, _, _, rfl, ?_, ?_, bits8 _ hx, ?_, ⟨rfl, rfl⟩⟩
 ·omega
 ·omega
 ·omega
def HexD (g : Bool) (D M : ByteArray) : Prop := D.size = 16 ∧ (∀ i (h : i < D.size), (D[i]'h).toNat = hexN g i) ∧ M.data.toList = [48, if g then 88 else 120]
theorem hexD_small : HexD false ⟨#[48, 49, 50, 51, 52, 53, 54, 55, 56, 57, 97, 98, 99, 100, 101, 102]⟩ ⟨#[48, 120]⟩ := ⟨rfl, small_at, rfl⟩
theorem hexD_great : HexD true ⟨#[48, 49, 50, 51, 52, 53, 54, 55, 56, 57, 65, 66, 67, 68, 69, 70]⟩ ⟨#[48, 88]⟩ := ⟨rfl, great_at, rfl⟩
theorem cutB_size (s : ByteArray) (prec : Int) : (cutB s prec).size ≤ s.size := by
 unfold cutB
 split
 ·rw [ByteArray.size_extract]; omega
 ·exact Nat.le_refl _
def preA (sp : Bool) (n : Nat) : List UInt8 := if sp = true ∧ 0 < n then [32] else []
def preB (sh sp g : Bool) (n : Nat) : List UInt8 := if sh = true ∧ (sp = true ∨ n = 0) then [48, if g then 88 else 120] else []
theorem hexItem_parts (sh sp g : Bool) (n hi lo : Nat) (x : UInt8) (h1 : x.toNat / 16 = hi) (h2 : x.toNat % 16 = lo) : hexItem sh sp g n x = preA sp n ++ preB sh sp g n ++ [hexB g hi] ++ [hexB g lo] := by
 unfold hexItem preA preB
 rw [h1, h2]
 simp
set_option linter.unusedSimpArgs false in
set_option maxRecDepth 1000000 in
set_option maxHeartbeats 4000000 in
theorem hex_any (s : ByteArray) (p mi sh sp z : Bool) (wid prec verb : Int) (w : World) (hs : s.size ≤ 100000) :
  Calls Tryz.prog 134 #[.string s, .agg #[.bool p, .bool mi, .bool sh, .bool sp, .bool z, .int .i64 wid, .int .i64 prec, .int .i32 verb]] w fun e w' => e = .returned (.string (padS (hexS s sh sp (decide (verb = 88)) prec) mi z wid)) ∧ Below w.heap.size w w' := by
 have hP := prec_any p mi sh sp z wid prec verb
 have hcs := cutB_size s prec
 have HC0 : Hid (0 ≤ min prec 1000 ∧ min prec 1000 < s.size → s.extract 0 (min prec 1000).toNat = cutB s prec) := fun h => by unfold cutB; rw [if_pos h]
 have HC1 : Hid (¬ (0 ≤ min prec 1000 ∧ min prec 1000 < s.size) → s = cutB s prec) := fun h => by unfold cutB; rw [if_neg h]
 have HU : Hid (hexS s sh sp (decide (verb = 88)) prec = ⟨(hexGo sh sp (decide (verb = 88)) 0 (cutB s prec).data.toList).toArray⟩) := rfl
 obtain ⟨g, hg⟩ : ∃ g, decide (verb = 88) = g := ⟨_, rfl⟩
 rw [hg] at HU ⊢
 generalize hexS s sh sp g prec = hx at *
 generalize min prec 1000 = q at *
 generalize cutB s prec = u at *
 go_enter Tryz.func134, Tryz.ntmps134
 go_upto_if 12 with fail
 go_cut [5, 6] (fun d m wx => ∃ D M, d = .string D ∧ m = .string M ∧ HexD g D M ∧ wx = w.alloc (.cells #[.bool p, .bool mi, .bool sh, .bool sp, .bool z, .int .i64 wid, .int .i64 prec, .int .i32 verb] 113))
 case first =>
  by_cases hv : verb = 88
  ·subst hv
   have hg' : g = true := by rw [← hg]; simp
   subst hg'
   go_wp2
   go_meet
   exact ⟨_, _, rfl, rfl, hexD_great, rfl⟩
  ·have hg' : g = false := by rw [← hg]; simp [hv]
   subst hg'
   go_wp2
   go_meet
   exact ⟨_, _, rfl, rfl, hexD_small, rfl⟩
 case rest =>
  obtain ⟨D, M, rfl, rfl, HD0, rfl⟩ := hcut
  have HD : Hid (HexD g D M) := HD0
  clear HD0 hg
  go_upto_region 5 with (go_at_call 132; refine (hP _).mono ?_; rintro e w1 ⟨rfl, hb1⟩)
  have hB0 : w.heap.size < w1.heap.size := by have := hb1.size; simp at this; omega
  have cc : ∀ k, w1.cell? ⟨w.heap.size, k, none⟩ = _ := fun k => hb1.cell (p := ⟨w.heap.size, k, none⟩) (by simp)
  have d0 : w1.cell? ⟨w.heap.size, 0, none⟩ = some (.bool p) := by rw [cc 0]; simp
  have d1 : w1.cell? ⟨w.heap.size, 1, none⟩ = some (.bool mi) := by rw [cc 1]; simp
  have d2 : w1.cell? ⟨w.heap.size, 2, none⟩ = some (.bool sh) := by rw [cc 2]; simp
  have d3 : w1.cell? ⟨w.heap.size, 3, none⟩ = some (.bool sp) := by rw [cc 3]; simp
  have d4 : w1.cell? ⟨w.heap.size, 4, none⟩ = some (.bool z) := by rw [cc 4]; simp
  have d5 : w1.cell? ⟨w.heap.size, 5, none⟩ = some (.int .i64 wid) := by rw [cc 5]; simp
  have d6 : w1.cell? ⟨w.heap.size, 6, none⟩ = some (.int .i64 prec) := by rw [cc 6]; simp
  have d7 : w1.cell? ⟨w.heap.size, 7, none⟩ = some (.int .i32 verb) := by rw [cc 7]; simp
  have hbw : Below w.heap.size w w1 := ((Below.refl _ _).alloc (Nat.le_refl _) _).trans (hb1.mono (by simp))
  clear cc hb1 hP
  go_cut [22] (fun b wx => wx = w1 ∧ b = .bool (decide (0 ≤ q ∧ q < s.size)))
  case first =>
   by_cases h1 : 0 ≤ q
   ·by_cases h2 : q < s.size
    ·have hd : decide (0 ≤ q ∧ q < s.size) = true := by simp [h1, h2]
     go_wp2
     go_meet
     exact ⟨rfl, by rw [hd]⟩
    ·have hd : decide (0 ≤ q ∧ q < s.size) = false := by simp [h2]
     go_wp2
     go_meet
     exact ⟨rfl, by rw [hd]⟩
   ·have hd : decide (0 ≤ q ∧ q < s.size) = false := by simp [h1]
    go_wp2
    go_meet
    exact ⟨rfl, by rw [hd]⟩
  case rest =>
   obtain ⟨hw1, hb22⟩ := hcut
   subst hw1
   go_upto_if 22 with fail
   go_cut [0] (fun s0 wx => wx = wc ∧ s0 = .string u)
   case first =>
    by_cases h1 : 0 ≤ q ∧ q < s.size
    ·have hd : decide (0 ≤ q ∧ q < s.size) = true := by simp [h1]
     rw [hd] at hb22
     subst hb22
     have hu := HC0.out h1
     obtain ⟨h1a, h1b⟩ := h1
     go_wp2
     go_meet
     exact ⟨rfl, rfl⟩
    ·have hd : decide (0 ≤ q ∧ q < s.size) = false := by simp [h1]
     rw [hd] at hb22
     subst hb22
     have hu := HC1.out h1
     subst hu
     go_wp2
     go_meet
     exact ⟨rfl, rfl⟩
   case rest =>
    obtain ⟨hw2, rfl⟩ := hcut
    subst hw2
    clear hb22 HC0 HC1
    obtain ⟨w1, hw1⟩ : ∃ w1 : World, w1 = wc := ⟨_, rfl⟩
    subst hw1
    have hI0 := Lib.IsBuilderF.of (Lib.fresh_isBuilder 73 5 w1)
    have hMs : M.size = 2 := by rw [← list_len, HD.out.2.2]; rfl
    go_wp2
    go_loopg [28] u.size (fun gg i wr => ∃ (n : Nat) (acc : List UInt8), i = .int .i64 n ∧ n + gg = u.size ∧ Lib.IsBuilderF 73 5 w1.heap.size w1.heap.size (Lib.byteCells acc) wr ∧ Below w1.heap.size w1 wr ∧ acc.length ≤ 5 * n ∧ Hid (acc ++ hexGo sh sp g n (u.data.toList.drop n) = hexGo sh sp g 0 u.data.toList))
    case atStart => exact ⟨0, [], rfl, Nat.zero_add _, hI0, (Below.refl _ _).alloc (Nat.le_refl _) _, by simp, rfl⟩
    case round =>
     obtain ⟨n, acc, rfl, hng, hI, hb, hal, hacc⟩ := hrel
     by_cases hlt : n < u.size
     ·have hns : n < u.size := hlt
      have hnI : (n : Int) < u.size := by omega
      obtain ⟨x, hi, lo, hx0, hhi, hlo, hbt, hsh, HX⟩ := byte_pack u n hns
      have hhi' : hi < D.size := by rw [HD.out.1]; exact hhi
      have hlo' : lo < D.size := by rw [HD.out.1]; exact hlo
      have HV : Hid ((u[n]'hns).toNat / 16 = hi ∧ (u[n]'hns).toNat % 16 = lo) := by rw [hx0]; exact HX
      clear HX
      have c2 := (hb.cell (p := ⟨w.heap.size, 2, none⟩) hB0).trans d2
      have c3 := (hb.cell (p := ⟨w.heap.size, 3, none⟩) hB0).trans d3
      by_cases hcase : sp = false ∧ sh = false ∧ n = 0
      ·obtain ⟨hsp, hshv, hn0⟩ := hcase
       subst hn0
       rw [hshv] at c2
       rw [hsp] at c3
       have HSP : Hid (sp = false) := hsp
       have HSH : Hid (sh = false) := hshv
       clear hsp hshv
       go_wp2_with (first | (go_at_call 159; refine (Tryz.writeByte w1.heap.size w1.heap.size _ _ _ hI (by simp only [List.length_append, Lib.byteCells_length, Lib.strCells_length, List.length_cons, List.length_nil]; omega) hb.size).mono ?_; rintro e w9 ⟨rfl, h9, b9, -⟩; (try rw [HD.out.2.1] at h9); replace hI := (Or.inr h9 : Lib.IsBuilderF 73 5 w1.heap.size w1.heap.size _ w9); replace hb := hb.trans b9; clear h9 b9) | (go_at_call 31; refine (Tryz.writeString w1.heap.size w1.heap.size _ _ _ hI (by simp only [List.length_append, Lib.byteCells_length, Lib.strCells_length, List.length_cons, List.length_nil]; omega) hb.size).mono ?_; rintro e w9 ⟨rfl, h9, b9, -⟩; replace hI := (Or.inr h9 : Lib.IsBuilderF 73 5 w1.heap.size w1.heap.size _ w9); replace hb := hb.trans b9; clear h9 b9))
       go_roundg (gk - 1)
       case measure => omega
       case rel =>
        refine ⟨0 + 1, acc ++ hexItem sh sp g 0 (u[0]'hns), by go_num, by omega, ?_, hb, ?_, ?_⟩
        ·have hpa : preA sp 0 = [] := by rw [HSP.out]; simp [preA]
         have hpb : preB sh sp g 0 = [] := by rw [HSP.out, HSH.out]; simp [preB]
         rw [hexItem_parts sh sp g 0 hi lo _ HV.out.1 HV.out.2, hpa, hpb]
         have : Lib.byteCells (acc ++ ([] ++ [] ++ [hexB g hi] ++ [hexB g lo])) = Lib.byteCells acc ++ [.int .u8 (hexN g hi : Nat)] ++ [.int .u8 (hexN g lo : Nat)] := by
          simp [Lib.byteCells, hexB_nat _ _ hhi, hexB_nat _ _ hlo]
         rw [this]; exact hI
        ·have := hexItem_len sh sp g 0 (u[0]'hns)
         rw [List.length_append]; omega
        ·have := hacc.out
         rw [hexGo_at sh sp g u 0 hns] at this
         show (acc ++ hexItem sh sp g 0 (u[0]'hns)) ++ _ = _
         rw [List.append_assoc]; exact this
      by_cases hcase : sp = false ∧ sh = false ∧ ¬ n = 0
      ·obtain ⟨hsp, hshv, hn0⟩ := hcase
       have hn1 : ¬ (n : Int) = 0 := by omega
       have hn2 : 0 < (n : Int) := by omega
       have hn3 : 0 < n := by omega
       rw [hshv] at c2
       rw [hsp] at c3
       have HSP : Hid (sp = false) := hsp
       have HSH : Hid (sh = false) := hshv
       clear hsp hshv
       go_wp2_with (first | (go_at_call 159; refine (Tryz.writeByte w1.heap.size w1.heap.size _ _ _ hI (by simp only [List.length_append, Lib.byteCells_length, Lib.strCells_length, List.length_cons, List.length_nil]; omega) hb.size).mono ?_; rintro e w9 ⟨rfl, h9, b9, -⟩; (try rw [HD.out.2.1] at h9); replace hI := (Or.inr h9 : Lib.IsBuilderF 73 5 w1.heap.size w1.heap.size _ w9); replace hb := hb.trans b9; clear h9 b9) | (go_at_call 31; refine (Tryz.writeString w1.heap.size w1.heap.size _ _ _ hI (by simp only [List.length_append, Lib.byteCells_length, Lib.strCells_length, List.length_cons, List.length_nil]; omega) hb.size).mono ?_; rintro e w9 ⟨rfl, h9, b9, -⟩; replace hI := (Or.inr h9 : Lib.IsBuilderF 73 5 w1.heap.size w1.heap.size _ w9); replace hb := hb.trans b9; clear h9 b9))
       go_roundg (gk - 1)
       case measure => omega
       case rel =>
        refine ⟨n + 1, acc ++ hexItem sh sp g n (u[n]'hns), by go_num, by omega, ?_, hb, ?_, ?_⟩
        ·have hpa : preA sp n = [] := by rw [HSP.out]; simp [preA, hn3]
         have hpb : preB sh sp g n = [] := by rw [HSP.out, HSH.out]; simp [preB, hn0]
         rw [hexItem_parts sh sp g n hi lo _ HV.out.1 HV.out.2, hpa, hpb]
         have : Lib.byteCells (acc ++ ([] ++ [] ++ [hexB g hi] ++ [hexB g lo])) = Lib.byteCells acc ++ [.int .u8 (hexN g hi : Nat)] ++ [.int .u8 (hexN g lo : Nat)] := by
          simp [Lib.byteCells, hexB_nat _ _ hhi, hexB_nat _ _ hlo]
         rw [this]; exact hI
        ·have := hexItem_len sh sp g n (u[n]'hns)
         rw [List.length_append]; omega
        ·have := hacc.out
         rw [hexGo_at sh sp g u n hns] at this
         show (acc ++ hexItem sh sp g n (u[n]'hns)) ++ _ = _
         rw [List.append_assoc]; exact this
      by_cases hcase : sp = false ∧ sh = true ∧ n = 0
      ·obtain ⟨hsp, hshv, hn0⟩ := hcase
       subst hn0
       rw [hshv] at c2
       rw [hsp] at c3
       have HSP : Hid (sp = false) := hsp
       have HSH : Hid (sh = true) := hshv
       clear hsp hshv
       go_wp2_with (first | (go_at_call 159; refine (Tryz.writeByte w1.heap.size w1.heap.size _ _ _ hI (by simp only [List.length_append, Lib.byteCells_length, Lib.strCells_length, List.length_cons, List.length_nil]; omega) hb.size).mono ?_; rintro e w9 ⟨rfl, h9, b9, -⟩; (try rw [HD.out.2.1] at h9); replace hI := (Or.inr h9 : Lib.IsBuilderF 73 5 w1.heap.size w1.heap.size _ w9); replace hb := hb.trans b9; clear h9 b9) | (go_at_call 31; refine (Tryz.writeString w1.heap.size w1.heap.size _ _ _ hI (by simp only [List.length_append, Lib.byteCells_length, Lib.strCells_length, List.length_cons, List.length_nil]; omega) hb.size).mono ?_; rintro e w9 ⟨rfl, h9, b9, -⟩; replace hI := (Or.inr h9 : Lib.IsBuilderF 73 5 w1.heap.size w1.heap.size _ w9); replace hb := hb.trans b9; clear h9 b9))
       go_roundg (gk - 1)
       case measure => omega
       case rel =>
        refine ⟨0 + 1, acc ++ hexItem sh sp g 0 (u[0]'hns), by go_num, by omega, ?_, hb, ?_, ?_⟩
        ·have hpa : preA sp 0 = [] := by rw [HSP.out]; simp [preA]
         have hpb : preB sh sp g 0 = [48, if g then 88 else 120] := by rw [HSP.out, HSH.out]; simp [preB]
         rw [hexItem_parts sh sp g 0 hi lo _ HV.out.1 HV.out.2, hpa, hpb]
         have : Lib.byteCells (acc ++ ([] ++ [48, if g then 88 else 120] ++ [hexB g hi] ++ [hexB g lo])) = Lib.byteCells acc ++ Lib.strCells M ++ [.int .u8 (hexN g hi : Nat)] ++ [.int .u8 (hexN g lo : Nat)] := by
          rw [str_cells', HD.out.2.2]; simp [Lib.byteCells, hexB_nat _ _ hhi, hexB_nat _ _ hlo]
         rw [this]; exact hI
        ·have := hexItem_len sh sp g 0 (u[0]'hns)
         rw [List.length_append]; omega
        ·have := hacc.out
         rw [hexGo_at sh sp g u 0 hns] at this
         show (acc ++ hexItem sh sp g 0 (u[0]'hns)) ++ _ = _
         rw [List.append_assoc]; exact this
      by_cases hcase : sp = false ∧ sh = true ∧ ¬ n = 0
      ·obtain ⟨hsp, hshv, hn0⟩ := hcase
       have hn1 : ¬ (n : Int) = 0 := by omega
       have hn2 : 0 < (n : Int) := by omega
       have hn3 : 0 < n := by omega
       rw [hshv] at c2
       rw [hsp] at c3
       have HSP : Hid (sp = false) := hsp
       have HSH : Hid (sh = true) := hshv
       clear hsp hshv
       go_wp2_with (first | (go_at_call 159; refine (Tryz.writeByte w1.heap.size w1.heap.size _ _ _ hI (by simp only [List.length_append, Lib.byteCells_length, Lib.strCells_length, List.length_cons, List.length_nil]; omega) hb.size).mono ?_; rintro e w9 ⟨rfl, h9, b9, -⟩; (try rw [HD.out.2.1] at h9); replace hI := (Or.inr h9 : Lib.IsBuilderF 73 5 w1.heap.size w1.heap.size _ w9); replace hb := hb.trans b9; clear h9 b9) | (go_at_call 31; refine (Tryz.writeString w1.heap.size w1.heap.size _ _ _ hI (by simp only [List.length_append, Lib.byteCells_length, Lib.strCells_length, List.length_cons, List.length_nil]; omega) hb.size).mono ?_; rintro e w9 ⟨rfl, h9, b9, -⟩; replace hI := (Or.inr h9 : Lib.IsBuilderF 73 5 w1.heap.size w1.heap.size _ w9); replace hb := hb.trans b9; clear h9 b9))
       go_roundg (gk - 1)
       case measure => omega
       case rel =>
        refine ⟨n + 1, acc ++ hexItem sh sp g n (u[n]'hns), by go_num, by omega, ?_, hb, ?_, ?_⟩
        ·have hpa : preA sp n = [] := by rw [HSP.out]; simp [preA, hn3]
         have hpb : preB sh sp g n = [] := by rw [HSP.out, HSH.out]; simp [preB, hn0]
         rw [hexItem_parts sh sp g n hi lo _ HV.out.1 HV.out.2, hpa, hpb]
         have : Lib.byteCells (acc ++ ([] ++ [] ++ [hexB g hi] ++ [hexB g lo])) = Lib.byteCells acc ++ [.int .u8 (hexN g hi : Nat)] ++ [.int .u8 (hexN g lo : Nat)] := by
          simp [Lib.byteCells, hexB_nat _ _ hhi, hexB_nat _ _ hlo]
         rw [this]; exact hI
        ·have := hexItem_len sh sp g n (u[n]'hns)
         rw [List.length_append]; omega
        ·have := hacc.out
         rw [hexGo_at sh sp g u n hns] at this
         show (acc ++ hexItem sh sp g n (u[n]'hns)) ++ _ = _
         rw [List.append_assoc]; exact this
      by_cases hcase : sp = true ∧ sh = false ∧ n = 0
      ·obtain ⟨hsp, hshv, hn0⟩ := hcase
       subst hn0
       rw [hshv] at c2
       rw [hsp] at c3
       have HSP : Hid (sp = true) := hsp
       have HSH : Hid (sh = false) := hshv
       clear hsp hshv
       go_wp2_with (first | (go_at_call 159; refine (Tryz.writeByte w1.heap.size w1.heap.size _ _ _ hI (by simp only [List.length_append, Lib.byteCells_length, Lib.strCells_length, List.length_cons, List.length_nil]; omega) hb.size).mono ?_; rintro e w9 ⟨rfl, h9, b9, -⟩; (try rw [HD.out.2.1] at h9); replace hI := (Or.inr h9 : Lib.IsBuilderF 73 5 w1.heap.size w1.heap.size _ w9); replace hb := hb.trans b9; clear h9 b9) | (go_at_call 31; refine (Tryz.writeString w1.heap.size w1.heap.size _ _ _ hI (by simp only [List.length_append, Lib.byteCells_length, Lib.strCells_length, List.length_cons, List.length_nil]; omega) hb.size).mono ?_; rintro e w9 ⟨rfl, h9, b9, -⟩; replace hI := (Or.inr h9 : Lib.IsBuilderF 73 5 w1.heap.size w1.heap.size _ w9); replace hb := hb.trans b9; clear h9 b9))
       go_roundg (gk - 1)
       case measure => omega
       case rel =>
        refine ⟨0 + 1, acc ++ hexItem sh sp g 0 (u[0]'hns), by go_num, by omega, ?_, hb, ?_, ?_⟩
        ·have hpa : preA sp 0 = [] := by rw [HSP.out]; simp [preA]
         have hpb : preB sh sp g 0 = [] := by rw [HSP.out, HSH.out]; simp [preB]
         rw [hexItem_parts sh sp g 0 hi lo _ HV.out.1 HV.out.2, hpa, hpb]
         have : Lib.byteCells (acc ++ ([] ++ [] ++ [hexB g hi] ++ [hexB g lo])) = Lib.byteCells acc ++ [.int .u8 (hexN g hi : Nat)] ++ [.int .u8 (hexN g lo : Nat)] := by
          simp [Lib.byteCells, hexB_nat _ _ hhi, hexB_nat _ _ hlo]
         rw [this]; exact hI
        ·have := hexItem_len sh sp g 0 (u[0]'hns)
         rw [List.length_append]; omega
        ·have := hacc.out
         rw [hexGo_at sh sp g u 0 hns] at this
         show (acc ++ hexItem sh sp g 0 (u[0]'hns)) ++ _ = _
         rw [List.append_assoc]; exact this
      by_cases hcase : sp = true ∧ sh = false ∧ ¬ n = 0
      ·obtain ⟨hsp, hshv, hn0⟩ := hcase
       have hn1 : ¬ (n : Int) = 0 := by omega
       have hn2 : 0 < (n : Int) := by omega
       have hn3 : 0 < n := by omega
       rw [hshv] at c2
       rw [hsp] at c3
       have HSP : Hid (sp = true) := hsp
       have HSH : Hid (sh = false) := hshv
       clear hsp hshv
       go_upto_region 13 with (go_at_call 159; refine (Tryz.writeByte w1.heap.size w1.heap.size _ _ _ hI (by simp only [List.length_append, Lib.byteCells_length, Lib.strCells_length, List.length_cons, List.length_nil]; omega) hb.size).mono ?_; rintro e w9 ⟨rfl, h9, b9, -⟩; (try rw [HD.out.2.1] at h9); replace hI := (Or.inr h9 : Lib.IsBuilderF 73 5 w1.heap.size w1.heap.size _ w9); replace hb := hb.trans b9; clear h9 b9)
       have c2' := (hb.cell (p := ⟨w.heap.size, 2, none⟩) hB0).trans d2
       have c3' := (hb.cell (p := ⟨w.heap.size, 3, none⟩) hB0).trans d3
       rw [HSH.out] at c2'
       rw [HSP.out] at c3'
       go_wp2_with (first | (go_at_call 159; refine (Tryz.writeByte w1.heap.size w1.heap.size _ _ _ hI (by simp only [List.length_append, Lib.byteCells_length, Lib.strCells_length, List.length_cons, List.length_nil]; omega) hb.size).mono ?_; rintro e w9 ⟨rfl, h9, b9, -⟩; (try rw [HD.out.2.1] at h9); replace hI := (Or.inr h9 : Lib.IsBuilderF 73 5 w1.heap.size w1.heap.size _ w9); replace hb := hb.trans b9; clear h9 b9) | (go_at_call 31; refine (Tryz.writeString w1.heap.size w1.heap.size _ _ _ hI (by simp only [List.length_append, Lib.byteCells_length, Lib.strCells_length, List.length_cons, List.length_nil]; omega) hb.size).mono ?_; rintro e w9 ⟨rfl, h9, b9, -⟩; replace hI := (Or.inr h9 : Lib.IsBuilderF 73 5 w1.heap.size w1.heap.size _ w9); replace hb := hb.trans b9; clear h9 b9))
       go_roundg (gk - 1)
       case measure => omega
       case rel =>
        refine ⟨n + 1, acc ++ hexItem sh sp g n (u[n]'hns), by go_num, by omega, ?_, hb, ?_, ?_⟩
        ·have hpa : preA sp n = [32] := by rw [HSP.out]; simp [preA, hn3]
         have hpb : preB sh sp g n = [] := by rw [HSP.out, HSH.out]; simp [preB, hn0]
         rw [hexItem_parts sh sp g n hi lo _ HV.out.1 HV.out.2, hpa, hpb]
         have : Lib.byteCells (acc ++ ([32] ++ [] ++ [hexB g hi] ++ [hexB g lo])) = Lib.byteCells acc ++ [.int .u8 32] ++ [.int .u8 (hexN g hi : Nat)] ++ [.int .u8 (hexN g lo : Nat)] := by
          simp [Lib.byteCells, hexB_nat _ _ hhi, hexB_nat _ _ hlo]
         rw [this]; exact hI
        ·have := hexItem_len sh sp g n (u[n]'hns)
         rw [List.length_append]; omega
        ·have := hacc.out
         rw [hexGo_at sh sp g u n hns] at this
         show (acc ++ hexItem sh sp g n (u[n]'hns)) ++ _ = _
         rw [List.append_assoc]; exact this
      by_cases hcase : sp = true ∧ sh = true ∧ n = 0
      ·obtain ⟨hsp, hshv, hn0⟩ := hcase
       subst hn0
       rw [hshv] at c2
       rw [hsp] at c3
       have HSP : Hid (sp = true) := hsp
       have HSH : Hid (sh = true) := hshv
       clear hsp hshv
       go_wp2_with (first | (go_at_call 159; refine (Tryz.writeByte w1.heap.size w1.heap.size _ _ _ hI (by simp only [List.length_append, Lib.byteCells_length, Lib.strCells_length, List.length_cons, List.length_nil]; omega) hb.size).mono ?_; rintro e w9 ⟨rfl, h9, b9, -⟩; (try rw [HD.out.2.1] at h9); replace hI := (Or.inr h9 : Lib.IsBuilderF 73 5 w1.heap.size w1.heap.size _ w9); replace hb := hb.trans b9; clear h9 b9) | (go_at_call 31; refine (Tryz.writeString w1.heap.size w1.heap.size _ _ _ hI (by simp only [List.length_append, Lib.byteCells_length, Lib.strCells_length, List.length_cons, List.length_nil]; omega) hb.size).mono ?_; rintro e w9 ⟨rfl, h9, b9, -⟩; replace hI := (Or.inr h9 : Lib.IsBuilderF 73 5 w1.heap.size w1.heap.size _ w9); replace hb := hb.trans b9; clear h9 b9))
       go_roundg (gk - 1)
       case measure => omega
       case rel =>
        refine ⟨0 + 1, acc ++ hexItem sh sp g 0 (u[0]'hns), by go_num, by omega, ?_, hb, ?_, ?_⟩
        ·have hpa : preA sp 0 = [] := by rw [HSP.out]; simp [preA]
         have hpb : preB sh sp g 0 = [48, if g then 88 else 120] := by rw [HSP.out, HSH.out]; simp [preB]
         rw [hexItem_parts sh sp g 0 hi lo _ HV.out.1 HV.out.2, hpa, hpb]
         have : Lib.byteCells (acc ++ ([] ++ [48, if g then 88 else 120] ++ [hexB g hi] ++ [hexB g lo])) = Lib.byteCells acc ++ Lib.strCells M ++ [.int .u8 (hexN g hi : Nat)] ++ [.int .u8 (hexN g lo : Nat)] := by
          rw [str_cells', HD.out.2.2]; simp [Lib.byteCells, hexB_nat _ _ hhi, hexB_nat _ _ hlo]
         rw [this]; exact hI
        ·have := hexItem_len sh sp g 0 (u[0]'hns)
         rw [List.length_append]; omega
        ·have := hacc.out
         rw [hexGo_at sh sp g u 0 hns] at this
         show (acc ++ hexItem sh sp g 0 (u[0]'hns)) ++ _ = _
         rw [List.append_assoc]; exact this
      by_cases hcase : sp = true ∧ sh = true ∧ ¬ n = 0
      ·obtain ⟨hsp, hshv, hn0⟩ := hcase
       have hn1 : ¬ (n : Int) = 0 := by omega
       have hn2 : 0 < (n : Int) := by omega
       have hn3 : 0 < n := by omega
       rw [hshv] at c2
       rw [hsp] at c3
       have HSP : Hid (sp = true) := hsp
       have HSH : Hid (sh = true) := hshv
       clear hsp hshv
       go_upto_region 13 with (go_at_call 159; refine (Tryz.writeByte w1.heap.size w1.heap.size _ _ _ hI (by simp only [List.length_append, Lib.byteCells_length, Lib.strCells_length, List.length_cons, List.length_nil]; omega) hb.size).mono ?_; rintro e w9 ⟨rfl, h9, b9, -⟩; (try rw [HD.out.2.1] at h9); replace hI := (Or.inr h9 : Lib.IsBuilderF 73 5 w1.heap.size w1.heap.size _ w9); replace hb := hb.trans b9; clear h9 b9)
       have c2' := (hb.cell (p := ⟨w.heap.size, 2, none⟩) hB0).trans d2
       have c3' := (hb.cell (p := ⟨w.heap.size, 3, none⟩) hB0).trans d3
       rw [HSH.out] at c2'
       rw [HSP.out] at c3'
       go_wp2_with (first | (go_at_call 159; refine (Tryz.writeByte w1.heap.size w1.heap.size _ _ _ hI (by simp only [List.length_append, Lib.byteCells_length, Lib.strCells_length, List.length_cons, List.length_nil]; omega) hb.size).mono ?_; rintro e w9 ⟨rfl, h9, b9, -⟩; (try rw [HD.out.2.1] at h9); replace hI := (Or.inr h9 : Lib.IsBuilderF 73 5 w1.heap.size w1.heap.size _ w9); replace hb := hb.trans b9; clear h9 b9) | (go_at_call 31; refine (Tryz.writeString w1.heap.size w1.heap.size _ _ _ hI (by simp only [List.length_append, Lib.byteCells_length, Lib.strCells_length, List.length_cons, List.length_nil]; omega) hb.size).mono ?_; rintro e w9 ⟨rfl, h9, b9, -⟩; replace hI := (Or.inr h9 : Lib.IsBuilderF 73 5 w1.heap.size w1.heap.size _ w9); replace hb := hb.trans b9; clear h9 b9))
       go_roundg (gk - 1)
       case measure => omega
       case rel =>
        refine ⟨n + 1, acc ++ hexItem sh sp g n (u[n]'hns), by go_num, by omega, ?_, hb, ?_, ?_⟩
        ·have hpa : preA sp n = [32] := by rw [HSP.out]; simp [preA, hn3]
         have hpb : preB sh sp g n = [48, if g then 88 else 120] := by rw [HSP.out, HSH.out]; simp [preB, hn0]
         rw [hexItem_parts sh sp g n hi lo _ HV.out.1 HV.out.2, hpa, hpb]
         have : Lib.byteCells (acc ++ ([32] ++ [48, if g then 88 else 120] ++ [hexB g hi] ++ [hexB g lo])) = Lib.byteCells acc ++ [.int .u8 32] ++ Lib.strCells M ++ [.int .u8 (hexN g hi : Nat)] ++ [.int .u8 (hexN g lo : Nat)] := by
          rw [str_cells', HD.out.2.2]; simp [Lib.byteCells, hexB_nat _ _ hhi, hexB_nat _ _ hlo]
         rw [this]; exact hI
        ·have := hexItem_len sh sp g n (u[n]'hns)
         rw [List.length_append]; omega
        ·have := hacc.out
         rw [hexGo_at sh sp g u n hns] at this
         show (acc ++ hexItem sh sp g n (u[n]'hns)) ++ _ = _
         rw [List.append_assoc]; exact this
      exfalso
      rename_i k1 k2 k3 k4 k5 k6 k7 k8
      rcases Nat.decEq n 0 with hn | hn <;> cases hsp : sp <;> cases hsv : sh <;> simp_all
     ·have hnI : ¬ (n : Int) < u.size := by omega
      have HF : Hid (acc = hexGo sh sp g 0 u.data.toList) := by
       have := hacc.out
       rw [show u.data.toList.drop n = [] from List.drop_eq_nil_of_le (by rw [list_len]; omega)] at this
       show acc = _
       rw [← this]
       simp [hexGo]
      have hPd : ∀ w, Calls Tryz.prog 129 #[.string ⟨acc.toArray⟩, .agg #[.bool p, .bool mi, .bool sh, .bool sp, .bool z, .int .i64 wid, .int .i64 prec, .int .i32 verb]] w fun e w' => e = .returned (.string (padS ⟨acc.toArray⟩ mi z wid)) ∧ Below w.heap.size w w' := fun w => pad_any _ p mi sh sp z wid prec _ w (by show acc.toArray.size ≤ 1000000; simp; omega)
      clear hacc
      obtain ⟨rr, hrr⟩ : ∃ rr, padS ⟨acc.toArray⟩ mi z wid = rr := ⟨_, rfl⟩
      rw [hrr] at hPd
      have HRR : Hid (padS ⟨acc.toArray⟩ mi z wid = rr) := hrr
      clear hrr
      have c0 := (hb.cell (p := ⟨w.heap.size, 0, none⟩) hB0).trans d0
      have c1 := (hb.cell (p := ⟨w.heap.size, 1, none⟩) hB0).trans d1
      have c2 := (hb.cell (p := ⟨w.heap.size, 2, none⟩) hB0).trans d2
      have c3 := (hb.cell (p := ⟨w.heap.size, 3, none⟩) hB0).trans d3
      have c4 := (hb.cell (p := ⟨w.heap.size, 4, none⟩) hB0).trans d4
      have c5 := (hb.cell (p := ⟨w.heap.size, 5, none⟩) hB0).trans d5
      have c6 := (hb.cell (p := ⟨w.heap.size, 6, none⟩) hB0).trans d6
      have c7 := (hb.cell (p := ⟨w.heap.size, 7, none⟩) hB0).trans d7
      go_wp2
      go_region_with (first | (go_at_call 32; refine (Tryz.builderString w1.heap.size w1.heap.size acc _ (by exact hI) (by exact hb.size)).mono ?_; rintro e w5 ⟨rfl, -, hb5, -⟩; have e0 := (hb5.cell (p := ⟨w.heap.size, 0, none⟩) hB0).trans c0; have e1 := (hb5.cell (p := ⟨w.heap.size, 1, none⟩) hB0).trans c1; have e2 := (hb5.cell (p := ⟨w.heap.size, 2, none⟩) hB0).trans c2; have e3 := (hb5.cell (p := ⟨w.heap.size, 3, none⟩) hB0).trans c3; have e4 := (hb5.cell (p := ⟨w.heap.size, 4, none⟩) hB0).trans c4; have e5 := (hb5.cell (p := ⟨w.heap.size, 5, none⟩) hB0).trans c5; have e6 := (hb5.cell (p := ⟨w.heap.size, 6, none⟩) hB0).trans c6; have e7 := (hb5.cell (p := ⟨w.heap.size, 7, none⟩) hB0).trans c7) | (go_at_call 129; refine (hPd _).mono ?_; rintro e w7 ⟨rfl, hb7⟩))
      all_goals go_wp2
      all_goals go_ret
      all_goals rw [HU.out, ← HF.out, HRR.out]
      all_goals refine ⟨rfl, ?_⟩
      all_goals have hb5' := hb.drew.trans hb5
      all_goals exact hbw.trans ((hb5'.mono (Nat.le_of_lt hB0)).trans (hb7.mono (Nat.le_trans (Nat.le_of_lt hB0) hb5'.size)))
end Go.Proofs.YtdlnmnipnkeabaaGreatDoor
