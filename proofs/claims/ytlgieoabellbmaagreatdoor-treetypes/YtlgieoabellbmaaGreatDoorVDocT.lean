/- The document's Type. -/
import Derived.Test.YtlgieoabellbmaaGreatDoorPt10
import Derived.Deep.DeepCutAuto
import Derived.Deep.CutBlock
namespace Go.Proofs.YtlgieoabellbmaaGreatDoor
open Go.RowKit
set_option linter.unusedVariables false
set_option linter.unusedSimpArgs false
set_option maxRecDepth 1000000 in
set_option maxHeartbeats 4000000 in
theorem otype_given (d : D) (na pa : Option Addr) (nl nc pl pc : Nat) (w : World) (hs : 0 < d.ty.size) :
  Calls Tryz.prog 14 #[DV d (.slice na nl nc) (.slice pa pl pc)] w fun e w' => e = .returned (.string d.ty) ∧ Below w.heap.size w w' := by
 have hne : ¬ d.ty.toList = [] := by
  rw [Lib.toList_data]
  intro e
  have := congrArg List.length e
  rw [len_sz, List.length_nil] at this
  omega
 have hie : d.ty.toList.isEmpty = false := by simpa using hne
 go_enter Tryz.func14, Tryz.ntmps14
 go_wp2
 go_ret
 exact ⟨rfl, (Below.refl _ _).alloc (Nat.le_refl _) _⟩
set_option maxRecDepth 1000000 in
set_option maxHeartbeats 4000000 in
theorem otype_own (k : Nat) (bits imag hook : Int) (text s : ByteArray) (names : List ByteArray) (parts : List D) (na pa : Option Addr) (nl nc pl pc : Nat) (w : World) (hs : kindN[k]? = some s) :
  Calls Tryz.prog 14 #[DV ⟨k, ⟨#[]⟩, bits, imag, text, names, parts, hook⟩ (.slice na nl nc) (.slice pa pl pc)] w fun e w' => e = .returned (.string s) ∧ Below w.heap.size w w' := by
 have hlt : k < 23 := by
  have := (List.getElem?_eq_some_iff.1 hs).1
  simpa [kindN] using this
 have hltI : (k : Int) < 23 := by omega
 obtain ⟨W3, hW3⟩ : ∃ W3, W3 = (w.alloc (.cells #[.int .i64 k, .string ⟨#[]⟩, .int .u64 bits, .int .u64 imag, .string text, .slice na nl nc, .slice pa pl pc, .int .i64 hook] 26)).alloc (.cells (kindN.map Value.string).toArray 9) := ⟨_, rfl⟩
 have hbW : Below w.heap.size w W3 := by rw [hW3]; exact ((Below.refl _ _).alloc (Nat.le_refl _) _).alloc (by simp) _
 have h0 : W3.cell? ⟨w.heap.size, 0, none⟩ = some (.int .i64 k) := by rw [hW3]; simp [go_sem]
 have hc : W3.cell? ⟨w.heap.size + 1, k, none⟩ = some (.string s) := by rw [hW3]; simp [go_sem, hs]
 clear hs
 go_enter Tryz.func14, Tryz.ntmps14
 go_upto_region 4 with fail
 change Code.wp _ _ _ _ ((w.alloc (.cells #[.int .i64 k, .string ⟨#[]⟩, .int .u64 bits, .int .u64 imag, .string text, .slice na nl nc, .slice pa pl pc, .int .i64 hook] 26)).alloc (.cells (kindN.map Value.string).toArray 9))
 rw [← hW3]
 clear hW3
 go_wp2
 go_ret
 exact ⟨rfl, hbW⟩
theorem otype_any (d : D) (na pa : Option Addr) (nl nc pl pc : Nat) (w : World) (s : ByteArray) (hs : if d.ty.size = 0 then 0 ≤ d.kind ∧ kindN[d.kind.toNat]? = some s else s = d.ty) :
  Calls Tryz.prog 14 #[DV d (.slice na nl nc) (.slice pa pl pc)] w fun e w' => e = .returned (.string s) ∧ Below w.heap.size w w' := by
 by_cases h : d.ty.size = 0
 ·rw [if_pos h] at hs
  obtain ⟨kind, ty, bits, imag, text, names, parts, hook⟩ := d
  simp only at h hs ⊢
  obtain ⟨k, rfl⟩ : ∃ k : Nat, kind = k := ⟨kind.toNat, by omega⟩
  have e : ty = ⟨#[]⟩ := ByteArray.size_eq_zero_iff.1 h
  subst e
  exact otype_own k bits imag hook text s names parts na pa nl nc pl pc w (by simpa using hs.2)
 ·rw [if_neg h] at hs
  subst hs
  exact otype_given d na pa nl nc pl pc w (by omega)
end Go.Proofs.YtlgieoabellbmaaGreatDoor
