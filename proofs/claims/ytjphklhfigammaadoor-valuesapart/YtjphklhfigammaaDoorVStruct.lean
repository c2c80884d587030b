/- Names that are there twice; names that are copied. -/
import Derived.Test.YtjphklhfigammaaDoorVMadeQ
import Derived.Test.YtjphklhfigammaaDoorShelf
namespace Go.Proofs.YtjphklhfigammaaDoor
open Go.RowKit Go.Lib
set_option linter.unusedVariables false
set_option linter.unusedSimpArgs false

/-- Stands the name at a place there already; is one of the first k there twice; one of all? -/
def dupAt (l : List ByteArray) (i : Nat) : Bool := match l[i]? with | some x => (l.take i).any (fun y => x.toList == y.toList) | none => false
def dupTo (l : List ByteArray) (k : Nat) : Bool := (List.range k).any (dupAt l)
def dupN (l : List ByteArray) : Bool := dupTo l l.length
theorem dupTo_succ (l : List ByteArray) (k : Nat) : dupTo l (k + 1) = (dupTo l k || dupAt l k) := by
  unfold dupTo; rw [List.range_succ]; simp
theorem dupTo_bad (l : List ByteArray) (k n : Nat) (hk : k < n) (h : dupAt l k = true) : dupTo l n = true :=
  List.any_eq_true.2 ⟨k, List.mem_range.2 hk, h⟩
theorem getBang (l : List ByteArray) (i : Nat) (x : ByteArray) (h : l[i]? = some x) : l[i]! = x := by
  rw [List.getElem!_eq_getElem?_getD, h]; rfl
set_option maxRecDepth 1000000 in
set_option maxHeartbeats 4000000 in
theorem anytwice_any (names : List ByteArray) (nv : Value) (w : World) (hs : Strs w nv names) :
    Calls Tryd.prog 51 #[nv] w fun e w' => e = .returned (.bool (dupN names)) ∧ w' = w := by
  obtain ⟨a, cap, rfl, hl1, hl2, hcell⟩ := hs
  unfold maxLen at hl2
  go_enter Tryd.func51, Tryd.ntmps51
  go_wp2
  go_loopg [3, 4, 7] names.length (fun g z0 z1 i wr => wr = w ∧ ∃ k : Nat, i = .int .i64 k ∧ k + g = names.length ∧ Hid (dupTo names k = false))
  case atStart => exact ⟨rfl, 0, rfl, Nat.zero_add _, rfl⟩
  case round =>
    obtain ⟨rfl, k, rfl, hkg, HA⟩ := hrel
    by_cases hlt : k < names.length
    · have hltI : (k : Int) < names.length := by omega
      obtain ⟨s, hs⟩ : ∃ s, names[k]? = some s := ⟨names[k], List.getElem?_eq_getElem hlt⟩
      obtain ⟨-, b, off, rfl, hc⟩ := hcell k s hs
      have hall : ∀ j, j < names.length → wr.cell? ⟨b, off + j, none⟩ = some (.string names[j]!) := by
        intro j hj
        obtain ⟨-, b', off', he, hc'⟩ := hcell j names[j] (List.getElem?_eq_getElem hj)
        have he := Option.some.inj he
        cases he
        rw [getBang names j names[j] (List.getElem?_eq_getElem hj)]
        exact hc'
      have hcon := Tryd.slices_Contains (α := ByteArray) Value.string _ (EqlAt.string _ _) b off k cap names s wr (by omega) (by omega) hall
      have HD : Hid (dupAt names k = (names.take k).any (fun y => s.toList == y.toList)) := by show dupAt names k = _; unfold dupAt; rw [hs]
      have HN : Hid (dupTo names (k + 1) = (dupTo names k || dupAt names k)) := dupTo_succ names k
      have HB : Hid (dupAt names k = true → dupN names = true) := dupTo_bad names k _ hlt
      have hkc : k ≤ cap := by omega
      clear hcell hs hall
      generalize (names.take k).any (fun y => s.toList == y.toList) = q at hcon HD
      cases q with
      | true =>
        go_wp2_with (go_at_call 68; refine hcon.mono ?_; rintro e w1 ⟨rfl, hw⟩; subst hw)
        go_ret
        rw [HB.out HD.out]
        exact ⟨rfl, rfl⟩
      | false =>
        go_wp2_with (go_at_call 68; refine hcon.mono ?_; rintro e w1 ⟨rfl, hw⟩; subst hw)
        go_roundg (gk - 1)
        case measure => omega
        case rel => exact ⟨rfl, k + 1, by go_num, by omega, by show _ = _; rw [HN.out, HA.out, HD.out]; rfl⟩
    · have hltI : ¬ (k : Int) < names.length := by omega
      have HF : Hid (dupN names = false) := by
        have := HA.out
        rw [show k = names.length by omega] at this
        exact this
      go_wp2
      go_ret
      rw [HF.out]
      exact ⟨rfl, rfl⟩
end Go.Proofs.YtjphklhfigammaaDoor
