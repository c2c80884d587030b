/- What the laws of layer 6 share: sized, what a padded text is. -/
import Derived.Test.YtkeoafidgfmhlabGreatDoorFLive
namespace Go.Proofs.YtkeoafidgfmhlabGreatDoor
open Go.RowKit
set_option linter.unusedVariables false
set_option linter.unusedSimpArgs false

abbrev Si6 (b : Bool) (n : Int) : Prop := ∀ w, Calls Tryz.prog 9 #[.bool b] w fun e w' => e = .returned (.int .i64 n) ∧ w' = w
set_option maxRecDepth 1000000 in
theorem sized6_any (b : Bool) : Si6 b (if b then 64 else 32) := fun w => by
  cases b <;>
  · go_enter Tryz.func9, Tryz.ntmps9
    go_wp2
    go_ret
    exact ⟨rfl, rfl⟩
/-- The runes of plain bytes are their bytes. -/
theorem cnt_asc (s : ByteArray) (h : Asc s) : cntR s = s.size := by
  have key : ∀ (k p : Nat), p + k = s.size → cntFrom s p = k := by
    intro k
    induction k with
    | zero => intro p hp; exact cntFrom_end s p (by omega)
    | succ k ih =>
      intro p hp
      have hb : bt s p < 128 := by
        rw [← bt_at s p (by omega)]
        exact h _ (List.getElem_mem (by rw [list_len]; omega))
      rw [cntFrom_step s p (by omega), dec_ascii s p hb, ih (p + 1) (by omega)]; omega
  unfold cntR
  exact key s.size 0 (by omega)
theorem asc_sgF (neg p sp : Bool) : Asc (sgF neg p sp) := by
  cases neg <;> cases p <;> cases sp
  all_goals first | exact Asc.lit (l := []) (by decide) | exact Asc.lit (l := [45]) (by decide) | exact Asc.lit (l := [43]) (by decide) | exact Asc.lit (l := [32]) (by decide)
theorem asc_sgI (neg p sp : Bool) : Asc (sgI neg p sp) := by
  cases neg <;> cases p <;> cases sp
  all_goals first | exact Asc.lit (l := [45]) (by decide) | exact Asc.lit (l := [43]) (by decide) | exact Asc.lit (l := [32]) (by decide)
theorem asc_big {g : Bool} {s : ByteArray} (h : Asc s) : Asc (bigT g s) := by
  unfold bigT
  split
  · intro x hx
    have hx' : x ∈ Lib.toUpperA s.data.toList := by simpa using hx
    unfold Lib.toUpperA at hx'
    obtain ⟨y, hy, rfl⟩ := List.mem_map.1 hx'
    have h1 := h y hy
    have h2 : (Lib.upperB y).toNat = if 97 ≤ y.toNat ∧ y.toNat ≤ 122 then y.toNat - 32 else y.toNat := by
      have : ∀ y : Fin 256, (Lib.upperB (UInt8.ofNat y.val)).toNat = if 97 ≤ y.val ∧ y.val ≤ 122 then y.val - 32 else y.val := by decide +kernel
      have h3 := this ⟨y.toNat, y.toNat_lt⟩
      simpa using h3
    rw [h2]
    split <;> omega
  · exact h
theorem asc_fin (sh : Bool) (prec : Int) (m : Nat) (e : Int) (v d : Nat) (verb : Int) : Asc (finT sh prec m e v d verb) := asc_big (asc_num _ _ _ _ _ _ _)
/-- So many blanks are lacking. -/
def lk (s : ByteArray) (wid : Int) : Nat := wdt ((wdt wid : Nat) - (s.size : Nat) : Int)
theorem padS_asc {s : ByteArray} (h : Asc s) (mi : Bool) (wid : Int) : padS s mi false wid = if mi = true then s ++ run 32 (lk s wid) else run 32 (lk s wid) ++ s := by
  unfold padS lk
  rw [cnt_asc s h]
  cases mi <;> rfl
theorem padS_off (s : ByteArray) (mi : Bool) : padS s mi false (-1) = s := by
  have ew : wdt (((wdt (-1) : Nat) : Int) - (cntR s : Nat)) = 0 := by
    have : wdt (-1) = 0 := rfl
    rw [this]; unfold wdt; omega
  unfold padS
  rw [ew, run_zero]
  cases mi
  · show (⟨#[]⟩ : ByteArray) ++ s = s
    apply ByteArray.ext; apply Array.ext'
    rw [app_list]; rfl
  · show s ++ (⟨#[]⟩ : ByteArray) = s
    apply ByteArray.ext; apply Array.ext'
    rw [app_list]; simp
theorem filT_off (s t : ByteArray) (mi z : Bool) (hs : s.size ≤ 1) : filT s t mi z (-1) = s ++ t := by
  unfold filT
  rw [padS_off]
  split
  · have : wdt (-1) = 0 := rfl
    rw [lnA_none t _ (by rw [this]; omega)]
  · rfl
end Go.Proofs.YtkeoafidgfmhlabGreatDoor
