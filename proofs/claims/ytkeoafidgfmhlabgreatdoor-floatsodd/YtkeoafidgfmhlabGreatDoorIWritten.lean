/- The walks of written and Digits of package ints. -/
import Derived.Test.YtkeoafidgfmhlabGreatDoorIDig
import Derived.Test.YtkeoafidgfmhlabGreatDoorHexa
import Derived.Test.YtkeoafidgfmhlabGreatDoorPlain5
import Derived.Deep.LoopGhost
namespace Go.Proofs.YtkeoafidgfmhlabGreatDoor
open Go.RowKit
set_option linter.unusedVariables false

/-- A row of 64 bytes whose last ones are written. -/
structure Row64 (w : World) (B m : Nat) (ds : List UInt8) : Prop where
  len : m + ds.length = 64
  some_ : ∀ i, i < 64 → ∃ v, w.cell? ⟨B, i, none⟩ = some v
  at_ : ∀ i, i < ds.length → w.cell? ⟨B, m + i, none⟩ = some (.int .u8 (ds.getD i 0).toNat)
  froz : ∀ i, w.frozen? ⟨B, i, none⟩ = false
theorem Row64.put {w : World} {B j : Nat} {ds : List UInt8} (h : Row64 w B (j + 1) ds) (x : UInt8) : Row64 (w.setCell ⟨B, j, none⟩ (.int .u8 x.toNat)) B j (x :: ds) where
  len := by have := h.len; simp; omega
  some_ := fun i hi => cell?_setCell_some (h.some_ i hi).choose_spec
  at_ := fun i hi => by
    have hl := h.len
    cases i with
    | zero =>
      obtain ⟨v, hv⟩ := h.some_ j (by omega)
      exact World.cell?_setCell_same _ _ _ hv
    | succ i =>
      have hi' : i < ds.length := by simp at hi; exact hi
      rw [World.cell?_setCell_other _ _ _ _ (by intro e; have := congrArg Addr.off e; simp at this)]
      have := h.at_ i hi'
      rw [show j + (i + 1) = j + 1 + i by omega]
      exact this
  froz := fun i => by rw [World.frozen?_setCell]; exact h.froz i
theorem row64_new (w : World) (vs : Array Value) (T : TypeId) (hv : vs.size = 64) : Row64 (w.alloc (.cells vs T)) w.heap.size 64 [] where
  len := rfl
  some_ := fun i hi => ⟨vs[i]'(by omega), by simp [hv, hi]⟩
  at_ := fun i hi => by simp at hi
  froz := fun i => by simp
theorem two_pow (a q n : Nat) (h : q * 2 ^ (64 - a) ≤ n) (hn : n < 18446744073709551616) (hq : 0 < q) : 0 < a := by
  rcases Nat.eq_zero_or_pos a with h0 | h0
  · exfalso
    subst h0
    have : (2 : Nat) ^ 64 = 18446744073709551616 := by decide
    have h1 : 1 * 2 ^ 64 ≤ q * 2 ^ 64 := Nat.mul_le_mul_right _ hq
    omega
  · exact h0
theorem two_step (j q b n : Nat) (h : q * 2 ^ (64 - (j + 1)) ≤ n) (hj : j + 1 ≤ 64) (hb : 2 ≤ b) : q / b * 2 ^ (64 - j) ≤ n := by
  have e : 64 - j = 64 - (j + 1) + 1 := by omega
  have hd : q / b ≤ q / 2 := Nat.div_le_div_left hb (by omega)
  rw [e, Nat.pow_succ]
  have h1 : q / b * 2 ≤ q := by omega
  calc q / b * (2 ^ (64 - (j + 1)) * 2) = q / b * 2 * 2 ^ (64 - (j + 1)) := by rw [Nat.mul_comm (2 ^ (64 - (j + 1))) 2, Nat.mul_assoc]
    _ ≤ q * 2 ^ (64 - (j + 1)) := Nat.mul_le_mul_right _ h1
    _ ≤ n := h
/-- What the digits so far are. -/
def wRel (b n a q : Nat) (ds : List UInt8) : Prop := (a = 64 ∧ q = n ∧ ds = []) ∨ (a < 64 ∧ digP false b q ++ ds = digS false b n)
theorem wRel_step (b n j q : Nat) (ds : List UInt8) (hb : 2 ≤ b) (hq : q < 2 ^ 64) (h : wRel b n (j + 1) q ds) (hj : j + 1 ≤ 64) (hgo : j + 1 = 64 ∨ q ≠ 0) : wRel b n j (q / b) (hexB false (q % b) :: ds) := by
  refine .inr ⟨by omega, ?_⟩
  rcases h with ⟨h1, rfl, rfl⟩ | ⟨h1, h2⟩
  · rfl
  · rw [← h2, digP_step false b q hb (by omega) hq]
    simp
theorem arr64Len : Tryz.prog.arrayLen 165 = 64 := by kernel_rfl
theorem arr64Elem : Tryz.prog.elem 165 = 5 := by kernel_rfl
theorem arr64Under : Tryz.prog.underlying 165 = some (.array (Tryz.prog.arrayLen 165) (Tryz.prog.elem 165)) := by kernel_rfl
theorem at64_l (W : World) (g n : Nat) (hn : n < 64) :
    (Instr.sliceAt 165 (.pointer (some ⟨g, 0, none⟩)) (some (.int .i64 n)) none none).run Tryz.prog W = .ok (.slice (some ⟨g, n, none⟩) (64 - n) (64 - n)) W := by
  rw [run_sliceAt_array_l W 165 ⟨g, 0, none⟩ arr64Under .i64 n (by omega) (by rw [arr64Len]; omega), arr64Elem, Tryz.sizeOf5, arr64Len]
  have hne : ¬ 64 = n := by omega
  simp [slicedAt, hne, Addr.add]
  omega
theorem conv64 (W : World) (g m : Nat) (ds : List UInt8) (h : Row64 W g m ds) :
    (convert 52 9 (.slice (some ⟨g, m, none⟩) (64 - m) (64 - m))).run Tryz.prog W = .ok (.string ⟨ds.toArray⟩) W := by
  have hl := h.len
  have := run_convert_bytes_arg W 52 5 Tryz.underlying52 Tryz.underlying5 g m (64 - m) (64 - m) (ds.map fun x => (x.toNat : Int)) (by simp; omega) (fun i hi => by
    rw [h.at_ i (by omega)]
    have : i < ds.length := by omega
    simp [this, List.getD]) 9 Tryz.underlying9
  rw [this]
  have e : strOfNums (ds.map fun x => (x.toNat : Int)) = ⟨ds.toArray⟩ := by
    apply ByteArray.ext
    have : (ds.map fun x => (x.toNat : Int)).map (fun n : Int => UInt8.ofNat n.toNat) = ds := by
      rw [List.map_map]
      conv => rhs; rw [← List.map_id ds]
      exact List.map_congr_left fun x _ => by simp
    show ((ds.map fun x => (x.toNat : Int)).map (fun n : Int => UInt8.ofNat n.toNat)).toArray = _
    rw [this]
  rw [e]

set_option maxRecDepth 1000000 in
set_option maxHeartbeats 800000 in
theorem written_any (n b : Nat) (w : World) (hn : n < 18446744073709551616) (hb : 2 ≤ b) (hb16 : b ≤ 16) :
    Calls Tryz.prog 110 #[.int .u64 n, .int .u64 b] w fun e w' => e = .returned (.string ⟨(digS false b n).toArray⟩) ∧ Below w.heap.size w w' := by
  go_enter Tryz.func110, Tryz.ntmps110
  go_wp2
  go_loopg [0, 6] 65 (fun g nn at_ wr => ∃ (q a : Nat) (ds : List UInt8), nn = .int .u64 q ∧ at_ = .int .i64 a ∧ a + 1 = g ∧ q ≤ n ∧ a ≤ 64 ∧ Row64 wr w.heap.size a ds ∧ Below w.heap.size w wr ∧ Hid (q * 2 ^ (64 - a) ≤ n ∧ wRel b n a q ds))
  case atStart =>
    exact ⟨n, 64, [], rfl, rfl, rfl, Nat.le_refl _, Nat.le_refl _, row64_new w _ _ rfl, (Below.refl _ _).alloc (Nat.le_refl _) _, by simp, .inl ⟨rfl, rfl, rfl⟩⟩
  case round =>
    obtain ⟨q, a, ds, rfl, rfl, hag, hqn, ha, hR, hbl, HH⟩ := hrel
    have hq0 : 0 < q → 0 < a := two_pow a q n HH.out.1 hn
    by_cases hgo : a = 64 ∨ 0 < q
    · obtain ⟨j, rfl⟩ : ∃ j, a = j + 1 := ⟨a - 1, by omega⟩
      have hW : Hid (q / b * 2 ^ (64 - j) ≤ n ∧ wRel b n j (q / b) (hexB false (q % b) :: ds)) := ⟨two_step j q b n HH.out.1 ha hb, wRel_step b n j q ds hb (by omega) HH.out.2 ha (by omega)⟩
      have hd : q % b < b := Nat.mod_lt _ (by omega)
      have hqd : q / b ≤ q := Nat.div_le_self _ _
      have hm1 : (q : Int).tmod b = ((q % b : Nat) : Int) := by rw [Int.tmod_eq_emod_of_nonneg (by omega)]; simp
      have hm2 : (q : Int).tdiv b = ((q / b : Nat) : Int) := by rw [Int.tdiv_eq_ediv_of_nonneg (by omega)]; simp
      have hm3 : (q : Int) % b = ((q % b : Nat) : Int) := by simp
      have hm4 : (q : Int) / b = ((q / b : Nat) : Int) := by simp
      have hbz : ¬ (b : Int) = 0 := by omega
      generalize q % b = d at *
      generalize q / b = q' at *
      have ej : ((j + 1 : Nat) : Int) = (j : Int) + 1 := by omega
      rw [ej]
      have hd' : d < (ByteArray.mk #[48, 49, 50, 51, 52, 53, 54, 55, 56, 57, 97, 98, 99, 100, 101, 102]).size := by show d < 16; omega
      have hsm := small_at d hd'
      have HS : Hid (∀ W, Row64 W w.heap.size (j + 1) ds → Row64 (W.setCell ⟨w.heap.size, j, none⟩ (.int .u8 (((ByteArray.mk #[48, 49, 50, 51, 52, 53, 54, 55, 56, 57, 97, 98, 99, 100, 101, 102])[d]'hd').toNat : Nat))) w.heap.size j (hexB false d :: ds)) := fun W h => by
        rw [hsm, ← hexB_nat false d (by omega)]
        exact h.put _
      clear hsm
      by_cases h64 : j = 63
      · subst h64
        obtain ⟨v0, hv0⟩ := hR.some_ 63 (by omega)
        have hf0 := hR.froz 63
        go_wp2
        go_roundg (gk - 1)
        case measure => omega
        case rel => exact ⟨q', 63, _, rfl, rfl, by omega, by omega, by omega, HS.out _ hR, hbl.setCell (Nat.le_refl _) _, hW⟩
      · have hq1 : 0 < (q : Int) := by omega
        have h641 : ¬ (j : Int) + 1 = 64 := by omega
        have hj0 : (j : Int) < 64 := by omega
        obtain ⟨v0, hv0⟩ := hR.some_ j (by omega)
        have hf0 := hR.froz j
        go_wp2
        go_roundg (gk - 1)
        case measure => omega
        case rel => exact ⟨q', j, _, rfl, rfl, by omega, by omega, by omega, HS.out _ hR, hbl.setCell (Nat.le_refl _) _, hW⟩
    · have ha1 : ¬ (a : Int) = 64 := by omega
      have hq1 : ¬ 0 < (q : Int) := by omega
      have ha2 : a < 64 := by omega
      have hq2 : q = 0 := by omega
      have HF : Hid (ds = digS false b n) := by
        rcases HH.out.2 with ⟨h1, -⟩ | ⟨h1, h2⟩
        · omega
        · rw [hq2, digP_zero] at h2
          exact h2
      clear hq2
      have hsl := at64_l wr w.heap.size a ha2
      have hcv := conv64 wr w.heap.size a ds hR
      have hb1 : ((a : Int) == 64) = false := by simp; omega
      have hb2 : decide (0 < q) = false := by simp; omega
      go_wp2
      go_ret
      rw [← HF.out]
      exact ⟨rfl, hbl⟩

theorem digits_fit (n : Nat) (g : Bool) (b : Nat) : (⟨(digS g b n).toArray⟩ : ByteArray).size = (digS g b n).length := by simp [ByteArray.size]
set_option maxRecDepth 1000000 in
set_option maxHeartbeats 400000 in
theorem idigits_any (n b : Nat) (w : World) (hn : n < 18446744073709551616) (hb : b = 2 ∨ b = 8 ∨ b = 10 ∨ b = 16) :
    Calls Tryz.prog 84 #[.int .u64 n, .int .i64 b] w fun e w' => e = .returned (.string ⟨(digS false b n).toArray⟩) ∧ Below w.heap.size w w' := by
  have hW : ∀ w, Calls Tryz.prog 110 #[.int .u64 n, .int .u64 b] w fun e w' => e = .returned (.string ⟨(digS false b n).toArray⟩) ∧ Below w.heap.size w w' := fun w => written_any n b w hn (by omega) (by omega)
  generalize (⟨(digS false b n).toArray⟩ : ByteArray) = r at *
  rcases hb with rfl | rfl | rfl | rfl
  all_goals
    go_enter Tryz.func84, Tryz.ntmps84
    go_wp2_with (go_at_call 110; refine (hW _).mono ?_; rintro e w1 ⟨rfl, hb1⟩)
    go_ret
    exact ⟨rfl, hb1⟩
set_option maxRecDepth 1000000 in
set_option maxHeartbeats 400000 in
theorem idigits_no (n : Nat) (b : Int) (w : World) (h1 : ¬ b = 2) (h2 : ¬ b = 8) (h3 : ¬ b = 10) (h4 : ¬ b = 16) :
    Calls Tryz.prog 84 #[.int .u64 n, .int .i64 b] w fun e w' => e = .returned (.string ⟨#[]⟩) ∧ Below w.heap.size w w' := by
  go_enter Tryz.func84, Tryz.ntmps84
  go_wp2
  go_ret
  exact ⟨rfl, Below.refl _ _⟩
end Go.Proofs.YtkeoafidgfmhlabGreatDoor
