/- The law's print and show. -/
import Derived.Test.YtbfaapbbhgegiaaDoorXDo
import Derived.Test.YtbfaapbbhgegiaaDoorEDig
namespace Go.Proofs.YtbfaapbbhgegiaaDoor
open Go.RowKit
set_option linter.unusedVariables false
set_option linter.unusedSimpArgs false

/-- A kind in digits. -/
def kN (k : Int) : Nat := (k % 4294967296).toNat
theorem kN_lt (k : Int) : kN k < 4294967296 := by unfold kN; omega
theorem kN_int (k : Int) : ((kN k : Nat) : Int) = k % 4294967296 := by unfold kN; omega
def kT (k : Int) : ByteArray := digT false 10 (kN k)
def shT (k : Int) (t : ByteArray) : ByteArray := ((⟨#[123]⟩ ++ kT k) ++ t) ++ ⟨#[125]⟩
set_option maxRecDepth 1000000 in
set_option maxHeartbeats 2000000 in
theorem ashow_any {X : Nat} {p s : Int} (d : Ds) (w : World) (hq : Aq w X p s) (hs : 0 ≤ s) (hs2 : s ≤ 1000000) (ht : d.tx.size ≤ 100000) :
    Calls Tryd.prog 21 #[.pointer (some ⟨X, 0, none⟩), .agg d.v.toArray] w fun e w' => e = .returned (.string (shT d.k d.tx)) ∧ Aq w' X p (s + 1) ∧ w.grownBy w' (some X) := by
  have hD : ∀ w, Calls Tryd.prog 36 #[.int .u64 (d.k % 4294967296), .int .i64 10] w fun e w' => e = .returned (.string (kT d.k)) ∧ w' = w := fun w => by rw [← kN_int]; exact edigits_10 (kN d.k) w (by have := kN_lt d.k; omega)
  obtain ⟨W1, hW1⟩ : ∃ W1, W1 = w.alloc (.cells d.v.toArray 26) := ⟨_, rfl⟩
  have hb : Blk W1 w.heap.size d.v := by rw [hW1]; exact Blk.new _ _ _
  have hw1 : Below w.heap.size w W1 := by rw [hW1]; exact (Below.refl _ _).alloc (Nat.le_refl _) _
  have q1 := hq.up hw1
  have hX := hq.b
  have hne : X ≠ w.heap.size := by omega
  have cA := q1.c 1 _ rfl
  have zA := q1.z 1
  obtain ⟨W2, hW2⟩ : ∃ W2, W2 = W1.setCell ⟨X, 1, none⟩ (.int .i64 (s + 1)) := ⟨_, rfl⟩
  have b2 : Blk W2 w.heap.size d.v := by rw [hW2]; exact hb.other hne _
  have q2 : Aq W2 X p (s + 1) := by rw [hW2]; exact q1.set 1 (by simp) _
  have g2 : w.grownBy W2 (some X) := by
    rw [hW2]
    exact ⟨hw1.os, hw1.tape, hw1.output, by simpa [World.setCell] using hw1.size, fun k hk hk2 => by rw [Below.heap_setCell _ _ _ _ (by simpa using hk2)]; exact hw1.block k hk⟩
  have c0 : W2.cell? ⟨w.heap.size, 0, none⟩ = some (.int .i64 d.k) := b2.c 0 _ rfl
  have c4 : W2.cell? ⟨w.heap.size, 4, none⟩ = some (.string d.tx) := b2.c 4 _ rfl
  have hdz : (kT d.k).size ≤ 100 := by have := digT_size false 10 (kN d.k); unfold kT; omega
  unfold shT
  clear hb b2 hq
  generalize d.v = D at *
  generalize kT d.k = K at *
  have hdzI : (K.size : Int) ≤ 100 := by omega
  have htI : (d.tx.size : Int) ≤ 100000 := by omega
  generalize d.tx = t at *
  go_enter Tryd.func21, Tryd.ntmps21
  go_upto_region 1 with fail
  rw [← hW1]
  clear hW1
  go_upto_region 2 with fail
  rw [← hW2]
  clear hW2
  have f0 : ∀ x : Cl W2, x.w.cell? ⟨w.heap.size, 0, none⟩ = some (.int .i64 d.k) := fun x => x.cell c0
  have f4 : ∀ x : Cl W2, x.w.cell? ⟨w.heap.size, 4, none⟩ = some (.string t) := fun x => x.cell c4
  refine wp_region_above W2 (Below.refl _ _) (by kernel_rfl) (by kernel_rfl) ?_
  intro hCl
  repeat (go_big_quiet_step ((first | (go_at_call 36; exact Cl.call_same (hD _)))))
  refine wpQuiet_nil ?_
  intro _ hw'
  obtain ⟨y, hx⟩ := hw'
  subst hx
  go_wp2
  go_ret
  exact ⟨rfl, q2.up y.below, g2.trans (xgr_below y.below _)⟩
end Go.Proofs.YtbfaapbbhgegiaaDoor
