/- The law's examples of package free. -/
import Derived.Test.YtdedhiipamnahaaYSts
namespace Go.Proofs.Ytdedhiipamnahaa
open Go.RowKit Go.Conc
set_option linter.unusedVariables false
set_option linter.unusedSimpArgs false

set_option maxRecDepth 1000000 in
set_option maxHeartbeats 2000000 in
theorem lives13_any (w : World) : Calls Try.prog 19 #[] w fun e w' => e = .returned (.bool true) ∧ Below w.heap.size w w' := by
  obtain ⟨W1, hW1⟩ : ∃ W1, W1 = w.alloc (.cells #[.int .i64 0] 3) := ⟨_, rfl⟩
  have hb : Bq W1 w.heap.size [.int .i64 0] := by rw [hW1]; exact Bq.new _ _ _
  have b1 : Below w.heap.size w W1 := by rw [hW1]; exact (Below.refl _ _).alloc (Nat.le_refl _) _
  have hs1 : w.heap.size < W1.heap.size := by rw [hW1]; simp
  have hmf : ∀ (fn : Fn) (first cap : Array Value) (w : World), (Instr.makeFunc fn first cap).run Try.prog w = .ok (.func fn first cap) w := fun _ _ _ _ => rfl
  have h1 := newi_any 1 (.func (.func 33) #[] #[.pointer (some ⟨w.heap.size, 0, none⟩)]) (.inr ⟨_, _, _, rfl⟩) W1
  have hcap : capN 1 = 1 := rfl
  rw [hcap] at h1
  go_enter Try.func19, Try.ntmps19
  go_upto_region 2 with fail
  rw [← hW1]
  clear hW1
  go_wp2_with fail
  refine h1.mono ?_
  rintro e W2 ⟨B, c, rfl, hB, hc, s2, k2⟩
  have q2 := hb.keep k2 (by simp)
  have hNB : w.heap.size ≠ B := by omega
  have hNc : w.heap.size ≠ c := by omega
  have b2 : Below w.heap.size w W2 := Ko.below b1 k2 (by simp) (Nat.le_of_lt hs1)
  have hs2 := k2.size
  go_wp2_with fail
  refine (geti_lives131 s2 (by omega) (by omega) q2 hNB (by omega) (by omega)).mono ?_
  rintro e W3 ⟨rfl, s3, q3, k3⟩
  have b3 : Below w.heap.size w W3 := Ko.below b2 k3 (by simp; omega) (by omega)
  have hs3 := k3.size
  go_wp2_with fail
  refine (puti_room s3 5 (by simp)).mono ?_
  rintro e W4 ⟨rfl, s4, k4⟩
  have q4 := q3.keep k4 (by simpa using hNc)
  have b4 : Below w.heap.size w W4 := Ko.below b3 k4 (by simp; omega) (by omega)
  have hs4 := k4.size
  go_wp2_with fail
  refine (puti_full s4 6 (by simp)).mono ?_
  rintro e W5 ⟨rfl, rfl⟩
  go_wp2_with fail
  refine (geti_some 5 s4).mono ?_
  rintro e W6 ⟨rfl, s6, k6⟩
  have q6 := q4.keep k6 (by simpa using hNc)
  have b6 : Below w.heap.size w W6 := Ko.below b4 k6 (by simp; omega) (by omega)
  have c6 := q6.c 0 _ rfl
  go_wp2_with fail
  refine (leni_any s6).mono ?_
  rintro e W7 ⟨rfl, rfl⟩
  go_wp2_with fail
  refine (madei_any s6).mono ?_
  rintro e W8 ⟨rfl, rfl⟩
  go_wp2
  go_ret
  exact ⟨rfl, b6⟩
end Go.Proofs.Ytdedhiipamnahaa
