/- The walk of the law ShortExacts. -/
import Derived.Test.YtgcdmeonoiaplabDoorSLaw
namespace Go.Proofs.YtgcdmeonoiaplabDoor
open Go.RowKit
set_option linter.unusedVariables false
set_option linter.unusedSimpArgs false

set_option maxRecDepth 1000000 in
set_option maxHeartbeats 800000 in
theorem shortExacts_walk (m0 : Int) (hm0 : (Lit.int .u64 m0).wf = true) (b : Bool) (w : World) :
    Calls Tryd.prog 3 #[.int .u64 m0, .bool b] w fun e w' => e = .returned (.bool true) ∧ Below w.heap.size w w' := by
  obtain ⟨bits, n, f, ww, least, I, p, rfl, h, hp, hZ, hF, -, -⟩ := pat_law m0 hm0 b
  obtain ⟨sg, hP⟩ := partsD h hp
  have hX := exactD h hp
  have hR := readD h (val_ex h hp).2.good (RD_self (un_pos least) hp)
  have e0 : 2 * pq f p * un least = val f least p := rfl
  have hL := lives5_any
  clear hm0 h hp
  generalize oS (val f least p) = S at *
  generalize oP (val f least p) = P at *
  generalize pm f p = m at *
  generalize least + (pk f p : Int) = e at *
  go_enter Tryd.func3, Tryd.ntmps3
  go_wp2_with (first
    | (go_at_call 8; refine (hZ _).mono ?_; rintro x w9 ⟨rfl, rfl⟩)
    | (go_at_call 7; refine (hF _).mono ?_; rintro x w9 ⟨rfl, rfl⟩)
    | (go_at_call 9; refine (hP _).mono ?_; rintro x w2 ⟨rfl, hb2⟩)
    | (go_at_call 10; refine (hX _).mono ?_; rintro x w3 ⟨rfl, hb3⟩)
    | (go_at_call 11; refine (hR _).mono ?_; rintro x w4 ⟨rfl, hb4⟩)
    | (go_at_call 12; refine (hL _).mono ?_; rintro x w5 ⟨rfl, hb5⟩))
  go_ret
  refine ⟨rfl, ?_⟩
  have h1 := bel_call hb2 hb3 (Nat.le_refl _)
  have h1 := bel_call (h1.alloc h1.size _) hb4 (Nat.le_refl _)
  exact bel_call h1 hb5 (Nat.le_refl _)
end Go.Proofs.YtgcdmeonoiaplabDoor
