/- The walk of the laws' function exact. -/
import Derived.Test.YtgcdmeonoiaplaaDoorSLaw
namespace Go.Proofs.YtgcdmeonoiaplaaDoor
open Go.RowKit
set_option linter.unusedVariables false
set_option linter.unusedSimpArgs false

abbrev Ex5C (p : Nat) (n : Int) (S : ByteArray) (P : Int) : Prop := ∀ w, Calls Tryd.prog 16 #[.int .u64 p, .int .i64 n] w fun x w' => x = .returned (.agg #[.string S, .int .i64 P]) ∧ Below w.heap.size w w'
set_option maxRecDepth 1000000 in
set_option maxHeartbeats 800000 in
theorem exact5_walk {p m : Nat} {n e k : Int} {sg : Bool} {S : ByteArray} {P : Int} (hP : PtC p n sg m e k) (hX : ExC m e S P) : Ex5C p n S P := fun w => by
  go_enter Tryd.func16, Tryd.ntmps16
  go_wp2_with (first
    | (go_at_call 8; refine (hP _).mono ?_; rintro x w2 ⟨rfl, hb2⟩; have bR := keepb hb2 (B := w.heap.size) (x := .string ⟨#[]⟩) (y := .int .i64 0) (by simp [BoxD, go_sem]))
    | (go_at_call 41; refine (hX _).mono ?_; rintro x w3 ⟨rfl, hb3⟩; obtain ⟨r0, r1, r2, r3⟩ := keepb hb3 bR; have hlt : w.heap.size < w3.heap.size := World.block_lt_of_cell? w3 _ r0))
  refine bodyPost_ret (by simp [results, Tryd.results16, go_sem, cs_same, r0, r1, hlt]; rfl) rfl ?_
  refine ⟨rfl, ?_⟩
  have h := bel_call (bel_call (B := w.heap.size) (w := w) (by go_grown) hb2 (Nat.le_refl _)) hb3 (Nat.le_refl _)
  have hs := (h.setCell (p := ⟨w.heap.size, 0, none⟩) (Nat.le_refl _) (.string S)).setCell (p := ⟨w.heap.size, 1, none⟩) (Nat.le_refl _) (.int .i64 P)
  exact hs.alloc hs.size _
theorem exact5D {size : Int} {f ww : Nat} {least : Int} {I p : Nat} (h : Ly size f ww least I) (hp : p < I) : Ex5C p size (oS (val f least p)) (oP (val f least p)) := by
  obtain ⟨sg, hP⟩ := partsD h hp
  exact exact5_walk hP (exactD h hp)
end Go.Proofs.YtgcdmeonoiaplaaDoor
