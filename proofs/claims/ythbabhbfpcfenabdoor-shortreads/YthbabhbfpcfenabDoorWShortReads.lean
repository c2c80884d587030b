/- The walk of the law ShortReads. -/
import Derived.Test.YthbabhbfpcfenabDoorKReadT
namespace Go.Proofs.YthbabhbfpcfenabDoor
open Go.RowKit
set_option linter.unusedVariables false
set_option linter.unusedSimpArgs false

theorem Cl.start5 {W w5 : World} (hb : Below W.heap.size W w5) : ∃ z : Cl W, w5 = z.w := ⟨⟨w5, hb⟩, rfl⟩
abbrev SrC (s : ByteArray) (q size : Int) (r : Nat) (er : Int) : Prop := ∀ w, Calls Tryd.prog 4 #[.agg #[.string s, .int .i64 q], .int .i64 size] w fun e w' => e = .returned (.tuple #[.int .u64 (r : Nat), .int .i64 er]) ∧ Below w.heap.size w w'
set_option maxRecDepth 1000000 in
set_option maxHeartbeats 1000000 in
theorem shortReads_run {s : ByteArray} {q size er : Int} {r : Nat} (hA : SrC s q size r er) (hB : KrC s q size r er) (w : World) :
    Calls Tryd.prog 3 #[.agg #[.string s, .int .i64 q], .int .i64 size] w fun e w' => e = .returned (.bool true) ∧ Below w.heap.size w w' := by
  have hL := lives5_any
  have hbA : Below w.heap.size w (w.alloc (.cells #[.string s, .int .i64 q] 23)) := (Below.refl _ _).alloc (Nat.le_refl _) _
  have f0 : ∀ x : Cl (w.alloc (.cells #[.string s, .int .i64 q] 23)), x.w.cell? ⟨w.heap.size, 0, none⟩ = some (.string s) := fun x => x.cell (by simp)
  have f1 : ∀ x : Cl (w.alloc (.cells #[.string s, .int .i64 q] 23)), x.w.cell? ⟨w.heap.size, 1, none⟩ = some (.int .i64 q) := fun x => x.cell (by simp)
  go_enter Tryd.func3, Tryd.ntmps3
  go_wp2_with (first
    | (go_at_call 4; (with_reducible refine (hA _).mono ?_); rintro x w2 ⟨rfl, hb2⟩; obtain ⟨y2, rfl⟩ := Cl.start5 hb2)
    | (go_at_call 5; (with_reducible refine (hB _).mono ?_); rintro x w3 ⟨rfl, hb3⟩; obtain ⟨y3, rfl⟩ := Cl.next hb3)
    | (go_at_call 6; refine (hL _).mono ?_; rintro x w4 ⟨rfl, hb4⟩; obtain ⟨y4, rfl⟩ := Cl.next hb4))
  go_ret
  exact ⟨rfl, bel_call hbA y4.below (Nat.le_refl _)⟩
theorem shortReads_walk (s : ByteArray) (q : Int) (hs : s.size ≤ 9223372036854775807) (_hq : (Lit.int .i64 q).wf = true) (size : Int) (_hz : (Lit.int .i64 size).wf = true) (w : World) :
    Calls Tryd.prog 3 #[.agg #[.string s, .int .i64 q], .int .i64 size] w fun e w' => e = .returned (.bool true) ∧ Below w.heap.size w w' := by
  by_cases h2 : size = 32 ∨ size = 64
  · obtain ⟨f, ww, least, I, h⟩ : ∃ (f ww : Nat) (least : Int) (I : Nat), Ly size f ww least I := by
      rcases h2 with rfl | rfl
      · exact ⟨_, _, _, _, lyA⟩
      · exact ⟨_, _, _, _, lyB⟩
    by_cases hE : normE s q = 0
    · obtain ⟨r, hr⟩ := rd_ex f I (un least) (normV s q) (un_pos least)
      exact shortReads_run (fun w => read_ok h hs hE hr w) (kread_ok h hs hE hr) w
    · exact shortReads_run (fun w => read_err h hs hE w) (kread_err (fun w => ksized_yes h w) (fun w => hnorm_any s q w hs) hE) w
  · exact shortReads_run (fun w => read_size (by omega) (by omega) w) (kread_size (fun w => ksized_no size w (by omega) (by omega))) w
end Go.Proofs.YthbabhbfpcfenabDoor
