/- The walks of Rune, of the document's Rune and Point. -/
import Derived.Test.YtpknjcdodnoibaaPlain
import Derived.Test.YtpknjcdodnoibaaRows
import Derived.WalkSpells
import Derived.WalkLawsBesides
import Derived.Laws.BytesArg
namespace Go.Proofs.Ytpknjcdodnoibaa
open Go.RowKit

set_option maxHeartbeats 400000 in
theorem point_any (c : Int) (w : World) :
    Calls Try.prog 29 #[.int .i32 c] w fun e w' => e = .returned (.bool (Utf8.valid c)) ∧ w' = w := by
  by_cases h1 : 0 ≤ c <;> by_cases h2 : c ≤ 1114111 <;> by_cases h3 : c < 55296 <;> by_cases h4 : 57343 < c
  all_goals
    go_enter Try.func29, Try.ntmps29
    go_wp2
    go_ret
    refine ⟨?_, rfl⟩
    congr 2
    simp [Utf8.valid]
    omega

theorem point_yes (c : Int) (w : World) (h : Utf8.valid c = true) :
    Calls Try.prog 29 #[.int .i32 c] w fun e w' => e = .returned (.bool true) ∧ w' = w := by
  rw [← h]; exact point_any c w
theorem point_no (c : Int) (w : World) (h : Utf8.valid c = false) :
    Calls Try.prog 29 #[.int .i32 c] w fun e w' => e = .returned (.bool false) ∧ w' = w := by
  rw [← h]; exact point_any c w

theorem conv_new (w : World) (xs : List Int) (n : Nat) (hn : xs.length = n) :
    (convert 73 9 (.slice (some ⟨w.heap.size, 0, none⟩) n n)).run Try.prog (w.alloc (.cells (xs.map (Value.int .u8)).toArray 5)) = .ok (.string (strOfNums xs)) (w.alloc (.cells (xs.map (Value.int .u8)).toArray 5)) := by
  refine run_convert_bytes_arg _ 73 5 Try.underlying73 Try.underlying5 w.heap.size 0 n n xs hn (fun i hi => ?_) 9 Try.underlying9
  have hi' : i < xs.length := by omega
  simp [hi', List.getD]
theorem conv1 (w : World) (x : Int) :
    (convert 73 9 (.slice (some ⟨w.heap.size, 0, none⟩) 1 1)).run Try.prog (w.alloc (.cells #[.int .u8 x] 5)) = .ok (.string (strOfNums [x])) (w.alloc (.cells #[.int .u8 x] 5)) := conv_new w [x] 1 rfl
theorem conv2 (w : World) (x y : Int) :
    (convert 73 9 (.slice (some ⟨w.heap.size, 0, none⟩) 2 2)).run Try.prog (w.alloc (.cells #[.int .u8 x, .int .u8 y] 5)) = .ok (.string (strOfNums [x, y])) (w.alloc (.cells #[.int .u8 x, .int .u8 y] 5)) := conv_new w [x, y] 2 rfl
theorem conv3 (w : World) (x y z : Int) :
    (convert 73 9 (.slice (some ⟨w.heap.size, 0, none⟩) 3 3)).run Try.prog (w.alloc (.cells #[.int .u8 x, .int .u8 y, .int .u8 z] 5)) = .ok (.string (strOfNums [x, y, z])) (w.alloc (.cells #[.int .u8 x, .int .u8 y, .int .u8 z] 5)) := conv_new w [x, y, z] 3 rfl
theorem conv4 (w : World) (x y z u : Int) :
    (convert 73 9 (.slice (some ⟨w.heap.size, 0, none⟩) 4 4)).run Try.prog (w.alloc (.cells #[.int .u8 x, .int .u8 y, .int .u8 z, .int .u8 u] 5)) = .ok (.string (strOfNums [x, y, z, u])) (w.alloc (.cells #[.int .u8 x, .int .u8 y, .int .u8 z, .int .u8 u] 5)) := conv_new w [x, y, z, u] 4 rfl

end Go.Proofs.Ytpknjcdodnoibaa
