/- The closure that the entries are sorted by: it lays as the library's sort asks. -/
import Derived.Test.YtjphklhfigammaaDoorVKey
import Derived.Test.YtjphklhfigammaaDoorVOrd
import Derived.Test.YtjphklhfigammaaDoorShelf
import Derived.Shelf.SlSortCmp.NoneTotal
import Derived.Shelf.SlSortCmp.InsertionK
namespace Go.Proofs.YtjphklhfigammaaDoor
open Go.RowKit
set_option linter.unusedVariables false
set_option linter.unusedSimpArgs false

/-- An entry: what it is made of, its key and its value, and what the key is compared by. -/
structure Ent where
  p : D × D
  kt : Nat
  kx : Value
  vt : Nat
  vx : Value
  rk : Rk
  ok : RkD (.iface kt kx) rk
def encE (e : Ent) : List Value := [.iface e.kt e.kx, .iface e.vt e.vx]
def cmpE (e f : Ent) : Int := cmpR e.rk f.rk
theorem swoE : Sort.SWO (ltOf cmpE) := TO.swo TO.rk Ent.rk
set_option maxRecDepth 1000000 in
set_option maxHeartbeats 4000000 in
theorem sort1_any (e f : Ent) (w : World) : Calls Tryd.prog 70 #[.agg #[.iface e.kt e.kx, .iface e.vt e.vx], .agg #[.iface f.kt f.kx, .iface f.vt f.vx]] w fun r w' => r = .returned (.int .i64 (cmpE e f)) ∧ Below w.heap.size w w' ∧ w.drawn ≤ w'.drawn := by
  have hc := fun W => cmpD_any _ _ e.rk f.rk e.ok f.ok W
  unfold cmpE
  obtain ⟨W2, hW2⟩ : ∃ W2, W2 = (w.alloc (.cells #[.iface e.kt e.kx, .iface e.vt e.vx] 108)).alloc (.cells #[.iface f.kt f.kx, .iface f.vt f.vx] 108) := ⟨_, rfl⟩
  have hb2 : Below w.heap.size w W2 := by rw [hW2]; exact ((Below.refl _ _).alloc (Nat.le_refl _) _).alloc (by simp) _
  have hd : W2.drawn = w.drawn := by rw [hW2]; rfl
  go_enter Tryd.func70, Tryd.ntmps70
  go_wp2_with fail
  rw [← hW2]
  refine (hc _).mono ?_
  rintro r V ⟨rfl, hV, hdV⟩
  rw [hd] at hdV
  clear hc hW2 hd
  go_wp2
  go_ret
  exact ⟨rfl, hb2.trans (hV.mono hb2.size), hdV⟩
theorem sort1_lays [Inhabited Ent] (blk off size : Nat) (w : World) : CmpLays Tryd.prog 70 #[] encE 2 cmpE blk off size w := by
  intro m os dk hs x y
  refine (sort1_any x y _).mono ?_
  rintro r w' ⟨rfl, hb, hd⟩
  exact ⟨rfl, gr_of hb hd⟩
theorem encE_len (x : Ent) : (encE x).length = 2 := rfl
theorem encE_one (x : Ent) : ∀ v ∈ encE x, v.oneCell' = true := by
  intro v hv
  simp only [encE, List.mem_cons, List.not_mem_nil, or_false] at hv
  rcases hv with rfl | rfl <;> rfl
set_option maxRecDepth 1000000 in
theorem sortE [Inhabited Ent] (blk off cap : Nat) (d : Array Ent) (w : World) (hH : Sort.HoldsK encE 2 w blk off d) (hblk : blk < w.heap.size) (hsz : d.size < 4611686018427387904) :
    Calls Tryd.prog 69 #[.slice (some ⟨blk, off, none⟩) d.size cap, .func (.func 70) #[] #[]] w fun e w' =>
      e = .returned (.tuple #[]) ∧ ∃ d' n os, Sort.PermIn 0 d.size d d' ∧ Sort.SortedIn (ltOf cmpE) 0 d.size d' ∧ w' = sortWorldK encE 2 w blk off n d' os :=
  AnyQ.slices_SortFunc Tryd.laysSort 2 (fun _ => by kernel_rfl) (fun _ => by kernel_rfl) encE encE_len encE_one cmpE swoE 70 #[] blk off cap d w (fun _ _ => by kernel_rfl) (sort1_lays blk off d.size w) hH hblk hsz
end Go.Proofs.YtjphklhfigammaaDoor
