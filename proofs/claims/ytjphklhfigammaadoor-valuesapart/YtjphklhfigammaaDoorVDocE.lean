/- The document's Same: of two that are read as one descriptor. -/
import Derived.Test.YtjphklhfigammaaDoorVDocS
import Derived.Deep.DeepCutAuto
import Derived.Deep.CutBlock
namespace Go.Proofs.YtjphklhfigammaaDoor
open Go.RowKit
set_option linter.unusedVariables false
set_option linter.unusedSimpArgs false

set_option maxRecDepth 1000000 in
set_option maxHeartbeats 8000000 in
theorem osame_true : ∀ (n m : Nat) (d : D) (nv pv mv qv : Value) (w : World), RdC n w nv pv d → RdC m w mv qv d →
    Calls Tryd.prog 11 #[DV d nv pv, DV d mv qv] w fun e w' => e = .returned (.bool true) ∧ Below w.heap.size w w' := by
  intro n
  induction n with
  | zero => intro m d nv pv mv qv w h; exact h.elim
  | succ n ih =>
    intro m d nv pv mv qv w hr hs
    obtain ⟨k, rfl⟩ : ∃ k, m = k + 1 := by
      cases m with
      | zero => exact hs.elim
      | succ k => exact ⟨k, rfl⟩
    obtain ⟨-, ⟨na, nc, rfl, hn1, hn2, hnc⟩, pa, pc, rfl, hl1, hl2, hpc⟩ := hr
    obtain ⟨-, ⟨ma, mc, rfl, hn3, hn4, hmc⟩, qa, qc, rfl, hl3, hl4, hqc⟩ := hs
    unfold maxLen at hn2 hn4 hl2 hl4
    obtain ⟨W2, hW2⟩ : ∃ W2, W2 = (w.alloc (.cells #[.int .i64 d.kind, .string d.ty, .int .u64 d.bits, .int .u64 d.imag, .string d.text, .slice na d.names.length nc, .slice pa d.parts.length pc, .int .i64 d.hook] 26)).alloc (.cells #[.int .i64 d.kind, .string d.ty, .int .u64 d.bits, .int .u64 d.imag, .string d.text, .slice ma d.names.length mc, .slice qa d.parts.length qc, .int .i64 d.hook] 26) := ⟨_, rfl⟩
    have hb2 : Below w.heap.size w W2 := by rw [hW2]; exact ((Below.refl _ _).alloc (Nat.le_refl _) _).alloc (by simp) _
    have f5 : W2.cell? ⟨w.heap.size, 5, none⟩ = some (.slice na d.names.length nc) := by rw [hW2]; simp [go_sem]
    have f6 : W2.cell? ⟨w.heap.size, 6, none⟩ = some (.slice pa d.parts.length pc) := by rw [hW2]; simp [go_sem]
    have g5 : W2.cell? ⟨w.heap.size + 1, 5, none⟩ = some (.slice ma d.names.length mc) := by rw [hW2]; simp [go_sem]
    have g6 : W2.cell? ⟨w.heap.size + 1, 6, none⟩ = some (.slice qa d.parts.length qc) := by rw [hW2]; simp [go_sem]
    go_enter Tryd.func11, Tryd.ntmps11
    go_upto_region 3 with fail
    rw [← hW2]
    clear hW2
    go_wp2
    go_loopg [5, 68] d.names.length (fun gg z i wr => ∃ j : Nat, i = .int .i64 j ∧ j + gg = d.names.length ∧ Below W2.heap.size W2 wr)
    case atStart => exact ⟨0, rfl, Nat.zero_add _, Below.refl _ _⟩
    case round =>
      obtain ⟨j, rfl, hjg, hbl⟩ := hrel
      have a5 := up_cell hbl f5
      have b5 := up_cell hbl g5
      by_cases hlt : j < d.names.length
      · have hltI : (j : Int) < d.names.length := by omega
        obtain ⟨x, hx⟩ : ∃ x, d.names[j]? = some x := ⟨d.names[j], List.getElem?_eq_getElem hlt⟩
        obtain ⟨-, b1, o1, rfl, c1⟩ := hnc j x hx
        obtain ⟨-, b2, o2, rfl, c2⟩ := hmc j x hx
        have d1 := fun x : Cl wr => x.cell (up_cell hbl (up_cell hb2 c1))
        have d2 := fun x : Cl wr => x.cell (up_cell hbl (up_cell hb2 c2))
        have x5 := fun x : Cl wr => x.cell a5
        have y5 := fun x : Cl wr => x.cell b5
        clear hnc hmc hpc hqc ih f5 f6 g5 g6 c1 c2 a5 b5
        go_upto_region 6 with fail
        refine wp_region_above wr (Below.refl _ _) (by kernel_rfl) (by kernel_rfl) ?_
        intro hCl
        repeat (go_big_quiet_step (exact rfl))
        refine wpQuiet_nil ?_
        intro _ hw'
        obtain ⟨y, hx⟩ := hw'
        subst hx
        have hby : Below W2.heap.size W2 y.w := hbl.trans (y.below.mono hbl.size)
        go_wp2
        go_roundg (gk - 1)
        case measure => omega
        case rel => exact ⟨j + 1, by go_num, by omega, hby⟩
      · have hltI : ¬ (j : Int) < d.names.length := by omega
        have a6 := up_cell hbl f6
        have b6 := up_cell hbl g6
        clear hnc hmc a5 b5 f5 g5
        go_wp2
        go_loopg [6, 86] d.parts.length (fun gg z i wr => ∃ j : Nat, i = .int .i64 j ∧ j + gg = d.parts.length ∧ Below W2.heap.size W2 wr)
        case atStart => exact ⟨0, rfl, Nat.zero_add _, hbl⟩
        case round =>
          obtain ⟨i, rfl, hig, hbm⟩ := hrel
          by_cases hlu : i < d.parts.length
          · have hluI : (i : Int) < d.parts.length := by omega
            obtain ⟨x, hx⟩ : ∃ x, d.parts[i]? = some x := ⟨d.parts[i], List.getElem?_eq_getElem hlu⟩
            obtain ⟨b1, o1, nv', pv', rfl, h8, hr'⟩ := hpc i x hx
            obtain ⟨b2, o2, mv', qv', rfl, k8, hs'⟩ := hqc i x hx
            obtain ⟨na', nc', pa', pc', rfl, rfl⟩ := hr'.slices
            obtain ⟨ma', mc', qa', qc', rfl, rfl⟩ := hs'.slices
            have hw : Below w.heap.size w wr := hb2.trans (hbm.mono hb2.size)
            obtain ⟨c0, c1, c2, c3, c4, c5, c6, c7⟩ := h8.up hw
            obtain ⟨e0, e1, e2, e3, e4, e5, e6, e7⟩ := k8.up hw
            have x6 : ∀ x : Cl wr, x.w.cell? ⟨w.heap.size, 6, none⟩ = some (.slice (some ⟨b1, o1, none⟩) d.parts.length pc) := fun x => x.cell (up_cell hbm f6)
            have y6 : ∀ x : Cl wr, x.w.cell? ⟨w.heap.size + 1, 6, none⟩ = some (.slice (some ⟨b2, o2, none⟩) d.parts.length qc) := fun x => x.cell (up_cell hbm g6)
            have C0 := fun x : Cl wr => x.cell c0
            have C1 := fun x : Cl wr => x.cell c1
            have C2 := fun x : Cl wr => x.cell c2
            have C3 := fun x : Cl wr => x.cell c3
            have C4 := fun x : Cl wr => x.cell c4
            have C5 := fun x : Cl wr => x.cell c5
            have C6 := fun x : Cl wr => x.cell c6
            have C7 := fun x : Cl wr => x.cell c7
            have E0 := fun x : Cl wr => x.cell e0
            have E1 := fun x : Cl wr => x.cell e1
            have E2 := fun x : Cl wr => x.cell e2
            have E3 := fun x : Cl wr => x.cell e3
            have E4 := fun x : Cl wr => x.cell e4
            have E5 := fun x : Cl wr => x.cell e5
            have E6 := fun x : Cl wr => x.cell e6
            have E7 := fun x : Cl wr => x.cell e7
            have hrec := fun Y : Cl wr => ih k x _ _ _ _ Y.w (hr'.up (hw.trans (Y.below.mono hw.size))) (hs'.up (hw.trans (Y.below.mono hw.size)))
            clear hpc hqc ih f6 g6 h8 k8 hr' hs' c0 c1 c2 c3 c4 c5 c6 c7 e0 e1 e2 e3 e4 e5 e6 e7
            go_upto_region 12 with fail
            refine wp_region_above wr (Below.refl _ _) (by kernel_rfl) (by kernel_rfl) ?_
            intro hCl
            repeat (go_big_quiet_step ((first | (go_at_call 11; exact Cl.call (hrec _)) | exact rfl)))
            refine wpQuiet_nil ?_
            intro _ hw'
            obtain ⟨y, hx⟩ := hw'
            subst hx
            have hby : Below W2.heap.size W2 y.w := hbm.trans (y.below.mono hbm.size)
            go_wp2
            go_roundg (gk - 1)
            case measure => omega
            case rel => exact ⟨i + 1, by go_num, by omega, hby⟩
          · have hluI : ¬ (i : Int) < d.parts.length := by omega
            clear hpc hqc ih
            go_wp2
            go_ret
            exact ⟨rfl, hb2.trans (hbm.mono hb2.size)⟩
end Go.Proofs.YtjphklhfigammaaDoor
