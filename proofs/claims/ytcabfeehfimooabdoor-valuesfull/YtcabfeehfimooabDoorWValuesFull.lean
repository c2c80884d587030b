/- The walk of the law ValuesFull. -/
import Derived.Test.YtcabfeehfimooabDoorVFull
import Derived.Laws.BytesArg
import Derived.Deep.DeepCutAuto
import Derived.Deep.CutBlock
import Derived.Deep.LoopGhost
namespace Go.Proofs.YtcabfeehfimooabDoor
open Go.RowKit
set_option linter.unusedVariables false
set_option linter.unusedSimpArgs false

/-- So many bytes 0. -/
def zT (n : Nat) : ByteArray := ⟨(List.replicate n 0).toArray⟩
theorem zT_size (n : Nat) : (zT n).size = n := by show (List.replicate n (0 : UInt8)).toArray.size = n; simp
theorem info_u8 : ∃ i0, Tryd.prog.info? 5 = some i0 ∧ i0.zero = some (.int .u8 0) ∧ i0.size = 1 ∧ i0.bytes = 1 := by
  have h : (Tryd.prog.info? 5).map (fun i => (i.zero, i.size, i.bytes)) = some (some (.int .u8 0), 1, 1) := by kernel_rfl
  obtain ⟨i0, h1, h2⟩ := Option.map_eq_some_iff.1 h
  exact ⟨i0, h1, congrArg (·.1) h2, congrArg (·.2.1) h2, congrArg (·.2.2) h2⟩
theorem info_desc : ∃ i0, Tryd.prog.info? 26 = some i0 ∧ i0.zero = some (.agg #[.int .i64 0, .string ⟨#[]⟩, .int .u64 0, .int .u64 0, .string ⟨#[]⟩, .slice none 0 0, .slice none 0 0, .int .i64 0]) ∧ i0.size = 8 ∧ i0.bytes = 112 := by
  have h : (Tryd.prog.info? 26).map (fun i => (i.zero, i.size, i.bytes)) = some (some (.agg #[.int .i64 0, .string ⟨#[]⟩, .int .u64 0, .int .u64 0, .string ⟨#[]⟩, .slice none 0 0, .slice none 0 0, .int .i64 0]), 8, 112) := by kernel_rfl
  obtain ⟨i0, h1, h2⟩ := Option.map_eq_some_iff.1 h
  exact ⟨i0, h1, congrArg (·.1) h2, congrArg (·.2.1) h2, congrArg (·.2.2) h2⟩
theorem conv_z (W : World) (g n : Nat) (h : W.ownsRow g 5 1 (.slice (some ⟨g, 0, none⟩) n n) n (List.replicate n (.int .u8 0))) :
    (convert 42 9 (.slice (some ⟨g, 0, none⟩) n n)).run Tryd.prog W = .ok (.string (zT n)) W := by
  have := run_convert_bytes_arg W 42 5 Tryd.underlying42 Tryd.underlying5 g 0 n n (List.replicate n (0 : Int)) (by simp) (fun i hi => by
    rw [Nat.zero_add, World.ownsRow.cellAt h i (by omega)]
    simp [hi, List.getD]) 9 Tryd.underlying9
  rw [this]
  have e : strOfNums (List.replicate n (0 : Int)) = zT n := by
    simp [strOfNums, zT, List.map_replicate]
  rw [e]

set_option maxRecDepth 1000000 in
set_option maxHeartbeats 4000000 in
theorem valuesFull_walk (a : Int) (ha : (Lit.int .i64 a).wf = true) (b : Int) (hb : (Lit.int .i64 b).wf = true) (c : Int) (hc : (Lit.int .i64 c).wf = true) (w : World) (hK : KN w) :
    Calls Tryd.prog 5 #[.int .i64 a, .int .i64 b, .int .i64 c] w fun e w' => e = .returned (.bool true) ∧ Below w.heap.size w w' := by
  clear ha hb hc
  obtain ⟨m, hm, hm80⟩ : ∃ m : Nat, max 0 (min a 80) = (m : Int) ∧ m ≤ 80 := ⟨(max 0 (min a 80)).toNat, by omega, by omega⟩
  obtain ⟨dd, hd, hd1, hd12⟩ : ∃ dd : Nat, max 1 (min b 12) = (dd : Int) ∧ 1 ≤ dd ∧ dd ≤ 12 := ⟨(max 1 (min b 12)).toNat, by omega, by omega, by omega⟩
  obtain ⟨te, ht, ht1⟩ : ∃ te : Nat, max 0 (min c 1100) = (te : Int) ∧ te ≤ 1100 := ⟨(max 0 (min c 1100)).toNat, by omega, by omega⟩
  obtain ⟨i0, hi, hz0, hz1, hz2⟩ := info_u8
  have hl := fun (V : World) (hV : Below w.heap.size w V) => lives8_any V (hK.up hV)
  go_enter Tryd.func5, Tryd.ntmps5
  go_upto_region 1 with fail
  go_cut [0, 1, 2] (fun x y z wx => x = .int .i64 m ∧ y = .int .i64 dd ∧ z = .int .i64 te ∧ wx = w)
  case first =>
    go_wp2
    all_goals
      go_meet
      refine ⟨?_, ?_, ?_, rfl⟩
      all_goals (congr 1; omega)
  case rest =>
    obtain ⟨rfl, rfl, rfl, hw⟩ := hcut
    have hw2 : w = wc := hw.symm
    subst hw2
    clear hm hd ht hw
    go_wp2_with (at_make; refine wpList_make_full _ rfl _ _ 42 rfl w.heap.size 5 i0 (.int .u8 0) 1 Tryd.underlying42 hi hz0 hz1 .i64 .i64 _ _ te rfl rfl ?c1 ?c2 ?c3 ?c4 ?c5 ?_)
    case c1 => first | rfl | omega
    case c2 => first | rfl | omega
    case c3 => rw [hz2]; omega
    case c4 => unfold maxLen; omega
    case c5 => exact Nat.le_refl _
    intro w1 hown hgrow
    have hrow : w1.ownsRow w.heap.size 5 1 (.slice (some ⟨w.heap.size, 0, none⟩) te te) te (List.replicate te (.int .u8 0)) := by
      rw [toList_madeCells_one] at hown
      exact hown
    have hconv := conv_z w1 w.heap.size te hrow
    have hb1 : Below w.heap.size w w1 := (Below.refl _ _).grown hgrow (Nat.le_refl _) (fun k hk => by cases hk)
    obtain ⟨T, hT, hTs⟩ : ∃ T, T = zT te ∧ T.size = te := ⟨_, rfl, zT_size te⟩
    rw [← hT] at hconv
    clear hown hgrow hrow hi hz0 hz1 hz2 hT
    obtain ⟨q, hq⟩ : ∃ q, q = w1.heap.size := ⟨_, rfl⟩
    have hq0 : w.heap.size ≤ q := by rw [hq]; exact hb1.size
    go_upto_block 0 with fail
    go_cut [8] (fun i wx => ∃ (j : Nat) (pa : Option Addr) (pc : Nat), j + 1 = dd ∧ FB w q (Pn T j) j wx pa pc)
    case first =>
      go_wp2
      go_loopg [8] (dd - 1) (fun gg i wr => ∃ (j : Nat) (pa : Option Addr) (pc : Nat), i = .int .i64 ((j + 1 : Nat) : Int) ∧ j + 1 + gg = dd ∧ FB w q (Pn T j) j wr pa pc)
      case atStart => exact ⟨0, none, 0, rfl, by omega, by rw [hq]; exact FB.first w w1 T hb1 (by omega)⟩
      case round =>
        obtain ⟨j, pa, pc, rfl, hjg, hF⟩ := hrel
        by_cases hlt : j + 1 < dd
        · have hltI : ((j + 1 : Nat) : Int) < dd := by omega
          obtain ⟨⟨c0, c1, c2, c3, c4, c5, c6, c7⟩, hfz, hrd, hbl⟩ := id hF
          have z0 := hfz 0
          have z1 := hfz 1
          have z2 := hfz 2
          have z3 := hfz 3
          have z4 := hfz 4
          have z5 := hfz 5
          have z6 := hfz 6
          have z7 := hfz 7
          have hqs : q < wr.heap.size := lt_of_cell c0
          have hF2 : Hid (FB w q (Pn T (j + 1)) (j + 1) _ _ _) := hF.wrap (y := Pn T (j + 1)) hq0 rfl rfl ⟨by simp [Pn], by simp [Pn], by simp [Pn], by simp [Pn], Nat.zero_le _, Nat.zero_le _⟩
          rw [hq] at c0 c1 c2 c3 c4 c5 c6 c7 z0 z1 z2 z3 z4 z5 z6 z7 hqs hF2
          clear hfz hrd hbl hF
          go_wp2
          go_roundg (gk - 1)
          case measure => omega
          case rel => exact ⟨j + 1, _, _, by go_num, by omega, by rw [hq]; exact hF2.out⟩
        · have hltI : ¬ ((j + 1 : Nat) : Int) < dd := by omega
          go_wp2
          go_meet
          exact ⟨j, pa, pc, by omega, hF⟩
    case rest =>
      obtain ⟨j, pa, pc, hj, hF⟩ := hcut
      clear hconv hb1
      obtain ⟨⟨c0, c1, c2, c3, c4, c5, c6, c7⟩, hfz, -, hbl⟩ := id hF
      have z0 := hfz 0
      have z1 := hfz 1
      have z2 := hfz 2
      have z3 := hfz 3
      have z4 := hfz 4
      have z5 := hfz 5
      have z6 := hfz 6
      have z7 := hfz 7
      have hqs : q < wc.heap.size := lt_of_cell c0
      have hR0 : Hid (RB w q (Pn T j) j pa pc _ 0 _ 1) := RB.first hF hq0
      rw [hq] at c0 c1 c2 c3 c4 c5 c6 c7 z0 z1 z2 z3 z4 z5 z6 z7 hqs hR0
      clear hfz hF hbl
      obtain ⟨i1, hi, hz0, hz1, hz2⟩ := info_desc
      go_upto_block 2 with fail
      clear c0 c1 c2 c3 c4 c5 c6 c7 z0 z1 z2 z3 z4 z5 z6 z7 hqs
      go_cut [9] (fun i wx => ∃ (ao : Option Addr) (c : Nat), RB w w1.heap.size (Pn T j) j pa pc wx m ao c)
      case first =>
        go_wp2
        go_loopg [9] m (fun gg i wr => ∃ (k : Nat) (ao : Option Addr) (c : Nat), i = .int .i64 k ∧ k + gg = m ∧ RB w w1.heap.size (Pn T j) j pa pc wr k ao c)
        case atStart => exact ⟨0, _, 1, rfl, by omega, hR0.out⟩
        case round =>
          obtain ⟨k, ao, c, rfl, hkg, hR⟩ := hrel
          clear hR0
          by_cases hlt : k < m
          · have hltI : (k : Int) < m := by omega
            obtain ⟨⟨c0, c1, c2, c3, c4, c5, c6, c7⟩, hfz, ho, hoq, -, hbl⟩ := id hR
            have z6 := hfz 6
            have hqs : w1.heap.size < wr.heap.size := lt_of_cell c0
            have hws := hbl.size
            have hoa := ho.alloc (.cells #[.int .i64 0, .string ⟨#[]⟩, .int .u64 0, .int .u64 0, .string ⟨#[]⟩, .slice none 0 0, .slice none 0 0, .int .i64 0] 26)
            have HR : Hid (RB w w1.heap.size (Pn T j) j pa pc wr k ao c) := hR
            clear c0 c1 c2 c3 c4 c5 c7 hfz ho hR hbl
            go_wp2_with (at_builtin; refine wpList_append_own_at _ rfl _ _ 22 rfl w.heap.size 26 i1 (.agg #[.int .i64 0, .string ⟨#[]⟩, .int .u64 0, .int .u64 0, .string ⟨#[]⟩, .slice none 0 0, .slice none 0 0, .int .i64 0]) 8 112 Tryd.underlying22 hi hz0 hz1 hz2 rfl (by decide) _ _ _ rfl hoa ⟨wr.heap.size, 0, none⟩ 1 1 nz8 rfl rfl ?c1 ?c2 ?c3 ?c4 ?c5 ?_)
            case c1 =>
              intro r u hr
              have hr8 : r < 8 := (List.getElem?_eq_some_iff.1 hr).1
              have : r = 0 ∨ r = 1 ∨ r = 2 ∨ r = 3 ∨ r = 4 ∨ r = 5 ∨ r = 6 ∨ r = 7 := by omega
              rcases this with rfl | rfl | rfl | rfl | rfl | rfl | rfl | rfl
              all_goals (simp [nz8] at hr; subst hr; simp [Addr.add])
            case c2 =>
              intro u hu
              simp [nz8] at hu
              rcases hu with rfl | rfl | rfl | rfl | rfl | rfl | rfl | rfl
              all_goals rfl
            case c3 => unfold maxLen; omega
            case c4 => omega
            case c5 => simp; omega
            intro v' w2 hown' hgrow _ hat
            obtain ⟨ao', c', rfl⟩ : ∃ ao' c', v' = .slice ao' (k + 1 + 1) c' := by
              rcases hown'.2 with ⟨h1, h2⟩ | ⟨g, cap, cur, h1, -⟩
              · omega
              · exact ⟨_, _, h1⟩
            have HR2 : Hid (RB w w1.heap.size (Pn T j) j pa pc (w2.setCell ⟨w1.heap.size, 6, none⟩ (.slice ao' (k + 1 + 1) c')) (k + 1) ao' c') := HR.out.step (by rw [← hq]; exact hq0) hown' hgrow hat
            have d6 : w2.cell? ⟨w1.heap.size, 6, none⟩ = some (.slice ao (k + 1) c) := by
              have hb := (hgrow.block w1.heap.size (by simp; omega) (Ne.symm hoq)).trans (Below.heap_alloc _ _ _ hqs)
              exact (World.cell?_of_block (w := wr) (a := ⟨w1.heap.size, 6, none⟩) hb).trans c6
            have y6 : w2.frozen? ⟨w1.heap.size, 6, none⟩ = false := by
              have hb := (hgrow.block w1.heap.size (by simp; omega) (Ne.symm hoq)).trans (Below.heap_alloc _ _ _ hqs)
              exact (World.frozen?_of_block (w := wr) (a := ⟨w1.heap.size, 6, none⟩) hb).trans z6
            clear hown' hgrow hat HR hoa c6 z6
            go_wp2
            go_roundg (gk - 1)
            case measure => omega
            case rel => exact ⟨k + 1, ao', c', by go_num, by omega, HR2.out⟩
          · have hltI : ¬ (k : Int) < m := by omega
            have hkm : k = m := by omega
            subst hkm
            go_wp2
            go_meet
            exact ⟨ao, c, hR⟩
      case rest =>
        obtain ⟨ao, c, hR⟩ := hcut
        have hrd := hR.reads
        obtain ⟨⟨c0, c1, c2, c3, c4, c5, c6, c7⟩, -, -, -, -, hbl⟩ := hR
        have hbd := full_build (j + 2) m j T _ _ wc hrd (by omega) hm80
        have hlen : (Sn m (Pn T j)).parts.length = m + 1 := by simp [Sn]
        rw [hlen] at hbd
        have hck := sn_chk m j T hm80
        clear hlen
        subst hTs
        obtain rfl : dd = j + 1 := hj.symm
        clear hR0 hrd hi hz0 hz1 hz2
        generalize hW : wc = W at *
        by_cases g1 : 64 < m + j + 2
        · have g1I : (64 : Int) < (m : Int) + ((j + 1 : Nat) : Int) + 1 := by omega
          rw [if_pos (.inl g1)] at hck
          rw [hck] at hbd
          go_wp2_with fail
          refine hbd.mono ?_
          rintro e V ⟨hV, (⟨h0, -⟩ | ⟨-, rfl⟩)⟩
          · cases h0
          · have hbV : Below w.heap.size w V := hbl.trans (hV.mono hbl.size)
            have hlv := hl V hbV
            go_wp2_with (go_at_call 8; refine hlv.mono ?_; rintro e V2 ⟨rfl, hV2⟩)
            go_ret
            exact ⟨rfl, hbV.trans (hV2.mono hbV.size)⟩
        · have g1I : ¬ (64 : Int) < (m : Int) + ((j + 1 : Nat) : Int) + 1 := by omega
          by_cases g2 : 1024 < T.size
          · have g2I : (1024 : Int) < (T.size : Int) := by omega
            rw [if_pos (.inr g2)] at hck
            rw [hck] at hbd
            go_wp2_with fail
            refine hbd.mono ?_
            rintro e V ⟨hV, (⟨h0, -⟩ | ⟨-, rfl⟩)⟩
            · cases h0
            · have hbV : Below w.heap.size w V := hbl.trans (hV.mono hbl.size)
              have hlv := hl V hbV
              go_wp2_with (go_at_call 8; refine hlv.mono ?_; rintro e V2 ⟨rfl, hV2⟩)
              go_ret
              exact ⟨rfl, hbV.trans (hV2.mono hbV.size)⟩
          · have g2I : ¬ (1024 : Int) < (T.size : Int) := by omega
            rw [if_neg (by omega)] at hck
            by_cases g3 : 8 ≤ j + 1
            · have g3I : (8 : Int) < ((j + 1 : Nat) : Int) + 1 := by omega
              rw [if_pos g3] at hck
              rw [hck] at hbd
              go_wp2_with fail
              refine hbd.mono ?_
              rintro e V ⟨hV, (⟨h0, -⟩ | ⟨-, rfl⟩)⟩
              · cases h0
              · have hbV : Below w.heap.size w V := hbl.trans (hV.mono hbl.size)
                have hlv := hl V hbV
                go_wp2_with (go_at_call 8; refine hlv.mono ?_; rintro e V2 ⟨rfl, hV2⟩)
                go_ret
                exact ⟨rfl, hbV.trans (hV2.mono hbV.size)⟩
            · have g3I : ¬ (8 : Int) < ((j + 1 : Nat) : Int) + 1 := by omega
              rw [if_neg g3] at hck
              rw [hck] at hbd
              go_wp2_with fail
              refine hbd.mono ?_
              rintro e V ⟨hV, (⟨-, t, x, rfl⟩ | ⟨h0, -⟩)⟩
              · have hbV : Below w.heap.size w V := hbl.trans (hV.mono hbl.size)
                have hlv := hl V hbV
                go_wp2_with (go_at_call 8; refine hlv.mono ?_; rintro e V2 ⟨rfl, hV2⟩)
                go_ret
                exact ⟨rfl, hbV.trans (hV2.mono hbV.size)⟩
              · exact absurd rfl h0
end Go.Proofs.YtcabfeehfimooabDoor
