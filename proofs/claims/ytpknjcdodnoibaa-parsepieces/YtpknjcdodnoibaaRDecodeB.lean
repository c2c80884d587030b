/- The walk of the document's Decode, with what it tells of a broken rune. -/
import Derived.Test.YtpknjcdodnoibaaPlain8
import Derived.Test.YtpknjcdodnoibaaRRune
import Derived.Deep.LoopGhost
import Derived.Deep.RegionWith
import Derived.Deep.QuietTactic
import Derived.BigQuiet
import Derived.Deep.DeepCutAuto
import Derived.Deep.CutBlock
namespace Go.Proofs.Ytpknjcdodnoibaa
open Go.RowKit

set_option maxRecDepth 1000000 in
set_option maxHeartbeats 1000000 in
theorem rdecodeB_ne (s : ByteArray) (w : World) (hs : s.size ≤ maxLen) (h0 : 0 < s.size) :
    Calls Try.prog 22 #[.string s] w fun e w' => e = .returned (.tuple #[.int .i32 (Utf8.decode s 0).1, .int .i64 (Utf8.decode s 0).2, .bool (brk (Utf8.decode s 0))]) ∧ Below w.heap.size w w' := by
  unfold maxLen at hs
  have hne := empty_no s h0
  go_enter Try.func22, Try.ntmps22
  go_wp2
  go_loopg [5] 4 (fun k n wr => ∃ m : Nat, n = .int .i64 m ∧ 1 ≤ m ∧ m + k = 5 ∧ Below w.heap.size w wr ∧ Hid (∀ j, 1 ≤ j → j < m → j ≤ s.size → ¬ tryN s (mdl j) j))
  case atStart => exact ⟨1, rfl, by omega, by omega, Below.refl _ _, fun j h1 h2 => by omega⟩
  case round =>
    obtain ⟨m, rfl, hm1, hmk, hb, hno⟩ := hrel
    by_cases hin : m ≤ 4 ∧ m ≤ s.size
    · obtain ⟨hm4, hms⟩ := hin
      have hms' : (m : Int) ≤ s.size := by omega
      go_upto_block 2 with fail
      go_cut [6] (fun c wx => wx = wr ∧ c = .int .i64 (cnd s (mdl m) 0 : Nat))
      case first =>
        have hm : m = 1 ∨ m = 2 ∨ m = 3 ∨ m = 4 := by omega
        rcases hm with rfl | rfl | rfl | rfl
        all_goals go_wp2
        all_goals go_meet
        · exact ⟨rfl, val_int (c0_1 s h0)⟩
        · exact ⟨rfl, val_int (c0_2 s h0)⟩
        · exact ⟨rfl, val_int (c0_3 s h0)⟩
        · exact ⟨rfl, val_int (c0_4 s h0)⟩
      case rest =>
        obtain ⟨rfl, rfl⟩ := hcut
        go_wp2_with fail
        obtain ⟨wo, hwo⟩ : ∃ wo : World, wo = wc := ⟨_, rfl⟩
        subst hwo
        go_loopg [6, 7] (m - 1) (fun k c i wx => wx = wo ∧ ∃ q : Nat, 1 ≤ q ∧ q + k = m ∧ i = .int .i64 q ∧ c = .int .i64 (cnd s (mdl m) (q - 1) : Nat))
        case atStart => exact ⟨rfl, 1, by omega, by omega, rfl, rfl⟩
        case round =>
          obtain ⟨rfl, q, hq1, hqk, rfl, rfl⟩ := hrel
          have hcl := cnd_le s (mdl m) (q - 1) (by omega)
          by_cases hlt : q < m
          · have hqs : q < s.size := by omega
            go_wp2
            go_roundg (m - (q + 1))
            case measure => omega
            case rel => exact ⟨rfl, q + 1, by omega, by omega, by go_num, val_int (step_c s (mdl m) q hq1 hqs (by omega))⟩
          · obtain rfl : q = m := by omega
            obtain ⟨c, hc⟩ : ∃ c : Nat, cnd s (mdl q) (q - 1) = c := ⟨_, rfl⟩
            rw [hc] at hcl
            go_upto_region 18 with fail
            rw [hc]
            have HC : Hid (cnd s (mdl q) (q - 1) = c) := hc
            clear hc
            by_cases htry : Utf8.valid (c : Int) = true ∧ Utf8.encode (c : Int) = s.extract 0 q
            · go_cut [60] (fun b wx => Below wr.heap.size wr wx ∧ b = .bool true)
              case first =>
                obtain ⟨hv, he⟩ := htry
                clear hno HC hlt hqk
                have hw32 := wrap32_nat c hcl
                go_region_with (first | (go_at_call 29; refine (point_yes _ _ hv).mono ?_; rintro e w' ⟨rfl, rfl⟩) | (go_at_call 30; refine (rrune_any _ _).mono ?_; rintro e w2 ⟨rfl, hb2⟩))
                all_goals (go_wp2_with fail; go_meet; exact ⟨((Below.refl _ wr).drew).trans hb2, rfl⟩)
              case rest =>
                obtain ⟨hb3, rfl⟩ := hcut
                have hw32 := wrap32_nat c hcl
                have HT : Hid (Utf8.valid (c : Int) = true ∧ Utf8.encode (c : Int) = s.extract 0 q) := htry
                clear htry
                go_wp2
                go_ret3
                have ht : tryN s (mdl q) q := by unfold tryN; rw [HC.out]; exact HT.out
                have hd := try_dec s (mdl q) q hms ht
                rw [hd, brk_try s (mdl q) q ht, HC.out]
                exact ⟨rfl, hb.trans (hb3.mono hb.size)⟩
            · have hnt : ¬ tryN s (mdl q) q := by unfold tryN; rw [HC.out]; exact htry
              go_cut [60] (fun b wx => Below wr.heap.size wr wx ∧ b = .bool false)
              case first =>
                clear hno HC hlt hqk hnt
                have hw32 := wrap32_nat c hcl
                cases hv : Utf8.valid (c : Int) with
                | true =>
                  have hne' : ¬ Utf8.encode (c : Int) = s.extract 0 q := fun h => htry ⟨hv, h⟩
                  clear htry
                  go_region_with (first | (go_at_call 29; refine (point_yes _ _ hv).mono ?_; rintro e w' ⟨rfl, rfl⟩) | (go_at_call 30; refine (rrune_any _ _).mono ?_; rintro e w2 ⟨rfl, hb2⟩))
                  all_goals (go_wp2_with fail; go_meet; exact ⟨((Below.refl _ wr).drew).trans hb2, beq_no _ _ hne'⟩)
                | false =>
                  clear htry
                  go_quiet ((go_at_call 29; exact Calls.quiet_of_same (point_no _ _ hv)))
                  all_goals go_wp2_with fail
                  all_goals go_meet
                  all_goals exact ⟨below_drewN (Below.refl _ wr) _, rfl⟩
              case rest =>
                obtain ⟨hb3, rfl⟩ := hcut
                go_wp2
                go_roundg (4 - q)
                case measure => omega
                case rel =>
                  refine ⟨q + 1, by go_num, by omega, by omega, hb.trans (hb3.mono hb.size), ?_⟩
                  intro j h1 h2 h3
                  by_cases hjq : j = q
                  · subst hjq; exact hnt
                  · exact hno.out j h1 (by omega) h3
    · have hbr : Utf8.decode s 0 = (65533, 1) := by
        rcases dec_some s h0 with h | ⟨n, h1, h2, h3, h4⟩
        · exact h
        · exact absurd h4 (hno.out n h1 (by omega) h3)
      have HBR : Hid (Utf8.decode s 0 = (65533, 1)) := hbr
      clear hbr hno
      by_cases h4 : m ≤ 4
      · have h5 : ¬ (m : Int) ≤ s.size := by omega
        go_wp2
        go_ret3
        rw [HBR.out]
        exact ⟨rfl, hb⟩
      · go_wp2
        go_ret3
        rw [HBR.out]
        exact ⟨rfl, hb⟩

set_option maxRecDepth 1000000 in
set_option maxHeartbeats 400000 in
theorem rdecodeB_any (s : ByteArray) (w : World) (hs : s.size ≤ maxLen) :
    Calls Try.prog 22 #[.string s] w fun e w' => e = .returned (.tuple #[.int .i32 (dec s).1, .int .i64 (dec s).2, .bool (brk (dec s))]) ∧ Below w.heap.size w w' := by
  by_cases h0 : 0 < s.size
  · rw [dec_ne s h0]; exact rdecodeB_ne s w hs h0
  · have hne := empty_yes s (by omega)
    rw [dec_nil s (by omega)]
    go_enter Try.func22, Try.ntmps22
    go_wp2
    go_ret3
    exact ⟨rfl, Below.refl _ _⟩
end Go.Proofs.Ytpknjcdodnoibaa
