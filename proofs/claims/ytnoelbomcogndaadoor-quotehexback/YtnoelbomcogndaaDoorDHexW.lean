/- The walk of the document's Hex. -/
import Derived.Test.YtnoelbomcogndaaDoorHexW
import Derived.Test.YtnoelbomcogndaaDoorDDig
import Derived.Test.YtnoelbomcogndaaDoorRPadB
import Derived.Test.YtnoelbomcogndaaDoorQReg
namespace Go.Proofs.YtnoelbomcogndaaDoor
open Go.RowKit
set_option linter.unusedVariables false

/-- The mark ahead of the digits. -/
def markS (sh g : Bool) : ByteArray := ⟨(if sh = true then [48, if g then 88 else 120] else []).toArray⟩
theorem markS_size (sh g : Bool) : (markS sh g).size ≤ 2 := by cases sh <;> cases g <;> decide
theorem markS_11 : markS true true = ⟨#[48, 88]⟩ := rfl
theorem markS_10 : markS true false = ⟨#[48, 120]⟩ := rfl
theorem markS_0 (g : Bool) : markS false g = ⟨#[]⟩ := rfl
theorem cutB_le (s : ByteArray) (prec : Int) (hs : s.size ≤ 1000) : cutB s prec = if 0 ≤ prec ∧ prec < s.size then s.extract 0 prec.toNat else s := by
  unfold cutB
  by_cases h : 0 ≤ prec ∧ prec < s.size
  · rw [if_pos h, if_pos (by omega), show min prec 1000 = prec by omega]
  · rw [if_neg h, if_neg (by omega)]
/-- A byte's two digits behind what stands ahead. -/
theorem dhex_step (sh sp g : Bool) (n hi lo : Nat) (x : UInt8) (acc pre : List UInt8) (T P : ByteArray) (hT : T = ⟨acc.toArray⟩) (hP : P = ⟨pre.toArray⟩) (hl : acc.length ≤ 5000) (hpl : pre.length ≤ 3)
    (h1 : x.toNat / 16 = hi) (h2 : x.toNat % 16 = lo) (hp : hexItem sh sp g n x = pre ++ [hexB g hi, hexB g lo]) :
    ∃ T1 A B D T2 : ByteArray, T ++ P = T1 ∧ ¬ 9223372036854775807 < T.size + P.size ∧ (⟨#[hexB g hi]⟩ : ByteArray) = A ∧ (⟨#[hexB g lo]⟩ : ByteArray) = B ∧ A ++ B = D ∧ ¬ 9223372036854775807 < A.size + B.size ∧
      T1 ++ D = T2 ∧ ¬ 9223372036854775807 < T1.size + D.size ∧ T2 = ⟨(acc ++ hexItem sh sp g n x).toArray⟩ := by
  have e1 : T ++ P = ⟨(acc ++ pre).toArray⟩ := by rw [hT, hP]; exact ba_app acc pre
  have e2 : (⟨#[hexB g hi]⟩ : ByteArray) ++ ⟨#[hexB g lo]⟩ = ⟨[hexB g hi, hexB g lo].toArray⟩ := ba_app [hexB g hi] [hexB g lo]
  have e3 : (⟨(acc ++ pre).toArray⟩ : ByteArray) ++ ⟨[hexB g hi, hexB g lo].toArray⟩ = ⟨(acc ++ hexItem sh sp g n x).toArray⟩ := by
    rw [hp, ← List.append_assoc]; exact ba_app (acc ++ pre) [hexB g hi, hexB g lo]
  have z1 : T.size = acc.length := by rw [hT]; simp [ByteArray.size]
  have z2 : P.size = pre.length := by rw [hP]; simp [ByteArray.size]
  have z3 : (⟨(acc ++ pre).toArray⟩ : ByteArray).size = acc.length + pre.length := by simp [ByteArray.size]
  have z4 : (⟨[hexB g hi, hexB g lo].toArray⟩ : ByteArray).size = 2 := rfl
  have z5 : (⟨#[hexB g hi]⟩ : ByteArray).size = 1 := rfl
  have z6 : (⟨#[hexB g lo]⟩ : ByteArray).size = 1 := rfl
  exact ⟨_, _, _, _, _, e1, by omega, rfl, rfl, e2, by omega, e3, by omega, rfl⟩
theorem ba_nil (T : ByteArray) : T ++ (⟨#[]⟩ : ByteArray) = T := by
  apply ByteArray.ext
  rw [ByteArray.data_append]
  simp
theorem blank_mark (sh g : Bool) : (ByteArray.mk #[32]) ++ markS sh g = ⟨(32 :: (if sh = true then [48, if g then 88 else 120] else [])).toArray⟩ := ba_app [32] _
theorem byte_div (u : ByteArray) (n : Nat) (h : n < u.size) : ∃ x hi lo : Nat, (u[n]'h).toNat = x ∧ hi < 16 ∧ lo < 16 ∧ (x : Int).tdiv 16 = (hi : Nat) ∧ (x : Int).tmod 16 = (lo : Nat) ∧ (x : Int) / 16 = (hi : Nat) ∧ (x : Int) % 16 = (lo : Nat) ∧ x < 256 ∧ Hid (x / 16 = hi ∧ x % 16 = lo) := by
  have hx : (u[n]'h).toNat < 256 := (u[n]'h).toNat_lt
  refine ⟨_, _, _, rfl, ?_, ?_, tdiv16 _, tmod16 _, ?_, ?_, hx, ⟨rfl, rfl⟩⟩ <;> omega

set_option maxRecDepth 1000000 in
set_option maxHeartbeats 4000000 in
theorem dhex_any (s : ByteArray) (p mi sh sp z : Bool) (wid prec verb : Int) (w : World) (hs : s.size ≤ 1000) :
    Calls Tryd.prog 14 #[.string s, .agg #[.bool p, .bool mi, .bool sh, .bool sp, .bool z, .int .i64 wid, .int .i64 prec, .int .i32 verb]] w fun e w' => e = .returned (.string (padS (hexS s sh sp (decide (verb = 88)) prec) mi z wid)) ∧ Below w.heap.size w w' := by
  have hbA : Below w.heap.size w (w.alloc (.cells #[.bool p, .bool mi, .bool sh, .bool sp, .bool z, .int .i64 wid, .int .i64 prec, .int .i32 verb] 28)) := (Below.refl _ _).alloc (Nat.le_refl _) _
  have f0 : ∀ x : Cl (w.alloc (.cells #[.bool p, .bool mi, .bool sh, .bool sp, .bool z, .int .i64 wid, .int .i64 prec, .int .i32 verb] 28)), x.w.cell? ⟨w.heap.size, 0, none⟩ = some (.bool p) := fun x => x.cell (by simp)
  have f1 : ∀ x : Cl (w.alloc (.cells #[.bool p, .bool mi, .bool sh, .bool sp, .bool z, .int .i64 wid, .int .i64 prec, .int .i32 verb] 28)), x.w.cell? ⟨w.heap.size, 1, none⟩ = some (.bool mi) := fun x => x.cell (by simp)
  have f2 : ∀ x : Cl (w.alloc (.cells #[.bool p, .bool mi, .bool sh, .bool sp, .bool z, .int .i64 wid, .int .i64 prec, .int .i32 verb] 28)), x.w.cell? ⟨w.heap.size, 2, none⟩ = some (.bool sh) := fun x => x.cell (by simp)
  have f3 : ∀ x : Cl (w.alloc (.cells #[.bool p, .bool mi, .bool sh, .bool sp, .bool z, .int .i64 wid, .int .i64 prec, .int .i32 verb] 28)), x.w.cell? ⟨w.heap.size, 3, none⟩ = some (.bool sp) := fun x => x.cell (by simp)
  have f4 : ∀ x : Cl (w.alloc (.cells #[.bool p, .bool mi, .bool sh, .bool sp, .bool z, .int .i64 wid, .int .i64 prec, .int .i32 verb] 28)), x.w.cell? ⟨w.heap.size, 4, none⟩ = some (.bool z) := fun x => x.cell (by simp)
  have f5 : ∀ x : Cl (w.alloc (.cells #[.bool p, .bool mi, .bool sh, .bool sp, .bool z, .int .i64 wid, .int .i64 prec, .int .i32 verb] 28)), x.w.cell? ⟨w.heap.size, 5, none⟩ = some (.int .i64 wid) := fun x => x.cell (by simp)
  have f6 : ∀ x : Cl (w.alloc (.cells #[.bool p, .bool mi, .bool sh, .bool sp, .bool z, .int .i64 wid, .int .i64 prec, .int .i32 verb] 28)), x.w.cell? ⟨w.heap.size, 6, none⟩ = some (.int .i64 prec) := fun x => x.cell (by simp)
  have f7 : ∀ x : Cl (w.alloc (.cells #[.bool p, .bool mi, .bool sh, .bool sp, .bool z, .int .i64 wid, .int .i64 prec, .int .i32 verb] 28)), x.w.cell? ⟨w.heap.size, 7, none⟩ = some (.int .i32 verb) := fun x => x.cell (by simp)
  have hcs := cutB_size s prec
  have hcb := cutB_le s prec hs
  have HC0 : Hid (0 ≤ prec ∧ prec < s.size → s.extract 0 prec.toNat = cutB s prec) := fun h => by rw [hcb, if_pos h]
  have HC1 : Hid (¬ (0 ≤ prec ∧ prec < s.size) → s = cutB s prec) := fun h => by rw [hcb, if_neg h]
  have HU : Hid (hexS s sh sp (decide (verb = 88)) prec = ⟨(hexGo sh sp (decide (verb = 88)) 0 (cutB s prec).data.toList).toArray⟩) := rfl
  clear hcb
  obtain ⟨g, hg⟩ : ∃ g, decide (verb = 88) = g := ⟨_, rfl⟩
  rw [hg] at HU ⊢
  have HG1 : Hid (verb = 88 → g = true) := fun h => by rw [← hg]; simp [h]
  have HG0 : Hid (¬ verb = 88 → g = false) := fun h => by rw [← hg]; simp [h]
  clear hg
  generalize hexS s sh sp g prec = hx at *
  generalize cutB s prec = u at *
  have hms := markS_size sh g
  have HM1 : Hid (sh = true → g = true → markS sh g = ⟨#[48, 88]⟩) := fun h1 h2 => by subst h1 h2; rfl
  have HM0 : Hid (sh = true → g = false → markS sh g = ⟨#[48, 120]⟩) := fun h1 h2 => by subst h1 h2; rfl
  have HMn : Hid (sh = false → markS sh g = ⟨#[]⟩) := fun h1 => by subst h1; rfl
  have HMb : Hid ((ByteArray.mk #[32]) ++ markS sh g = ⟨(32 :: (if sh = true then [48, if g then 88 else 120] else [])).toArray⟩) := blank_mark sh g
  have HMM : Hid (markS sh g = ⟨(if sh = true then [48, if g then 88 else 120] else []).toArray⟩) := rfl
  generalize markS sh g = M at *
  go_enter Tryd.func14, Tryd.ntmps14
  go_upto_region 1 with fail
  go_cut [18] (fun b wx => wx = (w.alloc (.cells #[.bool p, .bool mi, .bool sh, .bool sp, .bool z, .int .i64 wid, .int .i64 prec, .int .i32 verb] 28)) ∧ b = .bool (decide (0 ≤ prec ∧ prec < s.size)))
  case first =>
    by_cases h1 : 0 ≤ prec
    · by_cases h2 : prec < s.size
      · have hd : decide (0 ≤ prec ∧ prec < s.size) = true := by simp [h1, h2]
        go_wp2
        go_meet
        exact ⟨rfl, by rw [hd]⟩
      · have hd : decide (0 ≤ prec ∧ prec < s.size) = false := by simp [h2]
        go_wp2
        go_meet
        exact ⟨rfl, by rw [hd]⟩
    · have hd : decide (0 ≤ prec ∧ prec < s.size) = false := by simp [h1]
      go_wp2
      go_meet
      exact ⟨rfl, by rw [hd]⟩
  case rest =>
    obtain ⟨rfl, hb18⟩ := hcut
    go_upto_if 18 with fail
    go_cut [0] (fun s0 wx => wx = (w.alloc (.cells #[.bool p, .bool mi, .bool sh, .bool sp, .bool z, .int .i64 wid, .int .i64 prec, .int .i32 verb] 28)) ∧ s0 = .string u)
    case first =>
      by_cases h1 : 0 ≤ prec ∧ prec < s.size
      · have hd : decide (0 ≤ prec ∧ prec < s.size) = true := by simp [h1]
        rw [hd] at hb18
        subst hb18
        have hu := HC0.out h1
        obtain ⟨h1a, h1b⟩ := h1
        go_wp2
        go_meet
        exact ⟨rfl, rfl⟩
      · have hd : decide (0 ≤ prec ∧ prec < s.size) = false := by simp [h1]
        rw [hd] at hb18
        subst hb18
        have hu := HC1.out h1
        subst hu
        go_wp2
        go_meet
        exact ⟨rfl, rfl⟩
    case rest =>
      obtain ⟨rfl, rfl⟩ := hcut
      clear HC0 HC1 hb18
      go_upto_region 3 with fail
      go_cut [5] (fun gb wx => wx = (w.alloc (.cells #[.bool p, .bool mi, .bool sh, .bool sp, .bool z, .int .i64 wid, .int .i64 prec, .int .i32 verb] 28)) ∧ gb = .bool g)
      case first =>
        by_cases hv : verb = 88
        · have hg := HG1.out hv
          subst hv
          subst hg
          go_wp2
          go_meet
          exact ⟨rfl, rfl⟩
        · have hg := HG0.out hv
          subst hg
          go_wp2
          go_meet
          exact ⟨rfl, by simp [hv]⟩
      case rest =>
        obtain ⟨rfl, rfl⟩ := hcut
        clear HG0 HG1
        go_upto_if 27 with fail
        go_cut [6] (fun m wx => wx = (w.alloc (.cells #[.bool p, .bool mi, .bool sh, .bool sp, .bool z, .int .i64 wid, .int .i64 prec, .int .i32 verb] 28)) ∧ m = .string M)
        case first =>
          cases sh with
          | false =>
            have hm := HMn.out rfl
            subst hm
            go_wp2
            go_meet
            exact ⟨rfl, rfl⟩
          | true =>
            cases g with
            | false =>
              have hm := HM0.out rfl rfl
              subst hm
              go_wp2
              go_meet
              exact ⟨rfl, rfl⟩
            | true =>
              have hm := HM1.out rfl rfl
              subst hm
              go_wp2
              go_meet
              exact ⟨rfl, rfl⟩
        case rest =>
          obtain ⟨rfl, rfl⟩ := hcut
          clear HM0 HM1 HMn
          go_wp2
          go_loopg [7, 8] u.size (fun gg t i wr => ∃ (n : Nat) (acc : List UInt8) (T : ByteArray), t = .string T ∧ i = .int .i64 n ∧ n + gg = u.size ∧ (∃ x : Cl (w.alloc (.cells #[.bool p, .bool mi, .bool sh, .bool sp, .bool z, .int .i64 wid, .int .i64 prec, .int .i32 verb] 28)), wr = x.w) ∧ acc.length ≤ 5 * n ∧ Hid (T = ⟨acc.toArray⟩) ∧ Hid (acc ++ hexGo sh sp g n (u.data.toList.drop n) = hexGo sh sp g 0 u.data.toList))
          case atStart => exact ⟨0, [], ⟨#[]⟩, rfl, rfl, Nat.zero_add _, ⟨⟨_, Below.refl _ _⟩, rfl⟩, by simp, rfl, rfl⟩
          case round =>
            obtain ⟨n, acc, T, rfl, rfl, hng, ⟨x, rfl⟩, hal, HT, hacc⟩ := hrel
            by_cases hlt : n < u.size
            · by_cases hn0 : n = 0
              · subst hn0
                have hns : 0 < u.size := hlt
                have hnI : (0 : Int) < u.size := by omega
                obtain ⟨xb, hi, lo, hx0, hhi, hlo, q1, q2, q3, q4, hx256, HX⟩ := byte_div u 0 hns
                have HV : Hid ((u[0]'hns).toNat / 16 = hi ∧ (u[0]'hns).toNat % 16 = lo) := by rw [hx0]; exact HX
                clear HX
                have HItem := hexItem_parts sh sp g 0 hi lo (u[0]'hns) HV.out.1 HV.out.2
                have hpb : hexItem sh sp g 0 (u[0]'hns) = (if sh = true then [48, if g then 88 else 120] else []) ++ [hexB g hi, hexB g lo] := by
                  rw [HItem]; simp [preA, preB]
                obtain ⟨T1, A, B, D, T2, t1, z1, t2, t3, t4, z2, t5, z3, HT2⟩ := dhex_step sh sp g 0 hi lo (u[0]'hns) acc _ T _ HT.out HMM.out (by omega) (by cases sh <;> simp) HV.out.1 HV.out.2 hpb
                have hD1 : ∀ w, Calls Tryd.prog 34 #[.int .i64 hi, .bool g] w fun e w' => e = .returned (.string A) ∧ w' = w := by rw [← t2]; exact digit_any hi g hhi
                have hD2 : ∀ w, Calls Tryd.prog 34 #[.int .i64 lo, .bool g] w fun e w' => e = .returned (.string B) ∧ w' = w := by rw [← t3]; exact digit_any lo g hlo
                have HR : Hid (T2 = ⟨(acc ++ hexItem sh sp g 0 (u[0]'hns)).toArray⟩) := HT2
                have HA : Hid ((acc ++ hexItem sh sp g 0 (u[0]'hns)) ++ hexGo sh sp g (0 + 1) (u.data.toList.drop (0 + 1)) = hexGo sh sp g 0 u.data.toList) := by
                  show _ = _
                  rw [← hacc.out, hexGo_at sh sp g u 0 hns, List.append_assoc]
                have hl2 : (acc ++ hexItem sh sp g 0 (u[0]'hns)).length ≤ 5 * (0 + 1) := by
                  have := hexItem_len sh sp g 0 (u[0]'hns)
                  rw [List.length_append]; omega
                clear t2 t3 HT2 HItem hacc HT hpb
                generalize acc ++ hexItem sh sp g 0 (u[0]'hns) = acc2 at *
                clear HV
                go_wp2
                refine wp_region_above (w.alloc (.cells #[.bool p, .bool mi, .bool sh, .bool sp, .bool z, .int .i64 wid, .int .i64 prec, .int .i32 verb] 28)) x.below (by kernel_rfl) (by kernel_rfl) ?_
                intro hCl
                repeat (go_big_quiet_step ((first | (go_at_call_of 34 hi; exact Cl.call_same (hD1 _)) | (go_at_call_of 34 lo; exact Cl.call_same (hD2 _)))))
                refine wpQuiet_nil ?_
                intro _ hw'
                obtain ⟨y, hy⟩ := hw'
                subst hy
                go_wp2
                go_roundg (gk - 1)
                case measure => omega
                case rel => exact ⟨0 + 1, acc2, T2, rfl, by go_num, by omega, ⟨y, rfl⟩, hl2, HR, HA⟩
              · have hns : n < u.size := hlt
                have hnI : (n : Int) < u.size := by omega
                have hc1 : 0 < (n : Int) := by omega
                have hc2 : ¬ (n : Int) = 0 := by omega
                have hc3 : 0 < n := by omega
                obtain ⟨xb, hi, lo, hx0, hhi, hlo, q1, q2, q3, q4, hx256, HX⟩ := byte_div u n hns
                have HV : Hid ((u[n]'hns).toNat / 16 = hi ∧ (u[n]'hns).toNat % 16 = lo) := by rw [hx0]; exact HX
                clear HX
                by_cases hsp : sp = true
                · obtain ⟨PM, hpm⟩ : ∃ PM, (ByteArray.mk #[32]) ++ M = PM := ⟨_, rfl⟩
                  have hPM : PM = ⟨(32 :: (if sh = true then [48, if g then 88 else 120] else [])).toArray⟩ := by rw [← hpm]; exact HMb.out
                  have zm : ¬ 9223372036854775807 < (ByteArray.mk #[32]).size + M.size := by
                    have : (ByteArray.mk #[32]).size = 1 := rfl
                    omega
                  have c3 : x.w.cell? ⟨w.heap.size, 3, none⟩ = some (.bool true) := (f3 x).trans (by rw [hsp])
                  clear f3
                  have HItem := hexItem_parts sh sp g n hi lo (u[n]'hns) HV.out.1 HV.out.2
                  have hpb : hexItem sh sp g n (u[n]'hns) = (32 :: (if sh = true then [48, if g then 88 else 120] else [])) ++ [hexB g hi, hexB g lo] := by
                    rw [HItem, hsp]; simp [preA, preB, hc3]
                  obtain ⟨T1, A, B, D, T2, t1, z1, t2, t3, t4, z2, t5, z3, HT2⟩ := dhex_step sh sp g n hi lo (u[n]'hns) acc _ T _ HT.out hPM (by omega) (by cases sh <;> simp) HV.out.1 HV.out.2 hpb
                  have hD1 : ∀ w, Calls Tryd.prog 34 #[.int .i64 hi, .bool g] w fun e w' => e = .returned (.string A) ∧ w' = w := by rw [← t2]; exact digit_any hi g hhi
                  have hD2 : ∀ w, Calls Tryd.prog 34 #[.int .i64 lo, .bool g] w fun e w' => e = .returned (.string B) ∧ w' = w := by rw [← t3]; exact digit_any lo g hlo
                  have HR : Hid (T2 = ⟨(acc ++ hexItem sh sp g n (u[n]'hns)).toArray⟩) := HT2
                  have HA : Hid ((acc ++ hexItem sh sp g n (u[n]'hns)) ++ hexGo sh sp g (n + 1) (u.data.toList.drop (n + 1)) = hexGo sh sp g 0 u.data.toList) := by
                    show _ = _
                    rw [← hacc.out, hexGo_at sh sp g u n hns, List.append_assoc]
                  have hl2 : (acc ++ hexItem sh sp g n (u[n]'hns)).length ≤ 5 * (n + 1) := by
                    have := hexItem_len sh sp g n (u[n]'hns)
                    rw [List.length_append]; omega
                  clear t2 t3 HT2 HItem hacc HT hpb
                  generalize acc ++ hexItem sh sp g n (u[n]'hns) = acc2 at *
                  clear HV
                  clear hPM
                  have HSP : Hid (sp = true) := hsp
                  clear hsp
                  go_wp2
                  refine wp_region_above (w.alloc (.cells #[.bool p, .bool mi, .bool sh, .bool sp, .bool z, .int .i64 wid, .int .i64 prec, .int .i32 verb] 28)) x.below (by kernel_rfl) (by kernel_rfl) ?_
                  intro hCl
                  repeat (go_big_quiet_step ((first | (go_at_call_of 34 hi; exact Cl.call_same (hD1 _)) | (go_at_call_of 34 lo; exact Cl.call_same (hD2 _)))))
                  refine wpQuiet_nil ?_
                  intro _ hw'
                  obtain ⟨y, hy⟩ := hw'
                  subst hy
                  go_wp2
                  go_roundg (gk - 1)
                  case measure => omega
                  case rel => exact ⟨n + 1, acc2, T2, rfl, by go_num, by omega, ⟨y, rfl⟩, hl2, HR, HA⟩
                · replace hsp : sp = false := by simpa using hsp
                  have c3 : x.w.cell? ⟨w.heap.size, 3, none⟩ = some (.bool false) := (f3 x).trans (by rw [hsp])
                  clear f3
                  have HItem := hexItem_parts sh sp g n hi lo (u[n]'hns) HV.out.1 HV.out.2
                  have hpb : hexItem sh sp g n (u[n]'hns) = [] ++ [hexB g hi, hexB g lo] := by
                    rw [HItem, hsp]; simp [preA, preB, hn0]
                  obtain ⟨T1, A, B, D, T2, t1, z1, t2, t3, t4, z2, t5, z3, HT2⟩ := dhex_step sh sp g n hi lo (u[n]'hns) acc _ T _ HT.out (rfl : (⟨#[]⟩ : ByteArray) = ⟨([] : List UInt8).toArray⟩) (by omega) (by simp) HV.out.1 HV.out.2 hpb
                  have hD1 : ∀ w, Calls Tryd.prog 34 #[.int .i64 hi, .bool g] w fun e w' => e = .returned (.string A) ∧ w' = w := by rw [← t2]; exact digit_any hi g hhi
                  have hD2 : ∀ w, Calls Tryd.prog 34 #[.int .i64 lo, .bool g] w fun e w' => e = .returned (.string B) ∧ w' = w := by rw [← t3]; exact digit_any lo g hlo
                  have HR : Hid (T2 = ⟨(acc ++ hexItem sh sp g n (u[n]'hns)).toArray⟩) := HT2
                  have HA : Hid ((acc ++ hexItem sh sp g n (u[n]'hns)) ++ hexGo sh sp g (n + 1) (u.data.toList.drop (n + 1)) = hexGo sh sp g 0 u.data.toList) := by
                    show _ = _
                    rw [← hacc.out, hexGo_at sh sp g u n hns, List.append_assoc]
                  have hl2 : (acc ++ hexItem sh sp g n (u[n]'hns)).length ≤ 5 * (n + 1) := by
                    have := hexItem_len sh sp g n (u[n]'hns)
                    rw [List.length_append]; omega
                  clear t2 t3 HT2 HItem hacc HT hpb
                  generalize acc ++ hexItem sh sp g n (u[n]'hns) = acc2 at *
                  clear HV
                  obtain rfl : T = T1 := by rw [← t1]; exact (ba_nil T).symm
                  clear t1 z1
                  have HSP : Hid (sp = false) := hsp
                  clear hsp
                  go_wp2
                  refine wp_region_above (w.alloc (.cells #[.bool p, .bool mi, .bool sh, .bool sp, .bool z, .int .i64 wid, .int .i64 prec, .int .i32 verb] 28)) x.below (by kernel_rfl) (by kernel_rfl) ?_
                  intro hCl
                  repeat (go_big_quiet_step ((first | (go_at_call_of 34 hi; exact Cl.call_same (hD1 _)) | (go_at_call_of 34 lo; exact Cl.call_same (hD2 _)))))
                  refine wpQuiet_nil ?_
                  intro _ hw'
                  obtain ⟨y, hy⟩ := hw'
                  subst hy
                  go_wp2
                  go_roundg (gk - 1)
                  case measure => omega
                  case rel => exact ⟨n + 1, acc2, T2, rfl, by go_num, by omega, ⟨y, rfl⟩, hl2, HR, HA⟩
            · have hnI : ¬ (n : Int) < u.size := by omega
              have HF : Hid (acc = hexGo sh sp g 0 u.data.toList) := by
                have := hacc.out
                rw [show u.data.toList.drop n = [] from List.drop_eq_nil_of_le (by rw [list_len]; omega)] at this
                show acc = _
                rw [← this]
                simp [hexGo]
              have hTs : T.size ≤ 1000000 := by
                rw [HT.out]
                show acc.toArray.size ≤ _
                simp; omega
              have hPd : ∀ w, Calls Tryd.prog 35 #[.string T, .agg #[.bool p, .bool mi, .bool sh, .bool sp, .bool z, .int .i64 wid, .int .i64 prec, .int .i32 verb]] w fun e w' => e = .returned (.string (padS T mi z wid)) ∧ Below w.heap.size w w' := fun w => rpad_any T p mi sh sp z wid prec verb w hTs
              have HX : Hid (hx = T) := by
                show hx = T
                rw [HU.out, HT.out, HF.out]
              clear hacc HF HT HU
              go_wp2_with (go_at_call 35; refine (hPd _).mono ?_; rintro e w5 ⟨rfl, hb5⟩)
              go_ret
              rw [HX.out]
              exact ⟨rfl, hbA.trans ((x.below.trans (hb5.mono x.below.size)).mono hbA.size)⟩
end Go.Proofs.YtnoelbomcogndaaDoor
