/- The walk of the document's Unquote. -/
import Derived.Test.YtnoelbomcogndaaDoorDUnqM
import Derived.Test.YtnoelbomcogndaaDoorDVal
import Derived.Test.YtnoelbomcogndaaDoorDQuo
import Derived.Test.YtnoelbomcogndaaDoorQReg
import Derived.Deep.LoopGhost
import Derived.Deep.DeepCutAuto
import Derived.Deep.CutBlock
namespace Go.Proofs.YtnoelbomcogndaaDoor
open Go.RowKit
set_option linter.unusedVariables false

theorem two_list (R : ByteArray) (h2 : 2 ≤ R.size) : R.data.toList = (R[0]'(by omega)) :: (R[1]'(by omega)) :: R.data.toList.drop 2 := by
  have e0 : R.data.toList.drop 0 = (R[0]'(by omega)) :: R.data.toList.drop 1 := by
    rw [List.drop_eq_getElem_cons (show 0 < R.data.toList.length by rw [list_len]; omega)]; rfl
  have e1 : R.data.toList.drop 1 = (R[1]'(by omega)) :: R.data.toList.drop 2 := by
    rw [List.drop_eq_getElem_cons (show 1 < R.data.toList.length by rw [list_len]; omega)]; rfl
  rw [e1] at e0
  exact e0
theorem byte_is (x : UInt8) (n : Nat) (hn : n < 256) (h : x.toNat = n) : x = UInt8.ofNat n := by
  apply UInt8.toNat_inj.1
  rw [h]; simp; omega
/-- The letters of the document. -/
theorem letter_at (i : Nat) (h : i < (ByteArray.mk #[97, 98, 116, 110, 118, 102, 114]).size) : ((ByteArray.mk #[97, 98, 116, 110, 118, 102, 114])[i]'h).toNat = escT i := by
  match i, h with
  | 0, _ => rfl
  | 1, _ => rfl
  | 2, _ => rfl
  | 3, _ => rfl
  | 4, _ => rfl
  | 5, _ => rfl
  | 6, _ => rfl
  | n + 7, h => exact absurd h (by show ¬ n + 7 < 7; omega)
theorem wrapB (n : Int) : 0 ≤ IntKind.u8.wrap n ∧ IntKind.u8.wrap n < 256 ∧ (0 ≤ n → n < 256 → IntKind.u8.wrap n = n) := by
  unfold IntKind.wrap
  simp [IntKind.bits, IntKind.signed]
  omega
theorem quoS_big (u : ByteArray) (a : Bool) : 2 ≤ (quoS u a).size := by
  show 2 ≤ (34 :: (quoI a u.data.toList ++ [34])).toArray.size
  simp
theorem one_str (x : Int) : (strOfNums [x]).size = 1 := rfl
theorem sign_str (R : ByteArray) (h2 : 2 ≤ R.size) : strOfNums [((R[1]'(by omega)).toNat : Int)] = R.extract 1 2 := by
  rw [one_byte R 1 (by omega)]
  show (⟨#[UInt8.ofNat (((R[1]'(by omega)).toNat : Nat) : Int).toNat]⟩ : ByteArray) = _
  simp
theorem letter_str (k : Nat) (h : k < 7) : strOfNums [((7 + k : Nat) : Int)] = Utf8.encode ((7 + k : Nat) : Int) := str1 (7 + k) (by omega)

/-- The answer: the text, where it is one in quotes. -/
def UAns (s r : ByteArray) (ok : Bool) : Prop := (ok = true ∧ (∀ u a, s = quoS u a → r = u) ∧ ∃ a, s = quoS r a) ∨ (ok = false ∧ r = ⟨#[]⟩ ∧ ¬ ∃ u a, s = quoS u a)

set_option maxRecDepth 1000000 in
set_option maxHeartbeats 8000000 in
theorem dunquote_any (s : ByteArray) (w : World) (hs : s.size ≤ 1000) :
    Calls Tryd.prog 11 #[.string s] w fun e w' => ∃ (r : ByteArray) (ok : Value), e = .returned (.tuple #[.string r, ok]) ∧ Below w.heap.size w w' ∧ ∃ b, ok = .bool b ∧ UAns s r b := by
  by_cases h2 : s.size < 2
  · have h2I : (s.size : Int) < 2 := by omega
    have HN : Hid (¬ ∃ u a, s = quoS u a) := by
      rintro ⟨u, a, h⟩
      have := quoS_big u a
      rw [← h] at this
      omega
    go_enter Tryd.func11, Tryd.ntmps11
    go_wp2
    go_ret2
    exact ⟨⟨#[]⟩, .bool false, rfl, Below.refl _ _, false, rfl, .inr ⟨rfl, rfl, HN.out⟩⟩
  · have h2I : ¬ (s.size : Int) < 2 := by omega
    have HI0 : Hid (UInv s (s.extract 1 (s.size - 1)) ⟨#[]⟩) := uinv_start s
    have hz0 : (s.extract 1 (s.size - 1)).size ≤ s.size - 2 := by rw [ByteArray.size_extract]; omega
    have hsub : (s.size : Int) - 1 = ((s.size - 1 : Nat) : Int) := by omega
    go_enter Tryd.func11, Tryd.ntmps11
    go_wp2
    go_loopg [4, 5] s.size (fun g t r wr => (∃ y : Cl w, wr = y.w) ∧ ∃ T R : ByteArray, t = .string T ∧ r = .string R ∧ R.size ≤ g ∧ T.size + 4 * R.size ≤ 4 * s.size ∧ Hid (UInv s R T))
    case atStart => exact ⟨⟨⟨_, Below.refl _ _⟩, rfl⟩, ⟨#[]⟩, _, rfl, rfl, by omega, by show 0 + _ ≤ _; omega, HI0⟩
    case round =>
      clear HI0 hz0
      obtain ⟨⟨y, rfl⟩, T, R, rfl, rfl, hRg, hTR, HI⟩ := hrel
      by_cases h0 : 0 < R.size
      · have hne : R.toList.isEmpty = false := empty_no R h0
        have h0I : (0 : Int) < R.size := by omega
        have h1I : (1 : Int) ≤ R.size := by omega
        obtain ⟨x0, hx0⟩ : ∃ x0, (R[0]'h0).toNat = x0 := ⟨_, rfl⟩
        by_cases hA : ¬ x0 = 92 ∨ R.size < 2
        · have HN : Hid (UInv s (R.extract 1 R.size) (T ++ R.extract 0 1)) := uinv_plain s R T HI.out h0 (by rw [hx0]; exact hA)
          have hz1 : (R.extract 1 R.size).size = R.size - 1 := tail_size R 1
          have hz2 : (R.extract 0 1).size = 1 := by rw [ByteArray.size_extract]; omega
          have hz3 : (T ++ R.extract 0 1).size = T.size + 1 := by rw [app_size, hz2]
          obtain ⟨X, hX⟩ : ∃ X, R.extract 0 1 = X := ⟨_, rfl⟩
          rw [hX] at HN hz2 hz3
          have hsum : ¬ 9223372036854775807 < T.size + X.size := by omega
          obtain ⟨T2, hT2⟩ : ∃ T2, T ++ X = T2 := ⟨_, rfl⟩
          rw [hT2] at HN hz3
          have Z1 : Hid ((R.extract 1 R.size).size = R.size - 1) := hz1
          have Z3 : Hid (T2.size = T.size + 1) := hz3
          clear HI hz1 hz3
          by_cases hB : x0 = 92
          · subst hB
            have hlen : R.size < 2 := by omega
            have hlI : (R.size : Int) < 2 := by omega
            have hlD : decide ((R.size : Int) < 2) = true := by simp; omega
            clear hA
            go_wp2
            go_roundg (gk - 1)
            case measure => omega
            case rel => exact ⟨⟨y, rfl⟩, T2, _, rfl, rfl, by have := Z1.out; omega, by have := Z1.out; have := Z3.out; omega, HN⟩
          · have hBI : ¬ (x0 : Int) = 92 := by omega
            clear hA
            go_wp2
            go_roundg (gk - 1)
            case measure => omega
            case rel => exact ⟨⟨y, rfl⟩, T2, _, rfl, rfl, by have := Z1.out; omega, by have := Z1.out; have := Z3.out; omega, HN⟩
        · have hx92 : x0 = 92 := by omega
          have h2R : 2 ≤ R.size := by omega
          subst hx92
          clear hA
          have hlI : ¬ (R.size : Int) < 2 := by omega
          have hlD : decide ((R.size : Int) < 2) = false := by simp; omega
          have hlN : decide (R.size < 2) = false := by simp; omega
          have h2I' : (2 : Int) ≤ R.size := by omega
          have h1lt : (1 : Int) < R.size := by omega
          have hRl := two_list R h2R
          have hR0 : R[0]'h0 = 92 := byte_is _ 92 (by omega) hx0
          rw [hR0] at hRl
          have HL : Hid (∃ b tl, R.data.toList = 92 :: b :: tl ∧ R[1]'(by omega) = b) := ⟨_, _, hRl, rfl⟩
          have HL2 : Hid (∃ b tl, R.data.toList = 92 :: b :: tl) := ⟨_, _, hRl⟩
          have HRL : Hid (R.data.toList = (92 : UInt8) :: (R[1]'(by omega)) :: R.data.toList.drop 2) := hRl
          have htl : (R.extract 2 R.size).data.toList = R.data.toList.drop 2 := tail_list R 2
          have htz : (R.extract 2 R.size).size = R.size - 2 := tail_size R 2
          obtain ⟨x1, hx1⟩ : ∃ x1, (R[1]'(by omega)).toNat = x1 := ⟨_, rfl⟩
          have hx256 : x1 < 256 := by rw [← hx1]; exact (R[1]'(by omega)).toNat_lt
          clear hRl hR0
          have kc := conv1
          by_cases hb120 : x1 = 120
          · subst hb120
            have hbt : R[1]'(by omega) = 120 := byte_is _ 120 (by omega) hx1
            have hV : ∀ w, Calls Tryd.prog 26 #[.string (R.extract 2 R.size), .int .i64 (2 : Nat)] w fun e w' => ∃ v : Int, e = .returned (.int .i64 v) ∧ Below w.heap.size w w' ∧ -1 ≤ v ∧ v ≤ 20000000 ∧ (0 ≤ v → 2 ≤ R.size - 2) ∧ (∀ x rest, x ≤ 1114111 → x < 16 ^ 2 → R.data.toList.drop 2 = hexL x 2 ++ rest → v = (x : Nat)) := fun w => by
              have := dvalue_any (R.extract 2 R.size) 2 w (by omega) (by omega)
              rw [htl, htz] at this
              exact this
            have HV : Hid (∀ w, Calls Tryd.prog 26 #[.string (R.extract 2 R.size), .int .i64 2] w fun e w' => ∃ v : Int, e = .returned (.int .i64 v) ∧ Below w.heap.size w w' ∧ -1 ≤ v ∧ v ≤ 20000000 ∧ (0 ≤ v → 2 ≤ R.size - 2) ∧ (∀ x rest, x ≤ 1114111 → x < 16 ^ 2 → R.data.toList.drop 2 = hexL x 2 ++ rest → v = (x : Nat))) := hV
            clear hV htl htz
            go_upto_if 61 with (go_at_call 26; refine (HV.out _).mono ?_; rintro e w9 ⟨v, rfl, hb9, hv1, hv2, hv3, hv4⟩)
            obtain ⟨y2, hy2⟩ : ∃ y2 : Cl w, w9 = y2.w := ⟨⟨w9, y.below.trans (hb9.mono y.below.size)⟩, rfl⟩
            subst hy2
            by_cases hneg : v < 0
            · have HF : Hid (¬ ∃ u a, s = quoS u a) := uinv_no s R T HI.out _ _ HRL.out 2 (by rw [hbt]; decide) (fun x r h1 h2 h3 => by have := hv4 x r h1 h2 h3; omega)
              clear HI HL HL2 HRL HV hv4 hb9
              go_wp2
              go_ret2
              exact ⟨⟨#[]⟩, .bool false, rfl, y2.below, false, rfl, .inr ⟨rfl, rfl, HF.out⟩⟩
            · have h4 : 2 ≤ R.size - 2 := hv3 (by omega)
              have hmin : min 4 R.size = 4 := by omega
              have hnI : (4 : Int) ≤ R.size := by omega
              have hRd : Reads R (strOfNums [v % 256]) (min 4 R.size) := reads_x R h2R HL.out hx1 v (v % 256) hv4 (fun x h1 h2 => by omega)
              rw [hmin] at hRd
              have HN : Hid (UInv s (R.extract 4 R.size) (T ++ strOfNums [v % 256])) := uinv_esc s R T _ 4 HI.out HL2.out hRd
              obtain ⟨b, hb⟩ : ∃ b, v % 256 = b := ⟨_, rfl⟩
              rw [hb] at HN hRd
              have hz := one_str b
              have hsum : ¬ 9223372036854775807 < T.size + (strOfNums [b]).size := by omega
              obtain ⟨T2, hT2⟩ : ∃ T2, T ++ strOfNums [b] = T2 := ⟨_, rfl⟩
              have Z3 : Hid (T2.size = T.size + 1) := by show T2.size = _; rw [← hT2, app_size, hz]
              rw [hT2] at HN
              have Z1 : Hid ((R.extract 4 R.size).size = R.size - 4) := tail_size R 4
              clear HI HL HL2 HRL HV hv4 hb9 hRd hz
              go_wp2
              go_roundg (gk - 1)
              case measure => omega
              case rel => exact ⟨⟨⟨_, (y2.below.alloc y2.below.size _)⟩, rfl⟩, T2, _, rfl, rfl, by have := Z1.out; omega, by have := Z1.out; have := Z3.out; omega, HN⟩
          by_cases hb117 : x1 = 117
          · subst hb117
            have hbt : R[1]'(by omega) = 117 := byte_is _ 117 (by omega) hx1
            have hV : ∀ w, Calls Tryd.prog 26 #[.string (R.extract 2 R.size), .int .i64 (4 : Nat)] w fun e w' => ∃ v : Int, e = .returned (.int .i64 v) ∧ Below w.heap.size w w' ∧ -1 ≤ v ∧ v ≤ 20000000 ∧ (0 ≤ v → 4 ≤ R.size - 2) ∧ (∀ x rest, x ≤ 1114111 → x < 16 ^ 4 → R.data.toList.drop 2 = hexL x 4 ++ rest → v = (x : Nat)) := fun w => by
              have := dvalue_any (R.extract 2 R.size) 4 w (by omega) (by omega)
              rw [htl, htz] at this
              exact this
            have HV : Hid (∀ w, Calls Tryd.prog 26 #[.string (R.extract 2 R.size), .int .i64 4] w fun e w' => ∃ v : Int, e = .returned (.int .i64 v) ∧ Below w.heap.size w w' ∧ -1 ≤ v ∧ v ≤ 20000000 ∧ (0 ≤ v → 4 ≤ R.size - 2) ∧ (∀ x rest, x ≤ 1114111 → x < 16 ^ 4 → R.data.toList.drop 2 = hexL x 4 ++ rest → v = (x : Nat))) := hV
            clear hV htl htz
            go_upto_if 80 with (go_at_call 26; refine (HV.out _).mono ?_; rintro e w9 ⟨v, rfl, hb9, hv1, hv2, hv3, hv4⟩)
            obtain ⟨y2, hy2⟩ : ∃ y2 : Cl w, w9 = y2.w := ⟨⟨w9, y.below.trans (hb9.mono y.below.size)⟩, rfl⟩
            subst hy2
            by_cases hneg : v < 0
            · have HF : Hid (¬ ∃ u a, s = quoS u a) := uinv_no s R T HI.out _ _ HRL.out 4 (by rw [hbt]; decide) (fun x r h1 h2 h3 => by have := hv4 x r h1 h2 h3; omega)
              clear HI HL HL2 HRL HV hv4 hb9
              go_wp2
              go_ret2
              exact ⟨⟨#[]⟩, .bool false, rfl, y2.below, false, rfl, .inr ⟨rfl, rfl, HF.out⟩⟩
            · have h4 : 4 ≤ R.size - 2 := hv3 (by omega)
              have hmin : min 6 R.size = 6 := by omega
              have hnI : (6 : Int) ≤ R.size := by omega
              have hw32 : IntKind.i32.wrap v = v := by rw [IntKind.wrap_i32]; omega
              have hRd : Reads R (Utf8.encode v) (min 6 R.size) := reads_u R h2R HL.out hx1 v hv4
              rw [hmin] at hRd
              have HN : Hid (UInv s (R.extract 6 R.size) (T ++ Utf8.encode v)) := uinv_esc s R T _ 6 HI.out HL2.out hRd
              have hez := enc_size_le v
              have hRn : ∀ w, Calls Tryd.prog 27 #[.int .i32 v] w fun e w' => e = .returned (.string (Utf8.encode v)) ∧ Below w.heap.size w w' := fun w => rrune_any v w
              generalize Utf8.encode v = X at *
              have hsum : ¬ 9223372036854775807 < T.size + X.size := by omega
              obtain ⟨T2, hT2⟩ : ∃ T2, T ++ X = T2 := ⟨_, rfl⟩
              have Z3 : Hid (T2.size ≤ T.size + 4) := by show T2.size ≤ _; rw [← hT2, app_size]; omega
              rw [hT2] at HN
              have Z1 : Hid ((R.extract 6 R.size).size = R.size - 6) := tail_size R 6
              clear HI HL HL2 HRL HV hv4 hb9 hRd
              go_wp2_with (go_at_call 27; refine (Cl.go (hRn _)).mono ?_; rintro e w9 ⟨y3, rfl, rfl⟩)
              go_roundg (gk - 1)
              case measure => omega
              case rel => exact ⟨⟨y3, rfl⟩, T2, _, rfl, rfl, by have := Z1.out; omega, by have := Z1.out; have := Z3.out; omega, HN⟩
          by_cases hb85 : x1 = 85
          · subst hb85
            have hbt : R[1]'(by omega) = 85 := byte_is _ 85 (by omega) hx1
            have hV : ∀ w, Calls Tryd.prog 26 #[.string (R.extract 2 R.size), .int .i64 (8 : Nat)] w fun e w' => ∃ v : Int, e = .returned (.int .i64 v) ∧ Below w.heap.size w w' ∧ -1 ≤ v ∧ v ≤ 20000000 ∧ (0 ≤ v → 8 ≤ R.size - 2) ∧ (∀ x rest, x ≤ 1114111 → x < 16 ^ 8 → R.data.toList.drop 2 = hexL x 8 ++ rest → v = (x : Nat)) := fun w => by
              have := dvalue_any (R.extract 2 R.size) 8 w (by omega) (by omega)
              rw [htl, htz] at this
              exact this
            have HV : Hid (∀ w, Calls Tryd.prog 26 #[.string (R.extract 2 R.size), .int .i64 8] w fun e w' => ∃ v : Int, e = .returned (.int .i64 v) ∧ Below w.heap.size w w' ∧ -1 ≤ v ∧ v ≤ 20000000 ∧ (0 ≤ v → 8 ≤ R.size - 2) ∧ (∀ x rest, x ≤ 1114111 → x < 16 ^ 8 → R.data.toList.drop 2 = hexL x 8 ++ rest → v = (x : Nat))) := hV
            clear hV htl htz
            go_upto_if 80 with (go_at_call 26; refine (HV.out _).mono ?_; rintro e w9 ⟨v, rfl, hb9, hv1, hv2, hv3, hv4⟩)
            obtain ⟨y2, hy2⟩ : ∃ y2 : Cl w, w9 = y2.w := ⟨⟨w9, y.below.trans (hb9.mono y.below.size)⟩, rfl⟩
            subst hy2
            by_cases hneg : v < 0
            · have HF : Hid (¬ ∃ u a, s = quoS u a) := uinv_no s R T HI.out _ _ HRL.out 8 (by rw [hbt]; decide) (fun x r h1 h2 h3 => by have := hv4 x r h1 h2 h3; omega)
              clear HI HL HL2 HRL HV hv4 hb9
              go_wp2
              go_ret2
              exact ⟨⟨#[]⟩, .bool false, rfl, y2.below, false, rfl, .inr ⟨rfl, rfl, HF.out⟩⟩
            · have h4 : 8 ≤ R.size - 2 := hv3 (by omega)
              have hmin : min 10 R.size = 10 := by omega
              have hnI : (10 : Int) ≤ R.size := by omega
              have hw32 : IntKind.i32.wrap v = v := by rw [IntKind.wrap_i32]; omega
              have hRd : Reads R (Utf8.encode v) (min 10 R.size) := reads_U R h2R HL.out hx1 v hv4
              rw [hmin] at hRd
              have HN : Hid (UInv s (R.extract 10 R.size) (T ++ Utf8.encode v)) := uinv_esc s R T _ 10 HI.out HL2.out hRd
              have hez := enc_size_le v
              have hRn : ∀ w, Calls Tryd.prog 27 #[.int .i32 v] w fun e w' => e = .returned (.string (Utf8.encode v)) ∧ Below w.heap.size w w' := fun w => rrune_any v w
              generalize Utf8.encode v = X at *
              have hsum : ¬ 9223372036854775807 < T.size + X.size := by omega
              obtain ⟨T2, hT2⟩ : ∃ T2, T ++ X = T2 := ⟨_, rfl⟩
              have Z3 : Hid (T2.size ≤ T.size + 4) := by show T2.size ≤ _; rw [← hT2, app_size]; omega
              rw [hT2] at HN
              have Z1 : Hid ((R.extract 10 R.size).size = R.size - 10) := tail_size R 10
              clear HI HL HL2 HRL HV hv4 hb9 hRd
              go_wp2_with (go_at_call 27; refine (Cl.go (hRn _)).mono ?_; rintro e w9 ⟨y3, rfl, rfl⟩)
              go_roundg (gk - 1)
              case measure => omega
              case rel => exact ⟨⟨y3, rfl⟩, T2, _, rfl, rfl, by have := Z1.out; omega, by have := Z1.out; have := Z3.out; omega, HN⟩
          have q1 : ¬ (x1 : Int) = 120 := by omega
          have q2 : ¬ (x1 : Int) = 117 := by omega
          have q3 : ¬ (x1 : Int) = 85 := by omega
          have Z1 : Hid ((R.extract 2 R.size).size = R.size - 2) := htz
          clear htl htz
          by_cases hm : ∃ k, k < 7 ∧ x1 = escT k
          · obtain ⟨k0, hk0, hxe⟩ := hm
            have hRd : Reads R (Utf8.encode ((7 + k0 : Nat) : Int)) 2 := reads_letter R h2R HL.out k0 hk0 (by rw [hx1]; exact hxe)
            rw [← letter_str k0 hk0, show ((7 + k0 : Nat) : Int) = 7 + (k0 : Int) by omega] at hRd
            have HN : Hid (UInv s (R.extract 2 R.size) (T ++ strOfNums [7 + (k0 : Int)])) := uinv_esc s R T _ 2 HI.out HL2.out hRd
            have hz := one_str (7 + (k0 : Int))
            have hsum : ¬ 9223372036854775807 < T.size + (strOfNums [7 + (k0 : Int)]).size := by omega
            obtain ⟨T2, hT2⟩ : ∃ T2, T ++ strOfNums [7 + (k0 : Int)] = T2 := ⟨_, rfl⟩
            have Z3 : Hid (T2.size = T.size + 1) := by show T2.size = _; rw [← hT2, app_size, hz]
            rw [hT2] at HN
            have HXE : Hid (x1 = escT k0) := hxe
            have hwb : (7 + (k0 : Int)) % 256 = 7 + (k0 : Int) := by omega
            have hk7 : (k0 : Int) < 7 := by omega
            clear HI HL HL2 HRL hRd hxe hz
            go_wp2
            go_loopg [9, 10] 7 (fun g x k wr => wr = y.w ∧ x = .int .u8 x1 ∧ ∃ m : Nat, k = .int .i64 m ∧ m + g = 7 ∧ m ≤ k0)
            case atStart => exact ⟨rfl, rfl, 0, rfl, rfl, Nat.zero_le _⟩
            case round =>
              obtain ⟨rfl, rfl, m, rfl, hmg, hmk⟩ := hrel
              have hm7 : m < (ByteArray.mk #[97, 98, 116, 110, 118, 102, 114]).size := by show m < 7; omega
              have hmI : (m : Int) < 7 := by omega
              have hla := letter_at m hm7
              obtain ⟨e, he⟩ : ∃ e, ((ByteArray.mk #[97, 98, 116, 110, 118, 102, 114])[m]'hm7).toNat = e := ⟨_, rfl⟩
              rw [he] at hla
              by_cases hmk0 : m = k0
              · subst hmk0
                have hex : e = x1 := by rw [hla]; exact HXE.out.symm
                subst hex
                clear hla
                go_wp2
                go_roundg (R.size - 1)
                case measure => omega
                case rel => exact ⟨⟨⟨_, (y.below.alloc y.below.size _)⟩, rfl⟩, T2, _, rfl, rfl, by have := Z1.out; omega, by have := Z1.out; have := Z3.out; omega, HN⟩
              · have hex : ¬ (e : Int) = x1 := by
                  intro h
                  have h1 : escT m = escT k0 := by rw [← hla, ← HXE.out]; omega
                  have inj : ∀ a : Fin 7, ∀ b : Fin 7, escT a.val = escT b.val → a = b := by decide
                  have := inj ⟨m, by omega⟩ ⟨k0, hk0⟩ h1
                  exact hmk0 (congrArg Fin.val this)
                clear hla
                go_wp2
                go_roundg (gk - 1)
                case measure => omega
                case rel => exact ⟨rfl, rfl, m + 1, by go_num, by omega, by omega⟩
          · have hno : ∀ j, j < 7 → x1 ≠ escT j := fun j hj h => hm ⟨j, hj, h⟩
            have hRd : Reads R (R.extract 1 2) 2 := reads_sign R h2R HL.out (by rw [hx1]; exact hb120) (by rw [hx1]; exact hb117) (by rw [hx1]; exact hb85) (fun j hj => by rw [hx1]; exact hno j hj)
            rw [← sign_str R h2R, hx1] at hRd
            have HN : Hid (UInv s (R.extract 2 R.size) (T ++ strOfNums [(x1 : Int)])) := uinv_esc s R T _ 2 HI.out HL2.out hRd
            have hz := one_str (x1 : Int)
            have hsum : ¬ 9223372036854775807 < T.size + (strOfNums [(x1 : Int)]).size := by omega
            obtain ⟨T2, hT2⟩ : ∃ T2, T ++ strOfNums [(x1 : Int)] = T2 := ⟨_, rfl⟩
            have Z3 : Hid (T2.size = T.size + 1) := by show T2.size = _; rw [← hT2, app_size, hz]
            rw [hT2] at HN
            have HNO : Hid (∀ j, j < 7 → x1 ≠ escT j) := hno
            clear HI HL HL2 HRL hRd hno hm hz
            go_wp2
            go_loopg [9, 10] 7 (fun g x k wr => wr = y.w ∧ x = .int .u8 x1 ∧ ∃ m : Nat, k = .int .i64 m ∧ m + g = 7)
            case atStart => exact ⟨rfl, rfl, 0, rfl, rfl⟩
            case round =>
              obtain ⟨rfl, rfl, m, rfl, hmg⟩ := hrel
              by_cases hm7' : m < 7
              · have hm7 : m < (ByteArray.mk #[97, 98, 116, 110, 118, 102, 114]).size := hm7'
                have hmI : (m : Int) < 7 := by omega
                have hla := letter_at m hm7
                obtain ⟨e, he⟩ : ∃ e, ((ByteArray.mk #[97, 98, 116, 110, 118, 102, 114])[m]'hm7).toNat = e := ⟨_, rfl⟩
                rw [he] at hla
                have hex : ¬ (e : Int) = x1 := by
                  intro h
                  exact HNO.out m hm7' (by rw [← hla]; omega)
                clear hla
                go_wp2
                go_roundg (gk - 1)
                case measure => omega
                case rel => exact ⟨rfl, rfl, m + 1, by go_num, by omega⟩
              · have hmI : ¬ (m : Int) < 7 := by omega
                go_wp2
                go_roundg (R.size - 1)
                case measure => omega
                case rel => exact ⟨⟨⟨_, (y.below.alloc y.below.size _)⟩, rfl⟩, T2, _, rfl, rfl, by have := Z1.out; omega, by have := Z1.out; have := Z3.out; omega, HN⟩
      · have hemp : R.toList.isEmpty = true := empty_yes R (by omega)
        have HU : Hid (∀ u a, s = quoS u a → T = u) := fun u a h => uinv_end s T R HI.out (by omega) u a h
        obtain ⟨r1, hr1⟩ : ∃ r, quoS T false = r := ⟨_, rfl⟩
        obtain ⟨r2, hr2⟩ : ∃ r, quoS T true = r := ⟨_, rfl⟩
        have hQ : ∀ b w, Calls Tryd.prog 28 #[.string T, .bool b] w fun e w' => e = .returned (.string (cond b r2 r1)) ∧ Below w.heap.size w w' := by
          intro b w
          cases b with
          | false => have := dquote_any T false w (by omega); rw [hr1] at this; exact this
          | true => have := dquote_any T true w (by omega); rw [hr2] at this; exact this
        have H1 : Hid (quoS T false = r1) := hr1
        have H2 : Hid (quoS T true = r2) := hr2
        clear hr1 hr2 HI
        by_cases hc1 : r1 = s
        · have hq : (r1.toList == s.toList) = true := beq_y r1 s hc1
          have HC1 : Hid (r1 = s) := hc1
          clear hc1
          go_wp2_with (go_at_call 28; refine (Cl.go (hQ _ _)).mono ?_; rintro e w9 ⟨y2, rfl, rfl⟩)
          go_ret2
          exact ⟨T, .bool true, rfl, y2.below, true, rfl, .inl ⟨rfl, HU.out, false, by rw [H1.out]; exact HC1.out.symm⟩⟩
        · have hq : (r1.toList == s.toList) = false := beq_n r1 s hc1
          have HC1 : Hid (¬ r1 = s) := hc1
          clear hc1
          by_cases hc2 : r2 = s
          · have hq2 : (r2.toList == s.toList) = true := beq_y r2 s hc2
            have HC2 : Hid (r2 = s) := hc2
            clear hc2
            go_wp2_with (go_at_call 28; refine (Cl.go (hQ _ _)).mono ?_; rintro e w9 ⟨y2, rfl, rfl⟩)
            go_ret2
            exact ⟨T, .bool true, rfl, y2.below, true, rfl, .inl ⟨rfl, HU.out, true, by rw [H2.out]; exact HC2.out.symm⟩⟩
          · have hq2 : (r2.toList == s.toList) = false := beq_n r2 s hc2
            have HC2 : Hid (¬ r2 = s) := hc2
            clear hc2
            go_wp2_with (go_at_call 28; refine (Cl.go (hQ _ _)).mono ?_; rintro e w9 ⟨y2, rfl, rfl⟩)
            go_ret2
            refine ⟨⟨#[]⟩, .bool false, rfl, y2.below, false, rfl, .inr ⟨rfl, rfl, ?_⟩⟩
            rintro ⟨u, a, h⟩
            have hT := HU.out u a h
            subst hT
            cases a with
            | false => exact HC1.out (by rw [← H1.out]; exact h.symm)
            | true => exact HC2.out (by rw [← H2.out]; exact h.symm)
end Go.Proofs.YtnoelbomcogndaaDoor
