/- The walk of the document's Quote. -/
import Derived.Test.YtnoelbomcogndaaDoorDIn
import Derived.Test.YtnoelbomcogndaaDoorDRaw
namespace Go.Proofs.YtnoelbomcogndaaDoor
open Go.RowKit
set_option linter.unusedVariables false

theorem dhex_pack (x : UInt8) (n k : Nat) (L : List UInt8) (T : ByteArray) (h : L = [92, x] ++ hexL n k) (hn : n ≤ 1114111) (hk : k ≤ 8) (hT : T.size ≤ 100000000) :
    ∃ r t m R : ByteArray, r.data.toList = L ∧ strOfNums [92, (x.toNat : Int)] = m ∧ m ++ t = r ∧ T ++ r = R ∧ R.data.toList = T.data.toList ++ L ∧ ¬ 9223372036854775807 < m.size + t.size ∧ ¬ 9223372036854775807 < T.size + r.size ∧ ∀ w, Calls Tryd.prog 49 #[.int .i64 n, .int .i64 k] w fun e w' => e = .returned (.string t) ∧ w' = w := by
  have hms : strOfNums [92, (x.toNat : Int)] = ⟨#[92, x]⟩ := by simp [strOfNums]
  have hts := hex_size n k
  refine ⟨⟨([92, x] ++ hexL n k).toArray⟩, ⟨(hexL n k).toArray⟩, ⟨#[92, x]⟩, _, by rw [h], hms, hex_bytes x n k, rfl, ?_, two_sum _ _ _ (by omega), ?_, fun w => digits_any n k hn hk w⟩
  · rw [app_list, h]
  · have : (ByteArray.mk ([92, x] ++ hexL n k).toArray).size = k + 2 := by
      have h3 : ([92, x] ++ hexL n k).length = k + 2 := by rw [List.length_append, hexL_len]; simp; omega
      exact h3
    omega
theorem dbrk_pack (L : List UInt8) (v T : ByteArray) (h0 : 0 < v.size) (hi : L = ([92, 120] : List UInt8) ++ hexL (v[0]'h0).toNat 2) (hT : T.size ≤ 100000000) :
    ∃ (r t m R : ByteArray) (n0 : Nat), (v[0]'h0).toNat = n0 ∧ IntKind.i64.wrap (n0 : Int) = (n0 : Int) ∧ strOfNums [92, 120] = m ∧ m ++ t = r ∧ T ++ r = R ∧ R.data.toList = T.data.toList ++ L ∧ ¬ 9223372036854775807 < m.size + t.size ∧ ¬ 9223372036854775807 < T.size + r.size ∧ ∀ w, Calls Tryd.prog 49 #[.int .i64 n0, .int .i64 2] w fun e w' => e = .returned (.string t) ∧ w' = w := by
  have hbyte : (v[0]'h0).toNat < 256 := (v[0]'h0).toNat_lt
  obtain ⟨r, t, m, R, -, h2, h3, h4, h5, h6, h7, hDg⟩ := dhex_pack 120 _ 2 _ T hi (Nat.le_trans (Nat.le_of_lt hbyte) (by decide)) (by decide) hT
  have hw : ∀ n : Nat, n < 256 → IntKind.i64.wrap (n : Int) = (n : Int) := fun n h => by
    unfold IntKind.wrap
    simp [IntKind.bits, IntKind.signed]
    omega
  exact ⟨r, t, m, R, _, rfl, hw _ hbyte, h2, h3, h4, h5, h6, h7, hDg⟩
theorem din_pack (c q : Nat) (a : Bool) (L : List UInt8) (T : ByteArray) (h : L = inL c q a) (hc : c ≤ 1114111) (hq : q = 34 ∨ q = 39) (hT : T.size ≤ 100000000) :
    ∃ r R : ByteArray, T ++ r = R ∧ R.data.toList = T.data.toList ++ L ∧ ¬ 9223372036854775807 < T.size + r.size ∧ ∀ w, Calls Tryd.prog 50 #[.int .i32 c, .int .u8 q, .bool a] w fun e w' => e = .returned (.string r) ∧ Below w.heap.size w w' := by
  have hl := inL_len c q a
  refine ⟨⟨(inL c q a).toArray⟩, _, rfl, ?_, ?_, fun w => din_any c q a w hc hq⟩
  · rw [app_list, h]
  · have : (ByteArray.mk (inL c q a).toArray).size ≤ 10 := by
      have h3 : (inL c q a).toArray.size ≤ 10 := by simpa using hl
      exact h3
    omega

set_option maxRecDepth 1000000 in
set_option maxHeartbeats 1000000 in
theorem dquote_any (s : ByteArray) (a : Bool) (w : World) (hs : s.size ≤ 1000000) :
    Calls Tryd.prog 28 #[.string s, .bool a] w fun e w' => e = .returned (.string (quoS s a)) ∧ Below w.heap.size w w' := by
  go_enter Tryd.func28, Tryd.ntmps28
  go_wp2
  go_loopg [0, 5] s.size (fun g sv tv wr => ∃ (pos : Nat) (v T : ByteArray), sv = .string v ∧ tv = .string T ∧ v.size ≤ g ∧ Hid (v = s.extract pos s.size) ∧ pos ≤ s.size ∧ T.size ≤ 10 * pos + 1 ∧ Below w.heap.size w wr ∧ Hid (T.data.toList ++ quoI a (s.data.toList.drop pos) = 34 :: quoI a s.data.toList))
  case atStart => exact ⟨0, s, ⟨#[34]⟩, rfl, rfl, Nat.le_refl _, (tail_zero s).symm, Nat.zero_le _, by decide, Below.refl _ _, rfl⟩
  case round =>
    obtain ⟨pos, v, T, rfl, rfl, hg, hv, hpos, hTs, hb, hacc⟩ := hrel
    have hvs1 : v.size ≤ s.size - pos := by rw [hv.out, tail_size]; exact Nat.le_refl _
    have hvs2 : s.size - pos ≤ v.size := by rw [hv.out, tail_size]; exact Nat.le_refl _
    by_cases hp : pos < s.size
    · have h0 : 0 < v.size := by omega
      have hne := empty_no v h0
      have hwl := wid_le s pos hp
      have hwd := wid_pos s pos
      have hpt := dec_pt_le s pos
      have hdt := dec_tail s pos hp
      rw [← hv.out] at hdt
      have hib := item_brk a s pos hp
      have hii := item_in a s pos
      have hat := item_at a s pos hp
      have hil := itemL_len a (s.data.toList.drop pos)
      have hv0 : (v[0]'h0) = s[pos]'hp := by
        have e1 : v.data.toList[0]? = some (v[0]'h0) := by
          rw [List.getElem?_eq_getElem (show 0 < v.data.toList.length by rw [list_len]; exact h0)]
          rfl
        have e2 : s.data.toList[pos]? = some (s[pos]'hp) := by
          rw [List.getElem?_eq_getElem (show pos < s.data.toList.length by rw [list_len]; exact hp)]
          rfl
        have e3 : v.data.toList[0]? = some (s[pos]'hp) := by rw [hv.out, tail_list, List.getElem?_drop, Nat.add_zero, e2]
        exact Option.some.inj (e1.symm.trans e3)
      have hD : ∀ w, Calls Tryd.prog 48 #[.string v] w fun e w' => e = .returned (.tuple #[.int .i32 (dec v).1, .int .i64 (dec v).2, .bool (brk (dec v))]) ∧ Below w.heap.size w w' := fun w => rdecodeB_any v w (by unfold maxLen; omega)
      rw [hdt] at hD
      clear hdt
      generalize Utf8.decode s pos = D at *
      have HV2 : Hid (v.extract D.2 v.size = s.extract (pos + D.2) s.size) := by
        show _ = _
        rw [hv.out]; exact tail_tail s pos D.2
      have hD2 : (D.2 : Int) ≤ v.size := by omega
      cases hk : brk D with
      | true =>
        rw [hk] at hD
        have hitem := hib hk
        rw [← hv0] at hitem
        have hT8 : T.size ≤ 100000000 := by omega
        obtain ⟨r, t, m, R, n0, hn0, hw0, h2, h3, h4, h5, h6, h7, hDg⟩ := dbrk_pack _ v T h0 hitem hT8
        have HR : Hid (R.data.toList = T.data.toList ++ itemL a (s.data.toList.drop pos)) := h5
        have hI1 : (((v[0]'h0).toNat : Nat) : Int) = (n0 : Int) := by rw [hn0]
        have hI2 : IntKind.i64.wrap (n0 : Int) = (n0 : Int) := hw0
        have hDx : ∀ (x : Int), x = (n0 : Int) → ∀ w, Calls Tryd.prog 49 #[.int .i64 x, .int .i64 2] w fun e w' => e = .returned (.string t) ∧ w' = w := fun x hx w => by rw [hx]; exact hDg w
        clear hDg
        have kc := conv2d
        have HB1 : Hid ((s.extract (pos + D.2) s.size).size ≤ v.size - D.2 ∧ v.size - D.2 < gk) := ⟨by rw [tail_size]; omega, by omega⟩
        have HB2 : Hid (R.size ≤ 10 * (pos + D.2) + 1) := by
          show R.size ≤ _
          rw [← list_len, HR.out, List.length_append, list_len]; omega
        clear hk hib hii hv0 hitem h5
        go_wp2_with (go_at_call 48; refine (hD _).mono ?_; rintro e w4 ⟨rfl, hb4⟩)
        have hb4' := hb.trans (hb4.mono hb.size)
        go_region_with (go_at_call 49; refine (hDx _ (by first | (with_reducible rfl) | (with_reducible exact hI1) | (with_reducible exact hI2)) _).mono ?_; rintro e w2 ⟨rfl, rfl⟩)
        all_goals go_wp2
        all_goals go_roundg (v.size - D.2)
        all_goals first | exact HB1.out.2 | skip
        all_goals
          refine ⟨pos + D.2, _, R, rfl, rfl, by rw [HV2.out]; exact HB1.out.1, HV2, hwl, HB2.out, (hb4'.alloc hb4'.size _).drew, ?_⟩
          · have := hacc.out
            rw [hat] at this
            show R.data.toList ++ _ = _
            rw [HR.out, List.append_assoc]; exact this
      | false =>
        rw [hk] at hD
        have hitem := hii hk
        obtain ⟨r, R, h4, h5, h7, hIn⟩ := din_pack D.1 34 a _ T hitem hpt (.inl rfl) (by omega)
        have HR : Hid (R.data.toList = T.data.toList ++ itemL a (s.data.toList.drop pos)) := h5
        clear hk hib hii hv0 hitem h5
        go_wp2_with (first | (go_at_call 48; refine (hD _).mono ?_; rintro e w4 ⟨rfl, hb4⟩) | (go_at_call 50; refine (hIn _).mono ?_; rintro e w5 ⟨rfl, hb5⟩))
        go_roundg (v.size - D.2)
        case measure => omega
        case rel =>
          refine ⟨pos + D.2, _, R, rfl, rfl, by rw [HV2.out, tail_size]; omega, HV2, hwl, ?_, hb.trans ((hb4.trans (hb5.mono hb4.size)).mono hb.size), ?_⟩
          · rw [← list_len, HR.out, List.length_append, list_len]; omega
          · have := hacc.out
            rw [hat] at this
            show R.data.toList ++ _ = _
            rw [HR.out, List.append_assoc]; exact this
    · have hne := empty_yes v (by omega)
      have hsum := sum_one 34 T (by omega)
      have HQ : Hid (T ++ (ByteArray.mk #[34]) = quoS s a) := by
        have h1 : (T ++ (ByteArray.mk #[34])).data.toList = (quoS s a).data.toList := by
          have := hacc.out
          rw [show s.data.toList.drop pos = [] from List.drop_eq_nil_of_le (by rw [list_len]; omega), quoI_nil, List.append_nil] at this
          rw [app_list, this]
          rfl
        show _ = _
        rw [← ba_list (T ++ (ByteArray.mk #[34])), h1, ba_list]
      go_wp2
      go_ret
      rw [← HQ.out]
      exact ⟨rfl, hb⟩
end Go.Proofs.YtnoelbomcogndaaDoor
