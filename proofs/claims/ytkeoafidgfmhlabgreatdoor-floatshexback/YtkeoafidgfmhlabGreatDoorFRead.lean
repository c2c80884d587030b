/- The laws' read: the decimal of a text. -/
import Derived.Test.YtkeoafidgfmhlabGreatDoorPkF26
import Derived.Lib.ConvBytes
import Derived.Lib.AtoiErrMem
namespace Go.Proofs.YtkeoafidgfmhlabGreatDoor
open Go.RowKit
set_option linter.unusedVariables false
set_option linter.unusedSimpArgs false

/-- What has been read of a text: its digits, how many stand ahead of the point, whether it was there. -/
def rdS (a : List UInt8 × Nat × Bool) (c : UInt8) : List UInt8 × Nat × Bool := if isD c = true then (a.1 ++ [c], if a.2.2 then a.2.1 else a.2.1 + 1, a.2.2) else (a.1, a.2.1, true)
def rdL (l : List UInt8) : List UInt8 × Nat × Bool := l.foldl rdS ([], 0, false)
theorem rdL_snoc (l : List UInt8) (c : UInt8) : rdL (l ++ [c]) = rdS (rdL l) c := by simp [rdL]
theorem rdL_dig (l b : List UInt8) (h : allD b = true) : rdL (l ++ b) = ((rdL l).1 ++ b, if (rdL l).2.2 then (rdL l).2.1 else (rdL l).2.1 + b.length, (rdL l).2.2) := by
  induction b generalizing l with
  | nil => simp
  | cons c b ih =>
    rw [allD_cons, Bool.and_eq_true] at h
    have e : l ++ c :: b = (l ++ [c]) ++ b := by simp
    rw [e, ih _ h.2, rdL_snoc]
    unfold rdS
    rw [if_pos h.1]
    cases hd : (rdL l).2.2 <;> simp [hd] <;> omega
theorem rdL_all (a : List UInt8) (h : allD a = true) : rdL a = (a, a.length, false) := by
  have := rdL_dig [] a h
  simpa [rdL] using this
theorem rdL_dot (a b : List UInt8) (ha : allD a = true) (hb : allD b = true) : rdL (a ++ (46 :: b)) = (a ++ b, a.length, true) := by
  have e : a ++ 46 :: b = (a ++ [46]) ++ b := by simp
  have h1 : rdL (a ++ [46]) = (a, a.length, true) := by
    rw [rdL_snoc, rdL_all a ha]
    unfold rdS
    rw [if_neg (by decide)]
  rw [e, rdL_dig _ _ hb, h1]
  simp
/-- A text of digits with at most one point. -/
def Plain10 (l : List UInt8) : Prop := ∀ k (h : k < l.length), isD l[k] = true ∨ (l[k] = 46 ∧ (rdL (l.take k)).2.2 = false)
theorem plain_all {a : List UInt8} (h : allD a = true) : Plain10 a := fun k hk => .inl (allD_mem h (List.getElem_mem hk))
theorem plain_dot {a b : List UInt8} (ha : allD a = true) (hb : allD b = true) : Plain10 (a ++ (46 :: b)) := fun k hk => by
  rcases Nat.lt_trichotomy k a.length with h | h | h
  · left
    rw [List.getElem_append_left h]
    exact allD_mem ha (List.getElem_mem h)
  · right
    subst h
    refine ⟨by simp, ?_⟩
    rw [List.take_left', rdL_all a ha]; rfl
  · left
    rw [List.getElem_append_right (by omega)]
    obtain ⟨j, hj⟩ : ∃ j, k - a.length = j + 1 := ⟨k - a.length - 1, by omega⟩
    simp only [hj, List.getElem_cons_succ]
    exact allD_mem hb (List.getElem_mem _)
abbrev R6C (s S : ByteArray) (Q : Int) : Prop := ∀ w, Calls Tryz.prog 19 #[.string s] w fun e w' => e = .returned (.tuple #[.agg #[.string S, .int .i64 Q], .bool true]) ∧ Below w.heap.size w w'
set_option maxRecDepth 1000000 in
set_option maxHeartbeats 4000000 in
theorem read_plain {s D0 S : ByteArray} {p0 : Nat} {dot0 : Bool} {Q : Int} (hs : s.size ≤ 100000) (h1 : 1 ≤ D0.size) (HG : Hid (Plain10 s.data.toList)) (HE : Hid (rdL s.data.toList = (D0.data.toList, p0, dot0))) (hN : NormC D0 p0 S Q 0) : R6C s S Q := fun w => by
  have HC : Hid (∀ k (h : k < s.size), s.extract k (k + 1) = ⟨#[s[k]'h]⟩) := fun k h => by
    apply ByteArray.ext; apply Array.ext'
    rw [ext_li, List.take_succ_eq_append_getElem (by rw [list_len]; exact h), List.drop_append_of_le_length (by rw [List.length_take, list_len]; omega), List.drop_of_length_le (by rw [List.length_take]; omega)]
    rfl
  have HT : Hid (∀ k (h : k < s.size), rdL (s.data.toList.take (k + 1)) = rdS (rdL (s.data.toList.take k)) (s[k]'h)) := fun k h => by
    rw [List.take_succ_eq_append_getElem (by rw [list_len]; exact h), rdL_snoc]
    rfl
  have HD : Hid (∀ k (h : k < s.size), isD (s[k]'h) = true ∨ ((s[k]'h) = 46 ∧ (rdL (s.data.toList.take k)).2.2 = false)) := fun k h => HG.out k (by rw [list_len]; exact h)
  clear HG
  have hN := hN
  go_enter Tryz.func19, Tryz.ntmps19
  go_wp2
  go_loopg [4, 5, 6, 7, 8] s.size (fun g dv pv tv iv cv wr => wr = w.alloc (.cells #[.string ⟨#[]⟩, .int .i64 0] 39) ∧ ∃ (k pt : Nat) (D : ByteArray) (dot : Bool), dv = .string D ∧ pv = .int .i64 pt ∧ tv = .bool dot ∧ iv = .int .i64 k ∧ k + g = s.size ∧ D.size ≤ k ∧ pt ≤ k ∧ Hid (rdL (s.data.toList.take k) = (D.data.toList, pt, dot)))
  case atStart => exact ⟨rfl, 0, 0, ⟨#[]⟩, false, rfl, rfl, rfl, rfl, by omega, Nat.le_refl _, Nat.le_refl _, rfl⟩
  case round =>
    obtain ⟨rfl, k, pt, D, dot, rfl, rfl, rfl, rfl, hkg, hDk, hpk, HX⟩ := hrel
    by_cases hk : k < s.size
    · have hkI : (k : Int) < s.size := by omega
      have hkI2 : (k : Int) + 1 ≤ s.size := by omega
      have hc := HC.out k hk
      have ht := HT.out k hk
      have hd := HD.out k hk
      rw [HX.out] at ht hd
      have hb : (s[k]'hk).toNat < 256 := (s[k]'hk).toNat_lt
      rcases hd with hd | ⟨hd, hdot⟩
      · obtain ⟨c0, c1⟩ := (isD_iff _).1 hd
        have c0I : 48 ≤ ((s[k]'hk).toNat : Int) := by omega
        have c1I : ((s[k]'hk).toNat : Int) ≤ 57 := by omega
        obtain ⟨D2, hD2, HD2⟩ : ∃ D2, D ++ (⟨#[s[k]'hk]⟩ : ByteArray) = D2 ∧ Hid (D2.data.toList = D.data.toList ++ [s[k]'hk]) := ⟨_, rfl, by show _ = _; rw [app_list]⟩
        have hz2 : D2.size = D.size + 1 := by rw [← hD2, app_size]; rfl
        have hsum : ¬ 9223372036854775807 < D.size + (⟨#[s[k]'hk]⟩ : ByteArray).size := by rw [show (⟨#[s[k]'hk]⟩ : ByteArray).size = 1 from rfl]; omega
        have HX2 : Hid (rdL (s.data.toList.take (k + 1)) = (D2.data.toList, if dot then pt else pt + 1, dot)) := by
          show _ = _
          rw [ht, HD2.out]
          unfold rdS
          rw [if_pos hd]
        clear HC HT HD HX HE ht hd HD2
        cases dot with
        | true =>
          go_wp2
          go_roundg (gk - 1)
          case measure => omega
          case rel => exact ⟨rfl, k + 1, pt, D2, true, rfl, rfl, rfl, by go_num, by omega, by omega, by omega, HX2⟩
        | false =>
          go_wp2
          go_roundg (gk - 1)
          case measure => omega
          case rel => exact ⟨rfl, k + 1, pt + 1, D2, false, rfl, by go_num, rfl, by go_num, by omega, by omega, by omega, HX2⟩
      · have hdot : dot = false := hdot
        subst hdot
        have hc6 : (s[k]'hk).toNat = 46 := by rw [hd]; rfl
        have HX2 : Hid (rdL (s.data.toList.take (k + 1)) = (D.data.toList, pt, true)) := by
          show _ = _
          rw [ht]
          unfold rdS
          rw [hd, if_neg (by decide)]
        clear HC HT HD HX HE ht hd hc
        go_wp2
        go_roundg (gk - 1)
        case measure => omega
        case rel => exact ⟨rfl, k + 1, pt, D, true, rfl, rfl, rfl, by go_num, by omega, by omega, by omega, HX2⟩
    · have hkI : ¬ (k : Int) < s.size := by omega
      have e := HX.out
      rw [List.take_of_length_le (by rw [list_len]; omega), HE.out] at e
      obtain rfl : D0 = D := by
        apply ByteArray.ext; apply Array.ext'
        exact congrArg (·.1) e
      obtain rfl : p0 = pt := congrArg (·.2.1) e
      have hue : D0.toList.isEmpty = false := empty_no D0 (by omega)
      clear HC HT HD HX HE e
      have hN2 := hN
      go_wp2_with (go_at_call 41; refine (hN2 _).mono ?_; rintro x w3 ⟨rfl, hb3⟩; have bR := keepb hb3 (B := w.heap.size) (x := .string ⟨#[]⟩) (y := .int .i64 0) (by simp [BoxD, go_sem]); obtain ⟨r0, r1, r2, r3⟩ := id bR; have hlt : w.heap.size < w3.heap.size := World.block_lt_of_cell? w3 _ r0)
      refine bodyPost_ret (by simp [results, Tryz.results19, go_sem, cs_same, r0, r1, hlt]; rfl) rfl ?_
      refine ⟨rfl, ?_⟩
      have h := bel_call (B := w.heap.size) (w := w) (by go_grown) hb3 (Nat.le_refl _)
      have hs := (h.setCell (p := ⟨w.heap.size, 0, none⟩) (Nat.le_refl _) (.string S)).setCell (p := ⟨w.heap.size, 1, none⟩) (Nat.le_refl _) (.int .i64 Q)
      exact hs.alloc hs.size _
end Go.Proofs.YtkeoafidgfmhlabGreatDoor
