/- HIn: these texts in one. -/
import Derived.Test.YthbabhbfpcfenaaGreatDoorPkF2
import Derived.Test.YthbabhbfpcfenaaGreatDoorPkF6
import Derived.Test.YthbabhbfpcfenaaGreatDoorPkF3
/- The document's In, Norm, low, digit. -/
namespace Go.Proofs.YthbabhbfpcfenaaGreatDoor
open Go.RowKit
set_option linter.unusedVariables false
set_option linter.unusedSimpArgs false

theorem V_lead {t : List UInt8} {q : Int} : V (48 :: t) q = V t (q - 1) := by
  unfold V
  rw [num_cons, show dg 48 = 0 from rfl, Nat.zero_mul, Nat.zero_add, List.length_cons]
  congr 3; omega
theorem V_trail {t : List UInt8} {q : Int} (h : -10000 ≤ q - ((t.length : Int) + 1)) : V (t ++ [48]) q = V t q := by
  unfold V
  rw [num_snoc, show dg 48 = 0 from rfl, Nat.add_zero, List.length_append, List.length_singleton, Nat.mul_assoc, ← Nat.pow_succ']
  congr 2; omega
theorem list_head (u : ByteArray) (h : 0 < u.size) : u.data.toList = (u[0]'h) :: (u.extract 1 u.size).data.toList := by
  rw [tail_list]
  have hl : 0 < u.data.toList.length := by rw [list_len]; exact h
  have := List.drop_eq_getElem_cons hl
  rw [List.drop_zero] at this
  exact this
theorem list_last (u : ByteArray) (n : Nat) (hn : u.size = n + 1) (h : n < u.size) : u.data.toList = (u.extract 0 n).data.toList ++ [u[n]'h] := by
  rw [ext_list]
  have hl : n < u.data.toList.length := by rw [list_len]; exact h
  have := List.take_succ_eq_append_getElem hl
  rw [List.take_of_length_le (by rw [list_len]; omega)] at this
  exact this
theorem ext_size1 (u : ByteArray) (a : Nat) (h : a ≤ u.size) : (u.extract 0 a).size = a := by rw [ByteArray.size_extract]; omega
theorem nil_of {u : ByteArray} (h : u.size = 0) : u.data.toList = [] := List.eq_nil_of_length_eq_zero (by rw [list_len]; exact h)
/-- What In has made so far. -/
structure InAt (u : ByteArray) (q : Int) (v : Nat) : Prop where
  dig : allD u.data.toList = true
  val : V u.data.toList q = v
  low : -10000 ≤ q - u.size
theorem InAt.lead {u : ByteArray} {q : Int} {v : Nat} (h : InAt u q v) (h0 : 0 < u.size) (hx : (u[0]'h0).toNat = 48) : InAt (u.extract 1 u.size) (q - 1) v := by
  have e := list_head u h0
  have hx' : u[0]'h0 = 48 := UInt8.toNat_inj.1 (by rw [hx]; rfl)
  rw [hx'] at e
  have hz := tail_size u 1
  refine ⟨?_, ?_, by have := h.low; omega⟩
  · have := h.dig; rw [e, allD_cons, Bool.and_eq_true] at this; exact this.2
  · rw [← V_lead, ← e]; exact h.val
theorem InAt.trail {u : ByteArray} {q : Int} {v n : Nat} (h : InAt u q v) (hn : u.size = n + 1) (h0 : n < u.size) (hx : (u[n]'h0).toNat = 48) : InAt (u.extract 0 n) q v := by
  have e := list_last u n hn h0
  have hx' : u[n]'h0 = 48 := UInt8.toNat_inj.1 (by rw [hx]; rfl)
  rw [hx'] at e
  have hz := ext_size1 u n (by omega)
  have hlow := h.low
  refine ⟨?_, ?_, by omega⟩
  · have := h.dig; rw [e, allD_append, Bool.and_eq_true] at this; exact this.1
  · rw [← V_trail (by rw [list_len, hz]; omega), ← e]; exact h.val
theorem hd_no {u : ByteArray} (h : u.size = 0 ∨ ∃ h0 : 0 < u.size, ¬ (u[0]'h0).toNat = 48) : hd u.data.toList = true := by
  rcases h with h | ⟨h0, hx⟩
  · rw [nil_of h]; rfl
  · rw [list_head u h0]
    have : u[0]'h0 ≠ 48 := fun e => hx (by rw [e]; rfl)
    simp [hd, this]
theorem hd_cut {u : ByteArray} {n : Nat} (h : hd u.data.toList = true) (hn : u.size = n + 1) (h0 : n < u.size) : hd (u.extract 0 n).data.toList = true := by
  rw [list_last u n hn h0] at h
  by_cases he : (u.extract 0 n).data.toList = []
  · rw [he]; rfl
  · exact hd_app h he
theorem lst_no {u : ByteArray} (h : u.size = 0 ∨ ∃ (n : Nat) (_ : u.size = n + 1) (h0 : n < u.size), ¬ (u[n]'h0).toNat = 48) : lst u.data.toList = true := by
  rcases h with h | ⟨n, hn, h0, hx⟩
  · rw [nil_of h]; rfl
  · rw [list_last u n hn h0]
    have : u[n]'h0 ≠ 48 := fun e => hx (by rw [e]; rfl)
    simp [lst, this]
theorem InAt.fin {u : ByteArray} {q : Int} {v : Nat} (h : InAt u q v) (hh : hd u.data.toList = true) (hl : lst u.data.toList = true) : oS v = u ∧ oP v = if u.size = 0 then 0 else q := by
  have hd : IsDec u.data.toList (if u.size = 0 then 0 else q) v := by
    by_cases h0 : u.size = 0
    · rw [if_pos h0]
      have e : u.data.toList = [] := nil_of h0
      have hv := h.val
      rw [e] at hv ⊢
      refine ⟨rfl, rfl, rfl, fun _ => rfl, by simp, ?_⟩
      rw [← hv]; unfold V; rw [num_nil, Nat.zero_mul, Nat.zero_mul]
    · rw [if_neg h0]
      exact ⟨h.dig, hh, hl, fun e => absurd (by rw [← list_len, e]; rfl) h0, by rw [list_len]; exact h.low, h.val⟩
  obtain ⟨h1, h2⟩ := o_of hd
  exact ⟨by unfold oS; rw [← h1], h2.symm⟩
theorem BoxD.set0 {W : World} {B : Nat} {x y : Value} (h : BoxD W B x y) (x' : Value) : BoxD (W.setCell ⟨B, 0, none⟩ x') B x' y :=
  ⟨World.cell?_setCell_same _ _ _ h.1, set_other (by decide) h.2.1, by rw [World.frozen?_setCell]; exact h.2.2.1, by rw [World.frozen?_setCell]; exact h.2.2.2⟩
theorem BoxD.past1 {W : World} {B C i : Nat} {x y : Value} (h : BoxD W B x y) (hne : C ≠ B) (x' : Value) : BoxD (W.setCell ⟨C, i, none⟩ x') B x y :=
  ⟨set_past hne h.1, set_past hne h.2.1, by rw [World.frozen?_setCell]; exact h.2.2.1, by rw [World.frozen?_setCell]; exact h.2.2.2⟩
set_option maxRecDepth 1000000 in
set_option maxHeartbeats 1600000 in
theorem hin_any (s : ByteArray) (p : Int) (w : World) (hd : allD s.data.toList = true) (hz : s.size ≤ 100000) (hp0 : -10000 ≤ p - s.size) (hp1 : p ≤ 100000) :
    Calls Tryz.prog 103 #[.agg #[.string s, .int .i64 p]] w fun e w' => e = .returned (.agg #[.string (oS (V s.data.toList p)), .int .i64 (oP (V s.data.toList p))]) ∧ Below w.heap.size w w' := by
  have HI : Hid (InAt s p (V s.data.toList p)) := ⟨hd, rfl, hp0⟩
  generalize V s.data.toList p = v at *
  clear hd
  go_enter Tryz.func103, Tryz.ntmps103
  go_wp2
  go_loopg [] s.size (fun g wr => ∃ (u : ByteArray) (q : Int), u.size = g ∧ u.size ≤ s.size ∧ q ≤ p ∧ -10000 ≤ q - u.size ∧ BoxD wr w.heap.size (.string u) (.int .i64 q) ∧ BoxD wr (w.heap.size + 1) (.string ⟨#[]⟩) (.int .i64 0) ∧ Below w.heap.size w wr ∧ Hid (InAt u q v))
  case atStart => exact ⟨s, p, rfl, Nat.le_refl _, Int.le_refl _, hp0, by simp [BoxD, go_sem], by simp [BoxD, go_sem], by go_grown, HI⟩
  case round =>
    obtain ⟨u, q, rfl, hus, hqp, hq0, bA, bR, hbl, HI⟩ := hrel
    obtain ⟨a0, a1, a2, a3⟩ := id bA
    rcases Nat.eq_zero_or_pos u.size with h0 | h0
    · have e1 : u.toList.isEmpty = true := empty_yes u h0
      have HH : Hid (hd u.data.toList = true) := hd_no (.inl h0)
      go_wp2
      clear a0 a1 a2 a3
      go_loopg [] u.size (fun g2 wr2 => ∃ (t : ByteArray), t.size = g2 ∧ t.size ≤ u.size ∧ BoxD wr2 w.heap.size (.string t) (.int .i64 q) ∧ BoxD wr2 (w.heap.size + 1) (.string ⟨#[]⟩) (.int .i64 0) ∧ Below w.heap.size w wr2 ∧ Hid (InAt t q v ∧ hd t.data.toList = true))
      case atStart => exact ⟨u, rfl, Nat.le_refl _, bA, bR, hbl, HI.out, HH.out⟩
      case round =>
        obtain ⟨t, rfl, htu, bA2, bR2, hbl2, HJ⟩ := hrel
        clear bA bR hbl e1
        obtain ⟨a0, a1, a2, a3⟩ := id bA2
        obtain ⟨r0, r1, r2, r3⟩ := id bR2
        rcases Nat.eq_zero_or_pos t.size with h0 | h0
        · have e2 : t.toList.isEmpty = true := empty_yes t h0
          have HF : Hid (oS v = t ∧ oP v = 0) := by
            have := HJ.out.1.fin HJ.out.2 (lst_no (.inl h0))
            rw [if_pos h0] at this; exact this
          clear HJ
          go_wp2
          refine bodyPost_ret (by simp [results, Tryz.results103, go_sem, cs_same, r0, r1, a0, a1]; rfl) rfl ?_
          rw [HF.out.1, HF.out.2]
          refine ⟨rfl, ?_⟩
          iterate 3 (refine Below.setCell ?_ (by dsimp only; omega) _)
          exact hbl2
        · omega
    · have e1 : u.toList.isEmpty = false := empty_no u h0
      have h0I : 0 < (u.size : Int) := by omega
      by_cases hx : (u[0]'h0).toNat = 48
      · have hxI : ((u[0]'h0).toNat : Int) = 48 := by omega
        have HI2 : Hid (InAt (u.extract 1 u.size) (q - 1) v) := HI.out.lead h0 hx
        have hsz : (u.extract 1 u.size).size = u.size - 1 := tail_size u 1
        have HB : Hid (BoxD ((wr.setCell ⟨w.heap.size, 0, none⟩ (.string (u.extract 1 u.size))).setCell ⟨w.heap.size, 1, none⟩ (.int .i64 (q - 1))) w.heap.size (.string (u.extract 1 u.size)) (.int .i64 (q - 1)) ∧ BoxD ((wr.setCell ⟨w.heap.size, 0, none⟩ (.string (u.extract 1 u.size))).setCell ⟨w.heap.size, 1, none⟩ (.int .i64 (q - 1))) (w.heap.size + 1) (.string ⟨#[]⟩) (.int .i64 0)) := ⟨bA.put _ _, bR.past (by omega) _ _⟩
        have h1 : 1 ≤ (u.size : Int) := by omega
        clear HI
        go_wp2
        go_roundg (u.size - 1)
        case measure => omega
        case rel => exact ⟨u.extract 1 u.size, q - 1, hsz, by omega, by omega, by omega, HB.out.1, HB.out.2, (hbl.setCell (Nat.le_refl _) _).setCell (Nat.le_refl _) _, HI2⟩
      · have hxI : ¬ ((u[0]'h0).toNat : Int) = 48 := by omega
        have HH : Hid (hd u.data.toList = true) := hd_no (.inr ⟨h0, hx⟩)
        go_wp2
        clear a0 a1 a2 a3
        go_loopg [] u.size (fun g2 wr2 => ∃ (t : ByteArray), t.size = g2 ∧ t.size ≤ u.size ∧ BoxD wr2 w.heap.size (.string t) (.int .i64 q) ∧ BoxD wr2 (w.heap.size + 1) (.string ⟨#[]⟩) (.int .i64 0) ∧ Below w.heap.size w wr2 ∧ Hid (InAt t q v ∧ hd t.data.toList = true))
        case atStart => exact ⟨u, rfl, Nat.le_refl _, bA, bR, hbl, HI.out, HH.out⟩
        case round =>
          obtain ⟨t, rfl, htu, bA2, bR2, hbl2, HJ⟩ := hrel
          clear bA bR hbl e1
          obtain ⟨a0, a1, a2, a3⟩ := id bA2
          obtain ⟨r0, r1, r2, r3⟩ := id bR2
          rcases Nat.eq_zero_or_pos t.size with h0 | h0
          · have e2 : t.toList.isEmpty = true := empty_yes t h0
            have HF : Hid (oS v = t ∧ oP v = 0) := by
              have := HJ.out.1.fin HJ.out.2 (lst_no (.inl h0))
              rw [if_pos h0] at this; exact this
            clear HJ
            go_wp2
            refine bodyPost_ret (by simp [results, Tryz.results103, go_sem, cs_same, r0, r1, a0, a1]; rfl) rfl ?_
            rw [HF.out.1, HF.out.2]
            refine ⟨rfl, ?_⟩
            iterate 3 (refine Below.setCell ?_ (by dsimp only; omega) _)
            exact hbl2
          · obtain ⟨n, hn⟩ : ∃ n, t.size = n + 1 := ⟨t.size - 1, by omega⟩
            have hlt : n < t.size := by omega
            have e2 : t.toList.isEmpty = false := empty_no t h0
            have hnI : (t.size : Int) - 1 = (n : Int) := by omega
            by_cases hx : (t[n]'hlt).toNat = 48
            · have hxI : ((t[n]'hlt).toNat : Int) = 48 := by omega
              have HJ2 : Hid (InAt (t.extract 0 n) q v ∧ hd (t.extract 0 n).data.toList = true) := ⟨HJ.out.1.trail hn hlt hx, hd_cut HJ.out.2 hn hlt⟩
              have hsz : (t.extract 0 n).size = n := ext_size1 t n (by omega)
              have HB : Hid (BoxD (wr.setCell ⟨w.heap.size, 0, none⟩ (.string (t.extract 0 n))) w.heap.size (.string (t.extract 0 n)) (.int .i64 q) ∧ BoxD (wr.setCell ⟨w.heap.size, 0, none⟩ (.string (t.extract 0 n))) (w.heap.size + 1) (.string ⟨#[]⟩) (.int .i64 0)) := ⟨bA2.set0 _, bR2.past1 (by omega) _⟩
              clear HJ hn
              go_wp2
              go_roundg n
              case measure => omega
              case rel => exact ⟨t.extract 0 n, hsz, by omega, HB.out.1, HB.out.2, hbl2.setCell (Nat.le_refl _) _, HJ2⟩
            · have hxI : ¬ ((t[n]'hlt).toNat : Int) = 48 := by omega
              have HF : Hid (oS v = t ∧ oP v = q) := by
                have := HJ.out.1.fin HJ.out.2 (lst_no (.inr ⟨n, hn, hlt, hx⟩))
                rw [if_neg (by omega)] at this; exact this
              clear HJ hn
              go_wp2
              refine bodyPost_ret (by simp [results, Tryz.results103, go_sem, cs_same, r0, r1, a0, a1]; rfl) rfl ?_
              rw [HF.out.1, HF.out.2]
              refine ⟨rfl, ?_⟩
              iterate 2 (refine Below.setCell ?_ (by dsimp only; omega) _)
              exact hbl2

def HInC (s : ByteArray) (p : Int) (S : ByteArray) (P : Int) : Prop := ∀ w, Calls Tryz.prog 103 #[.agg #[.string s, .int .i64 p]] w fun e w' => e = .returned (.agg #[.string S, .int .i64 P]) ∧ Below w.heap.size w w'
set_option maxRecDepth 1000000 in
set_option maxHeartbeats 1600000 in
theorem hnorm_any (s : ByteArray) (p : Int) (w : World) (hs : s.size ≤ 9223372036854775807) :
    Calls Tryz.prog 108 #[.agg #[.string s, .int .i64 p]] w fun e w' => e = .returned (.tuple #[.agg #[.string (oS (normV s p)), .int .i64 (oP (normV s p))], .int .i64 (normE s p)]) ∧ Below w.heap.size w w' := by
  by_cases h1 : 2000 < s.size
  · have h1I : 2000 < (s.size : Int) := by omega
    have HE : Hid (normE s p = 2) := normE_big h1
    have HV : Hid (normV s p = 0) := normV_err HE.out (by decide)
    go_enter Tryz.func108, Tryz.ntmps108
    go_wp2
    go_returns
    rw [HE.out, HV.out, zero_S, o_zero.2]
    exact ⟨rfl, by go_grown⟩
  have h1I : ¬ 2000 < (s.size : Int) := by omega
  obtain ⟨W2, hW2⟩ : ∃ W2, (w.alloc (.cells #[.string s, .int .i64 p] 91)).alloc (.cells #[.string ⟨#[]⟩, .int .i64 0] 91) = W2 := ⟨_, rfl⟩
  have bA : BoxD W2 w.heap.size (.string s) (.int .i64 p) := by rw [← hW2]; simp [BoxD, go_sem]
  have bR : BoxD W2 (w.heap.size + 1) (.string ⟨#[]⟩) (.int .i64 0) := by rw [← hW2]; simp [BoxD, go_sem]
  have hbW : Below w.heap.size w W2 := by rw [← hW2]; go_grown
  obtain ⟨a0, a1, a2, a3⟩ := id bA
  obtain ⟨r0, r1, r2, r3⟩ := id bR
  go_enter Tryz.func108, Tryz.ntmps108
  go_wp2
  clear hW2
  go_loopg [4] s.size (fun g i wr => wr = W2 ∧ ∃ k : Nat, i = .int .i64 k ∧ k + g = s.size ∧ Hid (allD (s.data.toList.take k) = true))
  case atStart => exact ⟨rfl, 0, rfl, Nat.zero_add _, rfl⟩
  case round =>
    obtain ⟨hwr, k, rfl, hkg, HA⟩ := hrel
    subst hwr
    by_cases hlt : k < s.size
    · have hltI : (k : Int) < s.size := by omega
      have hx : (s[k]'hlt).toNat < 256 := (s[k]'hlt).toNat_lt
      have HD : Hid (isD (s[k]'hlt) = true ↔ 48 ≤ (s[k]'hlt).toNat ∧ (s[k]'hlt).toNat ≤ 57) := isD_iff _
      have HN : Hid (allD (s.data.toList.take (k + 1)) = (allD (s.data.toList.take k) && isD (s[k]'hlt))) := allD_take s k hlt
      have HB : Hid (isD (s[k]'hlt) = false → allD s.data.toList = false) := allD_bad s k hlt
      by_cases h2 : (s[k]'hlt).toNat < 48
      · have h2I : ((s[k]'hlt).toNat : Int) < 48 := by omega
        have HF : Hid (normE s p = 4) := normE_form h1 (HB.out (by
          cases hh : isD (s[k]'hlt) with
          | false => rfl
          | true => have := HD.out.1 hh; omega))
        have HV : Hid (normV s p = 0) := normV_err HF.out (by decide)
        go_wp2
        refine bodyPost_ret (by simp [results, Tryz.results108, go_sem, cs_same, r0, r1]; rfl) rfl ?_
        rw [HF.out, HV.out, zero_S, o_zero.2]
        refine ⟨rfl, ?_⟩
        iterate 2 (refine Below.setCell ?_ (by dsimp only; omega) _)
        exact hbW
      · have h2I : ¬ ((s[k]'hlt).toNat : Int) < 48 := by omega
        by_cases h3 : 57 < (s[k]'hlt).toNat
        · have h3I : 57 < ((s[k]'hlt).toNat : Int) := by omega
          have HF : Hid (normE s p = 4) := normE_form h1 (HB.out (by
            cases hh : isD (s[k]'hlt) with
            | false => rfl
            | true => have := HD.out.1 hh; omega))
          have HV : Hid (normV s p = 0) := normV_err HF.out (by decide)
          go_wp2
          refine bodyPost_ret (by simp [results, Tryz.results108, go_sem, cs_same, r0, r1]; rfl) rfl ?_
          rw [HF.out, HV.out, zero_S, o_zero.2]
          refine ⟨rfl, ?_⟩
          iterate 2 (refine Below.setCell ?_ (by dsimp only; omega) _)
          exact hbW
        · have h3I : ¬ 57 < ((s[k]'hlt).toNat : Int) := by omega
          have HG : Hid (allD (s.data.toList.take (k + 1)) = true) := by
            show allD (s.data.toList.take (k + 1)) = true
            rw [HN.out, HA.out, HD.out.2 ⟨by omega, by omega⟩]; rfl
          go_wp2
          go_roundg (gk - 1)
          case measure => omega
          case rel => exact ⟨rfl, k + 1, by go_num, by omega, HG⟩
    · have hltI : ¬ (k : Int) < s.size := by omega
      have HF : Hid (allD s.data.toList = true) := by
        show allD s.data.toList = true
        have := HA.out
        rw [List.take_of_length_le (by rw [list_len]; omega)] at this
        exact this
      clear HA
      by_cases h2 : p < -5000
      · have HE : Hid (normE s p = 2) := normE_pt h1 HF.out (.inl h2)
        have HV : Hid (normV s p = 0) := normV_err HE.out (by decide)
        go_wp2
        refine bodyPost_ret (by simp [results, Tryz.results108, go_sem, cs_same, r0, r1]; rfl) rfl ?_
        rw [HE.out, HV.out, zero_S, o_zero.2]
        refine ⟨rfl, ?_⟩
        iterate 2 (refine Below.setCell ?_ (by dsimp only; omega) _)
        exact hbW
      by_cases h3 : 5000 < p
      · have HE : Hid (normE s p = 2) := normE_pt h1 HF.out (.inr h3)
        have HV : Hid (normV s p = 0) := normV_err HE.out (by decide)
        go_wp2
        refine bodyPost_ret (by simp [results, Tryz.results108, go_sem, cs_same, r0, r1]; rfl) rfl ?_
        rw [HE.out, HV.out, zero_S, o_zero.2]
        refine ⟨rfl, ?_⟩
        iterate 2 (refine Below.setCell ?_ (by dsimp only; omega) _)
        exact hbW
      have HE : Hid (normE s p = 0) := normE_ok h1 HF.out h2 h3
      have hI : HInC s p (oS (normV s p)) (oP (normV s p)) := fun w => by
        rw [normV_ok HE.out]
        exact hin_any s p w HF.out (by omega) (by omega) (by omega)
      obtain ⟨S, hS⟩ : ∃ S, oS (normV s p) = S := ⟨_, rfl⟩
      obtain ⟨P, hP⟩ : ∃ P, oP (normV s p) = P := ⟨_, rfl⟩
      rw [hS, hP] at hI
      have HS : Hid (oS (normV s p) = S) := hS
      have HP : Hid (oP (normV s p) = P) := hP
      clear HF hS hP
      go_wp2_with (go_at_call 103; refine (hI _).mono ?_; rintro e w3 ⟨rfl, hb3⟩; obtain ⟨q0, q1, q2, q3⟩ := keepb hb3 bR)
      refine bodyPost_ret (by simp [results, Tryz.results108, go_sem, cs_same, q0, q1]; rfl) rfl ?_
      rw [HE.out, HS.out, HP.out]
      refine ⟨rfl, ?_⟩
      have h0 := bel_call hbW hb3 (Nat.le_refl _)
      iterate 2 (refine Below.setCell ?_ (by dsimp only; omega) _)
      exact h0
set_option maxRecDepth 1000000 in
theorem hlow_any (s : ByteArray) (p : Int) (w : World) (hs : s.size ≤ 100000) (hp0 : -100000 ≤ p) (hp1 : p ≤ 100000) :
    Calls Tryz.prog 127 #[.agg #[.string s, .int .i64 p]] w fun e w' => e = .returned (.int .i64 (p - s.size)) ∧ Below w.heap.size w w' := by
  go_enter Tryz.func127, Tryz.ntmps127
  go_wp2
  go_ret
  exact ⟨rfl, by go_grown⟩
set_option maxRecDepth 1000000 in
set_option maxHeartbeats 400000 in
theorem hdigit_any (v : Nat) (q : Int) (Q : Nat) (w : World) (hQ : q + 10000 = (Q : Int)) (hq : q ≤ 100000) (hp : oP v ≤ 100000) (hl : (oL v).length ≤ 100000) :
    Calls Tryz.prog 130 #[.agg #[.string (oS v), .int .i64 (oP v)], .int .i64 q] w fun e w' => e = .returned (.int .i64 ((v / 10 ^ Q % 10 : Nat) : Int)) ∧ Below w.heap.size w w' := by
  have hlow := o_low v
  have hz := oS_size v
  have HD : Hid (dgi (oL v) (oP v) q = v / 10 ^ Q % 10) := dgi_eq (o_dec v) q Q hQ
  have hq0 : -10000 ≤ q := by omega
  have hp0 : -10000 ≤ oP v := by omega
  by_cases h1 : oP v - 1 - q < 0
  · have HF : Hid (v / 10 ^ Q % 10 = 0) := by show _ = _; rw [← HD.out]; unfold dgi; rw [if_pos h1]
    rw [HF.out]
    clear HD HF hz hlow hl hQ
    generalize oS v = S at *
    generalize oP v = P at *
    go_enter Tryz.func130, Tryz.ntmps130
    go_wp2
    go_ret
    exact ⟨rfl, by go_grown⟩
  obtain ⟨i, hi⟩ : ∃ i : Nat, oP v - 1 - q = (i : Int) := ⟨(oP v - 1 - q).toNat, by omega⟩
  by_cases h2 : i < (oL v).length
  · have hi' : i < (oS v).size := by omega
    have hd0 := allD_at (oS v) (o_dig v) i hi'
    have HF : Hid (v / 10 ^ Q % 10 = ((oS v)[i]'hi').toNat - 48) := by
      show _ = _
      rw [← HD.out]; unfold dgi
      rw [if_neg h1, hi, Int.toNat_natCast, if_pos h2]
      have : (oL v).getD i 0 = (oS v)[i]'hi' := by
        rw [List.getD_eq_getElem?_getD, List.getElem?_eq_getElem h2, Option.getD_some]; rfl
      rw [this]; rfl
    rw [HF.out]
    clear HD HF hz hlow hl hQ h2 h1
    generalize oS v = S at *
    generalize oP v = P at *
    have hiI : ¬ (S.size : Int) ≤ (i : Int) := by omega
    have hi0 : ¬ (i : Int) < 0 := by omega
    obtain ⟨x, hx⟩ : ∃ x, (S[i]'hi').toNat = x := ⟨_, rfl⟩
    rw [hx] at hd0 ⊢
    obtain ⟨x0, x1⟩ := hd0
    go_enter Tryz.func130, Tryz.ntmps130
    go_wp2
    go_ret
    refine ⟨?_, by go_grown⟩
    show Ending.returned (Value.int .i64 ((x : Int) - 48)) = _
    congr 2; omega
  · have HF : Hid (v / 10 ^ Q % 10 = 0) := by
      show _ = _
      rw [← HD.out]; unfold dgi
      rw [if_neg h1, hi, Int.toNat_natCast, if_neg h2]
    rw [HF.out]
    have h2I : (oS v).size ≤ i := by omega
    clear HD HF hz hlow hl hQ h2
    generalize oS v = S at *
    generalize oP v = P at *
    have hiI : (S.size : Int) ≤ (i : Int) := by omega
    have hi0 : ¬ (i : Int) < 0 := by omega
    go_enter Tryz.func130, Tryz.ntmps130
    go_wp2
    go_ret
    exact ⟨rfl, by go_grown⟩
end Go.Proofs.YthbabhbfpcfenaaGreatDoor
