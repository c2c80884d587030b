/- The law BadBack. -/
import Derived.Test.YtbgejkodgcgpdaaBBack
import Derived.Test.YtbgejkodgcgpdaaBBackM
import Derived.Test.YtbgejkodgcgpdaaBBackX
import Derived.Test.YtbgejkodgcgpdaaBLive
import Derived.Maps.AppendAt
import Derived.Laws.OwnMore
namespace Go.Proofs.Ytbgejkodgcgpdaa
open Go.RowKit
set_option linter.unusedVariables false
set_option linter.unusedSimpArgs false

/-- The rows' cells. -/
def flatR (l : List (ByteArray × Int × ByteArray)) : List Value := l.flatMap (fun r => [.string r.1, .int .i64 r.2.1, .string r.2.2])
theorem flatR_len : ∀ l, (flatR l).length = l.length * 3
  | [] => rfl
  | r :: l => by
    have := flatR_len l
    simp only [flatR, List.flatMap_cons, List.length_append, List.length_cons, List.length_nil] at *
    omega
theorem flatR_get : ∀ (l : List (ByteArray × Int × ByteArray)) (i : Nat) (r : ByteArray × Int × ByteArray), l[i]? = some r → (flatR l)[i * 3]? = some (.string r.1) ∧ (flatR l)[i * 3 + 1]? = some (.int .i64 r.2.1) ∧ (flatR l)[i * 3 + 2]? = some (.string r.2.2)
  | x :: l, 0, r, h => by
    simp at h; subst h
    exact ⟨rfl, rfl, rfl⟩
  | x :: l, i + 1, r, h => by
    have := flatR_get l i r (by simpa using h)
    have e : flatR (x :: l) = [.string x.1, .int .i64 x.2.1, .string x.2.2] ++ flatR l := rfl
    rw [e, show (i + 1) * 3 = 3 + i * 3 by omega]
    refine ⟨?_, ?_, ?_⟩
    · rw [List.getElem?_append_right (by simp)]; simpa using this.1
    · rw [List.getElem?_append_right (by simp; omega)]; simpa [Nat.add_assoc] using this.2.1
    · rw [List.getElem?_append_right (by simp; omega)]; simpa [Nat.add_assoc] using this.2.2
theorem infoR : ∃ i, Try.prog.info? 51 = some i ∧ i.zero = some (.agg #[.string ⟨#[]⟩, .int .i64 0, .string ⟨#[]⟩]) ∧ i.size = 3 ∧ i.bytes = 40 := by
  have h : (Try.prog.info? 51).map (fun i => (i.zero, i.size, i.bytes)) = some (some (.agg #[.string ⟨#[]⟩, .int .i64 0, .string ⟨#[]⟩]), 3, 40) := by kernel_rfl
  obtain ⟨i, hi, hb⟩ := Option.map_eq_some_iff.1 h
  simp only [Prod.mk.injEq] at hb
  exact ⟨i, hi, hb⟩
theorem pre5 (a : ByteArray) (h : [80, 65, 78, 73, 67].isPrefixOf a.data.toList = true) : 5 ≤ a.size ∧ a.extract 0 5 = ⟨#[80, 65, 78, 73, 67]⟩ := by
  obtain ⟨t, ht⟩ := List.isPrefixOf_iff_prefix.1 h
  have hl : a.data.toList.length = 5 + t.length := by rw [← ht]; simp; omega
  rw [list_len] at hl
  refine ⟨by omega, ba_extB ?_⟩
  rw [ByteArray.data_extract, Array.toList_extract, List.extract_eq_take_drop, ← ht]
  simp
theorem valid_no (c : Int) (h : c < 0 ∨ 1114111 < c ∨ (55296 ≤ c ∧ c ≤ 57343)) : Utf8.valid c = false := by
  rw [Bool.eq_false_iff]
  intro hv
  simp only [Utf8.valid, Bool.or_eq_true, Bool.and_eq_true, decide_eq_true_eq] at hv
  omega
theorem valid_yes (c : Int) (h1 : ¬ c < 0) (h2 : ¬ 1114111 < c) (h3 : ¬ (55296 ≤ c ∧ c ≤ 57343)) : Utf8.valid c = true := by
  simp only [Utf8.valid, Bool.or_eq_true, Bool.and_eq_true, decide_eq_true_eq]
  omega
theorem valid_pos (c : Int) (h : Utf8.valid c = true) : 0 ≤ c := by
  simp only [Utf8.valid, Bool.or_eq_true, Bool.and_eq_true, decide_eq_true_eq] at h
  omega

set_option maxRecDepth 1000000 in
set_option maxHeartbeats 4000000 in
theorem badBack_walk (c : Int) (hc : (Lit.int .i32 c).wf = true) (a0 : ByteArray) (ha0 : a0.size ≤ 9223372036854775807) (b0 : ByteArray) (hb0 : b0.size ≤ 9223372036854775807) (w : World) (m : Int) (hm : w.cell? ⟨0, 0, none⟩ = some (.int .i64 m)) :
    Calls Try.prog 7 #[.int .i32 c, .string a0, .string b0] w fun e w' => e = .returned (.bool true) ∧ Below w.heap.size w w' := by
  obtain ⟨a, ha, hCa⟩ := cut10_any a0
  obtain ⟨b, hb, hCb⟩ := cut10_any b0
  have h0 := cell_pos hm
  clear ha0 hb0 hc
  go_enter Try.func7, Try.ntmps7
  go_wp2_with fail
  refine (hCa _).mono ?_
  rintro e w1 ⟨rfl, hw1⟩
  subst w1
  go_wp2_with fail
  refine (hCb _).mono ?_
  rintro e w1 ⟨rfl, hw1⟩
  subst w1
  clear hCa hCb
  obtain ⟨q, hq⟩ : ∃ q : Bool, Hid (q = !Utf8.valid c) := ⟨_, rfl⟩
  have HC : Hid ((c < 0 ∧ Hid (true = q)) ∨ (0 ≤ c ∧ 1114111 < c ∧ Hid (true = q)) ∨ (0 ≤ c ∧ c ≤ 1114111 ∧ 55296 ≤ c ∧ c ≤ 57343 ∧ Hid (true = q)) ∨ (0 ≤ c ∧ c ≤ 1114111 ∧ 55296 ≤ c ∧ 57343 < c ∧ Hid (false = q)) ∨ (0 ≤ c ∧ c ≤ 1114111 ∧ c < 55296 ∧ Hid (false = q))) := by
    have h1 : (c < 0 ∨ 1114111 < c ∨ (55296 ≤ c ∧ c ≤ 57343)) → Hid (true = q) := fun h => by show true = q; rw [hq.out, valid_no c h]; rfl
    have h2 : ¬ c < 0 → ¬ 1114111 < c → ¬ (55296 ≤ c ∧ c ≤ 57343) → Hid (false = q) := fun h1 h2 h3 => by show false = q; rw [hq.out, valid_yes c h1 h2 h3]; rfl
    show _ ∨ _
    by_cases a1 : c < 0
    · exact .inl ⟨a1, h1 (.inl a1)⟩
    by_cases a2 : 1114111 < c
    · exact .inr (.inl ⟨by omega, a2, h1 (.inr (.inl a2))⟩)
    by_cases a3 : 55296 ≤ c
    · by_cases a4 : c ≤ 57343
      · exact .inr (.inr (.inl ⟨by omega, by omega, a3, a4, h1 (.inr (.inr ⟨a3, a4⟩))⟩))
      · exact .inr (.inr (.inr (.inl ⟨by omega, by omega, a3, by omega, h2 a1 a2 (fun h => a4 h.2)⟩)))
    · exact .inr (.inr (.inr (.inr ⟨by omega, by omega, by omega, h2 a1 a2 (fun h => a3 h.1)⟩)))
  go_upto_region 2 with fail
  go_cut [33] (fun t wx => wx = w ∧ t = .bool q)
  case first =>
    rcases HC.out with ⟨h1, e⟩ | ⟨h1, h2, e⟩ | ⟨h1, h2, h3, h4, e⟩ | ⟨h1, h2, h3, h4, e⟩ | ⟨h1, h2, h3, e⟩
    all_goals
      clear HC
      go_wp2
      go_meet
      first | exact ⟨rfl, congrArg Value.bool e.out⟩ | exact ⟨rfl, congrArg Value.bool (Eq.trans (by simp; omega) e.out)⟩
  case rest =>
  clear HC
  obtain ⟨rfl, rfl⟩ := hcut
  go_upto_if 33 with fail
  go_cut [0] (fun t wx => wx = wc ∧ ∃ n : Nat, t = .int .i32 (n : Nat) ∧ Hid (Utf8.valid (n : Int) = true))
  case first =>
    cases q with
    | true =>
      go_wp2
      go_meet
      exact ⟨rfl, 65533, rfl, by show Utf8.valid _ = true; decide⟩
    | false =>
      have hv : Utf8.valid c = true := by have := hq.out; simpa using this.symm
      obtain ⟨n, rfl⟩ := Int.eq_ofNat_of_zero_le (valid_pos c hv)
      clear hq
      have HV : Hid (Utf8.valid (n : Int) = true) := hv
      clear hv
      go_wp2
      go_meet
      exact ⟨rfl, n, rfl, HV⟩
  case rest =>
  obtain ⟨hwx, n, rfl, hn⟩ := hcut
  subst hwx
  obtain ⟨E, hE⟩ : ∃ E, E = wc := ⟨_, rfl⟩
  subst hE
  clear hq
  have haI : (a.size : Int) ≤ 1000 := by omega
  have hbI : (b.size : Int) ≤ 1000 := by omega
  obtain ⟨TN, hTN⟩ : ∃ T, T = bT (vB n) [60, 110, 105, 108, 62] := ⟨_, rfl⟩
  obtain ⟨TM, hTM⟩ : ∃ T, T = bT (vB n) [77, 73, 83, 83, 73, 78, 71] := ⟨_, rfl⟩
  obtain ⟨TI, hTI⟩ : ∃ T, T = bT (vB n) [66, 65, 68, 73, 78, 68, 69, 88] := ⟨_, rfl⟩
  obtain ⟨TP, hTP⟩ : ∃ T, T = bT (vB n) ([80, 65, 78, 73, 67, 61] ++ a.data.toList ++ [32, 109, 101, 116, 104, 111, 100, 58, 32] ++ b.data.toList) := ⟨_, rfl⟩
  obtain ⟨TV, hTV⟩ : ∃ T, T = bT (vB n) (a.data.toList ++ [61] ++ b.data.toList) := ⟨_, rfl⟩
  obtain ⟨IP, hIP⟩ : ∃ T : ByteArray, T = (⟨#[80, 65, 78, 73, 67, 61]⟩ ++ a ++ ⟨#[32, 109, 101, 116, 104, 111, 100, 58, 32]⟩ ++ b) := ⟨_, rfl⟩
  obtain ⟨IV, hIV⟩ : ∃ T : ByteArray, T = (a ++ ⟨#[61]⟩ ++ b) := ⟨_, rfl⟩
  have kN := fun w => bnil_any n w
  have kM := fun w => bmissing_any n w
  have kI := fun w => bindex_any n w
  have kP := fun w => bpanic_any n a ha b hb w
  have kV := fun w => bverb_any n a ha b hb w
  rw [← hTN] at kN
  rw [← hTM] at kM
  rw [← hTI] at kI
  rw [← hTP] at kP
  rw [← hTV] at kV
  have vz := vB_size n
  rw [← list_len] at vz
  have az := ha
  have bz := hb
  rw [← list_len] at az bz
  have RN : Hid (reK TN = (2, (n : Int), ⟨#[60, 110, 105, 108, 62]⟩) ∧ TN.size < 4294967281) := by
    refine ⟨?_, ?_⟩
    · rw [hTN]; exact reK_bT _ _ _ _ (by rw [paK_verb n hn.out, wiK_nil]) (by decide)
    · rw [hTN, bT_size]; unfold vB; simp only [List.length_append, List.length_cons, List.length_nil]; omega
  have RM : Hid (reK TM = (3, (n : Int), ⟨#[77, 73, 83, 83, 73, 78, 71]⟩) ∧ TM.size < 4294967281) := by
    refine ⟨?_, ?_⟩
    · rw [hTM]; exact reK_bT _ _ _ _ (by rw [paK_verb n hn.out, wiK_missing]) (by decide)
    · rw [hTM, bT_size]; unfold vB; simp only [List.length_append, List.length_cons, List.length_nil]; omega
  have RI : Hid (reK TI = (4, (n : Int), ⟨#[66, 65, 68, 73, 78, 68, 69, 88]⟩) ∧ TI.size < 4294967281) := by
    refine ⟨?_, ?_⟩
    · rw [hTI]; exact reK_bT _ _ _ _ (by rw [paK_verb n hn.out, wiK_index]) (by decide)
    · rw [hTI, bT_size]; unfold vB; simp only [List.length_append, List.length_cons, List.length_nil]; omega
  have eP : mk ([80, 65, 78, 73, 67, 61] ++ a.data.toList ++ [32, 109, 101, 116, 104, 111, 100, 58, 32] ++ b.data.toList) = IP := by
    rw [hIP]; apply ba_extB; simp [mk, ByteArray.data_append]
  have eV : mk (a.data.toList ++ [61] ++ b.data.toList) = IV := by
    rw [hIV]; apply ba_extB; simp [mk, ByteArray.data_append]
  have RP : Hid (reK TP = (5, (n : Int), IP) ∧ TP.size < 4294967281) := by
    refine ⟨?_, ?_⟩
    · rw [hTP, ← eP]; exact reK_bT _ _ _ _ (by rw [paK_verb n hn.out, wiK_panic]) (by decide)
    · rw [hTP, bT_size]; unfold vB; simp only [List.length_append, List.length_cons, List.length_nil]; omega
  have RV : Hid (¬ [80, 65, 78, 73, 67].isPrefixOf a.data.toList = true → reK TV = (1, (n : Int), IV) ∧ TV.size < 4294967281) := by
    intro hp
    refine ⟨?_, ?_⟩
    · rw [hTV, ← eV]; exact reK_bT _ _ _ _ (by rw [paK_verb n hn.out, show a.data.toList ++ [61] ++ b.data.toList = a.data.toList ++ 61 :: b.data.toList by simp, wiK_verb _ _ hp]) (by decide)
    · rw [hTV, bT_size]; unfold vB; simp only [List.length_append, List.length_cons, List.length_nil]; omega
  have hIP2 := hIP.symm
  have hIV2 := hIV.symm
  clear hTN hTM hTI hTP hTV hIP hIV eP eV vz az bz hn
  go_upto_region 5 with (first
    | (go_at_call 19; refine (kN _).mono ?_; rintro e w2 ⟨rfl, b2⟩)
    | (go_at_call 20; refine (kM _).mono ?_; rintro e w3 ⟨rfl, b3⟩)
    | (go_at_call 21; refine (kI _).mono ?_; rintro e w4 ⟨rfl, b4⟩)
    | (go_at_call 22; refine (kP _).mono ?_; rintro e w5 ⟨rfl, b5⟩))
  obtain ⟨W6, hW6⟩ : ∃ W6, W6 = w5.alloc (.cells #[.string TN, .int .i64 2, .string ⟨#[60, 110, 105, 108, 62]⟩, .string TM, .int .i64 3, .string ⟨#[77, 73, 83, 83, 73, 78, 71]⟩, .string TI, .int .i64 4, .string ⟨#[66, 65, 68, 73, 78, 68, 69, 88]⟩, .string TP, .int .i64 5, .string IP] 51) := ⟨_, rfl⟩
  have B5 : Below E.heap.size E w5 := b2.trans ((b3.mono b2.size).trans ((b4.mono (Nat.le_trans b2.size b3.size)).trans (b5.mono (Nat.le_trans b2.size (Nat.le_trans b3.size b4.size)))))
  have o6 : W6.ownsRow E.heap.size 51 3 (.slice (some ⟨w5.heap.size, 0, none⟩) 4 4) 4 (flatR [(TN, 2, ⟨#[60, 110, 105, 108, 62]⟩), (TM, 3, ⟨#[77, 73, 83, 83, 73, 78, 71]⟩), (TI, 4, ⟨#[66, 65, 68, 73, 78, 68, 69, 88]⟩), (TP, 5, IP)]) := by
    rw [hW6]
    exact ⟨rfl, .inr ⟨w5.heap.size, 4, _, rfl, B5.size, heap_alloc_new _ _, Nat.le_refl _, by unfold maxLen; omega, rfl, rfl⟩⟩
  have B6 : Below E.heap.size E W6 := by rw [hW6]; exact B5.alloc B5.size _
  have H4 : Hid (∀ r ∈ [(TN, (2 : Int), (⟨#[60, 110, 105, 108, 62]⟩ : ByteArray)), (TM, 3, ⟨#[77, 73, 83, 83, 73, 78, 71]⟩), (TI, 4, ⟨#[66, 65, 68, 73, 78, 68, 69, 88]⟩), (TP, 5, IP)], reK r.1 = (r.2.1, (n : Int), r.2.2) ∧ r.1.size < 4294967281) := by
    intro r hr
    simp only [List.mem_cons, List.not_mem_nil, or_false] at hr
    rcases hr with rfl | rfl | rfl | rfl
    · exact RN.out
    · exact RM.out
    · exact RI.out
    · exact RP.out
  obtain ⟨rows, hrows⟩ : ∃ rows, rows = [(TN, (2 : Int), (⟨#[60, 110, 105, 108, 62]⟩ : ByteArray)), (TM, 3, ⟨#[77, 73, 83, 83, 73, 78, 71]⟩), (TI, 4, ⟨#[66, 65, 68, 73, 78, 68, 69, 88]⟩), (TP, 5, IP)] := ⟨_, rfl⟩
  have hrl : rows.length = 4 := by rw [hrows]; rfl
  rw [← hrows] at o6 H4
  rw [← hW6]
  clear hrows hW6 RN RM RI RP b2 b3 b4 b5 kN kM kI kP
  obtain ⟨pp, hpp⟩ : ∃ pp : Bool, Hid (pp = [80, 65, 78, 73, 67].isPrefixOf a.data.toList) := ⟨_, rfl⟩
  have HP : Hid (((a.size : Int) < 5 ∧ Hid (true = !pp)) ∨ (5 ≤ (a.size : Int) ∧ ((a.extract 0 5).toList == [80, 65, 78, 73, 67]) = false ∧ Hid (true = !pp)) ∨ (5 ≤ (a.size : Int) ∧ a.extract 0 5 = ⟨#[80, 65, 78, 73, 67]⟩ ∧ Hid (false = !pp))) := by
    have e := hpp.out
    by_cases h5 : a.size < 5
    · refine .inl ⟨by omega, ?_⟩
      cases pp with
      | false => rfl
      | true => have := pre5 a e.symm; omega
    by_cases h6 : a.extract 0 5 = ⟨#[80, 65, 78, 73, 67]⟩
    · refine .inr (.inr ⟨by omega, h6, ?_⟩)
      cases pp with
      | true => rfl
      | false =>
        exfalso
        have h7 : [80, 65, 78, 73, 67] <+: a.data.toList := by
          have := congrArg (fun x : ByteArray => x.data.toList) h6
          simp only [ByteArray.data_extract, Array.toList_extract, List.extract_eq_take_drop] at this
          exact ⟨a.data.toList.drop 5, by rw [← this]; simp⟩
        rw [List.isPrefixOf_iff_prefix.2 h7] at e
        cases e
    · refine .inr (.inl ⟨by omega, (by have := beq_nB _ _ h6; rwa [show (⟨#[80, 65, 78, 73, 67]⟩ : ByteArray).toList = [80, 65, 78, 73, 67] by simp] at this), ?_⟩)
      cases pp with
      | false => rfl
      | true => exact absurd (pre5 a e.symm).2 h6
  go_cut [61] (fun t wx => wx = W6 ∧ t = .bool (!pp))
  case first =>
    rcases HP.out with ⟨h1, e⟩ | ⟨h1, h2, e⟩ | ⟨h1, h2, e⟩
    all_goals
      clear HP
      go_wp2
      go_meet
      first
        | exact ⟨rfl, congrArg Value.bool e.out⟩
        | exact ⟨rfl, congrArg Value.bool (Eq.trans (by simp; omega) e.out)⟩
        | exact ⟨rfl, congrArg Value.bool (Eq.trans (by rw [show ((a.extract 0 5).toList == [80, 65, 78, 73, 67]) = false from h2]; simp) e.out)⟩
  case rest =>
  clear HP
  obtain ⟨hwx, rfl⟩ := hcut
  subst hwx
  obtain ⟨i0, hi, hz0, hz1, hz2⟩ := infoR
  go_upto_if 61 with fail
  go_cut [7] (fun t wx => ∃ rs : List (ByteArray × Int × ByteArray), rs.length ≤ 5 ∧ wx.ownsRow E.heap.size 51 3 t rs.length (flatR rs) ∧ Below E.heap.size E wx ∧ Hid (∀ r ∈ rs, reK r.1 = (r.2.1, (n : Int), r.2.2) ∧ r.1.size < 4294967281))
  case first =>
    cases pp with
    | true =>
      go_wp2
      go_meet
      exact ⟨rows, by omega, by rw [hrl]; exact o6, B6, H4⟩
    | false =>
      have RV2 : Hid (reK TV = (1, (n : Int), IV) ∧ TV.size < 4294967281) := RV.out (by rw [← hpp.out]; decide)
      clear RV hpp
      go_wp2_with (first
        | (go_at_call 23; refine (kV _).mono ?_; rintro e w7 ⟨rfl, b7⟩)
        | (at_builtin; refine wpList_append_own_at _ rfl _ _ 53 rfl E.heap.size 51 i0 _ 3 40 Try.underlying53 hi hz0 hz1 hz2 rfl (by decide) _ _ _ rfl ((o6.kept (row := none) ⟨b7.os, b7.tape, b7.output, b7.size, fun k hk _ => b7.block k hk⟩ (.inr (by simp [Value.ownBlock]))).alloc _) ⟨w7.heap.size, 0, none⟩ 1 1 [.string TV, .int .i64 1, .string IV] rfl rfl ?c1 ?c2 ?c3 ?c4 ?c5 ?_))
      case c1 =>
        intro j u hj
        match j, hj with
        | 0, hj => simp at hj; subst hj; simp [Addr.add]
        | 1, hj => simp at hj; subst hj; simp [Addr.add]
        | 2, hj => simp at hj; subst hj; simp [Addr.add]
      case c2 => intro u hu; simp at hu; rcases hu with rfl | rfl | rfl <;> rfl
      case c3 => unfold maxLen; omega
      case c4 => omega
      case c5 => have := b7.size; have := B6.size; simp; omega
      intro v3 w3 o3 g3 _ _
      have b8 : Below E.heap.size E w3 := ((B6.trans (b7.mono B6.size)).alloc (Nat.le_trans B6.size b7.size) _).grown g3 (by have := b7.size; have := B6.size; simp; omega) (fun kk hkk => (o6.lt kk hkk).1)
      have o4 : w3.ownsRow E.heap.size 51 3 v3 (rows ++ [(TV, (1 : Int), IV)]).length (flatR (rows ++ [(TV, (1 : Int), IV)])) := by
        rw [List.length_append, hrl]
        rw [show flatR (rows ++ [(TV, (1 : Int), IV)]) = flatR rows ++ [Value.string TV, Value.int .i64 1, Value.string IV] by simp [flatR]]
        exact o3
      have H5 : Hid (∀ r ∈ rows ++ [(TV, (1 : Int), IV)], reK r.1 = (r.2.1, (n : Int), r.2.2) ∧ r.1.size < 4294967281) := by
        intro r hr
        rcases List.mem_append.1 hr with hr | hr
        · exact H4.out r hr
        · simp at hr; subst hr; exact RV2.out
      have hl5 : (rows ++ [(TV, (1 : Int), IV)]).length ≤ 5 := by simp [hrl]
      generalize rows ++ [(TV, (1 : Int), IV)] = rows2 at *
      clear o3 g3 RV2
      go_wp2
      go_meet
      exact ⟨rows2, hl5, o4, b8, H5⟩
  case rest =>
  clear o6 B6 B5 H4 kV RV hpp hrl
  obtain ⟨rs, hrs5, orow, Br, HR⟩ := hcut
  obtain ⟨ao, co, rfl, hco, hcm⟩ := own_sliceB orow
  have hrsI : (rs.length : Int) ≤ 5 := by omega
  obtain ⟨W8, hW8⟩ : ∃ W8, W8 = wc := ⟨_, rfl⟩
  subst hW8
  have hR : ∀ (X : ByteArray) (hX : X.size < 4294967281) (V : World), Below E.heap.size E V → Calls Try.prog 16 #[.string X] V fun e w' => e = .returned (.tuple #[.int .i64 (reK X).1, .int .i32 (reK X).2.1, .string (reK X).2.2]) ∧ Below V.heap.size V w' := fun X hX V hVb =>
    bread_any X hX V m ((hVb.cell (p := ⟨0, 0, none⟩) h0).trans hm)
  go_wp2_with fail
  go_loopg [9, 10, 11, 12, 76] rs.length (fun g _ _ _ _ iv wr => ∃ i : Nat, iv = .int .i64 (i : Nat) ∧ i + g = rs.length ∧ wr.ownsRow E.heap.size 51 3 (.slice ao rs.length co) rs.length (flatR rs) ∧ Below E.heap.size E wr)
  case atStart => exact ⟨0, rfl, by omega, orow, Br⟩
  case round =>
    clear orow Br
    obtain ⟨i, rfl, hi2, orow, Br⟩ := hrel
    by_cases hlt : i < rs.length
    · have hltI : (i : Int) < rs.length := by omega
      obtain ⟨⟨T, k, I⟩, hr⟩ : ∃ r, rs[i]? = some r := ⟨_, List.getElem?_eq_getElem hlt⟩
      obtain ⟨f0, f1, f2⟩ := flatR_get rs i _ hr
      obtain ⟨hRe, hTz⟩ := HR.out _ (List.mem_of_getElem? hr)
      dsimp only at f0 f1 f2 hRe hTz
      obtain ⟨g, rfl⟩ : ∃ g, ao = some ⟨g, 0, none⟩ := by
        rcases orow.2 with ⟨h0, h1⟩ | ⟨g, cap, cur, hv, -⟩
        · omega
        · simp at hv; exact ⟨_, hv.1⟩
      have hlen := flatR_len rs
      have d0 := (orow.cellAt (i * 3) (by omega)).trans f0
      have d1 := (orow.cellAt (i * 3 + 1) (by omega)).trans f1
      have d2 := (orow.cellAt (i * 3 + 2) (by omega)).trans f2
      obtain ⟨W9, hW9⟩ : ∃ W9, W9 = wr.alloc (.cells #[.string T, .int .i64 k, .string I] 51) := ⟨_, rfl⟩
      have q0 : W9.cell? ⟨wr.heap.size, 0, none⟩ = some (.string T) := by rw [hW9]; simp
      have q1 : W9.cell? ⟨wr.heap.size, 1, none⟩ = some (.int .i64 k) := by rw [hW9]; simp
      have q2 : W9.cell? ⟨wr.heap.size, 2, none⟩ = some (.string I) := by rw [hW9]; simp
      have o9 : W9.ownsRow E.heap.size 51 3 (.slice (some ⟨g, 0, none⟩) rs.length co) rs.length (flatR rs) := by rw [hW9]; exact orow.alloc _
      have B9 : Below E.heap.size E W9 := by rw [hW9]; exact Br.alloc Br.size _
      have hX9 : wr.heap.size < W9.heap.size := by rw [hW9]; simp
      have hRT := hR T hTz W9 B9
      rw [hRe] at hRT
      clear f0 f1 f2 hRe hTz hr hlen HR hR orow
      go_upto_region 10 with fail
      rw [← hW9]
      clear hW9 d0 d1 d2 Br
      generalize wr.heap.size = X at *
      go_wp2_with fail
      refine hRT.mono ?_
      rintro e W10 ⟨rfl, b10⟩
      have p1 := (b10.cell (p := ⟨X, 1, none⟩) hX9).trans q1
      have p2 := (b10.cell (p := ⟨X, 2, none⟩) hX9).trans q2
      have o10 : W10.ownsRow E.heap.size 51 3 (.slice (some ⟨g, 0, none⟩) rs.length co) rs.length (flatR rs) := o9.kept (row := none) ⟨b10.os, b10.tape, b10.output, b10.size, fun k hk _ => b10.block k hk⟩ (.inr (by simp [Value.ownBlock]))
      have B10 : Below E.heap.size E W10 := B9.trans (b10.mono B9.size)
      clear hRT o9 B9 b10 q0 q1 q2
      go_wp2
      go_roundg (gk - 1)
      case measure => omega
      case rel => exact ⟨i + 1, by go_num, by omega, o10, B10⟩
    · have hltI : ¬ (i : Int) < rs.length := by omega
      clear HR orow hrs5 hi2 hlt hco hcm
      obtain ⟨TX, hTX⟩ : ∃ T, T = bT [] ((insL [a] [b] 1).flatMap (·.data.toList)) := ⟨_, rfl⟩
      obtain ⟨IX, hIX⟩ : ∃ T : ByteArray, T = (⟨#[69, 88, 84, 82, 65, 32]⟩ ++ a ++ ⟨#[61]⟩ ++ b) := ⟨_, rfl⟩
      have hRX : reK TX = (10, 0, IX) := by
        rw [hTX, reK_extra, hIX]
        congr 2
        apply ba_extB
        simp [mk, ByteArray.data_append]
      have hXz : TX.size < 4294967281 := by
        have az := ha
        have bz := hb
        rw [← list_len] at az bz
        rw [hTX, bT_size, insL_one]
        simp only [List.length_append, List.length_cons, List.length_nil]
        omega
      have hIX2 := hIX.symm
      obtain ⟨W9, hW9⟩ : ∃ W9, W9 = (wr.alloc (.cells #[.string a] 9)).alloc (.cells #[.string b] 9) := ⟨_, rfl⟩
      have g1 : W9.cell? ⟨wr.heap.size, 0, none⟩ = some (.string a) := by rw [hW9]; simp
      have g2 : W9.cell? ⟨wr.heap.size + 1, 0, none⟩ = some (.string b) := by rw [hW9]; simp
      have B9 : Below E.heap.size E W9 := by rw [hW9]; exact (Br.alloc Br.size _).alloc (by have := Br.size; simp; omega) _
      have hE : Calls Try.prog 24 #[.slice (some ⟨wr.heap.size, 0, none⟩) 1 1, .slice (some ⟨wr.heap.size + 1, 0, none⟩) 1 1] W9 fun e w' => e = .returned (.string TX) ∧ Below W9.heap.size W9 w' := by
        rw [hTX]
        refine bextra_any [a] [b] (some ⟨wr.heap.size, 0, none⟩) (some ⟨wr.heap.size + 1, 0, none⟩) 1 1 W9 (by simpa using ha) (by simpa using hb) (by simp) (by simp) ?_ ?_
        · intro j x hj
          match j, hj with
          | 0, hj => simp at hj; subst hj; exact ⟨_, rfl, g1⟩
        · intro j x hj
          match j, hj with
          | 0, hj => simp at hj; subst hj; exact ⟨_, rfl, g2⟩
      have hL := fun V => lives10_any V
      have hRd := fun V hV => hR TX hXz V hV
      rw [hRX] at hRd
      clear hTX hIX hRX hXz hR hm g1 g2 Br
      go_wp2_with fail
      rw [← hW9]
      clear hW9
      refine hE.mono ?_
      rintro e V1 ⟨rfl, v1⟩
      have B1 : Below E.heap.size E V1 := B9.trans (v1.mono B9.size)
      go_wp2_with fail
      refine (hRd V1 B1).mono ?_
      rintro e V2 ⟨rfl, v2⟩
      have B2 : Below E.heap.size E V2 := B1.trans (v2.mono B1.size)
      go_wp2_with fail
      refine (hL V2).mono ?_
      rintro e V3 ⟨rfl, v3⟩
      go_wp2
      go_ret
      exact ⟨rfl, B2.trans (v3.mono B2.size)⟩
end Go.Proofs.Ytbgejkodgcgpdaa
