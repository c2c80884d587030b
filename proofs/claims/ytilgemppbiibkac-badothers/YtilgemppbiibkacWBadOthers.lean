/- The walk of the law BadOthers. -/
import Derived.Test.YtilgemppbiibkacBRead
namespace Go.Proofs.Ytilgemppbiibkac
open Go.RowKit
set_option linter.unusedVariables false
set_option linter.unusedSimpArgs false

theorem reK_none (s : ByteArray) (h : (reK s).1 = 0) : reK s = (0, 0, ⟨#[]⟩) := by
  unfold reK at h ⊢
  split
  · rename_i hc
    rw [if_pos hc] at h
    exact absurd h hc.2.2
  · rfl
theorem reK_ahead (s : ByteArray) : reK (⟨#[120]⟩ ++ s) = (0, 0, ⟨#[]⟩) := by
  unfold reK
  rw [if_neg]
  rintro ⟨h, -, -⟩
  rw [show (⟨#[120]⟩ ++ s : ByteArray).data.toList = 120 :: s.data.toList by simp] at h
  simp [Lib.hasPrefix] at h
theorem reK_some (s : ByteArray) (h : (reK s).1 ≠ 0) : ∃ l, s.data.toList = l ++ [41] := by
  unfold reK at h
  split at h
  · rename_i hc
    have h2 := hc.2.1
    unfold Lib.hasSuffix at h2
    rw [List.isSuffixOf_iff_suffix] at h2
    obtain ⟨t, ht⟩ := h2
    unfold restK Lib.trimPrefix at ht
    rw [if_pos hc.1] at ht
    have ht' : t ++ [41] = s.data.toList.drop 2 := by simpa using ht
    refine ⟨s.data.toList.take 2 ++ t, ?_⟩
    rw [List.append_assoc, ht', List.take_append_drop]
  · simp at h
theorem take_last (S : ByteArray) (k : Nat) (hk : k ≤ S.size) (l : List UInt8) (h : (S.extract 0 k).data.toList = l ++ [41]) : 1 ≤ k ∧ S.data.toList[k - 1]? = some 41 := by
  have e : (S.extract 0 k).data.toList = S.data.toList.take k := by simp
  rw [e] at h
  have hl : (S.data.toList.take k).length = k := by rw [List.length_take, list_len]; omega
  have hl2 : l.length + 1 = k := by rw [h] at hl; simpa using hl
  refine ⟨by omega, ?_⟩
  have : (S.data.toList.take k)[k - 1]? = some 41 := by
    rw [h, show k - 1 = l.length by omega]
    simp
  rw [List.getElem?_take] at this
  split at this
  · exact this
  · cases this
set_option maxRecDepth 1000000 in
set_option maxHeartbeats 400000 in
theorem badOthers_walk (c : Int) (hc : (Lit.int .i32 c).wf = true) (a0 : ByteArray) (ha0 : a0.size ≤ 9223372036854775807) (n : Int) (hn : (Lit.int .i64 n).wf = true) (w : World) (m : Int) (hm : w.cell? ⟨0, 0, none⟩ = some (.int .i64 m)) :
    Calls Try.prog 3 #[.int .i32 c, .string a0, .int .i64 n] w fun e w' => e = .returned (.bool true) ∧ Below w.heap.size w w' := by
  obtain ⟨a, ha, hCa⟩ := cut10_any a0
  have hL := lives10_any
  have hV := fun w => bverb_any c ⟨#[84]⟩ (by decide) a ha w
  have hz : (bT (vB c) ((⟨#[84]⟩ : ByteArray).data.toList ++ [61] ++ a.data.toList)).size ≤ 2000 := by
    rw [bT_size]
    have h1 := vB_size c
    rw [← list_len] at h1
    rw [← list_len] at ha
    unfold vB
    simp only [List.length_append, List.length_cons, List.length_nil]
    omega
  have hz1 : 1 ≤ (bT (vB c) ((⟨#[84]⟩ : ByteArray).data.toList ++ [61] ++ a.data.toList)).size := by rw [bT_size]; omega
  generalize bT (vB c) ((⟨#[84]⟩ : ByteArray).data.toList ++ [61] ++ a.data.toList) = S at *
  obtain ⟨k, hk⟩ : ∃ k : Nat, max 0 (min n ((S.size : Int) - 1)) = (k : Int) := ⟨(max 0 (min n ((S.size : Int) - 1))).toNat, by omega⟩
  have hk1 : k < S.size := by omega
  have h0 := cell_pos hm
  obtain ⟨XS, hXS⟩ : ∃ XS : ByteArray, XS = (⟨#[120]⟩ : ByteArray) ++ S := ⟨_, rfl⟩
  obtain ⟨T, hT⟩ : ∃ T : ByteArray, T = S.extract 0 k := ⟨_, rfl⟩
  have hxz : XS.size < 4294967281 := by
    have h1 : (⟨#[120]⟩ : ByteArray).size = 1 := by decide
    rw [hXS, ByteArray.size_append, h1]; omega
  have hez : T.size < 4294967281 := by rw [hT, ByteArray.size_extract]; omega
  have hx0 : reK XS = (0, 0, ⟨#[]⟩) := by rw [hXS]; exact reK_ahead S
  have hR : ∀ (X : ByteArray) (hX : X.size < 4294967281) (V : World), Below w.heap.size w V → Calls Try.prog 6 #[.string X] V fun e w' => e = .returned (.tuple #[.int .i64 (reK X).1, .int .i32 (reK X).2.1, .string (reK X).2.2]) ∧ Below w.heap.size w w' := fun X hX V hVb =>
    (bread_any X hX V m ((hVb.cell (p := ⟨0, 0, none⟩) h0).trans hm)).mono fun e w' h => ⟨h.1, hVb.trans (h.2.mono hVb.size)⟩
  have hR1 := hR XS hxz
  have hR2 := hR T hez
  rw [hx0] at hR1
  have hcase : reK T = (0, 0, ⟨#[]⟩) ∨ ((reK T).1 ≠ 0 ∧ 1 ≤ k ∧ S.data.toList[k - 1]? = some 41) := by
    by_cases h : (reK T).1 = 0
    · exact .inl (reK_none _ h)
    · obtain ⟨l, hl⟩ := reK_some _ h
      rw [hT] at hl
      exact .inr ⟨h, take_last S k (by omega) l hl⟩
  clear hm hz1 ha hR hxz hez hx0
  have st : Below w.heap.size w w := Below.refl _ _
  have hXS2 := hXS.symm
  have hT2 := hT.symm
  clear hXS hT
  have step : ∀ {V V' : World}, Below w.heap.size w V → Below V.heap.size V V' → Below w.heap.size w V' := fun h h' => h.trans (h'.mono h.size)
  rcases hcase with hr | ⟨hr, hk0, hkc⟩
  · rw [hr] at hR2
    clear hr
    go_enter Try.func3, Try.ntmps3
    go_wp2_with (first
      | (go_at_call 5; refine (hCa _).mono ?_; rintro e w1 ⟨rfl, hw1⟩; subst w1)
      | (go_at_call 4; refine (hV _).mono ?_; rintro e w2 ⟨rfl, b2⟩)
      | (go_at_call_of 6 XS; refine (hR1 _ b2).mono ?_; rintro e w3 ⟨rfl, b3⟩)
      | (go_at_call_of 6 T; refine (hR2 _ b3).mono ?_; rintro e w4 ⟨rfl, b4⟩)
      | (go_at_call 7; refine (hL _).mono ?_; rintro e w5 ⟨rfl, b5⟩))
    go_ret
    exact ⟨rfl, step b4 b5⟩
  · generalize (reK T).1 = K at *
    generalize (reK T).2.1 = D at *
    generalize (reK T).2.2 = X at *
    have hk1I : ¬ (k : Int) < 1 := by omega
    have hkI : (k : Int) - 1 = ((k - 1 : Nat) : Int) := by omega
    have hls : k - 1 < S.size := by omega
    have hB : S[k - 1]'hls = 41 := by
      have h5 : S.data.toList[k - 1]? = some (S[k - 1]'hls) := by
        rw [Array.getElem?_toList, Array.getElem?_eq_getElem hls]; rfl
      rw [hkc] at h5; exact (Option.some.inj h5).symm
    have hBn : (S[k - 1]'hls).toNat = 41 := by rw [hB]; rfl
    have hKn : (K != 0) = true := by simpa using hr
    clear hkc hB hk0
    go_enter Try.func3, Try.ntmps3
    go_wp2_with (first
      | (go_at_call 5; refine (hCa _).mono ?_; rintro e w1 ⟨rfl, hw1⟩; subst w1)
      | (go_at_call 4; refine (hV _).mono ?_; rintro e w2 ⟨rfl, b2⟩)
      | (go_at_call_of 6 XS; refine (hR1 _ b2).mono ?_; rintro e w3 ⟨rfl, b3⟩)
      | (go_at_call_of 6 T; refine (hR2 _ b3).mono ?_; rintro e w4 ⟨rfl, b4⟩)
      | (go_at_call 7; refine (hL _).mono ?_; rintro e w5 ⟨rfl, b5⟩))
    all_goals first
      | (go_ret; exact ⟨rfl, step b4 b5⟩)
      | (exfalso; simp_all; done)
end Go.Proofs.Ytilgemppbiibkac
