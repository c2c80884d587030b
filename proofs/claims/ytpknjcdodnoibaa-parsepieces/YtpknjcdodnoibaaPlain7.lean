/- More plain mathematics: the first runes of a text and the rest; what is read of a text that begins with a written code point. -/
import Derived.Test.YtpknjcdodnoibaaPlain6
namespace Go.Proofs.Ytpknjcdodnoibaa
open Go.RowKit

set_option maxHeartbeats 1000000 in
theorem decodeN_trunc (n n' b0 b1 b2 b3 c1 c2 c3 : Nat) (hn : n' ≤ n) (h1 : 1 < n' → c1 = b1) (h2 : 2 < n' → c2 = b2) (h3 : 3 < n' → c3 = b3)
    (hw : (Lib.decodeN n b0 b1 b2 b3).2 ≤ n') : Lib.decodeN n' b0 c1 c2 c3 = Lib.decodeN n b0 b1 b2 b3 := by
  rcases Lib.decodeN_shape n b0 b1 b2 b3 with ⟨c, e⟩ | ⟨d1, d2, d3, cv, e⟩ | ⟨d1, d2, d3, d4, cv, cs, e⟩ | ⟨d1, d2, d3, d4, d5, cv, cw, e⟩ | e
  · rw [e]; unfold Lib.decodeN; rw [if_pos c]
  · rw [e] at hw ⊢
    dsimp only at hw
    have g1 := h1 (by omega)
    subst g1
    unfold Lib.decodeN
    rw [if_neg (by omega), if_pos (by omega), if_pos (by omega)]
  · rw [e] at hw ⊢
    dsimp only at hw
    have g1 := h1 (by omega)
    have g2 := h2 (by omega)
    subst g1 g2
    unfold Lib.decodeN
    rw [if_neg (by omega), if_neg (by omega), if_pos (by omega), if_pos (by omega)]
  · rw [e] at hw ⊢
    dsimp only at hw
    have g1 := h1 (by omega)
    have g2 := h2 (by omega)
    have g3 := h3 (by omega)
    subst g1 g2 g3
    unfold Lib.decodeN
    rw [if_neg (by omega), if_neg (by omega), if_neg (by omega), if_pos (by omega), if_pos (by omega)]
  · rcases Lib.decodeN_shape n' b0 c1 c2 c3 with ⟨c, e'⟩ | ⟨d1, d2, d3, cv, e'⟩ | ⟨d1, d2, d3, d4, cv, cs, e'⟩ | ⟨d1, d2, d3, d4, d5, cv, cw, e'⟩ | e'
    · exfalso
      have : Lib.decodeN n b0 b1 b2 b3 = (b0, 1) := by unfold Lib.decodeN; rw [if_pos c]
      rw [e] at this
      have := congrArg Prod.fst this
      dsimp only at this
      omega
    · exfalso
      have g1 := h1 d2
      subst g1
      have : Lib.decodeN n b0 c1 b2 b3 = (b0 % 32 * 64 + c1 % 64, 2) := by
        unfold Lib.decodeN
        rw [if_neg (by omega), if_pos (by omega), if_pos (by omega)]
      rw [e] at this
      have := congrArg Prod.snd this
      dsimp only at this
      omega
    · exfalso
      have g1 := h1 (by omega)
      have g2 := h2 d2
      subst g1 g2
      have : Lib.decodeN n b0 c1 c2 b3 = (b0 % 16 * 4096 + c1 % 64 * 64 + c2 % 64, 3) := by
        unfold Lib.decodeN
        rw [if_neg (by omega), if_neg (by omega), if_pos (by omega), if_pos (by omega)]
      rw [e] at this
      have := congrArg Prod.snd this
      dsimp only at this
      omega
    · exfalso
      have g1 := h1 (by omega)
      have g2 := h2 (by omega)
      have g3 := h3 d2
      subst g1 g2 g3
      have : Lib.decodeN n b0 c1 c2 c3 = (b0 % 8 * 262144 + c1 % 64 * 4096 + c2 % 64 * 64 + c3 % 64, 4) := by
        unfold Lib.decodeN
        rw [if_neg (by omega), if_neg (by omega), if_neg (by omega), if_pos (by omega), if_pos (by omega)]
      rw [e] at this
      have := congrArg Prod.snd this
      dsimp only at this
      omega
    · rw [e, e']

theorem head_size (u : ByteArray) (P : Nat) (h : P ≤ u.size) : (u.extract 0 P).size = P := by
  rw [ByteArray.size_extract]; omega
theorem bt_head (u : ByteArray) (P i : Nat) (hi : i < P) : bt (u.extract 0 P) i = bt u i := by
  unfold bt
  rw [← Lib.getD_get!', ← Lib.getD_get!', ext_list]
  simp only [List.getD, List.getElem?_take, if_pos hi]
theorem dec_head (u : ByteArray) (P p : Nat) (hP : P ≤ u.size) (hp : p < P) (hw : p + (Utf8.decode u p).2 ≤ P) : Utf8.decode (u.extract 0 P) p = Utf8.decode u p := by
  have hz := head_size u P hP
  rw [Lib.decode_at] at hw
  rw [Lib.decode_at, Lib.decode_at, hz]
  have e0 : ((u.extract 0 P).get! p).toNat = (u.get! p).toNat := bt_head u P p hp
  rw [e0]
  apply decodeN_trunc
  · omega
  · intro h; exact bt_head u P (p + 1) (by omega)
  · intro h; exact bt_head u P (p + 2) (by omega)
  · intro h; exact bt_head u P (p + 3) (by omega)
  · omega
theorem posGo_ge (u : ByteArray) : ∀ (N p : Nat), p ≤ posGo u N p
  | 0, p => Nat.le_refl _
  | N + 1, p => by
    by_cases hp : p < u.size
    · rw [posGo_step u N p hp]
      have := posGo_ge u N (p + (Utf8.decode u p).2)
      omega
    · rw [posGo_end u _ p hp]; exact Nat.le_refl _
theorem cnt_rest (u : ByteArray) : ∀ (N p : Nat), cntFrom u (posGo u N p) + min N (cntFrom u p) = cntFrom u p
  | 0, p => by simp [posGo]
  | N + 1, p => by
    by_cases hp : p < u.size
    · rw [posGo_step u N p hp, cntFrom_step u p hp]
      have := cnt_rest u N (p + (Utf8.decode u p).2)
      omega
    · rw [posGo_end u _ p hp, cntFrom_end u p hp]; omega
theorem cnt_head (u : ByteArray) : ∀ (N p P : Nat), p ≤ u.size → P = posGo u N p → cntFrom (u.extract 0 P) p = min N (cntFrom u p)
  | 0, p, P, h, e => by
    have : P = p := e
    subst this
    rw [cntFrom_end _ _ (by rw [head_size u P h]; omega)]
    omega
  | N + 1, p, P, h, e => by
    have hPl : P ≤ u.size := by rw [e]; exact posGo_le u _ p h
    by_cases hp : p < u.size
    · rw [posGo_step u N p hp] at e
      have hge := posGo_ge u N (p + (Utf8.decode u p).2)
      have hw := wid_pos u p
      have hl := wid_le u p hp
      rw [← e] at hge
      rw [cntFrom_step _ p (by rw [head_size u P hPl]; omega), dec_head u P p hPl (by omega) hge, cnt_head u N _ P hl e, cntFrom_step u p hp]
      omega
    · rw [posGo_end u _ p hp] at e
      subst e
      rw [cntFrom_end _ _ (by rw [head_size u P h]; omega), cntFrom_end u _ hp]
      omega

/-- What is cut off and the rest. -/
theorem cut_facts (u : ByteArray) (n : Int) : (cutS u n).size ≤ u.size ∧ u.extract 0 (cutS u n).size = cutS u n ∧
    (0 ≤ n → min n (cntR u : Int) = (cntR (cutS u n) : Nat)) ∧ (n < 0 → cntR (cutS u n) = cntR u) ∧ cntR (u.extract (cutS u n).size u.size) + cntR (cutS u n) = cntR u := by
  by_cases hn : n < 0
  · have e : cutS u n = u := by unfold cutS; rw [if_pos hn]
    rw [e]
    refine ⟨Nat.le_refl _, extract_all u, fun h => by omega, fun _ => rfl, ?_⟩
    rw [cntR_tail, cntFrom_end u _ (by omega)]; omega
  · have e : cutS u n = u.extract 0 (posGo u n.toNat 0) := by unfold cutS; rw [if_neg hn]
    have hPl := posGo_le u n.toNat 0 (Nat.zero_le _)
    have hz := head_size u _ hPl
    have hc : cntR (cutS u n) = min n.toNat (cntR u) := by
      rw [e]; exact cnt_head u n.toNat 0 _ (Nat.zero_le _) rfl
    have hr := cnt_rest u n.toNat 0
    refine ⟨by rw [e, hz]; exact hPl, by rw [e, hz], fun h => by rw [hc]; omega, fun h => by omega, ?_⟩
    rw [cntR_tail, hc, e, hz]
    exact hr

theorem back_dec (c : Int) (s : ByteArray) : dec (Utf8.encode c ++ s) = (pt c, (Utf8.encode c).size) := by
  have hv := pt_valid c
  have hz : 0 < (Utf8.encode c ++ s).size := by
    rw [app_size, enc_pt c, enc_lib _ hv, strOfNums_size]
    have := (Lib.encodeRuneZ_length (pt c : Int)).1
    omega
  rw [dec_ne _ hz, dec_begins _ (pt c) hv s.data.toList (by rw [app_list, enc_pt c]), ← enc_pt c]
theorem enc_size_le (c : Int) : (Utf8.encode c).size ≤ 4 := by
  rw [enc_pt c, enc_lib _ (pt_valid c), strOfNums_size]
  exact (Lib.encodeRuneZ_length (pt c : Int)).2
end Go.Proofs.Ytpknjcdodnoibaa
