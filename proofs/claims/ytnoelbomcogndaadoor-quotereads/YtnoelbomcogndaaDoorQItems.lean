/- Plain mathematics: the kinds of what stands between quotes for a rune. -/
import Derived.Test.YtnoelbomcogndaaDoorQPlain
namespace Go.Proofs.YtnoelbomcogndaaDoor
open Go.RowKit

theorem decL_pt (l : List UInt8) (hl : l ≠ []) (hb : brk (Lib.decodeL l) = false) : Utf8.valid ((Lib.decodeL l).1 : Int) = true ∧ l.take (Lib.decodeL l).2 = (Utf8.encode ((Lib.decodeL l).1 : Int)).data.toList := by
  have hs : 0 < (ByteArray.mk l.toArray).size := by
    show 0 < l.toArray.size
    have : l.length ≠ 0 := fun h => hl (List.eq_nil_of_length_eq_zero h)
    simp; omega
  have e : Utf8.decode (ByteArray.mk l.toArray) 0 = Lib.decodeL l := by rw [dec_zero]
  rcases dec_some (ByteArray.mk l.toArray) hs with h | ⟨n, h1, h2, h3, h4⟩
  · rw [e] at h
    rw [h] at hb
    exact absurd hb (by decide)
  · have h5 := try_dec _ _ _ h3 h4
    rw [e] at h5
    obtain ⟨hv, he⟩ := h4
    rw [h5]
    refine ⟨hv, ?_⟩
    show l.take n = _
    rw [he, ext_list]
theorem decL_brk (l : List UInt8) (hb : brk (Lib.decodeL l) = true) : (Lib.decodeL l).2 = 1 := by
  simp only [brk, Bool.and_eq_true, beq_iff_eq] at hb
  exact hb.2
theorem take_one (l : List UInt8) (hl : l ≠ []) : l.take 1 = [l.getD 0 0] := by
  match l, hl with
  | x :: t, _ => rfl

/-- What stands for the first rune is one of six kinds. -/
def Kind (L m : List UInt8) : Prop :=
  (∃ c : Nat, Utf8.valid (c : Int) = true ∧ plainP c = true ∧ c ≠ 92 ∧ c ≠ 34 ∧ m = (Utf8.encode (c : Int)).data.toList ∧ L = m) ∨
  (∃ b : UInt8, (b = 34 ∨ b = 92) ∧ m = [b] ∧ L = [92, b]) ∨
  (∃ k : Nat, k < 7 ∧ m = [UInt8.ofNat (7 + k)] ∧ L = [92, UInt8.ofNat (escT k)]) ∨
  (∃ v : Nat, v < 256 ∧ m = [UInt8.ofNat v] ∧ L = [92, 120] ++ hexL v 2) ∨
  (∃ v : Nat, Utf8.valid (v : Int) = true ∧ v ≤ 65535 ∧ m = (Utf8.encode (v : Int)).data.toList ∧ L = [92, 117] ++ hexL v 4) ∨
  (∃ v : Nat, Utf8.valid (v : Int) = true ∧ m = (Utf8.encode (v : Int)).data.toList ∧ L = [92, 85] ++ hexL v 8)

theorem inL_kind (c : Nat) (a : Bool) (hv : Utf8.valid (c : Int) = true) : Kind (inL c 34 a) (Utf8.encode (c : Int)).data.toList := by
  unfold inL
  split
  · rename_i h
    have hc : c < 128 := by omega
    refine .inr (.inl ⟨UInt8.ofNat c, ?_, by rw [enc1 c hc], rfl⟩)
    rcases h with rfl | rfl
    · exact .inl rfl
    · exact .inr rfl
  · rename_i h
    split
    · rename_i h1
      refine .inr (.inr (.inl ⟨c - 7, by omega, ?_, rfl⟩))
      rw [enc1 c (by omega), show 7 + (c - 7) = c by omega]
    · split
      · rename_i h2
        exact .inl ⟨c, hv, h2.1, by omega, by omega, rfl, rfl⟩
      · split
        · rename_i h3
          exact .inr (.inr (.inr (.inl ⟨c, by omega, by rw [enc1 c h3], rfl⟩)))
        · split
          · rename_i h4
            exact .inr (.inr (.inr (.inr (.inl ⟨c, hv, h4, rfl, rfl⟩))))
          · exact .inr (.inr (.inr (.inr (.inr ⟨c, hv, rfl, rfl⟩))))
theorem item_kind (a : Bool) (l : List UInt8) (hl : l ≠ []) : Kind (itemL a l) (l.take (Lib.decodeL l).2) := by
  cases hb : brk (Lib.decodeL l) with
  | true =>
    unfold itemL
    rw [if_pos hb, decL_brk l hb, take_one l hl]
    exact .inr (.inr (.inr (.inl ⟨_, (l.getD 0 0).toNat_lt, by simp, rfl⟩)))
  | false =>
    obtain ⟨hv, he⟩ := decL_pt l hl hb
    unfold itemL
    rw [if_neg (by rw [hb]; simp), he]
    exact inL_kind _ a hv
theorem enc_head (c : Nat) (hv : Utf8.valid (c : Int) = true) : ∃ x t, (Utf8.encode (c : Int)).data.toList = x :: t ∧ (x = 92 → c = 92) := by
  have h := (valid_iff _).1 hv
  by_cases h1 : c < 128
  · rw [enc1 c h1]
    refine ⟨_, _, rfl, fun h => ?_⟩
    have := congrArg UInt8.toNat h
    simp at this
    omega
  by_cases h2 : c < 2048
  · rw [enc2 c (by omega) h2]
    refine ⟨_, _, rfl, fun h => ?_⟩
    have := congrArg UInt8.toNat h
    simp at this
    omega
  by_cases h3 : c < 65536
  · rw [enc3 c hv (by omega) h3]
    refine ⟨_, _, rfl, fun h => ?_⟩
    have := congrArg UInt8.toNat h
    simp at this
    omega
  · rw [enc4 c hv (by omega)]
    refine ⟨_, _, rfl, fun h => ?_⟩
    have := congrArg UInt8.toNat h
    simp at this
    omega
/-- What stands behind a backslash tells the kind. -/
theorem kind_second (L m rest tl : List UInt8) (b : UInt8) (hK : Kind L m) (h : 92 :: b :: tl = L ++ rest) :
    ((b = 34 ∨ b = 92) ∧ m = [b] ∧ L.length = 2) ∨ (∃ k, k < 7 ∧ b = UInt8.ofNat (escT k) ∧ m = [UInt8.ofNat (7 + k)] ∧ L.length = 2) ∨
    (b = 120 ∧ ∃ v : Nat, v < 256 ∧ m = [UInt8.ofNat v] ∧ tl = hexL v 2 ++ rest ∧ L.length = 4) ∨
    (b = 117 ∧ ∃ v : Nat, Utf8.valid (v : Int) = true ∧ v ≤ 65535 ∧ m = (Utf8.encode (v : Int)).data.toList ∧ tl = hexL v 4 ++ rest ∧ L.length = 6) ∨
    (b = 85 ∧ ∃ v : Nat, Utf8.valid (v : Int) = true ∧ m = (Utf8.encode (v : Int)).data.toList ∧ tl = hexL v 8 ++ rest ∧ L.length = 10) := by
  rcases hK with ⟨c, hv, hp, h92, h34, hm, hL⟩ | ⟨b', hb, hm, hL⟩ | ⟨k, hk, hm, hL⟩ | ⟨v, hv, hm, hL⟩ | ⟨v, hv, hle, hm, hL⟩ | ⟨v, hv, hm, hL⟩
  · exfalso
    obtain ⟨x, t, he, hx⟩ := enc_head c hv
    rw [hL, hm, he] at h
    have := (List.cons.inj h).1
    exact h92 (hx this.symm)
  · rw [hL] at h ⊢
    obtain ⟨-, h2⟩ := List.cons.inj h
    obtain ⟨hb2, -⟩ := List.cons.inj h2
    rw [hb2]; exact .inl ⟨hb, hm, rfl⟩
  · rw [hL] at h ⊢
    obtain ⟨-, h2⟩ := List.cons.inj h
    obtain ⟨hb2, -⟩ := List.cons.inj h2
    exact .inr (.inl ⟨k, hk, hb2, hm, rfl⟩)
  · rw [hL] at h ⊢
    obtain ⟨-, h2⟩ := List.cons.inj h
    obtain ⟨hb2, h3⟩ := List.cons.inj h2
    exact .inr (.inr (.inl ⟨hb2, v, hv, hm, h3, by simp [hexL_len]⟩))
  · rw [hL] at h ⊢
    obtain ⟨-, h2⟩ := List.cons.inj h
    obtain ⟨hb2, h3⟩ := List.cons.inj h2
    exact .inr (.inr (.inr (.inl ⟨hb2, v, hv, hle, hm, h3, by simp [hexL_len]⟩)))
  · rw [hL] at h ⊢
    obtain ⟨-, h2⟩ := List.cons.inj h
    obtain ⟨hb2, h3⟩ := List.cons.inj h2
    exact .inr (.inr (.inr (.inr ⟨hb2, v, hv, hm, h3, by simp [hexL_len]⟩)))
/-- Where no backslash stands ahead of more, the first rune stands for itself. -/
theorem kind_plain (L m rest : List UInt8) (hK : Kind L m) (h : (Lib.decodeL (L ++ rest)).1 ≠ 92 ∨ (L ++ rest).length = 1) :
    (L ++ rest).take (Lib.decodeL (L ++ rest)).2 = m ∧ (Lib.decodeL (L ++ rest)).2 = L.length := by
  have key : ∀ (b : UInt8) (t : List UInt8), L = 92 :: b :: t → False := by
    intro b t hL
    have hd : Lib.decodeL (L ++ rest) = (92, 1) := by
      have := decL_enc 92 (by decide) ((b :: t) ++ rest)
      rw [hL]
      exact this
    rw [hd] at h
    rcases h with h | h
    · exact h rfl
    · rw [hL] at h; simp at h
  rcases hK with ⟨c, hv, hp, h92, h34, hm, hL⟩ | ⟨b', hb, hm, hL⟩ | ⟨k, hk, hm, hL⟩ | ⟨v, hv, hm, hL⟩ | ⟨v, hv, hle, hm, hL⟩ | ⟨v, hv, hm, hL⟩
  · have hd := decL_enc c hv rest
    rw [← hm, ← hL] at hd
    have hl : (Utf8.encode (c : Int)).size = L.length := by rw [hL, hm, list_len]
    rw [hl] at hd
    rw [hd]
    refine ⟨?_, rfl⟩
    show List.take L.length _ = _
    rw [List.take_left' rfl, hL]
  · exact (key _ _ hL).elim
  · exact (key _ _ hL).elim
  · exact (key _ _ hL).elim
  · exact (key _ _ hL).elim
  · exact (key _ _ hL).elim
end Go.Proofs.YtnoelbomcogndaaDoor
