/- Plain mathematics of layer 3: a number's digits to a base. -/
import Derived.Test.YtbfaapbbhgegiaaDoorQPlain
import Derived.Test.YtbfaapbbhgegiaaDoorPlain2
import Derived.Lib.Case
namespace Go.Proofs.YtbfaapbbhgegiaaDoor
open Go.RowKit

/-- The digits of a number above 0 to a base (of 0: none); so many at most. -/
def digF (g : Bool) (b : Nat) : Nat → Nat → List UInt8
  | 0, _ => []
  | f + 1, m => if m = 0 then [] else digF g b f (m / b) ++ [hexB g (m % b)]
def digP (g : Bool) (b m : Nat) : List UInt8 := digF g b 64 m
/-- The digits of a number, 0 among them. -/
def digS (g : Bool) (b n : Nat) : List UInt8 := digP g b (n / b) ++ [hexB g (n % b)]

theorem digF_fuel (g : Bool) (b : Nat) (hb : 2 ≤ b) : ∀ (f h m : Nat), m < 2 ^ f → m < 2 ^ h → digF g b f m = digF g b h m
  | 0, 0, _, _, _ => rfl
  | 0, h + 1, m, hf, _ => by
    have : m = 0 := by simp at hf; omega
    simp [digF, this]
  | f + 1, 0, m, _, hh => by
    have : m = 0 := by simp at hh; omega
    simp [digF, this]
  | f + 1, h + 1, m, hf, hh => by
    by_cases hm : m = 0
    · simp [digF, hm]
    · simp only [digF, if_neg hm]
      have hd : m / b ≤ m / 2 := Nat.div_le_div_left hb (by omega)
      rw [digF_fuel g b hb f h (m / b) (by rw [Nat.pow_succ] at hf; omega) (by rw [Nat.pow_succ] at hh; omega)]
theorem digP_zero (g : Bool) (b : Nat) : digP g b 0 = [] := by simp [digP, digF]
theorem digF_succ (g : Bool) (b f m : Nat) : digF g b (f + 1) m = if m = 0 then [] else digF g b f (m / b) ++ [hexB g (m % b)] := rfl
theorem digP_step (g : Bool) (b m : Nat) (hb : 2 ≤ b) (h0 : m ≠ 0) (hm : m < 2 ^ 64) : digP g b m = digP g b (m / b) ++ [hexB g (m % b)] := by
  have hd : m / b ≤ m / 2 := Nat.div_le_div_left hb (by omega)
  have e : digF g b 63 (m / b) = digF g b 64 (m / b) := digF_fuel g b hb 63 64 _ (by have : (2 : Nat) ^ 64 = 2 * 2 ^ 63 := by decide
                                                                                     omega) (by omega)
  have e0 := digF_succ g b 63 m
  rw [if_neg h0, e] at e0
  exact e0
theorem digS_pos (g : Bool) (b n : Nat) (hb : 2 ≤ b) (h0 : n ≠ 0) (hn : n < 2 ^ 64) : digS g b n = digP g b n := (digP_step g b n hb h0 hn).symm
theorem digF_len (g : Bool) (b : Nat) : ∀ (f m : Nat), (digF g b f m).length ≤ f
  | 0, _ => by simp [digF]
  | f + 1, m => by
    have := digF_len g b f (m / b)
    simp only [digF]
    split
    · simp
    · simp; omega
theorem digP_len (g : Bool) (b m : Nat) : (digP g b m).length ≤ 64 := digF_len g b 64 m
theorem digS_len (g : Bool) (b n : Nat) : (digS g b n).length ≤ 65 := by
  have := digP_len g b (n / b)
  simp [digS]; omega
theorem digS_ne (g : Bool) (b n : Nat) : digS g b n ≠ [] := by simp [digS]
theorem digS_len1 (g : Bool) (b n : Nat) : 1 ≤ (digS g b n).length := by simp [digS]
/-- All of them are digits. -/
theorem digF_mem (g : Bool) (b : Nat) (hb : 0 < b) : ∀ (f m : Nat) (x : UInt8), x ∈ digF g b f m → ∃ d, d < b ∧ x = hexB g d
  | 0, _, x, h => by simp [digF] at h
  | f + 1, m, x, h => by
    simp only [digF] at h
    split at h
    · simp at h
    · rcases List.mem_append.1 h with h | h
      · exact digF_mem g b hb f _ x h
      · exact ⟨m % b, Nat.mod_lt _ hb, by simpa using h⟩
theorem digS_mem (g : Bool) (b n : Nat) (hb : 0 < b) (x : UInt8) (h : x ∈ digS g b n) : ∃ d, d < b ∧ x = hexB g d := by
  rcases List.mem_append.1 h with h | h
  · exact digF_mem g b hb 64 _ x h
  · exact ⟨n % b, Nat.mod_lt _ hb, by simpa using h⟩
/-- Great letters. -/
theorem upper_hex (d : Nat) (h : d < 16) : Lib.upperB (hexB false d) = hexB true d := by
  have : ∀ i : Fin 16, Lib.upperB (hexB false i.val) = hexB true i.val := by decide
  exact this ⟨d, h⟩
theorem upperA_digF (b : Nat) (hb : 0 < b) (h16 : b ≤ 16) : ∀ (f m : Nat), Lib.toUpperA (digF false b f m) = digF true b f m
  | 0, _ => rfl
  | f + 1, m => by
    have ih := upperA_digF b hb h16 f (m / b)
    have hlt := Nat.mod_lt m hb
    simp only [digF]
    split
    · rfl
    · simp only [Lib.toUpperA, List.map_append, List.map_cons, List.map_nil] at ih ⊢
      rw [ih, upper_hex _ (by omega)]
theorem upperA_digS (b n : Nat) (hb : 0 < b) (h16 : b ≤ 16) : Lib.toUpperA (digS false b n) = digS true b n := by
  have hlt := Nat.mod_lt n hb
  have ih := upperA_digF b hb h16 64 (n / b)
  unfold digS digP
  simp only [Lib.toUpperA, List.map_append, List.map_cons, List.map_nil] at ih ⊢
  rw [ih, upper_hex _ (by omega)]
theorem hexB_ascii (g : Bool) (d : Nat) (h : d < 16) : (hexB g d).toNat < 128 := by
  have : ∀ i : Fin 16, (hexB false i.val).toNat < 128 ∧ (hexB true i.val).toNat < 128 := by decide
  have := this ⟨d, h⟩
  cases g
  · exact this.1
  · exact this.2
theorem digS_ascii (g : Bool) (b n : Nat) (hb : 0 < b) (h16 : b ≤ 16) (x : UInt8) (h : x ∈ digS g b n) : x.toNat < 128 := by
  obtain ⟨d, hd, rfl⟩ := digS_mem g b n hb x h
  exact hexB_ascii g d (by omega)
/-- The number of a row of digits. -/
def valL (b : Nat) (f : UInt8 → Nat) (l : List UInt8) : Nat := l.foldl (fun n x => n * b + f x) 0
theorem valL_snoc (b : Nat) (f : UInt8 → Nat) (l : List UInt8) (x : UInt8) : valL b f (l ++ [x]) = valL b f l * b + f x := by simp [valL]
theorem valL_digF (g : Bool) (b : Nat) (f : UInt8 → Nat) (hb : 2 ≤ b) (hf : ∀ d, d < b → f (hexB g d) = d) : ∀ (k m : Nat), m < 2 ^ k → valL b f (digF g b k m) = m
  | 0, m, h => by
    have : m = 0 := by simp at h; omega
    subst this; rfl
  | k + 1, m, h => by
    simp only [digF]
    split
    · rename_i h0; subst h0; rfl
    · have hd : m / b ≤ m / 2 := Nat.div_le_div_left hb (by omega)
      rw [valL_snoc, valL_digF g b f hb hf k (m / b) (by rw [Nat.pow_succ] at h; omega), hf _ (Nat.mod_lt _ (by omega))]
      rw [Nat.mul_comm]; exact Nat.div_add_mod m b
theorem valL_digS (g : Bool) (b n : Nat) (f : UInt8 → Nat) (hb : 2 ≤ b) (hf : ∀ d, d < b → f (hexB g d) = d) (hn : n < 2 ^ 64) : valL b f (digS g b n) = n := by
  have hd : n / b ≤ n / 2 := Nat.div_le_div_left hb (by omega)
  unfold digS
  rw [valL_snoc]
  show valL b f (digF g b 64 (n / b)) * b + _ = n
  rw [valL_digF g b f hb hf 64 (n / b) (by omega), hf _ (Nat.mod_lt _ (by omega)), Nat.mul_comm]
  exact Nat.div_add_mod n b
end Go.Proofs.YtbfaapbbhgegiaaDoor
