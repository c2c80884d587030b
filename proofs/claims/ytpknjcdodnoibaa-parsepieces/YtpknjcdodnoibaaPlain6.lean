/- More plain mathematics: the runes of a text that is filled with blanks or noughts. -/
import Derived.Test.YtpknjcdodnoibaaPlain4
namespace Go.Proofs.Ytpknjcdodnoibaa
open Go.RowKit

theorem app_list (a b : ByteArray) : (a ++ b).data.toList = a.data.toList ++ b.data.toList := by
  rw [ByteArray.data_append, Array.toList_append]
theorem app_size (a b : ByteArray) : (a ++ b).size = a.size + b.size := by
  rw [Lib.size_eq, app_list, List.length_append, ← Lib.size_eq, ← Lib.size_eq]
theorem run_list (c k : Nat) : (run c k).data.toList = List.replicate k (UInt8.ofNat c) := by
  show (Array.replicate k (UInt8.ofNat c)).toList = _
  rw [Array.toList_replicate]
theorem get_app_left (a b : ByteArray) (i : Nat) (h : i < a.size) : bt (a ++ b) i = bt a i := by
  unfold bt
  rw [← Lib.getD_get!', ← Lib.getD_get!', app_list]
  rw [Lib.size_eq] at h
  simp [List.getD, List.getElem?_append_left h]
theorem get_app_run (a : ByteArray) (c k i : Nat) (hc : c < 128) (h : a.size ≤ i) : bt (a ++ run c k) i < 128 := by
  unfold bt
  rw [← Lib.getD_get!', app_list, run_list]
  rw [Lib.size_eq] at h
  simp only [List.getD, List.getElem?_append_right h]
  by_cases hk : i - a.data.toList.length < k
  · rw [List.getElem?_replicate, if_pos hk]
    simp
    omega
  · rw [List.getElem?_replicate, if_neg hk]
    simp

set_option maxHeartbeats 1000000 in
theorem decodeN_same (n n' b0 b1 b2 b3 c1 c2 c3 : Nat) (h1 : (1 < n ∧ b1 = c1 ∧ 1 < n') ∨ (¬ (1 < n ∧ b1 / 64 = 2) ∧ ¬ (1 < n' ∧ c1 / 64 = 2)))
    (h2 : (2 < n ∧ b2 = c2 ∧ 2 < n') ∨ (¬ (2 < n ∧ b2 / 64 = 2) ∧ ¬ (2 < n' ∧ c2 / 64 = 2)))
    (h3 : (3 < n ∧ b3 = c3 ∧ 3 < n') ∨ (¬ (3 < n ∧ b3 / 64 = 2) ∧ ¬ (3 < n' ∧ c3 / 64 = 2))) : Lib.decodeN n b0 b1 b2 b3 = Lib.decodeN n' b0 c1 c2 c3 := by
  rcases h1 with ⟨a1, rfl, d1⟩ | ⟨a1, d1⟩
  · rcases h2 with ⟨a2, rfl, d2⟩ | ⟨a2, d2⟩
    · rcases h3 with ⟨a3, rfl, d3⟩ | ⟨a3, d3⟩
      · unfold Lib.decodeN; simp only [a1, a2, a3, d1, d2, d3]
      · unfold Lib.decodeN; simp only [a1, a2, a3, d1, d2, d3]; simp
    · unfold Lib.decodeN; simp only [a1, a2, d1, d2]; simp
  · unfold Lib.decodeN; simp only [a1, d1]; simp

theorem dec_app_run (a : ByteArray) (c k p : Nat) (hc : c < 128) (hp : p < a.size) : Utf8.decode (a ++ run c k) p = Utf8.decode a p := by
  rw [Lib.decode_at, Lib.decode_at]
  have hz : (a ++ run c k).size = a.size + k := by rw [app_size, run_size]
  have e0 : ((a ++ run c k).get! p).toNat = (a.get! p).toNat := get_app_left a _ p hp
  rw [e0]
  apply decodeN_same
  · by_cases h : p + 1 < a.size
    · exact .inl ⟨by omega, get_app_left a _ (p + 1) h, by omega⟩
    · have := get_app_run a c k (p + 1) hc (by omega)
      unfold bt at this
      exact .inr ⟨by omega, by omega⟩
  · by_cases h : p + 2 < a.size
    · exact .inl ⟨by omega, get_app_left a _ (p + 2) h, by omega⟩
    · have := get_app_run a c k (p + 2) hc (by omega)
      unfold bt at this
      exact .inr ⟨by omega, by omega⟩
  · by_cases h : p + 3 < a.size
    · exact .inl ⟨by omega, get_app_left a _ (p + 3) h, by omega⟩
    · have := get_app_run a c k (p + 3) hc (by omega)
      unfold bt at this
      exact .inr ⟨by omega, by omega⟩
theorem dec_ascii (s : ByteArray) (p : Nat) (h : bt s p < 128) : Utf8.decode s p = (bt s p, 1) := by
  rw [Lib.decode_at]
  unfold Lib.decodeN
  unfold bt at h ⊢
  rw [if_pos h]

theorem cnt_tail_run (a : ByteArray) (c k : Nat) (hc : c < 128) : ∀ (d p : Nat), a.size ≤ p → p + d = a.size + k → cntFrom (a ++ run c k) p = d
  | 0, p, _, h => cntFrom_end _ p (by rw [app_size, run_size]; omega)
  | d + 1, p, h1, h2 => by
    have hb := get_app_run a c k p hc h1
    rw [cntFrom_step _ p (by rw [app_size, run_size]; omega), dec_ascii _ p hb, cnt_tail_run a c k hc d (p + 1) (by omega) (by omega)]
    omega
theorem cnt_app_from (a : ByteArray) (c k : Nat) (hc : c < 128) : ∀ (d p : Nat), p ≤ a.size → a.size - p ≤ d → cntFrom (a ++ run c k) p = cntFrom a p + k
  | d, p, h1, h2 => by
    by_cases hp : p < a.size
    · rw [cntFrom_step _ p (by rw [app_size]; omega), cntFrom_step a p hp, dec_app_run a c k p hc hp]
      have hw := wid_pos a p
      have hl := wid_le a p hp
      match d, h2 with
      | 0, h2 => omega
      | d + 1, h2 =>
        rw [cnt_app_from a c k hc d _ hl (by omega)]
        omega
    · rw [cnt_tail_run a c k hc k p (by omega) (by omega), cntFrom_end a p hp]
      omega
theorem cnt_app_run (a : ByteArray) (c k : Nat) (hc : c < 128) : cntR (a ++ run c k) = cntR a + k := cnt_app_from a c k hc a.size 0 (Nat.zero_le _) (by omega)

theorem run_app_tail (c k : Nat) (a : ByteArray) : (run c k ++ a).extract k (run c k ++ a).size = a := by
  apply ByteArray.ext
  apply Array.ext'
  rw [tail_list, app_list, run_list]
  simp
theorem bt_run (c k i : Nat) (a : ByteArray) (hc : c < 256) (hi : i < k) : bt (run c k ++ a) i = c := by
  unfold bt
  rw [← Lib.getD_get!', app_list, run_list]
  simp only [List.getD]
  rw [List.getElem?_append_left (by simpa using hi), List.getElem?_replicate, if_pos hi]
  simp
  omega
theorem cnt_run_from (c k : Nat) (a : ByteArray) (hc : c < 128) : ∀ (d p : Nat), p + d = k → cntFrom (run c k ++ a) p = d + cntR a
  | 0, p, h => by
    have : p = k := by omega
    subst this
    rw [← cntR_tail, run_app_tail]; omega
  | d + 1, p, h => by
    have e := bt_run c k p a (by omega) (by omega)
    rw [cntFrom_step _ p (by rw [app_size, run_size]; omega), dec_ascii _ p (by rw [e]; exact hc), cnt_run_from c k a hc d (p + 1) (by omega)]
    omega
theorem cnt_run_app (c k : Nat) (a : ByteArray) (hc : c < 128) : cntR (run c k ++ a) = k + cntR a := cnt_run_from c k a hc k 0 (Nat.zero_add _)
theorem app_head (a b : ByteArray) : (a ++ b).extract 0 a.size = a := by
  apply ByteArray.ext
  apply Array.ext'
  rw [ext_list, app_list, Lib.size_eq a, List.take_left]
theorem app_rest (a b : ByteArray) : (a ++ b).extract a.size (a ++ b).size = b := by
  apply ByteArray.ext
  apply Array.ext'
  rw [tail_list, app_list, Lib.size_eq a, List.drop_left]

theorem run_get (c k i : Nat) (hc : c < 256) (h : i < (run c k).size) : ((run c k)[i]'h).toNat = c := by
  rw [bt_at]
  unfold bt
  rw [run_size] at h
  rw [← Lib.getD_get!', run_list]
  simp only [List.getD]
  rw [List.getElem?_replicate, if_pos h]
  simp
  omega
/-- How much is lacking. -/
def lack (s : ByteArray) (wid : Int) : Nat := wdt ((wdt wid : Nat) - (cntR s : Nat) : Int)
theorem lack_max (s : ByteArray) (wid : Int) : max (cntR s : Int) (min wid 1000) = ((cntR s + lack s wid : Nat) : Int) := by
  unfold lack wdt; omega
theorem lack_le (s : ByteArray) (wid : Int) : lack s wid ≤ 1000 := wdt_le _
end Go.Proofs.Ytpknjcdodnoibaa
