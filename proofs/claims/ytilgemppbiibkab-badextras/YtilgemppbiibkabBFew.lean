/- The laws of layer 10: few; the document's Extra. -/
import Derived.Test.YtilgemppbiibkabBLive
namespace Go.Proofs.Ytilgemppbiibkab
open Go.RowKit
set_option linter.unusedVariables false
set_option linter.unusedSimpArgs false

/-- A list of texts that was handed in. -/
def SL (w : World) (a : Option Addr) (l : List ByteArray) : Prop := l = [] ∨ ∃ b off, a = some ⟨b, off, none⟩ ∧ b < w.heap.size ∧ ∀ (j : Nat) (x : ByteArray), l[j]? = some x → w.cell? ⟨b, off + j, none⟩ = some (.string x)
theorem SL.up {w w' : World} {a : Option Addr} {l : List ByteArray} (h : SL w a l) (hb : Below w.heap.size w w') : SL w' a l := by
  rcases h with h | ⟨b, off, h1, h2, h3⟩
  · exact .inl h
  · exact .inr ⟨b, off, h1, Nat.lt_of_lt_of_le h2 hb.size, fun j x hj => (hb.cell (p := ⟨b, off + j, none⟩) h2).trans (h3 j x hj)⟩
def cutB (s : ByteArray) : ByteArray := if 1000 < s.size then s.extract 0 1000 else s
theorem cutB_size (s : ByteArray) : (cutB s).size ≤ 1000 := by
  unfold cutB
  split
  · rw [ByteArray.size_extract]; omega
  · omega
theorem cut10_is (s : ByteArray) (w : World) : Calls Try.prog 11 #[.string s] w fun e w' => e = .returned (.string (cutB s)) ∧ w' = w := by
  unfold cutB
  by_cases h : 1000 < s.size
  · rw [if_pos h]; exact cut10_many (by omega) w
  · rw [if_neg h]; exact cut10_few (by omega) w
def fewB (l : List ByteArray) : List ByteArray := (l.take 40).map cutB
theorem fewB_ok (l : List ByteArray) : (fewB l).length ≤ 40 ∧ ∀ x ∈ fewB l, x.size ≤ 1000 := by
  refine ⟨by unfold fewB; rw [List.length_map, List.length_take]; omega, fun x hx => ?_⟩
  obtain ⟨y, -, rfl⟩ := List.mem_map.1 hx
  exact cutB_size y
set_option maxRecDepth 1000000 in
set_option maxHeartbeats 4000000 in
theorem few_any (l : List ByteArray) (a : Option Addr) (c : Nat) (w : World) (hl : l.length ≤ 9223372036854775807) (hS : SL w a l) :
    Calls Try.prog 24 #[.slice a l.length c] w fun e w' => ∃ v, e = .returned v ∧ w'.ownsRow w.heap.size 9 1 v (fewB l).length ((fewB l).map Value.string) ∧ Below w.heap.size w w' := by
  obtain ⟨i0, hi⟩ : ∃ i0, Try.prog.info? 9 = some i0 := ⟨_, rfl⟩
  have hz0 : i0.zero = some (.string ⟨#[]⟩) := by
    have : (Try.prog.info? 9).bind (·.zero) = some (.string ⟨#[]⟩) := by kernel_rfl
    rw [hi] at this; exact this
  have hz1 : i0.size = 1 := by
    have : (Try.prog.info? 9).map (·.size) = some 1 := by kernel_rfl
    rw [hi] at this; exact Option.some.inj this
  have hz2 : i0.bytes = 16 := by
    have : (Try.prog.info? 9).map (·.bytes) = some 16 := by kernel_rfl
    rw [hi] at this; exact Option.some.inj this
  have hlI : (l.length : Int) ≤ 9223372036854775807 := by omega
  go_enter Try.func24, Try.ntmps24
  go_wp2
  go_loopg [3, 4] 40 (fun g sv iv wr => ∃ (i : Nat) (ins : List ByteArray), iv = .int .i64 (i : Nat) ∧ i + g = 40 ∧ i ≤ l.length ∧ Hid (ins = (l.take i).map cutB) ∧ ins.length = i ∧ wr.ownsRow w.heap.size 9 1 sv ins.length (ins.map Value.string) ∧ Below w.heap.size w wr)
  case atStart => exact ⟨0, [], rfl, rfl, Nat.zero_le _, rfl, rfl, World.ownsRow_nil _ _ _ _, Below.refl _ _⟩
  case round =>
    obtain ⟨i, ins, rfl, hik, hil, HI, hin, hown, hb⟩ := hrel
    obtain ⟨ao, ca, rfl, hca, hcm⟩ := own_sliceB hown
    have fin : ¬ (i < l.length ∧ i < 40) → fewB l = ins := fun hn => by
      rw [HI.out]
      unfold fewB
      congr 1
      by_cases h40 : i < 40
      · rw [List.take_of_length_le (by omega), List.take_of_length_le (by omega)]
      · rw [show i = 40 by omega]
    by_cases hlt : i < l.length
    · have hltI : (i : Int) < l.length := by omega
      by_cases h40 : i < 40
      · have h40I : (i : Int) < 40 := by omega
        obtain ⟨x, hx⟩ : ∃ x, l[i]? = some x := ⟨_, List.getElem?_eq_getElem hlt⟩
        rcases hS with hS | ⟨b, off, rfl, hbk, hcl⟩
        · rw [hS] at hlt; simp at hlt
        · have cx := (hb.cell (p := ⟨b, off + i, none⟩) hbk).trans (hcl i x hx)
          have hC := fun w => cut10_is x w
          have HI' : Hid (ins ++ [cutB x] = (l.take (i + 1)).map cutB) := by
            show _ = _
            rw [List.take_add_one, hx, List.map_append, HI.out]
            rfl
          generalize cutB x = CX at *
          have Hn : Hid (ins.length = i) := hin
          clear fin hcl hx hin
          have hinl : ins.length ≤ 40 := by have := Hn.out; omega
          go_wp2_with (first
            | (go_at_call 11; refine (hC _).mono ?_; rintro e w1 ⟨rfl, hw1⟩; subst w1)
            | (at_builtin; refine wpList_append_own_at _ rfl _ _ 39 rfl w.heap.size 9 i0 _ 1 16 Try.underlying39 hi hz0 hz1 hz2 rfl (by decide) _ _ _ rfl (hown.alloc _) ⟨wr.heap.size, 0, none⟩ 1 1 [.string CX] rfl rfl ?c1 ?c2 ?c3 ?c4 ?c5 ?_))
          case c1 =>
            intro j u hj
            match j, hj with
            | 0, hj => simp at hj; subst hj; simp [Addr.add]
          case c2 => intro u hu; simp at hu; subst hu; rfl
          case c3 => unfold maxLen; omega
          case c4 => omega
          case c5 => have := hb.size; simp; omega
          intro v3 w3 o3 g3 _ _
          have b3 : Below w.heap.size w w3 := (hb.alloc hb.size _).grown g3 (by have := hb.size; simp; omega) (fun kk hkk => (hown.lt kk hkk).1)
          obtain ⟨ao2, ca2, rfl, -, -⟩ := own_sliceB o3
          have o4 : w3.ownsRow w.heap.size 9 1 (.slice ao2 (ins.length + 1) ca2) (ins ++ [CX]).length ((ins ++ [CX]).map Value.string) := by
            rw [List.map_append, List.length_append]
            exact o3
          clear o3 g3
          go_wp2
          go_roundg (gk - 1)
          case measure => omega
          case rel => exact ⟨i + 1, ins ++ [CX], by go_num, by omega, by omega, HI', by rw [List.length_append, Hn.out]; rfl, o4, b3⟩
      · have h40I : ¬ (i : Int) < 40 := by omega
        have HF : Hid (fewB l = ins) := fin (fun h => h40 h.2)
        clear fin hin
        go_wp2
        go_ret
        rw [HF.out]
        exact ⟨_, rfl, hown, hb⟩
    · have hltI : ¬ (i : Int) < l.length := by omega
      have HF : Hid (fewB l = ins) := fin (fun h => hlt h.1)
      clear fin hin
      go_wp2
      go_ret
      rw [HF.out]
      exact ⟨_, rfl, hown, hb⟩
end Go.Proofs.Ytilgemppbiibkab
