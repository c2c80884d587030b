/- The walks of a buffer's methods. -/
import Derived.Test.YtnbbjfajcolpkabBufLaws
import Derived.Test.YtnbbjfajcolpkabRunes
import Derived.Test.YtnbbjfajcolpkabPlain7
import Derived.Deep.DeepCutAuto
import Derived.Deep.CutBlock
import Derived.Deep.RegionWith
import Derived.Deep.QuietTactic
import Derived.BigQuiet
namespace Go.Proofs.Ytnbbjfajcolpkab
open Go.RowKit

theorem arrLen : Try.prog.arrayLen 23 = 4096 := by kernel_rfl
theorem arrElem : Try.prog.elem 23 = 5 := by kernel_rfl
theorem arrUnder : Try.prog.underlying 23 = some (.array (Try.prog.arrayLen 23) (Try.prog.elem 23)) := by kernel_rfl
theorem at_l (W : World) (g n : Nat) (hn : n < 4096) :
    (Instr.sliceAt 23 (.pointer (some ⟨g, 0, none⟩)) (some (.int .i64 n)) none none).run Try.prog W = .ok (.slice (some ⟨g, n, none⟩) (4096 - n) (4096 - n)) W := by
  rw [run_sliceAt_array_l W 23 ⟨g, 0, none⟩ arrUnder .i64 n (by omega) (by rw [arrLen]; omega), arrElem, Try.sizeOf5, arrLen]
  have hne : ¬ 4096 = n := by omega
  simp [slicedAt, hne, Addr.add]
  omega
theorem at_h (W : World) (g n : Nat) (hn : n ≤ 4096) :
    (Instr.sliceAt 23 (.pointer (some ⟨g, 0, none⟩)) none (some (.int .i64 n)) none).run Try.prog W = .ok (.slice (some ⟨g, 0, none⟩) n 4096) W := by
  rw [run_sliceAt_array_h W 23 ⟨g, 0, none⟩ arrUnder .i64 n (by omega) (by rw [arrLen]; omega), arrElem, Try.sizeOf5, arrLen]
  simp [slicedAt, Addr.add]
theorem at_all (W : World) (g : Nat) :
    (Instr.sliceAt 23 (.pointer (some ⟨g, 0, none⟩)) none none none).run Try.prog W = .ok (.slice (some ⟨g, 0, none⟩) 4096 4096) W := by
  rw [run_sliceAt_array_all W 23 ⟨g, 0, none⟩ arrUnder, arrElem, Try.sizeOf5, arrLen]
  simp [slicedAt, Addr.add]

set_option maxHeartbeats 400000 in
theorem len_any (g : Nat) (l : List UInt8) (W : World) (h : IsBuf W g l) :
    Calls Try.prog 13 #[.pointer (some ⟨g, 0, none⟩)] W fun e W' => e = .returned (.int .i64 l.length) ∧ W' = W := by
  have hc := h.mid.cell
  go_enter Try.func13, Try.ntmps13
  go_wp2
  go_ret
  exact ⟨rfl, rfl⟩

set_option maxHeartbeats 400000 in
theorem over_any (g : Nat) (l : List UInt8) (W : World) (h : IsBuf W g l) :
    Calls Try.prog 14 #[.pointer (some ⟨g, 0, none⟩)] W fun e W' => e = .returned (.bool (decide ((4096 : Int) < l.length))) ∧ W' = W := by
  have hc := h.mid.cell
  go_enter Try.func14, Try.ntmps14
  go_wp2
  go_ret
  exact ⟨rfl, rfl⟩

set_option maxRecDepth 1000000 in
set_option maxHeartbeats 400000 in
theorem put_any (g : Nat) (l : List UInt8) (s : ByteArray) (W : World) (h : IsBuf W g l) (hl : l.length + s.size ≤ 1000000000) :
    Calls Try.prog 11 #[.pointer (some ⟨g, 0, none⟩), .string s] W fun e W' => e = .returned (.tuple #[]) ∧ IsBuf W' g (l ++ s.data.toList) ∧ Kept g W W' := by
  have hc := h.mid.cell
  have hf := h.mid.frozen 4096
  go_enter Try.func11, Try.ntmps11
  go_upto_if 8 with fail
  go_cut [] (fun wx => MidBuf wx g l.length (l ++ s.data.toList) ∧ Kept g W wx)
  case first =>
    by_cases hn : l.length < 4096
    · obtain ⟨cur, hg, hfit, hmk⟩ := h.copied (s := s.data.toList) hn (Nat.min s.size (4096 - l.length)) rfl
      have hsl := fun w => at_l w g l.length hn
      have hcp : ∀ ty, (Builtin.copy_ #[47, 9] ty #[.slice (some ⟨g, l.length, none⟩) (4096 - l.length) (4096 - l.length), .string s]).run Try.prog W.drew = _ := fun ty => run_copy_str W.drew 47 9 ty 5 g l.length (4096 - l.length) (4096 - l.length) s cur 25 _ Try.underlying47 (by kernel_rfl) hg rfl hfit
      go_wp2
      go_region
      all_goals (go_wp2_with fail; go_meet)
      all_goals
        refine ⟨hmk _ ?_, ((Kept.refl _ _).drew).setRow _⟩
        rw [setRow_heap W.drew g cur _ 25 (0, 0) hg, List.append_assoc, List.map_take]
    · go_wp2
      go_meet
      exact ⟨h.full hn, Kept.refl _ _⟩
  case rest =>
    obtain ⟨hm, hk⟩ := hcut
    have hc2 := hm.cell
    have hf2 := hm.frozen 4096
    go_wp2
    go_end0
    refine ⟨rfl, ?_, hk.setCell _ _⟩
    have hd := hm.done
    have e : ((l ++ s.data.toList).length : Int) = (l.length : Int) + (s.size : Int) := by rw [List.length_append, ← Lib.size_eq]; omega
    rw [e] at hd
    exact hd

set_option maxRecDepth 1000000 in
set_option maxHeartbeats 400000 in
theorem putRune_any (g : Nat) (l : List UInt8) (c : Int) (W : World) (h : IsBuf W g l) (hl : l.length ≤ 900000000) :
    Calls Try.prog 9 #[.pointer (some ⟨g, 0, none⟩), .int .i32 c] W fun e W' => e = .returned (.tuple #[]) ∧ IsBuf W' g (l ++ (Utf8.encode c).data.toList) ∧ Kept g W W' := by
  have h4 := enc_size_le c
  go_enter Try.func9, Try.ntmps9
  go_wp2_with (first | (go_at_call 19; refine (rune_any _ _).mono ?_; rintro e w1 ⟨rfl, rfl⟩) | (go_at_call 11; refine (put_any g l _ _ h (by omega)).mono ?_; rintro e w2 ⟨rfl, hb2, hk2⟩))
  go_end0
  exact ⟨rfl, hb2, hk2⟩

theorem zero_size : zeroBuf.toArray.size = 4097 := by
  rw [List.size_toArray]
  unfold zeroBuf
  rw [bufCells_len, List.length_replicate]
theorem info_size : (Try.prog.info? 25).map (·.size) = some 4097 := by kernel_rfl
theorem info_buf : (Try.prog.info? 25).map (·.size) = some zeroBuf.toArray.size := by rw [zero_size]; exact info_size
theorem one_buf : zeroBuf.toArray.all (·.oneCell') = true := by
  rw [List.all_toArray']
  unfold zeroBuf bufCells
  rw [List.all_append, List.all_map, List.all_eq_true.2]
  · rfl
  · intro x _; rfl
  · rfl

set_option maxRecDepth 1000000 in
set_option maxHeartbeats 400000 in
theorem reset_any (g : Nat) (l : List UInt8) (W : World) (h : IsBuf W g l) :
    Calls Try.prog 8 #[.pointer (some ⟨g, 0, none⟩)] W fun e W' => e = .returned (.tuple #[]) ∧ IsBuf W' g [] ∧ Kept g W W' := by
  obtain ⟨kb, h1, h2, h3⟩ := h
  have hsz : (bufCells kb l.length).toArray.size = zeroBuf.toArray.size := by
    rw [zero_size, List.size_toArray, bufCells_len, h1]
  go_enter Try.func8, Try.ntmps8
  go_wp2_with (first | (refine wpList_build_buf rfl rfl ?_) | (refine wpList_store_row rfl 25 _ _ rfl g zeroBuf.toArray rfl rfl 25 _ h3 info_buf hsz one_buf ?_))
  go_end0
  refine ⟨rfl, ⟨List.replicate 4096 0, List.length_replicate .., by simp, ?_⟩, (Kept.refl _ _).setRow _⟩
  rw [setRow_heap W g _ _ 25 (0, 0) h3]
  rfl

/-- What a buffer tells. -/
def txt (l : List UInt8) : ByteArray := if 4096 < l.length then ⟨(l.take 4096).toArray⟩ ++ ⟨#[37, 33, 40, 84, 79, 79, 76, 79, 78, 71, 41]⟩ else ⟨l.toArray⟩

theorem IsBuf.conv {W : World} {g : Nat} {l : List UInt8} (h : IsBuf W g l) (n : Nat) (hn : n ≤ 4096) (hnl : n ≤ l.length) :
    (convert 47 9 (.slice (some ⟨g, 0, none⟩) n 4096)).run Try.prog W = .ok (.string ⟨(l.take n).toArray⟩) W := by
  obtain ⟨kb, h1, h2, h3⟩ := h
  have e : kb.take n = l.take n := by
    have := congrArg (List.take n) h2
    rw [List.take_take, List.take_take, Nat.min_eq_left hnl, Nat.min_eq_left hn] at this
    exact this
  have := run_convert_bytes_arg (P := Try.prog) W 47 5 Try.underlying47 Try.underlying5 g 0 n 4096 ((kb.take n).map fun b => (b.toNat : Int)) (by rw [List.length_map, List.length_take]; omega) (fun i hi => by
    rw [Nat.zero_add, cell_of_row W g i _ _ _ h3]
    have hb := bufCells_byte kb l.length i (by omega)
    rw [List.getElem?_toArray, hb]
    simp [List.getD, hi, show i < kb.length by omega]) 9 Try.underlying9
  rw [this, e]
  congr 2
  unfold strOfNums
  congr 2
  rw [List.map_map]
  apply List.ext_getElem
  · simp
  · intro i h1 h2; simp

set_option maxRecDepth 1000000 in
set_option maxHeartbeats 400000 in
theorem text_any (g : Nat) (l : List UInt8) (W : World) (h : IsBuf W g l) (hl : l.length ≤ 1000000000) :
    Calls Try.prog 15 #[.pointer (some ⟨g, 0, none⟩)] W fun e W' => e = .returned (.string (txt l)) ∧ Below W.heap.size W W' := by
  have hc := h.mid.cell
  by_cases ho : 4096 < l.length
  · have ho' : (4096 : Int) < l.length := by omega
    have hsl := fun w => at_all w g
    have hcv := h.conv 4096 (by omega) (by omega)
    have hsum : ¬ 9223372036854775807 < (⟨(l.take 4096).toArray⟩ : ByteArray).size + 11 := by
      rw [Lib.size_eq]; simp; omega
    have ht : txt l = ⟨(l.take 4096).toArray⟩ ++ ⟨#[37, 33, 40, 84, 79, 79, 76, 79, 78, 71, 41]⟩ := by unfold txt; rw [if_pos ho]
    have HT : Hid (txt l = ⟨(l.take 4096).toArray⟩ ++ ⟨#[37, 33, 40, 84, 79, 79, 76, 79, 78, 71, 41]⟩) := ht
    clear ht
    go_enter Try.func15, Try.ntmps15
    go_wp2_with (go_at_call 14; refine (over_any g l _ h).mono ?_; rintro e w1 ⟨rfl, rfl⟩)
    go_ret
    exact ⟨ret_str HT.out.symm, Below.refl _ _⟩
  · have ho' : ¬ (4096 : Int) < l.length := by omega
    have hle : l.length ≤ 4096 := by omega
    have hsl := fun w => at_h w g l.length hle
    have hb : IsBuf W.drew g l := h
    have hcv := hb.conv l.length hle (Nat.le_refl _)
    rw [List.take_length] at hcv
    have HT : Hid (txt l = ⟨l.toArray⟩) := by show txt l = _; unfold txt; rw [if_neg ho]
    go_enter Try.func15, Try.ntmps15
    go_wp2_with (go_at_call 14; refine (over_any g l _ h).mono ?_; rintro e w1 ⟨rfl, rfl⟩)
    go_region
    all_goals go_wp2
    all_goals go_ret
    all_goals exact ⟨ret_str HT.out.symm, (Below.refl _ _).drew⟩
end Go.Proofs.Ytnbbjfajcolpkab
