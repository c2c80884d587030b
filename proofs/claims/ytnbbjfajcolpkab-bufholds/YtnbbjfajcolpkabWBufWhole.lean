/- The walk of the law BufWhole. -/
import Derived.Test.YtnbbjfajcolpkabLives
import Derived.Test.YtnbbjfajcolpkabPut
import Derived.OpenShut
import Derived.Deep.LoopGhost
namespace Go.Proofs.Ytnbbjfajcolpkab
open Go.RowKit
set_option linter.unusedVariables false

/-- A slice of integers that came in: nil, or a row of cells. -/
def IsRow (k : IntKind) (w : World) (a : Option Addr) (len cap : Nat) (zs : List Int) : Prop :=
  (a = none ∧ len = 0 ∧ cap = 0 ∧ zs = []) ∨
  ∃ x, a = some x ∧ len ≤ cap ∧ cap ≤ maxLen ∧ zs.length = cap ∧ (∀ i, i < zs.length → w.cell? (x.add i) = some (.int k (zs.getD i 0))) ∧ ∀ n ∈ zs, (Lit.int k n).wf = true

/-- At most the first 1000 bytes. -/
def cutF (s : ByteArray) : ByteArray := if 1000 < s.size then s.extract 0 1000 else s
theorem cutF_size (s : ByteArray) : (cutF s).size ≤ 1000 := by
  unfold cutF
  split
  · rw [ByteArray.size_extract]; omega
  · omega
set_option maxHeartbeats 400000 in
theorem cutf_any (s : ByteArray) (w : World) :
    Calls Try.prog 12 #[.string s] w fun e w' => e = .returned (.string (cutF s)) ∧ w' = w := by
  by_cases h : (1000 : Int) < s.size
  · have e : cutF s = s.extract 0 1000 := by unfold cutF; rw [if_pos (by omega)]
    rw [e]
    go_enter Try.func12, Try.ntmps12
    go_wp2
    go_ret
    exact ⟨rfl, rfl⟩
  · have e : cutF s = s := by unfold cutF; rw [if_neg (by omega)]
    rw [e]
    go_enter Try.func12, Try.ntmps12
    go_wp2
    go_ret
    exact ⟨rfl, rfl⟩

theorem buf_two (w : World) : IsBuf ((w.alloc (.cells zeroBuf.toArray 25)).alloc (.cells zeroBuf.toArray 25)) w.heap.size [] ∧ IsBuf ((w.alloc (.cells zeroBuf.toArray 25)).alloc (.cells zeroBuf.toArray 25)) (w.heap.size + 1) [] := by
  have h := isBuf_new w
  have h2 := isBuf_new (w.alloc (.cells zeroBuf.toArray 25))
  rw [World.size_alloc] at h2
  exact ⟨h.below ((Below.refl _ _).alloc (Nat.le_refl _) _), h2⟩

/-- What the walk asks of the cuts: none, or cells that hold integers. -/
def Cuts (w : World) (a2 : Option Addr) (len : Nat) : Prop :=
  len = 0 ∨ ∃ b off, a2 = some ⟨b, off, none⟩ ∧ b < w.heap.size ∧ ∀ k, k < len → ∃ c : Int, w.cell? ⟨b, off + k, none⟩ = some (.int .i64 c)
theorem cuts_of {w : World} {a2 : Option Addr} {len cap : Nat} {zs : List Int} (h : IsRow .i64 w a2 len cap zs) : Cuts w a2 len ∧ len ≤ maxLen := by
  rcases h with ⟨_, h, _, _⟩ | ⟨x, rfl, h1, h2, h3, h4, _⟩
  · exact ⟨.inl h, by omega⟩
  · refine ⟨?_, Nat.le_trans h1 h2⟩
    by_cases h0 : len = 0
    · exact .inl h0
    · obtain ⟨b, off, rfl, hc⟩ := ints_at h4 (by omega)
      exact .inr ⟨b, off, rfl, block_lt_of_cell (hc 0 (by omega)), fun k hk => ⟨_, hc k (by omega)⟩⟩

set_option maxRecDepth 1000000 in
set_option maxHeartbeats 2000000 in
theorem bufWhole_in (s : ByteArray) (times : Int) (a2 : Option Addr) (len cap : Nat) (w : World) (hcuts : Cuts w a2 len) (hlen : len ≤ maxLen) :
    Calls Try.prog 4 #[.string s, .int .i64 times, .slice a2 len cap] w fun e w' => e = .returned (.bool true) ∧ Below w.heap.size w w' := by
  have hcz := cutF_size s
  unfold maxLen at hlen
  go_enter Try.func4, Try.ntmps4
  go_upto_block 0 with fail
  go_cut [7, 8] (fun v i wx => wx = w ∧ ∃ A : ByteArray, v = .string A ∧ A.size ≤ 9000)
  case first =>
    go_wp2
    go_loopg [7, 8] 40 (fun gk a i wr => wr = w ∧ ∃ (A : ByteArray) (k : Nat), a = .string A ∧ A.size ≤ 9000 ∧ i = .int .i64 k ∧ k + gk = 40)
    case atStart => exact ⟨rfl, ⟨#[]⟩, 0, rfl, by decide, rfl, rfl⟩
    case round =>
      obtain ⟨rfl, A, k, rfl, hA, rfl, hk⟩ := hrel
      by_cases hgo : ((k : Int) < max 1 (min times 40)) ∧ (A.size : Int) < 8000
      · obtain ⟨hlt, h8⟩ := hgo
        have hsum : ¬ 9223372036854775807 < A.size + (cutF s).size := by omega
        go_wp2_with (go_at_call 12; refine (cutf_any _ _).mono ?_; rintro e w1 ⟨rfl, rfl⟩)
        go_roundg (gk - 1)
        case measure => omega
        case rel => exact ⟨rfl, _, k + 1, rfl, by rw [app_size]; omega, by go_num, by omega⟩
      · have hout : ((k : Int) < max 1 (min times 40) ∧ ¬ (A.size : Int) < 8000) ∨ ¬ (k : Int) < max 1 (min times 40) := by omega
        rcases hout with ⟨hx, hy⟩ | hx
        all_goals
          go_wp2
          go_meet
          exact ⟨rfl, A, rfl, hA⟩
  case rest =>
    obtain ⟨rfl, A, rfl, hA⟩ := hcut
    obtain ⟨w0, rfl⟩ : ∃ w0 : World, w0 = wc := ⟨_, rfl⟩
    go_wp2_with (refine wpList_alloc_buf rfl rfl ?_)
    obtain ⟨hb1, hb2⟩ := buf_two w0
    refine (put_any w0.heap.size [] A _ hb1 (by simp; omega)).mono ?_
    rintro e W1 ⟨rfl, hA1, hk1⟩
    have hB1 := hb2.kept hk1 (by omega)
    rw [List.nil_append] at hA1
    have hW1 : Below w0.heap.size w0 W1 := (((Below.refl _ _).alloc (Nat.le_refl _) _).alloc (by simp) _).trans (hk1.below (Nat.le_refl _) (by simp; omega))
    clear hk1 hb1 hb2
    go_upto_block 2 with fail
    go_cut [11, 12, 13] (fun r i n wx => ∃ (R : ByteArray) (L : List UInt8), r = .string R ∧ L.length + R.size = A.size ∧ Hid (L ++ R.data.toList = A.data.toList) ∧ IsBuf wx w0.heap.size A.data.toList ∧ IsBuf wx (w0.heap.size + 1) L ∧ Below w0.heap.size w0 wx)
    case first =>
      go_wp2
      go_loopg [11, 12] 60 (fun gk r i wr => ∃ (R : ByteArray) (L : List UInt8) (k : Nat), r = .string R ∧ i = .int .i64 k ∧ k + gk = 60 ∧ L.length + R.size = A.size ∧ Hid (L ++ R.data.toList = A.data.toList) ∧ IsBuf wr w0.heap.size A.data.toList ∧ IsBuf wr (w0.heap.size + 1) L ∧ Below w0.heap.size w0 wr)
      case atStart => exact ⟨A, [], 0, rfl, rfl, rfl, by simp, List.nil_append _, hA1, hB1, hW1⟩
      case round =>
        obtain ⟨R, L, k, rfl, rfl, hkg, hsz, hLR, hAr, hBr, hbr⟩ := hrel
        clear hA1 hB1 hW1
        by_cases hgo : k < len ∧ k < 60
        · obtain ⟨hkl, hk60⟩ := hgo
          have hkl' : (k : Int) < len := by omega
          have hk60' : (k : Int) < 60 := by omega
          rcases hcuts with h0 | ⟨b, off, rfl, hbl, hcell⟩
          · omega
          · obtain ⟨c, hc⟩ := hcell k hkl
            have hcr : wr.cell? ⟨b, off + k, none⟩ = some (.int .i64 c) := by rw [hbr.cell (by exact hbl)]; exact hc
            obtain ⟨m, hm, hmR⟩ : ∃ m : Nat, max 0 (min c (R.size : Int)) = m ∧ m ≤ R.size := ⟨(max 0 (min c (R.size : Int))).toNat, by omega, by omega⟩
            clear hcell hc
            have hxs : (R.extract 0 m).size = m := head_size R m hmR
            go_wp2_with fail
            refine (put_any (w0.heap.size + 1) L (R.extract 0 m) _ hBr (by omega)).mono ?_
            rintro e W2 ⟨rfl, hB2, hk2⟩
            have hA2 := hAr.kept hk2 (by omega)
            have hb2 : Below w0.heap.size w0 W2 := hbr.trans (hk2.below (by omega) hbr.size)
            clear hAr hBr hbr hk2 hcr
            go_wp2
            go_roundg (gk - 1)
            case measure => omega
            case rel =>
              refine ⟨R.extract m R.size, _, k + 1, rfl, by go_num, by omega, ?_, ?_, hA2, hB2, hb2⟩
              · rw [List.length_append, ← Lib.size_eq, tail_size, hxs]; omega
              · show L ++ (R.extract 0 m).data.toList ++ (R.extract m R.size).data.toList = _
                rw [List.append_assoc, ext_list, tail_list, List.take_append_drop]
                exact hLR.out
        · have hout : (k < len ∧ ¬ k < 60) ∨ ¬ k < len := by omega
          rcases hout with ⟨hx, hy⟩ | hx
          all_goals
            go_wp2
            go_meet
            exact ⟨R, L, rfl, hsz, hLR, hAr, hBr, hbr⟩
    case rest =>
      obtain ⟨R, L, rfl, hsz, hLR, hAr, hBr, hbr⟩ := hcut
      clear hA1 hB1 hW1 hcuts
      go_wp2_with fail
      refine (put_any (w0.heap.size + 1) L R _ hBr (by omega)).mono ?_
      rintro e W3 ⟨rfl, hB3, hk3⟩
      rw [hLR.out] at hB3
      have hA3 := hAr.kept hk3 (by omega)
      have hb3 : Below w0.heap.size w0 W3 := hbr.trans (hk3.below (by omega) hbr.size)
      clear hAr hBr hbr hk3 hLR hsz
      have hAl : A.data.toList.length = A.size := (Lib.size_eq A).symm
      have hln : ∀ W g, IsBuf W g A.data.toList → Calls Try.prog 13 #[.pointer (some ⟨g, 0, none⟩)] W fun e W' => e = .returned (.int .i64 A.size) ∧ W' = W := by
        intro W g h
        refine (len_any g _ W h).mono ?_
        rintro e W' ⟨rfl, hb⟩
        exact ⟨ret_int (by rw [hAl]), hb⟩
      by_cases ho : 4096 < A.size
      · have hd : decide ((A.size : Int) ≤ 4096) = false := by simp; omega
        have hd2 : decide ((4096 : Int) < A.size) = true := by simp; omega
        obtain ⟨T, hT⟩ : ∃ T, txt A.data.toList = T := ⟨_, rfl⟩
        have hT' : T = ⟨(A.data.toList.take 4096).toArray⟩ ++ ⟨#[37, 33, 40, 84, 79, 79, 76, 79, 78, 71, 41]⟩ := by rw [← hT]; unfold txt; rw [if_pos (by omega)]
        have hTl : T.data.toList = A.data.toList.take 4096 ++ [37, 33, 40, 84, 79, 79, 76, 79, 78, 71, 41] := by rw [hT', app_list]
        have hTs : T.size = 4107 := by rw [Lib.size_eq, hTl, List.length_append, List.length_take, hAl, Nat.min_eq_left (by omega)]; rfl
        have hTe : T.extract 0 4096 = A.extract 0 4096 := by
          apply ByteArray.ext
          apply Array.ext'
          have hz : (A.data.toList.take 4096).length = 4096 := by rw [List.length_take, hAl]; omega
          rw [ext_list, ext_list, hTl, List.take_left' hz]
        have htx : ∀ W g, IsBuf W g A.data.toList → Calls Try.prog 15 #[.pointer (some ⟨g, 0, none⟩)] W fun e W' => e = .returned (.string T) ∧ Below W.heap.size W W' := by
          intro W g h
          rw [← hT]
          exact text_any g _ W h (by omega)
        have h41 : (4096 : Int) ≤ A.size := by omega
        have h42 : (4096 : Int) ≤ T.size := by omega
        clear hAl hT hT' hTl
        go_upto_region 17 with (go_at_call 15; refine (htx _ _ hA3).mono ?_; rintro e W4 ⟨rfl, hb4⟩)
        go_quiet (fail)
        have hb5 := below_drewN hb4 nq
        revert hb5
        generalize W4.drewN nq = W5
        intro hb5
        have hA5 := hA3.below hb5
        have hB5 := hB3.below hb5
        clear hA3 hB3 hb4
        go_wp2_with fail
        refine (htx _ _ hA5).mono ?_
        rintro e W6 ⟨rfl, hb6⟩
        have hA6 := hA5.below hb6
        have hB6 := hB5.below hb6
        clear hA5 hB5
        go_wp2_with fail
        refine (htx _ _ hB6).mono ?_
        rintro e W7 ⟨rfl, hb7⟩
        have hA7 := hA6.below hb7
        have hB7 := hB6.below hb7
        clear hA6 hB6
        go_wp2_with fail
        refine (hln _ _ hA7).mono ?_
        rintro e W8 ⟨rfl, rfl⟩
        go_wp2_with fail
        refine (hln _ _ hB7).mono ?_
        rintro e W9 ⟨rfl, rfl⟩
        go_wp2_with fail
        refine (hln _ _ hA7).mono ?_
        rintro e W10 ⟨rfl, rfl⟩
        go_wp2_with (go_at_call 17; refine (lives_any _).mono ?_; rintro e W11 ⟨rfl, hb9⟩)
        go_ret
        exact ⟨rfl, hb3.trans ((hb5.trans ((hb6.trans ((hb7.trans (hb9.mono hb7.size)).mono hb6.size)).mono hb5.size)).mono hb3.size)⟩
      · have hle : (A.size : Int) ≤ 4096 := by omega
        have hd : decide ((A.size : Int) ≤ 4096) = true := by simp; omega
        have hd2 : decide ((4096 : Int) < A.size) = false := by simp; omega
        have htx : ∀ W g, IsBuf W g A.data.toList → Calls Try.prog 15 #[.pointer (some ⟨g, 0, none⟩)] W fun e W' => e = .returned (.string A) ∧ Below W.heap.size W W' := by
          intro W g h
          refine (text_any g _ W h (by omega)).mono ?_
          rintro e W' ⟨rfl, hb⟩
          refine ⟨ret_str ?_, hb⟩
          unfold txt
          rw [if_neg (by omega)]
        clear hAl
        go_upto_region 17 with (go_at_call 15; refine (htx _ _ hA3).mono ?_; rintro e W4 ⟨rfl, hb4⟩)
        go_quiet (fail)
        have hb5 := below_drewN hb4 nq
        revert hb5
        generalize W4.drewN nq = W5
        intro hb5
        have hA5 := hA3.below hb5
        have hB5 := hB3.below hb5
        clear hA3 hB3 hb4
        go_wp2_with fail
        refine (htx _ _ hA5).mono ?_
        rintro e W6 ⟨rfl, hb6⟩
        have hA6 := hA5.below hb6
        have hB6 := hB5.below hb6
        clear hA5 hB5
        go_wp2_with fail
        refine (htx _ _ hB6).mono ?_
        rintro e W7 ⟨rfl, hb7⟩
        have hA7 := hA6.below hb7
        have hB7 := hB6.below hb7
        clear hA6 hB6
        go_wp2_with fail
        refine (hln _ _ hA7).mono ?_
        rintro e W8 ⟨rfl, rfl⟩
        go_wp2_with fail
        refine (hln _ _ hB7).mono ?_
        rintro e W9 ⟨rfl, rfl⟩
        go_wp2_with fail
        refine (hln _ _ hA7).mono ?_
        rintro e W10 ⟨rfl, rfl⟩
        go_wp2_with (go_at_call 17; refine (lives_any _).mono ?_; rintro e W11 ⟨rfl, hb9⟩)
        go_ret
        exact ⟨rfl, hb3.trans ((hb5.trans ((hb6.trans ((hb7.trans (hb9.mono hb7.size)).mono hb6.size)).mono hb5.size)).mono hb3.size)⟩

theorem bufWhole_walk (w : World) (s : ByteArray) (_ : s.size ≤ maxLen) (times : Int) (_ : (Lit.int .i64 times).wf = true) (a2 : Option Addr) (len cap : Nat) (zs : List Int) (w2 : IsRow .i64 w a2 len cap zs) :
    Calls Try.prog 4 #[.string s, .int .i64 times, .slice a2 len cap] w fun e w' => e = .returned (.bool true) ∧ Below w.heap.size w w' := by
  obtain ⟨h1, h2⟩ := cuts_of w2
  exact bufWhole_in s times a2 len cap w h1 h2
end Go.Proofs.Ytnbbjfajcolpkab
