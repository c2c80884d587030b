/- The walk of the law FloatsHexBack. -/
import Derived.Test.YtkeoafidgfmhlabGreatDoorFVerb6
namespace Go.Proofs.YtkeoafidgfmhlabGreatDoor
open Go.RowKit
set_option linter.unusedVariables false
set_option linter.unusedSimpArgs false

/-- The value of a hexadecimal digit; what has been read of a text of them: the number, how many. -/
def hvD (c : UInt8) : Nat := if c.toNat ≤ 57 then c.toNat - 48 else c.toNat - 97 + 10
def gS (a : Nat × Nat) (c : UInt8) : Nat × Nat := if c.toNat = 46 then a else (16 * a.1 + hvD c, a.2 + 1)
def gL (l : List UInt8) : Nat × Nat := l.foldl gS (0, 0)
theorem gL_snoc (l : List UInt8) (c : UInt8) : gL (l ++ [c]) = gS (gL l) c := by simp [gL]
def HexG (T : ByteArray) (N : Nat) : Prop := ∀ i (h : i < T.size), 2 ≤ i → i < N → ((T[i]'h).toNat = 46 ∧ 2 < i) ∨ (48 ≤ (T[i]'h).toNat ∧ (T[i]'h).toNat ≤ 57) ∨ (97 ≤ (T[i]'h).toNat ∧ (T[i]'h).toNat ≤ 102)
set_option maxRecDepth 1000000 in
set_option maxHeartbeats 4000000 in
theorem hexback_walk {bits p m N G M : Nat} {n e x0 y0 Q : Int} {b sg : Bool} {T S X : ByteArray} (hZ : Si6 b n) (hFi : Fi6 bits n p) (hP : PtC p n sg m e 0) (hF : FlC p n false false false false false (-1) (-1) 120 T true) (hX1 : ∀ z : Int, z = x0 + y0 → ExC G z S Q) (hX2 : ExC m e S Q) (hT7 : 7 ≤ T.size) (hT9 : T.size ≤ 1000) (h0x : T.extract 0 2 = ⟨#[48, 120]⟩) (hN2 : 2 < N) (hN4 : N + 4 ≤ T.size) (HC : Hid (∀ h : N < T.size, (T[N]'h).toNat = 112)) (HS : Hid (∀ h : N + 1 < T.size, (T[N + 1]'h).toNat = 45 ∧ y0 = -(M : Int) ∨ (T[N + 1]'h).toNat = 43 ∧ y0 = M)) (H2 : Hid (∀ h : 2 < T.size, (T[2]'h).toNat = 49 ∧ 0 < m ∨ (T[2]'h).toNat = 48 ∧ ¬ 0 < m)) (HD : Hid (HexG T N)) (HB : Hid (∀ i, i < N → 16 * (gL ((T.data.toList.take i).drop 2)).1 + 16 ≤ 18446744073709551615)) (HE : Hid (∃ c, gL ((T.data.toList.take N).drop 2) = (G, c) ∧ x0 = -(4 * ((c - 1 : Nat) : Int)))) (hXe : T.extract (N + 2) T.size = X) (HXd : Hid (allD X.data.toList = true)) (HXn : Hid (num X.data.toList = M)) (hM : M ≤ 3000) (w : World) :
    Calls Tryz.prog 8 #[.agg #[.int .u64 bits, .bool b]] w fun e w' => e = .returned (.bool true) ∧ Below w.heap.size w w' := by
  have hL := lives6_any
  have hBa := bare6_any 120
  have hbA : Below w.heap.size w (w.alloc (.cells #[.int .u64 bits, .bool b] 35)) := (Below.refl _ _).alloc (Nat.le_refl _) _
  have hT7I : ¬ (T.size : Int) < 7 := by omega
  have hT2I : (2 : Int) ≤ T.size := by omega
  have HT : Hid (∀ k (h : k < T.size), 2 ≤ k → gL ((T.data.toList.take (k + 1)).drop 2) = gS (gL ((T.data.toList.take k).drop 2)) (T[k]'h)) := fun k h h2 => by
    rw [List.take_succ_eq_append_getElem (by rw [list_len]; exact h), List.drop_append_of_le_length (by rw [List.length_take, list_len]; omega), gL_snoc]
    rfl
  have hXz : X.size + N + 2 = T.size := by rw [← hXe, ByteArray.size_extract]; omega
  have HXz : Hid (X.size + N + 2 = T.size) := hXz
  have hX9 : X.size ≤ 1000 := by omega
  clear hXz
  have HXc : Hid (∀ j, j < X.size → (X.data.toList.getD j 0).toNat < 256 ∧ 48 ≤ (X.data.toList.getD j 0).toNat ∧ (X.data.toList.getD j 0).toNat ≤ 57 ∧ num (X.data.toList.take (j + 1)) = num (X.data.toList.take j) * 10 + ((X.data.toList.getD j 0).toNat - 48)) := fun j hj => by
    have hl : j < X.data.toList.length := by rw [list_len]; exact hj
    have e : X.data.toList.getD j 0 = X.data.toList[j] := by rw [List.getD_eq_getElem?_getD, List.getElem?_eq_getElem hl, Option.getD_some]
    have hm := (isD_iff _).1 (allD_mem HXd.out (List.getElem_mem hl))
    rw [e]
    refine ⟨UInt8.toNat_lt _, hm.1, hm.2, ?_⟩
    rw [List.take_succ_eq_append_getElem hl, num_snoc]; rfl
  have HXp : Hid (∀ j, num (X.data.toList.take j) ≤ 3000) := fun j => by
    have h := HXn.out
    have e : num X.data.toList = num (X.data.toList.take j) * 10 ^ (X.data.toList.drop j).length + num (X.data.toList.drop j) := by rw [← num_append, List.take_append_drop]
    have := pow_pos10 (X.data.toList.drop j).length
    have h2 := Nat.mul_le_mul_left (num (X.data.toList.take j)) this
    omega
  have HXf : Hid (num (X.data.toList.take X.size) = M) := by show _ = _; rw [List.take_of_length_le (by rw [list_len]; exact Nat.le_refl _)]; exact HXn.out
  clear HXd HXn
  have hcv : ∀ w, (convert 9 52 (.string X)).run Tryz.prog w = .ok (.slice (some ⟨w.heap.size, 0, none⟩) X.size (grownCap w X.size 0 5)) (Lib.bytesWorld w 5 X) := fun w => Lib.run_convert_string_bytes w 9 52 5 X Tryz.underlying9 Tryz.underlying52 Tryz.underlying5
  go_enter Tryz.func8, Tryz.ntmps8
  go_wp2_with (first
    | (go_at_call 9; (with_reducible refine (hZ _).mono ?_); rintro x w1 ⟨rfl, rfl⟩)
    | (go_at_call 15; (with_reducible refine (hFi _).mono ?_); rintro x w1 ⟨rfl, rfl⟩)
    | (go_at_call 10; (with_reducible refine (hP _).mono ?_); rintro x w2 ⟨rfl, hb2⟩; obtain ⟨y2, rfl⟩ := Cl.start hb2)
    | (go_at_call 18; refine (hBa _).mono ?_; rintro x w3 ⟨rfl, hb3⟩; obtain ⟨y3, rfl⟩ := Cl.next hb3)
    | (go_at_call 12; (with_reducible refine (hF _).mono ?_); rintro x w4 ⟨rfl, hb4⟩; obtain ⟨y4, rfl⟩ := Cl.next hb4))
  have hbW : Below w.heap.size w y4.w := bel_call hbA y4.below (Nat.le_refl _)
  generalize y4.w = W at *
  go_loopg [11, 12, 13, 14] (N - 2) (fun g gv xv iv cv wr => W = wr ∧ ∃ (i got cnt : Nat) (x : Int), gv = .int .u64 got ∧ xv = .int .i64 x ∧ iv = .int .i64 i ∧ 2 ≤ i ∧ i + g = N ∧ -(4 * (i : Int)) ≤ x ∧ x ≤ 0 ∧ Hid (gL ((T.data.toList.take i).drop 2) = (got, cnt)) ∧ Hid (x = -(4 * ((cnt - 1 : Nat) : Int)) ∧ (2 < i → 1 ≤ cnt) ∧ (i = 2 → cnt = 0)))
  case atStart =>
    refine ⟨rfl, 2, 0, 0, 0, rfl, rfl, rfl, Nat.le_refl _, by omega, by omega, by omega, ?_, ⟨rfl, fun h => by omega, fun _ => rfl⟩⟩
    show gL _ = _
    rw [List.drop_of_length_le (by rw [List.length_take]; omega)]; rfl
  case round =>
    obtain ⟨rfl, i, got, cnt, x, rfl, rfl, rfl, hi2, hig, hx0, hx1, HX, HY⟩ := hrel
    by_cases hi : i < N
    · have hiT : i < T.size := by omega
      have hiI : (i : Int) < T.size := by omega
      have hd := HD.out i hiT hi2 hi
      have ht := HT.out i hiT hi2
      have hbo := HB.out i hi
      have hb : (T[i]'hiT).toNat < 256 := (T[i]'hiT).toNat_lt
      rw [HX.out] at ht hbo
      obtain ⟨z1, z2, z3⟩ := HY.out
      have hb2 : got * 16 + 16 ≤ 18446744073709551615 := by omega
      clear HX HY HD HT HB HE HC HS H2 HXz HXc HXp HXf hcv hX1 hX2
      generalize hc : (T[i]'hiT) = c at *
      have HT2 : Hid (gL ((T.data.toList.take (i + 1)).drop 2) = gS (got, cnt) c) := ht
      have HZ : Hid (x = -(4 * ((cnt - 1 : Nat) : Int)) ∧ (2 < i → 1 ≤ cnt) ∧ (i = 2 → cnt = 0)) := ⟨z1, z2, z3⟩
      have n112 : c.toNat ≠ 112 := by omega
      have b112 : ((c.toNat : Int) != 112) = true := by rw [bne_iff_ne]; omega
      clear ht z1 z2 z3 hbo
      rcases hd with ⟨h46, h2i⟩ | ⟨c0, c1⟩ | ⟨c0, c1⟩
      · go_wp2
        go_roundg (gk - 1)
        case measure => omega
        case rel =>
          obtain ⟨z1, z2, z3⟩ := HZ.out
          refine ⟨rfl, i + 1, got, cnt, x, rfl, rfl, by go_num, by omega, by omega, by omega, by omega, ?_, ⟨z1, fun _ => z2 h2i, fun h => by omega⟩⟩
          show _ = _
          rw [HT2.out]; unfold gS; rw [if_pos h46]
      · have n46 : ¬ c.toNat = 46 := by omega
        have c0I : 48 ≤ (c.toNat : Int) := by omega
        have c1I : (c.toNat : Int) ≤ 57 := by omega
        have HV : Hid (hvD c = c.toNat - 48) := by show _ = _; unfold hvD; rw [if_pos c1]
        by_cases h2i : 2 < i
        · have h2I : (2 : Int) < i := by omega
          go_wp2
          go_roundg (gk - 1)
          case measure => omega
          case rel =>
            obtain ⟨z1, z2, z3⟩ := HZ.out
            have := z2 h2i
            refine ⟨rfl, i + 1, 16 * got + (c.toNat - 48), cnt + 1, x - 4, by go_num, by go_num, by go_num, by omega, by omega, by omega, by omega, ?_, ⟨by omega, fun _ => by omega, fun h => by omega⟩⟩
            show _ = _
            rw [HT2.out]; unfold gS; rw [if_neg n46, HV.out]
        · obtain rfl : i = 2 := by omega
          go_wp2
          go_roundg (gk - 1)
          case measure => omega
          case rel =>
            obtain ⟨z1, z2, z3⟩ := HZ.out
            have := z3 (by trivial)
            refine ⟨rfl, 2 + 1, 16 * got + (c.toNat - 48), cnt + 1, x, by go_num, rfl, by go_num, by omega, by omega, by omega, by omega, ?_, ⟨by omega, fun _ => by omega, fun h => by omega⟩⟩
            show _ = _
            rw [HT2.out]; unfold gS; rw [if_neg n46, HV.out]
      · have n46 : ¬ c.toNat = 46 := by omega
        have c0I : 97 ≤ (c.toNat : Int) := by omega
        have c1I : (c.toNat : Int) ≤ 102 := by omega
        have c2I : ¬ (c.toNat : Int) ≤ 57 := by omega
        have c3I : 48 ≤ (c.toNat : Int) := by omega
        have HV : Hid (hvD c = c.toNat - 97 + 10) := by show _ = _; unfold hvD; rw [if_neg (by omega)]
        by_cases h2i : 2 < i
        · have h2I : (2 : Int) < i := by omega
          go_wp2
          go_roundg (gk - 1)
          case measure => omega
          case rel =>
            obtain ⟨z1, z2, z3⟩ := HZ.out
            have := z2 h2i
            refine ⟨rfl, i + 1, 16 * got + (c.toNat - 97 + 10), cnt + 1, x - 4, by go_num, by go_num, by go_num, by omega, by omega, by omega, by omega, ?_, ⟨by omega, fun _ => by omega, fun h => by omega⟩⟩
            show _ = _
            rw [HT2.out]; unfold gS; rw [if_neg n46, HV.out]
        · obtain rfl : i = 2 := by omega
          go_wp2
          go_roundg (gk - 1)
          case measure => omega
          case rel =>
            obtain ⟨z1, z2, z3⟩ := HZ.out
            have := z3 (by trivial)
            refine ⟨rfl, 2 + 1, 16 * got + (c.toNat - 97 + 10), cnt + 1, x, by go_num, rfl, by go_num, by omega, by omega, by omega, by omega, ?_, ⟨by omega, fun _ => by omega, fun h => by omega⟩⟩
            show _ = _
            rw [HT2.out]; unfold gS; rw [if_neg n46, HV.out]
    · obtain rfl : i = N := by omega
      have hiT : i < T.size := by omega
      have hiI : (i : Int) < T.size := by omega
      have hc := HC.out hiT
      obtain ⟨c, he1, he2⟩ := HE.out
      rw [HX.out] at he1
      obtain rfl : got = G := congrArg (·.1) he1
      obtain rfl : cnt = c := congrArg (·.2) he1
      obtain ⟨z1, -, -⟩ := HY.out
      obtain rfl : x = x0 := by omega
      have h1T : i + 1 < T.size := by omega
      have h1I : (i : Int) + 1 < T.size := by omega
      have h2I : (i : Int) + 2 ≤ T.size := by omega
      have h4I : ¬ (T.size : Int) < (i : Int) + 4 := by omega
      have hs := HS.out h1T
      have h2T : 2 < T.size := by omega
      have h2TI : (2 : Int) < T.size := by omega
      have hm2 := H2.out h2T
      clear HX HY HD HT HB HE HC HS H2 he1 he2 z1
      have hcell : ∀ j, j < X.size → (Lib.bytesWorld W 5 X).cell? ⟨W.heap.size, j, none⟩ = some (.int .u8 ((X.data.toList.getD j 0).toNat : Nat)) := fun j hj => by
        have := Lib.bytesWorld_cell W 5 X j hj
        simpa using this
      have hbB : Below w.heap.size w (Lib.bytesWorld W 5 X) := bel_call hbW (Lib.bytesWorld_below _ _ _) (Nat.le_refl _)
      have hcv2 := hcv W
      clear hcv
      generalize Lib.bytesWorld W 5 X = WB at *
      go_wp2
      go_loopg [15, 17, 116] X.size (fun g yv dv jv wr => wr = WB ∧ ∃ j : Nat, yv = .int .i64 (num (X.data.toList.take j) : Nat) ∧ jv = .int .i64 j ∧ j + g = X.size)
      case atStart => exact ⟨rfl, 0, rfl, rfl, by omega⟩
      case round =>
        obtain ⟨rfl, j, rfl, rfl, hjg⟩ := hrel
        by_cases hj : j < X.size
        · have hjI : (j : Int) < X.size := by omega
          obtain ⟨q0, q1, q2, q3⟩ := HXc.out j hj
          have hcl := hcell j hj
          have hp := HXp.out j
          have HX3 : Hid (num (X.data.toList.take (j + 1)) = num (X.data.toList.take j) * 10 + ((X.data.toList.getD j 0).toNat - 48)) := q3
          clear HXc HXp HXf hcv2 q3 hcell hX1 hX2 hs hm2
          generalize (X.data.toList.getD j 0).toNat = c at *
          generalize hMM : num (X.data.toList.take j) = MM at *
          have HM : Hid (num (X.data.toList.take j) = MM) := hMM
          clear hMM
          have q1I : ¬ (c : Int) < 48 := by omega
          have q2I : (c : Int) ≤ 57 := by omega
          go_wp2
          go_roundg (gk - 1)
          case measure => omega
          case rel => exact ⟨rfl, j + 1, by rw [HX3.out]; congr 1; omega, by go_num, by omega⟩
        · have hjI : ¬ (j : Int) < X.size := by omega
          obtain rfl : j = X.size := by omega
          rw [HXf.out]
          clear HXc HXp HXf hcv2 hcell
          have hMI : (M : Int) ≤ 3000 := by omega
          rcases hs with ⟨hs, rfl⟩ | ⟨hs, rfl⟩ <;> rcases hm2 with ⟨hm2, hm0⟩ | ⟨hm2, hm0⟩
          all_goals
            have hXa := hX1 _ rfl
            first | have hXb := hX1 _ Int.sub_eq_add_neg | have hXb := hXa
            first | have hm0I : 0 < (m : Int) := (by omega) | have hm0I : ¬ 0 < (m : Int) := (by omega)
            clear hX1
            go_wp2_with (first
              | (go_at_call 16; (with_reducible refine (hX2 _).mono ?_); rintro x w6 ⟨rfl, hb6⟩; have bB := keepb hb6 (B := w5.heap.size) (x := .string S) (y := .int .i64 Q) (by simp [BoxD, go_sem]); obtain ⟨r0, r1, r2, r3⟩ := id bB; have hlt : w5.heap.size < w6.heap.size := World.block_lt_of_cell? w6 _ r0)
              | (go_at_call 16; (first | (with_reducible refine (hXa _).mono ?_) | (with_reducible refine (hXb _).mono ?_)); rintro x w5 ⟨rfl, hb5⟩)
              | (go_at_call 11; refine (hL _).mono ?_; rintro x w8 ⟨rfl, hb8⟩))
            go_ret
            refine ⟨rfl, ?_⟩
            have h5 := bel_call hbB hb5 (Nat.le_refl _)
            have h6 := bel_call (h5.alloc h5.size _) hb6 (Nat.le_refl _)
            exact bel_call (h6.alloc h6.size _) hb8 (Nat.le_refl _)
theorem gL_fold (l : List UInt8) (h : ∀ c ∈ l, c.toNat ≠ 46) : ∀ a : Nat × Nat, l.foldl gS a = (l.foldl (fun n x => n * 16 + hvD x) a.1, a.2 + l.length) := by
  induction l with
  | nil => intro a; rfl
  | cons c l ih =>
    intro a
    rw [List.foldl_cons, ih (fun x hx => h x (List.mem_cons_of_mem _ hx))]
    have hc := h c List.mem_cons_self
    have e : gS a c = (16 * a.1 + hvD c, a.2 + 1) := by unfold gS; rw [if_neg hc]
    rw [e, List.foldl_cons, Nat.mul_comm 16, List.length_cons]
    congr 1
    omega
theorem gL_lt (l : List UInt8) (h : ∀ c ∈ l, c.toNat = 46 ∨ hvD c < 16) : ∀ a : Nat × Nat, (l.foldl gS a).1 < (a.1 + 1) * 16 ^ l.length := by
  induction l with
  | nil => intro a; simp
  | cons c l ih =>
    intro a
    rw [List.foldl_cons]
    have h1 := ih (fun x hx => h x (List.mem_cons_of_mem _ hx)) (gS a c)
    have h2 : (gS a c).1 + 1 ≤ (a.1 + 1) * 16 := by
      unfold gS
      split
      · omega
      · rename_i hc
        have := (h c List.mem_cons_self).resolve_left hc
        show 16 * a.1 + hvD c + 1 ≤ _
        omega
    have h3 := Nat.mul_le_mul_right (16 ^ l.length) h2
    rw [List.length_cons, Nat.pow_succ, Nat.mul_comm (16 ^ l.length), ← Nat.mul_assoc]
    omega
theorem hv_hex {d : Nat} (hd : d < 16) : hvD (hexB false d) = d ∧ ((48 ≤ (hexB false d).toNat ∧ (hexB false d).toNat ≤ 57) ∨ (97 ≤ (hexB false d).toNat ∧ (hexB false d).toNat ≤ 102)) := by
  have : ∀ d : Fin 16, hvD (hexB false d.val) = d.val ∧ ((48 ≤ (hexB false d.val).toNat ∧ (hexB false d.val).toNat ≤ 57) ∨ (97 ≤ (hexB false d.val).toNat ∧ (hexB false d.val).toNat ≤ 102)) := by decide
  exact this ⟨d, hd⟩
theorem hx_fold : ∀ (k n a : Nat), n < 16 ^ k → (hx k n).foldl (fun n x => n * 16 + hvD x) a = a * 16 ^ k + n
  | 0, n, a, h => by
    have : n = 0 := by simp at h; omega
    subst this; simp [hx]
  | k + 1, n, a, h => by
    rw [hx, List.foldl_append, hx_fold k (n / 16) a (by rw [Nat.pow_succ] at h; omega)]
    show (a * 16 ^ k + n / 16) * 16 + hvD (hexB false (n % 16)) = _
    rw [(hv_hex (Nat.mod_lt _ (by decide))).1, Nat.pow_succ, ← Nat.mul_assoc]
    omega
theorem hx_mem : ∀ (k n : Nat) (x : UInt8), x ∈ hx k n → ∃ d, d < 16 ∧ x = hexB false d
  | 0, n, x, h => by simp [hx] at h
  | k + 1, n, x, h => by
    rw [hx] at h
    rcases List.mem_append.1 h with h | h
    · exact hx_mem k _ x h
    · exact ⟨n % 16, Nat.mod_lt _ (by decide), by simpa using h⟩
theorem zero_fold (k a : Nat) : (List.replicate k (48 : UInt8)).foldl (fun n x => n * 16 + hvD x) a = a * 16 ^ k := by
  induction k generalizing a with
  | zero => simp
  | succ k ih =>
    rw [List.replicate_succ, List.foldl_cons, ih]
    have : hvD 48 = 0 := by decide
    rw [this, Nat.pow_succ, Nat.add_zero, Nat.mul_assoc, Nat.mul_comm 16]
def HexC (x : UInt8) : Prop := (48 ≤ x.toNat ∧ x.toNat ≤ 57) ∨ (97 ≤ x.toNat ∧ x.toNat ≤ 102)
theorem HexC.hv {x : UInt8} (h : HexC x) : hvD x < 16 ∧ x.toNat ≠ 46 := by
  unfold hvD
  rcases h with h | h
  · rw [if_pos h.2]; omega
  · rw [if_neg (by omega)]; omega
/-- The digits of a number to the base 16, trimmed. -/
theorem hex_back {m : Nat} (hm : m < 2 ^ 53) (e : Int) : ∃ (a0 : UInt8) (H B : List UInt8) (k s : Nat), (hxD m (-1)).data.toList = a0 :: H ∧ H.length = 13 ∧ rtr H = B ∧ H = B ++ List.replicate k 48 ∧ HexC a0 ∧ (∀ x ∈ B, HexC x) ∧ s ≤ 52 ∧ (a0 :: B).foldl (fun n x => n * 16 + hvD x) 0 * 16 ^ k = m * 2 ^ s ∧ (m ≠ 0 → nmE m e (-1) = e + 52 - s) ∧ (m = 0 → nmE m e (-1) = 0) ∧ (a0.toNat = 49 ∧ 0 < m ∨ a0.toNat = 48 ∧ ¬ 0 < m) := by
  by_cases h0 : m = 0
  · subst h0
    obtain ⟨h1, h2⟩ := hex_0 (-1) e
    obtain ⟨k, hk, -⟩ := rtr_split (List.replicate 13 48)
    refine ⟨48, List.replicate 13 48, _, k, 0, h1, by simp, rfl, hk, .inl (by decide), fun x hx => ?_, by omega, ?_, fun h => absurd rfl h, fun _ => h2, .inr ⟨rfl, by omega⟩⟩
    · have : x ∈ List.replicate 13 (48 : UInt8) := by rw [hk]; exact List.mem_append_left _ hx
      rw [List.eq_of_mem_replicate this]
      exact .inl (by decide)
    · rw [← zero_fold, ← List.foldl_append, List.cons_append, ← hk]
      show (List.replicate 14 (48 : UInt8)).foldl (fun n x => n * 16 + hvD x) 0 = _
      rw [zero_fold]
  · obtain ⟨hs, p, h1, h2⟩ := nm_in h0 hm
    obtain ⟨h3, h4⟩ := hex_keep (e := e) (P := -1) h0 h1 (rb_all (.inl (by decide))) h2
    obtain ⟨k, hk, -⟩ := rtr_split (hx 13 p)
    refine ⟨49, hx 13 p, _, k, nmS m, h3, hx_len _ _, rfl, hk, .inl (by decide), fun x hx => ?_, hs, ?_, fun _ => h4, fun h => absurd h h0, .inl ⟨rfl, by omega⟩⟩
    · obtain ⟨d, hd, rfl⟩ := hx_mem 13 p x (by rw [hk]; exact List.mem_append_left _ hx)
      exact (hv_hex hd).2
    · rw [← zero_fold, ← List.foldl_append, List.cons_append, ← hk, List.foldl_cons, hx_fold _ _ _ h2, h1]
      rfl
theorem exU_nil (z : Int) : exU 0 z = 0 := by unfold exU; split <;> rw [Nat.zero_mul, Nat.zero_mul]
theorem at_of7 {T : ByteArray} {i : Nat} {x : UInt8} (h : i < T.size) (hx : T.data.toList[i]? = some x) : (T[i]'h) = x := by
  have h2 : i < T.data.toList.length := by rw [list_len]; exact h
  rw [List.getElem?_eq_getElem h2] at hx
  exact Option.some.inj hx
theorem exU_back {m G k s : Nat} {e : Int} (h : G * 16 ^ k = m * 2 ^ s) (h0 : -1200 ≤ e - s) (h1 : e - s + (4 * k : Nat) ≤ 1200) (h2 : e ≤ 1200) : exU G (e - s + (4 * k : Nat)) = exU m e := by
  have e1 := exU_shift G (e - s) (4 * k) h0 h1
  have e2 := exU_shift m (e - s) s h0 (by omega)
  rw [show e - (s : Int) + (s : Nat) = e by omega] at e2
  rw [e1, e2, Nat.pow_mul, show (2 : Nat) ^ 4 = 16 from rfl, h]
theorem hxP_neg (d : ByteArray) : (hxP d (-1)).data.toList = rtr d.data.toList := by
  have : hxP d (-1) = ⟨(rtr d.data.toList).toArray⟩ := if_pos (by decide)
  rw [this]
set_option maxHeartbeats 2000000 in
theorem hexback_any {bits p m : Nat} {n e : Int} {b sg : Bool} (hZ : Si6 b n) (hFi : Fi6 bits n p) (hP : PtC p n sg m e 0) (hF : FlC p n false false false false false (-1) (-1) 120 (hexT false (-1) m e) true) (hX2 : ExC m e (oS (exU m e)) (oP (exU m e))) (hm : m < 2 ^ 53) (he0 : -1074 ≤ e) (he1 : e ≤ 1000) (w : World) :
    Calls Tryz.prog 8 #[.agg #[.int .u64 bits, .bool b]] w fun e w' => e = .returned (.bool true) ∧ Below w.heap.size w w' := by
  obtain ⟨a0, H, B, k, s, hD, hH, hB, hk, ca, cb, hs, hv, hn1, hn0, h2⟩ := hex_back hm e
  have hkl : B.length + k = 13 := by
    have := congrArg List.length hk
    rw [hH, List.length_append, List.length_replicate] at this
    omega
  obtain ⟨y0, hy⟩ : ∃ y0, nmE m e (-1) = y0 := ⟨_, rfl⟩
  rw [hy] at hn1 hn0
  have hy0 : -2000 ≤ y0 ∧ y0 ≤ 2000 := by
    by_cases h : m = 0
    · have := hn0 h; omega
    · have := hn1 h; omega
  obtain ⟨G, hG⟩ : ∃ G, (a0 :: B).foldl (fun n x => n * 16 + hvD x) 0 = G := ⟨_, rfl⟩
  rw [hG] at hv
  have hall : ∀ x ∈ a0 :: B, HexC x := fun x hx => by
    rcases List.mem_cons.1 hx with rfl | hx
    · exact ca
    · exact cb x hx
  have hgB : gL (a0 :: B) = (G, 1 + B.length) := by
    have := gL_fold (a0 :: B) (fun x hx => (hall x hx).hv.2) (0, 0)
    rw [hG] at this
    unfold gL
    rw [this, List.length_cons]
    congr 1
    show 0 + _ = _
    omega
  have p14 : (16 : Nat) ^ 14 = 72057594037927936 := by decide
  have hG64 : G < 72057594037927936 := by
    have h1 := gL_lt (a0 :: B) (fun x hx => .inr (hall x hx).hv.1) (0, 0)
    have h3 : ((a0 :: B).foldl gS (0, 0)).1 = G := congrArg (·.1) hgB
    rw [h3] at h1
    have h4 : (16 : Nat) ^ (a0 :: B).length ≤ 16 ^ 14 := Nat.pow_le_pow_right (by decide) (by rw [List.length_cons]; omega)
    have h5 : ((0, 0) : Nat × Nat).1 + 1 = 1 := rfl
    rw [h5, Nat.one_mul] at h1
    omega
  obtain ⟨R, hR, hRl⟩ : ∃ R : List UInt8, ((R = [] ∧ B = []) ∨ (R = 46 :: B ∧ B ≠ [])) ∧ R.length ≤ 14 := by
    by_cases h : B = []
    · exact ⟨[], .inl ⟨rfl, h⟩, by simp⟩
    · exact ⟨46 :: B, .inr ⟨rfl, h⟩, by rw [List.length_cons]; omega⟩
  have hRm : ∀ x ∈ R, x.toNat = 46 ∨ HexC x := fun x hx => by
    rcases hR with ⟨rfl, -⟩ | ⟨rfl, -⟩
    · simp at hx
    · rcases List.mem_cons.1 hx with rfl | hx
      · exact .inl rfl
      · exact .inr (cb x hx)
  have hgR : gL (a0 :: R) = (G, 1 + B.length) := by
    rcases hR with ⟨rfl, rfl⟩ | ⟨rfl, -⟩
    · exact hgB
    · rw [← hgB]; rfl
  have e1 : ((hxD m (-1)).extract 0 1).data.toList = [a0] := by rw [ext_li, hD]; rfl
  have e2 : ((hxD m (-1)).extract 1 (hxD m (-1)).size).data.toList = H := by rw [ext_li, List.take_of_length_le (by rw [list_len]; exact Nat.le_refl _), hD]; rfl
  have e3 : (hxP ((hxD m (-1)).extract 1 (hxD m (-1)).size) (-1)).data.toList = B := by
    rw [hxP_neg, e2, hB]
  obtain ⟨T, hT⟩ : ∃ T, hexT false (-1) m e = T := ⟨_, rfl⟩
  obtain ⟨X, hX⟩ : ∃ X, lnA (digT false 10 y0.natAbs) 2 = X := ⟨_, rfl⟩
  obtain ⟨sb, hsb, hsb2⟩ : ∃ sb : UInt8, (sx1 y0).data.toList = [sb] ∧ (sb.toNat = 45 ∧ y0 = -(y0.natAbs : Int) ∨ sb.toNat = 43 ∧ y0 = y0.natAbs) := by
    unfold sx1
    split
    · exact ⟨45, rfl, .inl ⟨rfl, by omega⟩⟩
    · exact ⟨43, rfl, .inr ⟨rfl, by omega⟩⟩
  have hP0 : (ptd false ((hxD m (-1)).extract 0 1) (hxP ((hxD m (-1)).extract 1 (hxD m (-1)).size) (-1))).data.toList = a0 :: R := by
    have hz : (hxP ((hxD m (-1)).extract 1 (hxD m (-1)).size) (-1)).size = B.length := by rw [← list_len, e3]
    unfold ptd
    rcases hR with ⟨rfl, hb⟩ | ⟨rfl, hb⟩
    · rw [if_pos ⟨by rw [hz, hb]; rfl, rfl⟩, e1]
    · have : 0 < B.length := List.length_pos_iff.2 hb
      rw [if_neg (by rw [hz]; omega), app_list, app_list, e1, e3]; rfl
  have hTl : T.data.toList = 48 :: 120 :: a0 :: (R ++ (112 :: sb :: X.data.toList)) := by
    rw [← hT]
    unfold hexT sgd
    rw [hy, hX, app_list, app_list, app_list, app_list, hP0, hsb]
    simp
  have hdz := digT_size false 10 y0.natAbs
  have hXz : 2 ≤ X.size ∧ X.size ≤ 100 := by rw [← hX, lnA_size]; omega
  have hXl : X.data.toList = List.replicate (2 - ((digT false 10 y0.natAbs).size : Int)).toNat 48 ++ (digT false 10 y0.natAbs).data.toList := by rw [← hX, lnA_list]
  have dX : allD X.data.toList = true := by rw [hXl, allD_append, allD_rep, allD_dig10]; rfl
  have nX : num X.data.toList = y0.natAbs := by rw [hXl, num_lead, dig_num _ (by omega)]
  have hXL : X.data.toList.length = X.size := list_len X
  have hTz : T.size = R.length + 5 + X.size := by
    rw [← list_len, hTl, List.length_cons, List.length_cons, List.length_cons, List.length_append, List.length_cons, List.length_cons]; omega
  have hdt : ∀ i, i ≤ R.length + 1 + 1 + 1 → (T.data.toList.take i).drop 2 = (a0 :: R).take (i - 2) := fun i hi => by
    rw [List.drop_take, hTl]
    show (a0 :: (R ++ (112 :: sb :: X.data.toList))).take (i - 2) = _
    rw [← List.cons_append, List.take_append_of_le_length (by rw [List.length_cons]; omega)]
  rw [hT] at hF
  refine hexback_walk (N := R.length + 1 + 1 + 1) (G := G) (M := y0.natAbs) (x0 := -(4 * ((1 + B.length - 1 : Nat) : Int))) (y0 := y0) (X := X) hZ hFi hP hF ?_ hX2 (by omega) (by omega) ?_ (by omega) (by omega) ?_ ?_ ?_ ?_ ?_ ?_ ?_ dX nX (by omega) w
  · intro z hz
    by_cases h0 : m = 0
    · have hG0 : G = 0 := by
        rw [h0, Nat.zero_mul] at hv
        rcases Nat.mul_eq_zero.1 hv with h | h
        · exact h
        · have : 0 < 16 ^ k := Nat.pow_pos (by decide)
          omega
      have := hn0 h0
      have h3 := exC (m := G) (e := z) (by omega) (by omega) (by omega)
      have h4 : exU G z = exU m e := by rw [hG0, h0, exU_nil, exU_nil]
      rw [h4] at h3
      exact h3
    · have := hn1 h0
      have hze : z = e - s + (4 * k : Nat) := by omega
      have h3 := exC (m := G) (e := z) (by omega) (by omega) (by omega)
      have h4 : exU G z = exU m e := by rw [hze]; exact exU_back hv (by omega) (by omega) (by omega)
      rw [h4] at h3
      exact h3
  · apply ByteArray.ext; apply Array.ext'
    rw [ext_li, hTl]; rfl
  · intro h
    rw [at_of7 h (x := 112) (by rw [hTl, List.getElem?_cons_succ, List.getElem?_cons_succ, List.getElem?_cons_succ, List.getElem?_append_right (Nat.le_refl _), Nat.sub_self]; rfl)]
    rfl
  · intro h
    rw [at_of7 h (x := sb) (by rw [hTl, List.getElem?_cons_succ, List.getElem?_cons_succ, List.getElem?_cons_succ, List.getElem?_append_right (by omega), Nat.add_sub_cancel_left]; rfl)]
    exact hsb2
  · intro h
    rw [at_of7 h (x := a0) (by rw [hTl]; rfl)]
    exact h2
  · intro i h h2i hi
    by_cases h3 : i = 2
    · subst h3
      rw [at_of7 h (x := a0) (by rw [hTl]; rfl)]
      exact .inr ca
    · obtain ⟨j, rfl⟩ : ∃ j, i = j + 1 + 1 + 1 := ⟨i - 3, by omega⟩
      have hj : j < R.length := by omega
      rw [at_of7 h (x := R[j]) (by rw [hTl, List.getElem?_cons_succ, List.getElem?_cons_succ, List.getElem?_cons_succ, List.getElem?_append_left hj, List.getElem?_eq_getElem hj])]
      rcases hRm _ (List.getElem_mem hj) with h4 | h4
      · exact .inl ⟨h4, by omega⟩
      · exact .inr h4
  · intro i hi
    rw [hdt i (by omega)]
    have h1 := gL_lt ((a0 :: R).take (i - 2)) (fun x hx => by
      rcases List.mem_cons.1 (List.mem_of_mem_take hx) with rfl | h
      · exact .inr ca.hv.1
      · rcases hRm x h with h | h
        · exact .inl h
        · exact .inr h.hv.1) (0, 0)
    have h4 : (16 : Nat) ^ ((a0 :: R).take (i - 2)).length ≤ 16 ^ 14 := Nat.pow_le_pow_right (by decide) (by rw [List.length_take]; omega)
    have h5 : ((0, 0) : Nat × Nat).1 + 1 = 1 := rfl
    rw [h5, Nat.one_mul] at h1
    have h6 : (gL ((a0 :: R).take (i - 2))).1 < 72057594037927936 := by unfold gL; omega
    omega
  · refine ⟨1 + B.length, ?_, rfl⟩
    rw [hdt _ (Nat.le_refl _), List.take_of_length_le (by rw [List.length_cons]; omega)]
    exact hgR
  · apply ByteArray.ext; apply Array.ext'
    have hl2 : T.data.toList = (48 :: 120 :: a0 :: (R ++ [112, sb])) ++ X.data.toList := by rw [hTl]; simp
    rw [ext_li, List.take_of_length_le (by rw [list_len]; exact Nat.le_refl _), hl2, List.drop_left' (by simp)]
theorem floatsHexBack_walk (m0 : Int) (b : Bool) (hm0 : (Lit.int .u64 m0).wf = true) (w : World) :
    Calls Tryz.prog 8 #[.agg #[.int .u64 m0, .bool b]] w fun e w' => e = .returned (.bool true) ∧ Below w.heap.size w w' := by
  obtain ⟨bits, n, f, ww, least, I, p, rfl, h, hp, hZ, hFi, hp9⟩ := pat6 m0 hm0 b
  have hbp := bare_small h hp
  obtain ⟨d, hd, gd, hF⟩ := fin_of (bits := p) h (by omega) (by rw [hbp]; exact hp)
  rw [hbp] at hd hF
  have hsg : sgn f ww p = false := by
    have h2 := hbp
    unfold sgn
    unfold bare at h2
    have : p / 2 ^ (f + ww) = 0 := Nat.div_eq_of_lt (by have := Nat.mod_lt p (show 0 < 2 ^ (f + ww) from Nat.pow_pos (by decide)); omega)
    rw [this]; rfl
  rw [hsg] at hF
  have hfl := float_fin hF false false false false false (-1) (-1) 120 (by decide)
  rw [filT_bare _ (asc_fin _ _ _ _ _ _ _), finT_120, show min (-1 : Int) 1000 = -1 by decide] at hfl
  have hl : -1074 ≤ least ∧ least ≤ -149 := by rcases h with ⟨-, -, -, rfl, -⟩ | ⟨-, -, -, rfl, -⟩ <;> decide
  obtain ⟨-, -, -, -, -, -, -, -, q2⟩ := h.pk
  have q3 := q2 _ hp
  have hm := hF.m53
  have h64 : (2 : Nat) ^ 53 = 9007199254740992 := by decide
  exact hexback_any hZ hFi hF.pt hfl (exC (by omega) (by omega) (by omega)) hm (by omega) q3 w
end Go.Proofs.YtkeoafidgfmhlabGreatDoor
