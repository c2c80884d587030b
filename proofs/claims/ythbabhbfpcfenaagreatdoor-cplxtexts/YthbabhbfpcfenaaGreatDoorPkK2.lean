/- KRead, KReadT: these texts in one. -/
import Derived.Test.YthbabhbfpcfenaaGreatDoorPkK1
import Derived.Test.YthbabhbfpcfenaaGreatDoorPkM10
import Derived.Test.YthbabhbfpcfenaaGreatDoorPkM6
import Derived.Test.YthbabhbfpcfenaaGreatDoorPkF20
/- The document's Read. -/
namespace Go.Proofs.YthbabhbfpcfenaaGreatDoor
open Go.RowKit
set_option linter.unusedVariables false
set_option linter.unusedSimpArgs false

abbrev KrC (s : ByteArray) (q size : Int) (r : Nat) (er : Int) : Prop := ∀ w, Calls Tryz.prog 133 #[.agg #[.string s, .int .i64 q], .int .i64 size] w fun e w' => e = .returned (.tuple #[.int .u64 (r : Nat), .int .i64 er]) ∧ Below w.heap.size w w'
abbrev HnC (s : ByteArray) (q : Int) (S : ByteArray) (P E : Int) : Prop := ∀ w, Calls Tryz.prog 108 #[.agg #[.string s, .int .i64 q]] w fun e w' => e = .returned (.tuple #[.agg #[.string S, .int .i64 P], .int .i64 E]) ∧ Below w.heap.size w w'
abbrev KsC (size : Int) (b : Bool) : Prop := ∀ w, Calls Tryz.prog 56 #[.int .i64 size] w fun e w' => e = .returned (.bool b) ∧ w' = w
abbrev KhC (size : Int) (f ww : Nat) (least : Int) : Prop := ∀ w, Calls Tryz.prog 57 #[.int .i64 size] w fun e w' => e = .returned (.tuple #[.int .i64 f, .int .i64 ww, .int .i64 least]) ∧ w' = w
set_option maxRecDepth 1000000 in
theorem kread_size {s : ByteArray} {q size : Int} (h : KsC size false) : KrC s q size 0 1 := fun w => by
  go_enter Tryz.func133, Tryz.ntmps133
  go_wp2_with (go_at_call 56; (with_reducible refine (h _).mono ?_); rintro x w1 ⟨rfl, rfl⟩)
  go_returns
  exact ⟨rfl, by go_grown⟩
set_option maxRecDepth 1000000 in
set_option maxHeartbeats 1000000 in
theorem kread_err {s S : ByteArray} {q size P E : Int} (h : KsC size true) (hN : HnC s q S P E) (hE : ¬ E = 0) : KrC s q size 0 E := fun w => by
  have b1 : (E == 0) = false := beq_eq_false_iff_ne.2 hE
  have hbA : Below w.heap.size w (w.alloc (.cells #[.string s, .int .i64 q] 91)) := (Below.refl _ _).alloc (Nat.le_refl _) _
  go_enter Tryz.func133, Tryz.ntmps133
  go_wp2_with (first
    | (go_at_call 56; (with_reducible refine (h _).mono ?_); rintro x w1 ⟨rfl, rfl⟩)
    | (go_at_call 108; (with_reducible refine (hN _).mono ?_); rintro x w2 ⟨rfl, hb2⟩; have hb3 := bel_call hbA hb2 (Nat.le_refl _)))
  go_returns
  exact ⟨rfl, hb3.alloc hb3.size _⟩
set_option maxRecDepth 1000000 in
set_option maxHeartbeats 1000000 in
theorem kread_small {s S : ByteArray} {q size P least : Int} {f ww I F Wv : Nat} (h : KsC size true) (hh : KhC size f ww least) (hN : HnC s q S P 0) (hpf : PowC f F) (hpw : PowC ww Wv) (hI : ((Wv : Int) - 1) * (F : Int) = (I : Int)) (hW : 1 ≤ Wv) (hW2 : Wv ≤ 5000) (hI2 : I < 9300000000000000000) (hS : S.size = 0 ∨ 0 < S.size ∧ P < -400) : KrC s q size 0 0 := fun w => by
  have hbA : Below w.heap.size w (w.alloc (.cells #[.string s, .int .i64 q] 91)) := (Below.refl _ _).alloc (Nat.le_refl _) _
  rcases hS with hS | ⟨hS, hP⟩
  · have e1 : S.toList.isEmpty = true := empty_yes S hS
    clear hS
    go_enter Tryz.func133, Tryz.ntmps133
    go_wp2_with (first
      | (go_at_call 56; (with_reducible refine (h _).mono ?_); rintro x w1 ⟨rfl, rfl⟩)
      | (go_at_call 108; (with_reducible refine (hN _).mono ?_); rintro x w2 ⟨rfl, hb2⟩; have hb3 := bel_call hbA hb2 (Nat.le_refl _))
      | (go_at_call 57; (with_reducible refine (hh _).mono ?_); rintro x w1 ⟨rfl, rfl⟩)
      | (go_at_call_of 58 ((ww : Nat) : Int); (with_reducible refine (hpw _).mono ?_); rintro x w1 ⟨rfl, rfl⟩)
      | (go_at_call_of 58 ((f : Nat) : Int); (with_reducible refine (hpf _).mono ?_); rintro x w1 ⟨rfl, rfl⟩))
    go_returns
    exact ⟨rfl, hb3.alloc hb3.size _⟩
  · have e1 : S.toList.isEmpty = false := empty_no S hS
    clear hS
    go_enter Tryz.func133, Tryz.ntmps133
    go_wp2_with (first
      | (go_at_call 56; (with_reducible refine (h _).mono ?_); rintro x w1 ⟨rfl, rfl⟩)
      | (go_at_call 108; (with_reducible refine (hN _).mono ?_); rintro x w2 ⟨rfl, hb2⟩; have hb3 := bel_call hbA hb2 (Nat.le_refl _))
      | (go_at_call 57; (with_reducible refine (hh _).mono ?_); rintro x w1 ⟨rfl, rfl⟩)
      | (go_at_call_of 58 ((ww : Nat) : Int); (with_reducible refine (hpw _).mono ?_); rintro x w1 ⟨rfl, rfl⟩)
      | (go_at_call_of 58 ((f : Nat) : Int); (with_reducible refine (hpf _).mono ?_); rintro x w1 ⟨rfl, rfl⟩))
    go_returns
    exact ⟨rfl, hb3.alloc hb3.size _⟩
set_option maxRecDepth 1000000 in
set_option maxHeartbeats 1000000 in
theorem kread_great {s S : ByteArray} {q size P least : Int} {f ww I F Wv : Nat} (h : KsC size true) (hh : KhC size f ww least) (hN : HnC s q S P 0) (hpf : PowC f F) (hpw : PowC ww Wv) (hI : ((Wv : Int) - 1) * (F : Int) = (I : Int)) (hW : 1 ≤ Wv) (hW2 : Wv ≤ 5000) (hI2 : I < 9300000000000000000) (hS : 0 < S.size) (hP : 400 < P) : KrC s q size I 0 := fun w => by
  have hbA : Below w.heap.size w (w.alloc (.cells #[.string s, .int .i64 q] 91)) := (Below.refl _ _).alloc (Nat.le_refl _) _
  have e1 : S.toList.isEmpty = false := empty_no S hS
  clear hS
  go_enter Tryz.func133, Tryz.ntmps133
  go_wp2_with (first
    | (go_at_call 56; (with_reducible refine (h _).mono ?_); rintro x w1 ⟨rfl, rfl⟩)
    | (go_at_call 108; (with_reducible refine (hN _).mono ?_); rintro x w2 ⟨rfl, hb2⟩; have hb3 := bel_call hbA hb2 (Nat.le_refl _))
    | (go_at_call 57; (with_reducible refine (hh _).mono ?_); rintro x w1 ⟨rfl, rfl⟩)
    | (go_at_call_of 58 ((ww : Nat) : Int); (with_reducible refine (hpw _).mono ?_); rintro x w1 ⟨rfl, rfl⟩)
    | (go_at_call_of 58 ((f : Nat) : Int); (with_reducible refine (hpf _).mono ?_); rintro x w1 ⟨rfl, rfl⟩))
  go_returns
  exact ⟨rfl, hb3.alloc hb3.size _⟩
/-- A row that says a number, with so many digits at most. -/
def Rw (w : World) (v : Value) (a M : Nat) : Prop := ∃ (ao : Option Addr) (n c : Nat) (xs : List Nat), v = .slice ao n c ∧ Nm w 0 ao n c xs ∧ le xs = a ∧ n ≤ M
theorem Rw.below {w w' : World} {v : Value} {a M : Nat} (h : Rw w v a M) (b : Below w.heap.size w w') : Rw w' v a M := by
  obtain ⟨ao, n, c, xs, h1, h2, h3, h4⟩ := h
  exact ⟨ao, n, c, xs, h1, h2.below b, h3, h4⟩
theorem num_one : num (⟨#[49]⟩ : ByteArray).data.toList = 1 := by decide
set_option maxRecDepth 1000000 in
set_option maxHeartbeats 8000000 in
theorem kread_main {s S : ByteArray} {q size P least : Int} {f ww I F Wv F1 u v r J N : Nat} (h : KsC size true) (hh : KhC size f ww least) (hN : HnC s q S P 0) (hpf : PowC f F) (hpw : PowC ww Wv) (hpf1 : PowC ((f : Int) + 1) F1) (hI : ((Wv : Int) - 1) * (F : Int) = (I : Int)) (hW : 1 ≤ Wv) (hW2 : Wv ≤ 5000) (hI2 : I < 9300000000000000000)
    (hS : 0 < S.size) (hS2 : S.size ≤ 2000) (hP0 : -400 ≤ P) (hP : P ≤ 400) (hd : allD S.data.toList = true) (hNum : num S.data.toList = N) (hJ : J ≤ 1340) (hl0 : -1199 ≤ least) (hl1 : least ≤ 0) (hf1 : 1 ≤ f) (hf2 : f ≤ 52) (HFe : Hid (F = 2 ^ f)) (HF1e : Hid (F1 = 2 ^ (f + 1))) (hF2a : F1 ≤ 2 * F) (hF2b : 2 * F ≤ F1) (hF52 : F ≤ 4503599627370496) (hFI : F ≤ I) (HV0 : Hid (0 < v)) (HF : Hid (∀ a b k, RdI u v f a b k 0 → (k = 0 ∨ b * 2 ^ f ≤ a) → r = if I < (if rdM a b < 2 ^ f then rdM a b else k * 2 ^ f + rdM a b) then I else (if rdM a b < 2 ^ f then rdM a b else k * 2 ^ f + rdM a b)))
    (HA : Hid ((S.size : Int) < P → RdI u v f (N * 10 ^ (P - (S.size : Nat)).toNat) 1 (-least).toNat J)) (HB : Hid (¬ (S.size : Int) < P → RdI u v f N (10 ^ (((S.size : Nat) : Int) - P).toNat) (-least).toNat J)) (w : World) :
    Calls Tryz.prog 133 #[.agg #[.string s, .int .i64 q], .int .i64 size] w fun e w' => e = .returned (.tuple #[.int .u64 (r : Nat), .int .i64 0]) ∧ Below w.heap.size w w' := by
  have hbA : Below w.heap.size w (w.alloc (.cells #[.string s, .int .i64 q] 91)) := (Below.refl _ _).alloc (Nat.le_refl _) _
  have e1 : S.toList.isEmpty = false := empty_no S hS
  have hP0I : ¬ P < -400 := by omega
  have hPI : ¬ 400 < P := by omega
  go_enter Tryz.func133, Tryz.ntmps133
  go_upto_region 12 with (first
    | (go_at_call 56; (with_reducible refine (h _).mono ?_); rintro x w1 ⟨rfl, rfl⟩)
    | (go_at_call 108; (with_reducible refine (hN _).mono ?_); rintro x w2 ⟨rfl, hb2⟩; have hb3 := bel_call hbA hb2 (Nat.le_refl _))
    | (go_at_call 57; (with_reducible refine (hh _).mono ?_); rintro x w1 ⟨rfl, rfl⟩)
    | (go_at_call_of 58 ((ww : Nat) : Int); (with_reducible refine (hpw _).mono ?_); rintro x w1 ⟨rfl, rfl⟩)
    | (go_at_call_of 58 ((f : Nat) : Int); (with_reducible refine (hpf _).mono ?_); rintro x w1 ⟨rfl, rfl⟩))
  obtain ⟨W, hWe⟩ : ∃ W, w2.alloc (.cells #[.string S, .int .i64 P] 91) = W := ⟨_, rfl⟩
  have bX : BoxD W w2.heap.size (.string S) (.int .i64 P) := by rw [← hWe]; simp [BoxD, go_sem]
  have hbW : Below w.heap.size w W := by rw [← hWe]; exact hb3.alloc hb3.size _
  generalize w2.heap.size = X at *
  rw [hWe]
  clear hWe hb2 hb3 hbA h hh hN hpw
  obtain ⟨x0, x1, x2, x3⟩ := id bX
  have hd1 : allD (⟨#[49]⟩ : ByteArray).data.toList = true := by decide
  go_upto_if 66 with (first
    | (go_at_call_of 157 S; refine (kwhole_any S 0 _ hd (by omega) (by omega)).mono ?_; rintro e w4 ⟨⟨ao, n, c, rfl, hn, xs, hX1, hv1⟩, hb4⟩; have hn' : n ≤ 2000 := (by omega); clear hn; have bX4 := keepb hb4 bX; obtain ⟨a0, a1, a2, a3⟩ := id bX4; have hbW4 := bel_call hbW hb4 (Nat.le_refl _))
    | (go_at_call 157; refine (kwhole_any ⟨#[49]⟩ 0 _ hd1 (by decide) (by omega)).mono ?_; rintro e w5 ⟨⟨ao2, n2, c2, rfl, hn2, ys, hY1, hv2⟩, hb5⟩; have hn2' : n2 ≤ 1 := Nat.le_of_eq hn2; clear hn2; have bX5 := keepb hb5 bX4; obtain ⟨b0, b1, b2, b3⟩ := id bX5; have hX5 := (hX1.mono (Nat.zero_le _)).below hb5; have hbW5 := bel_call hbW4 hb5 (Nat.le_refl _); have hY5 := hY1.mono (Nat.zero_le _)))
  have HV1 : Hid (le xs = N) := by show _ = _; rw [hv1, hNum, Nat.pow_zero, Nat.mul_one]
  have HV2 : Hid (le ys = 1) := hv2
  clear hv1 hv2 hX1 hY1 hb4 hb5 bX bX4 a0 a1 a2 a3 x0 x1 x2 x3 hbW hbW4
  go_cut [12, 13, 66] (fun av bv gv wx => ∃ a b : Nat, Rw wx av a 3000 ∧ Rw wx bv b 3000 ∧ Below w.heap.size w wx ∧ Hid (RdI u v f a b (-least).toNat J))
  case first =>
    as_aux_lemma =>
    by_cases hlt : (S.size : Int) < P
    · obtain ⟨z, hz⟩ : ∃ z : Nat, P - (S.size : Int) = (z : Int) := ⟨(P - (S.size : Int)).toNat, by omega⟩
      have hK : ∀ w, Calls Tryz.prog 157 #[.string S, .int .i64 (P - (S.size : Int))] w fun e w' => (∃ ao n c, e = .returned (.slice ao n c) ∧ n = z + S.size ∧ ∃ xs, Nm w' w.heap.size ao n c xs ∧ le xs = num S.data.toList * 10 ^ z) ∧ Below w.heap.size w w' := fun w => by
        rw [hz]; exact kwhole_any S z w hd (by omega) (by omega)
      have HA2 : Hid (RdI u v f (N * 10 ^ z) 1 (-least).toNat J) := by
        have := HA.out hlt
        rw [hz, Int.toNat_natCast] at this
        exact this
      have hz2 : z ≤ 400 := by omega
      clear HA HB hz
      go_wp2_with (go_at_call 157; refine (hK _).mono ?_; rintro e w6 ⟨⟨ao6, n6, c6, rfl, hn6, zs, hZ1, hv6⟩, hb6⟩; have hn6' : n6 ≤ 3000 := (by omega); clear hn6)
      go_meet
      exact ⟨N * 10 ^ z, 1, ⟨_, _, _, zs, rfl, hZ1.mono (Nat.zero_le _), by rw [hv6, hNum], by omega⟩, ⟨_, _, _, ys, rfl, hY5.below hb6, HV2.out, by omega⟩, bel_call hbW5 hb6 (Nat.le_refl _), HA2⟩
    · obtain ⟨z, hz⟩ : ∃ z : Nat, (S.size : Int) - P = (z : Int) := ⟨((S.size : Int) - P).toNat, by omega⟩
      have hK : ∀ w, Calls Tryz.prog 157 #[.string ⟨#[49]⟩, .int .i64 ((S.size : Int) - P)] w fun e w' => (∃ ao n c, e = .returned (.slice ao n c) ∧ n = z + (⟨#[49]⟩ : ByteArray).size ∧ ∃ xs, Nm w' w.heap.size ao n c xs ∧ le xs = num (⟨#[49]⟩ : ByteArray).data.toList * 10 ^ z) ∧ Below w.heap.size w w' := fun w => by
        rw [hz]; exact kwhole_any ⟨#[49]⟩ z w hd1 (by decide) (by omega)
      have HB2 : Hid (RdI u v f N (10 ^ z) (-least).toNat J) := by
        have := HB.out (by omega)
        rw [hz, Int.toNat_natCast] at this
        exact this
      have hz2 : z ≤ 2400 := by omega
      clear HA HB hz
      go_wp2_with (go_at_call 157; refine (hK _).mono ?_; rintro e w6 ⟨⟨ao6, n6, c6, rfl, hn6, zs, hZ1, hv6⟩, hb6⟩; have hn6' : n6 ≤ 3000 := (by rw [show (⟨#[49]⟩ : ByteArray).size = 1 from rfl] at hn6; omega); clear hn6)
      go_meet
      exact ⟨N, 10 ^ z, ⟨_, _, _, xs, rfl, hX5.below hb6, HV1.out, by omega⟩, ⟨_, _, _, zs, rfl, hZ1.mono (Nat.zero_le _), by rw [hv6, num_one, Nat.one_mul], by omega⟩, bel_call hbW5 hb6 (Nat.le_refl _), HB2⟩
  case rest =>
  obtain ⟨a, b, ⟨ao3, n3, c3, al, rfl, hA3, hva, hn3⟩, ⟨ao4, n4, c4, bl, rfl, hB4, hvb, hn4⟩, hbc, HR⟩ := hcut
  have HVA : Hid (le al = a) := hva
  have HVB : Hid (le bl = b) := hvb
  rename World => W
  clear hva hvb hX5 hY5 HV1 HV2 hbW5 bX5 b0 b1 b2 b3 HA HB hd hd1
  have hbpos : 0 < b := HR.out.pos
  obtain ⟨i0, hi, hz0, hz1, hz2⟩ := info_parts infoU8
  have hn4p : 0 < n4 := by
    rcases Nat.eq_zero_or_pos n4 with h0 | h0
    · exfalso
      have hl := hB4.len
      have : bl = [] := List.eq_nil_of_length_eq_zero (by omega)
      rw [this] at HVB
      have := HVB.out
      rw [le_nil] at this
      omega
    · exact h0
  obtain ⟨g4, rfl, -, hg4⟩ := hB4.head hn4p
  have hlen4 := hB4.len
  have ho0 : (W.alloc (.cells #[] 5)).ownsRow W.heap.size 5 1 (.slice (some ⟨W.heap.size, 0, none⟩) 0 0) 0 [] := World.ownsRow_made W #[] 0 (Nat.le_refl _) (by decide) rfl
  go_wp2_with (at_builtin; refine wpList_append_own _ rfl _ _ 122 rfl W.heap.size 5 i0 (.int .u8 0) 1 1 Tryz.underlying122 hi hz0 hz1 hz2 rfl (by decide) _ _ _ rfl ho0 ⟨g4, 0, none⟩ n4 c4 (cn bl) rfl ?c1 (hB4.news _) (Nm.ones bl) ?c3 ?c4 ?c5 ?_)
  case c1 => rw [cn_len, hlen4, Nat.mul_one]
  case c3 => unfold maxLen; omega
  case c4 => omega
  case c5 => simp
  intro v' w1 hown' hgrow hv'
  obtain ⟨ao1, c1, rfl, hN1⟩ : ∃ ao1 c1, v' = .slice ao1 n4 c1 ∧ Nm w1 W.heap.size ao1 n4 c1 bl := by
    rcases hown'.2 with ⟨h1, h2⟩ | ⟨g1, cap, cur, h1, hrest⟩
    · omega
    · subst h1
      exact ⟨_, _, rfl, hown', hB4.lim⟩
  have hb1 : Below W.heap.size W w1 := ((Below.refl _ _).alloc (Nat.le_refl _) _).grown hgrow (by simp) (own_ge ho0)
  have hA1 := hA3.below hb1
  have hB1 := hB4.below hb1
  have hbc1 := bel_call hbc hb1 (Nat.le_refl _)
  have hT1 := hN1.mono (Nat.zero_le _)
  clear hown' hgrow hv' hi hz0 hz1 hz2 ho0 hN1 hb1 hA3 hB4 hbc hlen4 hg4
  generalize hao4 : (some ⟨g4, 0, none⟩ : Option Addr) = ao4 at *
  clear hao4
  go_wp2
  go_loopg [14, 15] (f + 1) (fun g tv iv wr => ∃ (i n5 c5 : Nat) (ao5 : Option Addr) (tl : List Nat), iv = .int .i64 i ∧ tv = .slice ao5 n5 c5 ∧ i + g = f + 1 ∧ n5 ≤ 3000 + i ∧ Nm wr 0 ao5 n5 c5 tl ∧ Below w1.heap.size w1 wr ∧ Hid (le tl = b * 2 ^ i))
  case atStart => exact ⟨0, n4, c1, ao1, bl, rfl, rfl, by omega, by omega, hT1, Below.refl _ _, by show _ = _; rw [HVB.out, Nat.pow_zero, Nat.mul_one]⟩
  case round =>
    obtain ⟨i, n5, c5, ao5, tl, rfl, rfl, hig, hn5, hT5, hb5, HT⟩ := hrel
    by_cases hif : i ≤ f
    · have hiI : (i : Int) ≤ f := by omega
      have hTm := htimes_2 0 ao5 n5 c5 tl wr hT5 (by omega)
      go_wp2_with (go_at_call 102; refine hTm.mono ?_; rintro e w2 ⟨⟨ao6, n6, c6, rfl, hn6, ds, hN6, hd6⟩, hb6⟩)
      have HT2 : Hid (le ds = b * 2 ^ (i + 1)) := by show _ = _; rw [hd6, HT.out, Nat.pow_succ, Nat.mul_assoc]
      have hb56 := bel_call hb5 hb6 (Nat.le_refl _)
      clear hd6 HT hTm
      go_roundg (gk - 1)
      case measure => omega
      case rel => exact ⟨i + 1, n6, c6, ao6, ds, by go_num, rfl, by omega, by omega, hN6.mono (Nat.zero_le _), hb56, HT2⟩
    · have hiI : ¬ (i : Int) ≤ f := by omega
      have HT2 : Hid (le tl = b * 2 ^ (f + 1)) := by show _ = _; rw [HT.out]; congr 2; omega
      have hA2 := hA1.below hb5
      have hB2 := hB1.below hb5
      have hbc2 := bel_call hbc1 hb5 (Nat.le_refl _)
      have hn5' : n5 ≤ 3100 := by omega
      clear HT hA1 hB1 hbc1 hb5 hig hn5 hT1
      obtain ⟨W2, rfl⟩ : ∃ W2, W2 = wr := ⟨_, rfl⟩
      go_wp2
      go_loopg [13, 14, 16] J (fun g bv tv ev wr => ∃ (j n6 c6 n7 c7 : Nat) (ao6 ao7 : Option Addr) (bl' tl' : List Nat), bv = .slice ao6 n6 c6 ∧ tv = .slice ao7 n7 c7 ∧ ev = .int .i64 j ∧ j + g = J ∧ n6 ≤ 3000 + j ∧ n7 ≤ 3100 + j ∧ Nm wr 0 ao6 n6 c6 bl' ∧ Nm wr 0 ao7 n7 c7 tl' ∧ Below W2.heap.size W2 wr ∧ Hid (RdI u v f a (le bl') ((-least).toNat + j) g ∧ le tl' = le bl' * 2 ^ (f + 1)))
      case atStart => exact ⟨0, n4, c4, n5, c5, ao4, ao5, bl, tl, rfl, rfl, rfl, by omega, by omega, by omega, hB2, hT5, Below.refl _ _, by rw [HVB.out]; exact HR.out, by rw [HT2.out, HVB.out]⟩
      case round =>
        obtain ⟨j, n6, c6, n7, c7, ao6, ao7, bl', tl', rfl, rfl, rfl, hjg, hn6, hn7, hB6, hT7, hb7, HQ⟩ := hrel
        have hLs := kless_any wr (hA2.below hb7) hT7 (by omega) (by omega)
        by_cases hlt : le al < le tl'
        · rw [decide_eq_true hlt] at hLs
          have HQ2 : Hid (RdI u v f a (le bl') ((-least).toNat + j) 0 ∧ le tl' = le bl' * 2 ^ (f + 1)) := ⟨HQ.out.1.drop (by rw [← HQ.out.2, ← HVA.out]; exact hlt), HQ.out.2⟩
          have hA7 := hA2.below hb7
          have hbc7 := bel_call hbc2 hb7 (Nat.le_refl _)
          clear HQ hlt hA2 hB2 hT5 HT2 HR hb7 hbc2
          obtain ⟨W3, rfl⟩ : ∃ W3, W3 = wr := ⟨_, rfl⟩
          go_wp2_with (go_at_call 158; refine hLs.mono ?_; rintro e w2 ⟨rfl, hw2⟩; subst w2)
          clear hLs
          have hK0 : (-least).toNat + j ≤ 3000 := by omega
          have HE : Hid ((j : Int) = (((-least).toNat + j : Nat) : Int) + least) := by show _ = _; omega
          obtain ⟨K0, hK0e⟩ : ∃ K0, (-least).toNat + j = K0 := ⟨_, rfl⟩
          rw [hK0e] at HQ2 hK0 HE
          clear hK0e
          obtain ⟨b3, hb3e⟩ : ∃ b3, le bl' = b3 := ⟨_, rfl⟩
          rw [hb3e] at HQ2
          have HB3 : Hid (le bl' = b3) := hb3e
          have HT3 : Hid (le tl' = b3 * 2 ^ (f + 1)) := HQ2.out.2
          have HR3 : Hid (RdI u v f a b3 K0 0) := HQ2.out.1
          clear hb3e HQ2 HVB
          go_loopg [12, 16, 17] K0 (fun g av ev tv wr => ∃ (k n8 c8 : Nat) (ao8 : Option Addr) (al' : List Nat), av = .slice ao8 n8 c8 ∧ ev = .int .i64 ((k : Int) + least) ∧ k = g ∧ k ≤ 3000 ∧ n8 + k ≤ 6000 ∧ Nm wr 0 ao8 n8 c8 al' ∧ Below W3.heap.size W3 wr ∧ Hid (RdI u v f (le al') b3 k 0))
          case atStart => exact ⟨K0, n3, c3, ao3, al, rfl, by rw [HE.out], rfl, hK0, by omega, hA7, Below.refl _ _, by rw [HVA.out]; exact HR3.out⟩
          case round =>
            obtain ⟨k, n8, c8, ao8, al', rfl, rfl, rfl, hk3, hn8, hA8, hb8, HR4'⟩ := hrel
            have hB8 := hB6.below hb8
            have hT8 := hT7.below hb8
            have hbc8 := bel_call hbc7 hb8 (Nat.le_refl _)
            by_cases hk : 0 < k
            · have hkI : least < (k : Int) + least := by omega
              have hTa := htimes_2 0 ao8 n8 c8 al' wr hA8 (by omega)
              go_upto_region 28 with (go_at_call 102; refine hTa.mono ?_; rintro e w9 ⟨⟨ao9, n9, c9, rfl, hn9, tw9, hN9, htw9⟩, hb9⟩)
              have HTW : Hid (le tw9 = le al' * 2) := htw9
              have hLs2 := kless_any w9 (hN9.mono (Nat.zero_le _)) (hT8.below hb9) (by omega) (by omega)
              clear htw9 hTa
              by_cases hlt2 : le tw9 < le tl'
              · rw [decide_eq_true hlt2] at hLs2
                obtain ⟨k', rfl⟩ : ∃ k', k = k' + 1 := ⟨k - 1, by omega⟩
                have HR5 : Hid (RdI u v f (le tw9) b3 k' 0) := by
                  show RdI _ _ _ _ _ _ _
                  rw [HTW.out]
                  exact HR4'.out.dn (by rw [← HTW.out, ← HT3.out]; exact hlt2)
                have hb89 := bel_call hb8 hb9 (Nat.le_refl _)
                clear HR4' HTW hlt2 HT3 HR3
                go_wp2_with (go_at_call 158; refine hLs2.mono ?_; rintro e w2 ⟨rfl, hw2⟩; subst w2)
                go_roundg k'
                case measure => omega
                case rel => exact ⟨k', n9, c9, ao9, tw9, rfl, by go_num, rfl, by omega, by omega, hN9.mono (Nat.zero_le _), hb89, HR5⟩
              · rw [decide_eq_false hlt2] at hLs2
                have HR4 : Hid (RdI u v f (le al') b3 k 0 ∧ (k = 0 ∨ b3 * 2 ^ f ≤ le al')) := by
                  refine ⟨HR4'.out, .inr ?_⟩
                  have h1 := HTW.out
                  have h2 := HT3.out
                  rw [Nat.pow_succ, ← Nat.mul_assoc] at h2
                  omega
                replace hA8 := hA8.below hb9
                replace hB8 := hB8.below hb9
                replace hbc8 := bel_call hbc8 hb9 (Nat.le_refl _)
                clear HR4' HTW hlt2 hT8 hb9 hN9
                obtain ⟨wr, rfl⟩ : ∃ wr', wr' = w9 := ⟨_, rfl⟩
                go_upto_region 31 with (go_at_call 158; refine hLs2.mono ?_; rintro e w2 ⟨rfl, hw2⟩; subst w2)
                clear hLs2
                as_aux_lemma =>
                have hv0' : 0 < v := HV0.out
                have hn8p : 0 < n8 := by
                  rcases Nat.eq_zero_or_pos n8 with h0 | h0
                  · exfalso
                    have hl := hA8.len
                    have h1 : al' = [] := List.eq_nil_of_length_eq_zero (by omega)
                    have h2 := HR4.out.1.eq
                    rw [h1, le_nil, Nat.mul_zero, Nat.zero_mul] at h2
                    have h3 := Nat.mul_pos hv0' HR4.out.1.pos
                    omega
                  · exact h0
                have hDv := kdivide_any (f + 2) wr hA8 hB8 (by omega) (by omega) hn8p (by omega) (by omega) (by
                  rw [HB3.out]
                  refine Nat.lt_of_lt_of_le HR4.out.1.lt (Nat.mul_le_mul_left _ (Nat.pow_le_pow_right (by decide) (by omega))))
                rw [show ((f + 2 : Nat) : Int) = (f : Int) + 2 from rfl, HB3.out] at hDv
                obtain ⟨hq1, hq2⟩ := rdM_le HR4.out.1
                obtain ⟨A, hAe⟩ : ∃ A, le al' = A := ⟨_, rfl⟩
                rw [hAe] at hDv HR4 hq1 hq2
                have hMdef : rdM A b3 = if b3 < 2 * (A % b3) ∨ (¬ 2 * (A % b3) < b3 ∧ A / b3 % 2 = 1) then A / b3 + 1 else A / b3 := rfl
                have HMd : Hid (rdM A b3 = if b3 < 2 * (A % b3) ∨ (¬ 2 * (A % b3) < b3 ∧ A / b3 % 2 = 1) then A / b3 + 1 else A / b3) := hMdef
                have HFin : Hid (r = if I < (if rdM A b3 < 2 ^ f then rdM A b3 else k * 2 ^ f + rdM A b3) then I else (if rdM A b3 < 2 ^ f then rdM A b3 else k * 2 ^ f + rdM A b3)) := HF.out A b3 k HR4.out.1 HR4.out.2
                rw [← HF1e.out] at hq1 hq2
                rw [← HFe.out] at HFin
                clear hMdef HR4 hAe HR3 HT3 HF HVA HV0 hv0' hA8 HE
                generalize hM0 : A / b3 = M0 at *
                generalize hR0 : A % b3 = R0 at *
                generalize hM1 : rdM A b3 = M1 at *
                clear hM0 hR0 hM1
                have hq53 : M0 ≤ 9007199254740992 := by omega
                have hm53 : M1 ≤ 9007199254740992 := by omega
                go_upto_region 32 with (go_at_call 159; refine hDv.mono ?_; rintro e w5 ⟨⟨aoR, cR, rfl, rl, hRR, hrl⟩, hb5⟩)
                have HRL : Hid (le rl = R0) := hrl
                have hB9 := hB8.below hb5
                have hbc9 := bel_call hbc8 hb5 (Nat.le_refl _)
                have hTw := htimes_2 0 aoR n8 cR rl w5 hRR (by omega)
                clear hrl hDv hB8 hbc8 hb5
                go_upto_region 33 with (go_at_call 102; refine hTw.mono ?_; rintro e w6 ⟨⟨aoT, nT, cT, rfl, hnT, tw, hTT, htw⟩, hb6⟩)
                have hB10 := hB9.below hb6
                have hbc10 := bel_call hbc9 hb6 (Nat.le_refl _)
                have hL1 := kless_any w6 hB10 (hTT.mono (Nat.zero_le _)) (by omega) (by omega)
                have hL2 := kless_any w6 (hTT.mono (Nat.zero_le _)) hB10 (by omega) (by omega)
                rw [HB3.out, htw, HRL.out, Nat.mul_comm R0 2] at hL1 hL2
                clear HB3 htw HRL hTw hB9 hbc9 hb6 hTT hB10 hRR
                obtain ⟨up, hup⟩ : ∃ up : Bool, up = (decide (b3 < 2 * R0) || (!decide (2 * R0 < b3) && decide (M0 % 2 = 1))) := ⟨_, rfl⟩
                have HUP : Hid (up = (decide (b3 < 2 * R0) || (!decide (2 * R0 < b3) && decide (M0 % 2 = 1)))) := hup
                have HM1 : Hid (M1 = if up = true then M0 + 1 else M0) := by
                  show _ = _
                  rw [HMd.out, hup]
                  by_cases h1 : b3 < 2 * R0
                  · rw [if_pos (.inl h1), decide_eq_true h1]; rfl
                  · by_cases h2 : 2 * R0 < b3
                    · rw [if_neg (by omega), decide_eq_false h1, decide_eq_true h2]; rfl
                    · by_cases h3 : M0 % 2 = 1
                      · rw [if_pos (.inr ⟨h2, h3⟩), decide_eq_false h1, decide_eq_false h2, decide_eq_true h3]; rfl
                      · rw [if_neg (by omega), decide_eq_false h1, decide_eq_false h2, decide_eq_false h3]; rfl
                clear hup HMd
                go_cut [138] (fun gv wx => w6 = wx ∧ gv = .bool up)
                case first =>
                  as_aux_lemma =>
                  clear HM1 HFin
                  by_cases h1 : b3 < 2 * R0
                  · have e : up = true := by rw [HUP.out, decide_eq_true h1]; rfl
                    rw [decide_eq_true h1] at hL1
                    clear HUP hL2 h1
                    subst e
                    go_wp2_with (go_at_call 158; (with_reducible refine hL1.mono ?_); rintro e w7 ⟨rfl, hw7⟩; subst w7)
                    go_meet
                    exact ⟨rfl, rfl⟩
                  · rw [decide_eq_false h1] at hL1
                    by_cases h2 : 2 * R0 < b3
                    · have e : up = false := by rw [HUP.out, decide_eq_false h1, decide_eq_true h2]; rfl
                      rw [decide_eq_true h2] at hL2
                      clear HUP h1 h2
                      subst e
                      go_wp2_with (first
                        | (go_at_call 158; (with_reducible refine hL1.mono ?_); rintro e w7 ⟨rfl, hw7⟩; subst w7)
                        | (go_at_call 158; (with_reducible refine hL2.mono ?_); rintro e w7 ⟨rfl, hw7⟩; subst w7))
                      go_meet
                      exact ⟨rfl, rfl⟩
                    · have HE2 : Hid (up = decide (M0 % 2 = 1)) := by show _ = _; rw [HUP.out, decide_eq_false h1, decide_eq_false h2]; rfl
                      rw [decide_eq_false h2] at hL2
                      clear HUP h1 h2
                      go_wp2_with (first
                        | (go_at_call 158; (with_reducible refine hL1.mono ?_); rintro e w7 ⟨rfl, hw7⟩; subst w7)
                        | (go_at_call 158; (with_reducible refine hL2.mono ?_); rintro e w7 ⟨rfl, hw7⟩; subst w7))
                      go_meet
                      refine ⟨rfl, ?_⟩
                      rw [HE2.out]
                      by_cases h3 : M0 % 2 = 1
                      · rw [decide_eq_true h3, beq_iff_eq.2 (by omega)]
                      · rw [decide_eq_false h3, beq_eq_false_iff_ne.2 (by omega)]
                case rest =>
                obtain ⟨hw7, rfl⟩ := hcut
                subst hw7
                clear HUP hL1 hL2
                go_upto_if 138 with fail
                go_cut [18] (fun m wx => w6 = wx ∧ m = .int .u64 (M1 : Nat))
                case first =>
                  as_aux_lemma =>
                  clear HFin
                  cases up with
                  | true =>
                    have e : M1 = M0 + 1 := HM1.out
                    clear HM1
                    subst e
                    go_wp2
                    go_meet
                    exact ⟨rfl, by go_num⟩
                  | false =>
                    have e : M1 = M0 := HM1.out
                    clear HM1
                    subst e
                    go_wp2
                    go_meet
                    exact ⟨rfl, rfl⟩
                case rest =>
                obtain ⟨hw7, rfl⟩ := hcut
                subst hw7
                clear HM1
                obtain ⟨k2, m2, HKM, hk2, hm2, HLT, HCS⟩ : ∃ k2 m2 : Nat, Hid ((k2 + 1) * F + m2 = k * F + M1 + F) ∧ k2 ≤ 3001 ∧ m2 ≤ 9007199254740992 ∧ Hid (m2 < F ↔ M1 < F) ∧ Hid ((F1 ≤ M1 ∧ k2 = k + 1 ∧ m2 = M1 / 2) ∨ (¬ F1 ≤ M1 ∧ k2 = k ∧ m2 = M1)) := by
                  by_cases hc : F1 ≤ M1
                  · refine ⟨k + 1, M1 / 2, ?_, by omega, by omega, ?_, .inl ⟨hc, rfl, rfl⟩⟩
                    · show (k + 1 + 1) * F + M1 / 2 = k * F + M1 + F
                      have : M1 = 2 * F := by omega
                      rw [this, Nat.add_mul, Nat.add_mul]
                      omega
                    · show _ ↔ _
                      omega
                  · refine ⟨k, M1, ?_, by omega, by omega, ?_, .inr ⟨hc, rfl, rfl⟩⟩
                    · show (k + 1) * F + M1 = k * F + M1 + F
                      rw [Nat.add_mul]; omega
                    · show _ ↔ _
                      omega
                go_upto_if 145 with (go_at_call 58; (with_reducible refine (hpf1 _).mono ?_); rintro x w7 ⟨rfl, hw7⟩; subst w7)
                go_cut [16, 18, 145] (fun ev m gv wx => w6 = wx ∧ ev = .int .i64 ((k2 : Int) + least) ∧ m = .int .u64 (m2 : Nat))
                case first =>
                  as_aux_lemma =>
                  clear HFin HKM HLT
                  rcases HCS.out with ⟨h1, e2, e3⟩ | ⟨h1, e2, e3⟩
                  · have h1I : (F1 : Int) ≤ M1 := by omega
                    have h3I : (M1 : Int) / 2 = (m2 : Nat) := by omega
                    have HE3 : Hid (k2 = k + 1) := e2
                    clear HCS h1 e2 e3
                    go_wp2
                    go_meet
                    refine ⟨rfl, ?_, rfl⟩
                    rw [HE3.out]; go_num
                  · have h1I : ¬ (F1 : Int) ≤ M1 := by omega
                    clear HCS h1
                    subst e2 e3
                    go_wp2
                    go_meet
                    exact ⟨rfl, rfl, rfl⟩
                case rest =>
                obtain ⟨hw7, rfl, rfl⟩ := hcut
                subst hw7
                clear HCS
                by_cases hmF : m2 < F
                · have hmFI : (m2 : Int) < F := by omega
                  have HRr : Hid (r = m2) := by
                    show _ = _
                    have h1 := HLT.out.1 hmF
                    have h2 := HKM.out
                    have h3 := HFin.out
                    rw [if_pos h1, if_neg (by omega)] at h3
                    have h4 : m2 = M1 := by
                      rcases Nat.lt_or_ge M1 F1 with h5 | h5
                      · have h6 : (k2 + 1) * F = k2 * F + F := by rw [Nat.add_mul, Nat.one_mul]
                        have h7 : k2 = k ∨ k2 ≠ k := Classical.em _
                        rcases h7 with h7 | h7
                        · subst h7; omega
                        · exfalso
                          rcases Nat.lt_or_ge k2 k with h8 | h8
                          · have h9 : (k2 + 1) * F ≤ k * F := Nat.mul_le_mul_right _ h8
                            omega
                          · have h9 : (k + 1 + 1) * F ≤ (k2 + 1) * F := Nat.mul_le_mul_right _ (by omega)
                            rw [Nat.add_mul, Nat.add_mul] at h9
                            omega
                      · omega
                    rw [h3, h4]
                  clear HFin HKM HLT
                  go_wp2_with (go_at_call 58; (with_reducible refine (hpf _).mono ?_); rintro x w7 ⟨rfl, hw7⟩; subst w7)
                  go_returns
                  refine ⟨?_, hbc10⟩
                  rw [HRr.out]; rfl
                · have hmFI : ¬ (m2 : Int) < F := by omega
                  obtain ⟨PX, hPX⟩ : ∃ PX, k * F + M1 = PX := ⟨_, rfl⟩
                  obtain ⟨KF, hKF⟩ : ∃ KF, (k2 + 1) * F = KF := ⟨_, rfl⟩
                  have hKFI : ((k2 : Int) + 1) * (F : Int) = (KF : Int) := by rw [← hKF]; push_cast; rfl
                  have hKFb : KF ≤ 3002 * 4503599627370496 := by rw [← hKF]; exact Nat.mul_le_mul (by omega) hF52
                  have hsum : KF + m2 = PX + F := by have := HKM.out; rw [hKF, hPX] at this; exact this
                  have hPXI : (KF : Int) + (m2 : Int) - (F : Int) = (PX : Int) := by omega
                  have hPXb : PX ≤ 18000000000000000000 := by omega
                  have HRr : Hid (r = if I < PX then I else PX) := by
                    show _ = _
                    have h3 := HFin.out
                    rw [if_neg (fun h => hmF (HLT.out.2 h)), hPX] at h3
                    exact h3
                  clear HFin HKM HLT hKF hPX hsum
                  by_cases hIP : I < PX
                  · have hIPI : (I : Int) < PX := by omega
                    have HR5 : Hid (r = I) := by show _ = _; rw [HRr.out, if_pos hIP]
                    clear HRr hIP
                    go_wp2_with (go_at_call 58; (with_reducible refine (hpf _).mono ?_); rintro x w7 ⟨rfl, hw7⟩; subst w7)
                    go_returns
                    refine ⟨?_, hbc10⟩
                    rw [HR5.out]; rfl
                  · have hIPI : ¬ (I : Int) < PX := by omega
                    have HR5 : Hid (r = PX) := by show _ = _; rw [HRr.out, if_neg hIP]
                    clear HRr hIP
                    go_wp2_with (go_at_call 58; (with_reducible refine (hpf _).mono ?_); rintro x w7 ⟨rfl, hw7⟩; subst w7)
                    go_returns
                    refine ⟨?_, hbc10⟩
                    rw [HR5.out]; rfl
            · have hkI : ¬ least < (k : Int) + least := by omega
              have HR4 : Hid (RdI u v f (le al') b3 k 0 ∧ (k = 0 ∨ b3 * 2 ^ f ≤ le al')) := ⟨HR4'.out, .inl (by omega)⟩
              clear HR4' hT8
              as_aux_lemma =>
              have hv0' : 0 < v := HV0.out
              have hn8p : 0 < n8 := by
                rcases Nat.eq_zero_or_pos n8 with h0 | h0
                · exfalso
                  have hl := hA8.len
                  have h1 : al' = [] := List.eq_nil_of_length_eq_zero (by omega)
                  have h2 := HR4.out.1.eq
                  rw [h1, le_nil, Nat.mul_zero, Nat.zero_mul] at h2
                  have h3 := Nat.mul_pos hv0' HR4.out.1.pos
                  omega
                · exact h0
              have hDv := kdivide_any (f + 2) wr hA8 hB8 (by omega) (by omega) hn8p (by omega) (by omega) (by
                rw [HB3.out]
                refine Nat.lt_of_lt_of_le HR4.out.1.lt (Nat.mul_le_mul_left _ (Nat.pow_le_pow_right (by decide) (by omega))))
              rw [show ((f + 2 : Nat) : Int) = (f : Int) + 2 from rfl, HB3.out] at hDv
              obtain ⟨hq1, hq2⟩ := rdM_le HR4.out.1
              obtain ⟨A, hAe⟩ : ∃ A, le al' = A := ⟨_, rfl⟩
              rw [hAe] at hDv HR4 hq1 hq2
              have hMdef : rdM A b3 = if b3 < 2 * (A % b3) ∨ (¬ 2 * (A % b3) < b3 ∧ A / b3 % 2 = 1) then A / b3 + 1 else A / b3 := rfl
              have HMd : Hid (rdM A b3 = if b3 < 2 * (A % b3) ∨ (¬ 2 * (A % b3) < b3 ∧ A / b3 % 2 = 1) then A / b3 + 1 else A / b3) := hMdef
              have HFin : Hid (r = if I < (if rdM A b3 < 2 ^ f then rdM A b3 else k * 2 ^ f + rdM A b3) then I else (if rdM A b3 < 2 ^ f then rdM A b3 else k * 2 ^ f + rdM A b3)) := HF.out A b3 k HR4.out.1 HR4.out.2
              rw [← HF1e.out] at hq1 hq2
              rw [← HFe.out] at HFin
              clear hMdef HR4 hAe HR3 HT3 HF HVA HV0 hv0' hA8 HE
              generalize hM0 : A / b3 = M0 at *
              generalize hR0 : A % b3 = R0 at *
              generalize hM1 : rdM A b3 = M1 at *
              clear hM0 hR0 hM1
              have hq53 : M0 ≤ 9007199254740992 := by omega
              have hm53 : M1 ≤ 9007199254740992 := by omega
              go_upto_region 32 with (go_at_call 159; refine hDv.mono ?_; rintro e w5 ⟨⟨aoR, cR, rfl, rl, hRR, hrl⟩, hb5⟩)
              have HRL : Hid (le rl = R0) := hrl
              have hB9 := hB8.below hb5
              have hbc9 := bel_call hbc8 hb5 (Nat.le_refl _)
              have hTw := htimes_2 0 aoR n8 cR rl w5 hRR (by omega)
              clear hrl hDv hB8 hbc8 hb5
              go_upto_region 33 with (go_at_call 102; refine hTw.mono ?_; rintro e w6 ⟨⟨aoT, nT, cT, rfl, hnT, tw, hTT, htw⟩, hb6⟩)
              have hB10 := hB9.below hb6
              have hbc10 := bel_call hbc9 hb6 (Nat.le_refl _)
              have hL1 := kless_any w6 hB10 (hTT.mono (Nat.zero_le _)) (by omega) (by omega)
              have hL2 := kless_any w6 (hTT.mono (Nat.zero_le _)) hB10 (by omega) (by omega)
              rw [HB3.out, htw, HRL.out, Nat.mul_comm R0 2] at hL1 hL2
              clear HB3 htw HRL hTw hB9 hbc9 hb6 hTT hB10 hRR
              obtain ⟨up, hup⟩ : ∃ up : Bool, up = (decide (b3 < 2 * R0) || (!decide (2 * R0 < b3) && decide (M0 % 2 = 1))) := ⟨_, rfl⟩
              have HUP : Hid (up = (decide (b3 < 2 * R0) || (!decide (2 * R0 < b3) && decide (M0 % 2 = 1)))) := hup
              have HM1 : Hid (M1 = if up = true then M0 + 1 else M0) := by
                show _ = _
                rw [HMd.out, hup]
                by_cases h1 : b3 < 2 * R0
                · rw [if_pos (.inl h1), decide_eq_true h1]; rfl
                · by_cases h2 : 2 * R0 < b3
                  · rw [if_neg (by omega), decide_eq_false h1, decide_eq_true h2]; rfl
                  · by_cases h3 : M0 % 2 = 1
                    · rw [if_pos (.inr ⟨h2, h3⟩), decide_eq_false h1, decide_eq_false h2, decide_eq_true h3]; rfl
                    · rw [if_neg (by omega), decide_eq_false h1, decide_eq_false h2, decide_eq_false h3]; rfl
              clear hup HMd
              go_cut [138] (fun gv wx => w6 = wx ∧ gv = .bool up)
              case first =>
                as_aux_lemma =>
                clear HM1 HFin
                by_cases h1 : b3 < 2 * R0
                · have e : up = true := by rw [HUP.out, decide_eq_true h1]; rfl
                  rw [decide_eq_true h1] at hL1
                  clear HUP hL2 h1
                  subst e
                  go_wp2_with (go_at_call 158; (with_reducible refine hL1.mono ?_); rintro e w7 ⟨rfl, hw7⟩; subst w7)
                  go_meet
                  exact ⟨rfl, rfl⟩
                · rw [decide_eq_false h1] at hL1
                  by_cases h2 : 2 * R0 < b3
                  · have e : up = false := by rw [HUP.out, decide_eq_false h1, decide_eq_true h2]; rfl
                    rw [decide_eq_true h2] at hL2
                    clear HUP h1 h2
                    subst e
                    go_wp2_with (first
                      | (go_at_call 158; (with_reducible refine hL1.mono ?_); rintro e w7 ⟨rfl, hw7⟩; subst w7)
                      | (go_at_call 158; (with_reducible refine hL2.mono ?_); rintro e w7 ⟨rfl, hw7⟩; subst w7))
                    go_meet
                    exact ⟨rfl, rfl⟩
                  · have HE2 : Hid (up = decide (M0 % 2 = 1)) := by show _ = _; rw [HUP.out, decide_eq_false h1, decide_eq_false h2]; rfl
                    rw [decide_eq_false h2] at hL2
                    clear HUP h1 h2
                    go_wp2_with (first
                      | (go_at_call 158; (with_reducible refine hL1.mono ?_); rintro e w7 ⟨rfl, hw7⟩; subst w7)
                      | (go_at_call 158; (with_reducible refine hL2.mono ?_); rintro e w7 ⟨rfl, hw7⟩; subst w7))
                    go_meet
                    refine ⟨rfl, ?_⟩
                    rw [HE2.out]
                    by_cases h3 : M0 % 2 = 1
                    · rw [decide_eq_true h3, beq_iff_eq.2 (by omega)]
                    · rw [decide_eq_false h3, beq_eq_false_iff_ne.2 (by omega)]
              case rest =>
              obtain ⟨hw7, rfl⟩ := hcut
              subst hw7
              clear HUP hL1 hL2
              go_upto_if 138 with fail
              go_cut [18] (fun m wx => w6 = wx ∧ m = .int .u64 (M1 : Nat))
              case first =>
                as_aux_lemma =>
                clear HFin
                cases up with
                | true =>
                  have e : M1 = M0 + 1 := HM1.out
                  clear HM1
                  subst e
                  go_wp2
                  go_meet
                  exact ⟨rfl, by go_num⟩
                | false =>
                  have e : M1 = M0 := HM1.out
                  clear HM1
                  subst e
                  go_wp2
                  go_meet
                  exact ⟨rfl, rfl⟩
              case rest =>
              obtain ⟨hw7, rfl⟩ := hcut
              subst hw7
              clear HM1
              obtain ⟨k2, m2, HKM, hk2, hm2, HLT, HCS⟩ : ∃ k2 m2 : Nat, Hid ((k2 + 1) * F + m2 = k * F + M1 + F) ∧ k2 ≤ 3001 ∧ m2 ≤ 9007199254740992 ∧ Hid (m2 < F ↔ M1 < F) ∧ Hid ((F1 ≤ M1 ∧ k2 = k + 1 ∧ m2 = M1 / 2) ∨ (¬ F1 ≤ M1 ∧ k2 = k ∧ m2 = M1)) := by
                by_cases hc : F1 ≤ M1
                · refine ⟨k + 1, M1 / 2, ?_, by omega, by omega, ?_, .inl ⟨hc, rfl, rfl⟩⟩
                  · show (k + 1 + 1) * F + M1 / 2 = k * F + M1 + F
                    have : M1 = 2 * F := by omega
                    rw [this, Nat.add_mul, Nat.add_mul]
                    omega
                  · show _ ↔ _
                    omega
                · refine ⟨k, M1, ?_, by omega, by omega, ?_, .inr ⟨hc, rfl, rfl⟩⟩
                  · show (k + 1) * F + M1 = k * F + M1 + F
                    rw [Nat.add_mul]; omega
                  · show _ ↔ _
                    omega
              go_upto_if 145 with (go_at_call 58; (with_reducible refine (hpf1 _).mono ?_); rintro x w7 ⟨rfl, hw7⟩; subst w7)
              go_cut [16, 18, 145] (fun ev m gv wx => w6 = wx ∧ ev = .int .i64 ((k2 : Int) + least) ∧ m = .int .u64 (m2 : Nat))
              case first =>
                as_aux_lemma =>
                clear HFin HKM HLT
                rcases HCS.out with ⟨h1, e2, e3⟩ | ⟨h1, e2, e3⟩
                · have h1I : (F1 : Int) ≤ M1 := by omega
                  have h3I : (M1 : Int) / 2 = (m2 : Nat) := by omega
                  have HE3 : Hid (k2 = k + 1) := e2
                  clear HCS h1 e2 e3
                  go_wp2
                  go_meet
                  refine ⟨rfl, ?_, rfl⟩
                  rw [HE3.out]; go_num
                · have h1I : ¬ (F1 : Int) ≤ M1 := by omega
                  clear HCS h1
                  subst e2 e3
                  go_wp2
                  go_meet
                  exact ⟨rfl, rfl, rfl⟩
              case rest =>
              obtain ⟨hw7, rfl, rfl⟩ := hcut
              subst hw7
              clear HCS
              by_cases hmF : m2 < F
              · have hmFI : (m2 : Int) < F := by omega
                have HRr : Hid (r = m2) := by
                  show _ = _
                  have h1 := HLT.out.1 hmF
                  have h2 := HKM.out
                  have h3 := HFin.out
                  rw [if_pos h1, if_neg (by omega)] at h3
                  have h4 : m2 = M1 := by
                    rcases Nat.lt_or_ge M1 F1 with h5 | h5
                    · have h6 : (k2 + 1) * F = k2 * F + F := by rw [Nat.add_mul, Nat.one_mul]
                      have h7 : k2 = k ∨ k2 ≠ k := Classical.em _
                      rcases h7 with h7 | h7
                      · subst h7; omega
                      · exfalso
                        rcases Nat.lt_or_ge k2 k with h8 | h8
                        · have h9 : (k2 + 1) * F ≤ k * F := Nat.mul_le_mul_right _ h8
                          omega
                        · have h9 : (k + 1 + 1) * F ≤ (k2 + 1) * F := Nat.mul_le_mul_right _ (by omega)
                          rw [Nat.add_mul, Nat.add_mul] at h9
                          omega
                    · omega
                  rw [h3, h4]
                clear HFin HKM HLT
                go_wp2_with (go_at_call 58; (with_reducible refine (hpf _).mono ?_); rintro x w7 ⟨rfl, hw7⟩; subst w7)
                go_returns
                refine ⟨?_, hbc10⟩
                rw [HRr.out]; rfl
              · have hmFI : ¬ (m2 : Int) < F := by omega
                obtain ⟨PX, hPX⟩ : ∃ PX, k * F + M1 = PX := ⟨_, rfl⟩
                obtain ⟨KF, hKF⟩ : ∃ KF, (k2 + 1) * F = KF := ⟨_, rfl⟩
                have hKFI : ((k2 : Int) + 1) * (F : Int) = (KF : Int) := by rw [← hKF]; push_cast; rfl
                have hKFb : KF ≤ 3002 * 4503599627370496 := by rw [← hKF]; exact Nat.mul_le_mul (by omega) hF52
                have hsum : KF + m2 = PX + F := by have := HKM.out; rw [hKF, hPX] at this; exact this
                have hPXI : (KF : Int) + (m2 : Int) - (F : Int) = (PX : Int) := by omega
                have hPXb : PX ≤ 18000000000000000000 := by omega
                have HRr : Hid (r = if I < PX then I else PX) := by
                  show _ = _
                  have h3 := HFin.out
                  rw [if_neg (fun h => hmF (HLT.out.2 h)), hPX] at h3
                  exact h3
                clear HFin HKM HLT hKF hPX hsum
                by_cases hIP : I < PX
                · have hIPI : (I : Int) < PX := by omega
                  have HR5 : Hid (r = I) := by show _ = _; rw [HRr.out, if_pos hIP]
                  clear HRr hIP
                  go_wp2_with (go_at_call 58; (with_reducible refine (hpf _).mono ?_); rintro x w7 ⟨rfl, hw7⟩; subst w7)
                  go_returns
                  refine ⟨?_, hbc10⟩
                  rw [HR5.out]; rfl
                · have hIPI : ¬ (I : Int) < PX := by omega
                  have HR5 : Hid (r = PX) := by show _ = _; rw [HRr.out, if_neg hIP]
                  clear HRr hIP
                  go_wp2_with (go_at_call 58; (with_reducible refine (hpf _).mono ?_); rintro x w7 ⟨rfl, hw7⟩; subst w7)
                  go_returns
                  refine ⟨?_, hbc10⟩
                  rw [HR5.out]; rfl
        · rw [decide_eq_false hlt] at hLs
          obtain ⟨g', hg', hR2⟩ := HQ.out.1.up (by rw [← HQ.out.2, ← HVA.out]; exact hlt)
          have HR2 : Hid (RdI u v f a (le bl' * 2) ((-least).toNat + j + 1) g') := hR2
          have HQ3 : Hid (le tl' = le bl' * 2 ^ (f + 1)) := HQ.out.2
          clear hR2 HQ hlt
          have hTb := htimes_2 0 ao6 n6 c6 bl' wr hB6 (by omega)
          go_wp2_with (first
            | (go_at_call 158; refine hLs.mono ?_; rintro e w2 ⟨rfl, hw2⟩; subst w2)
            | (go_at_call_of 102 ao6; refine hTb.mono ?_; rintro e w3 ⟨⟨ao8, n8, c8, rfl, hn8, ds, hN8, hd8⟩, hb8⟩; have HD8 : Hid (le ds = le bl' * 2) := hd8; clear hd8; have hT8 := hT7.below hb8; have hTt := htimes_2 0 ao7 n7 c7 tl' w3 hT8 (by omega))
            | (go_at_call 102; refine hTt.mono ?_; rintro e w4 ⟨⟨ao9, n9, c9, rfl, hn9, es, hN9, hd9⟩, hb9⟩; have HD9 : Hid (le es = le tl' * 2) := hd9; clear hd9))
          have HQ4 : Hid (RdI u v f a (le ds) ((-least).toNat + (j + 1)) g' ∧ le es = le ds * 2 ^ (f + 1)) := by
            refine ⟨by rw [HD8.out]; exact HR2.out, ?_⟩
            rw [HD9.out, HD8.out, HQ3.out, Nat.mul_assoc, Nat.mul_assoc, Nat.mul_comm (2 ^ (f + 1))]
          have hb79 := bel_call (bel_call hb7 hb8 (Nat.le_refl _)) hb9 (Nat.le_refl _)
          have hN89 := (hN8.mono (Nat.zero_le _)).below hb9
          clear HR2 HQ3 HD8 HD9 hTb hTt
          go_roundg g'
          case measure => omega
          case rel => exact ⟨j + 1, n8, c8, n9, c9, ao8, ao9, ds, es, rfl, rfl, by go_num, by omega, by omega, by omega, hN89, hN9.mono (Nat.zero_le _), hb79, HQ4⟩
end Go.Proofs.YthbabhbfpcfenaaGreatDoor

/- The document's Read, whatever it is asked for. -/
namespace Go.Proofs.YthbabhbfpcfenaaGreatDoor
open Go.RowKit
set_option linter.unusedVariables false
set_option linter.unusedSimpArgs false

theorem ly_pow {size : Int} {f ww : Nat} {least : Int} {I : Nat} (h : Ly size f ww least I) : PowC (f : Nat) (2 ^ f : Nat) ∧ PowC (ww : Nat) (2 ^ ww : Nat) ∧ PowC ((f : Int) + 1) (2 ^ (f + 1) : Nat) ∧ (((2 ^ ww : Nat) : Int) - 1) * ((2 ^ f : Nat) : Int) = (I : Int) ∧ 1 ≤ 2 ^ ww ∧ 2 ^ ww ≤ 5000 ∧ 2 ^ f ≤ 4503599627370496 ∧ 2 ^ f ≤ I := by
  refine ⟨fun w => kpow_any f w ?_, fun w => kpow_any ww w ?_, fun w => ?_, ?_⟩
  · rcases h with ⟨-, rfl, -, -, -⟩ | ⟨-, rfl, -, -, -⟩ <;> decide
  · rcases h with ⟨-, -, rfl, -, -⟩ | ⟨-, -, rfl, -, -⟩ <;> decide
  · have := kpow_any (f + 1) w (by rcases h with ⟨-, rfl, -, -, -⟩ | ⟨-, rfl, -, -, -⟩ <;> decide)
    exact this
  · rcases h with ⟨-, rfl, rfl, -, rfl⟩ | ⟨-, rfl, rfl, -, rfl⟩ <;> decide
theorem kread_ok {s : ByteArray} {q size : Int} {f ww : Nat} {least : Int} {I r : Nat} (h : Ly size f ww least I) (hs : s.size ≤ 9223372036854775807) (hE : normE s q = 0) (hr : RD f I (un least) (normV s q) r) : KrC s q size r 0 := by
  obtain ⟨q0, q1, hI2, hI0, -, hf1, hf2, -, -⟩ := h.pk
  obtain ⟨p1, p2, p3, p4, p5, p6, p7, p8⟩ := ly_pow h
  have hS : KsC size true := fun w => ksized_yes h w
  have hH : KhC size f ww least := fun w => kshape_any h w
  have hN : HnC s q (oS (normV s q)) (oP (normV s q)) 0 := fun w => by
    have := hnorm_any s q w hs
    rw [hE] at this
    exact this
  have hu := un_pos least
  have hg := (nrm_norm s q).len
  generalize normV s q = v at *
  have hsz := oS_size v
  have hdec := o_dec v
  obtain ⟨Q1, hQ1⟩ : ∃ Q, Q = 9600 := ⟨_, rfl⟩
  obtain ⟨Q2, hQ2⟩ : ∃ Q, Q = 10400 := ⟨_, rfl⟩
  by_cases hv : v = 0
  · have h0 : r = 0 := hr.uniq hu (rd_small h hQ1 (by rw [hv]; exact pow_pos10 _))
    subst h0
    have hz : (oS v).size = 0 := by rw [hsz, hv, o_zero.1]; rfl
    exact kread_small hS hH hN p1 p2 p4 p5 p6 hI2 (.inl hz)
  · have hpos : 0 < (oS v).size := by
      rw [hsz]
      exact List.length_pos_iff.2 (hdec.ne hv)
    by_cases hlo : oP v < -400
    · have h0 : r = 0 := hr.uniq hu (rd_small h hQ1 (hdec.lt (by omega)))
      subst h0
      exact kread_small hS hH hN p1 p2 p4 p5 p6 hI2 (.inr ⟨hpos, hlo⟩)
    · by_cases hhi : 400 < oP v
      · have h0 : r = I := hr.uniq hu (rd_great h hQ2 (hdec.ge hv (by omega)))
        subst h0
        exact kread_great hS hH hN p1 p2 p4 p5 p6 hI2 hpos hhi
      · obtain ⟨J, hJ⟩ : ∃ J, J = 1340 := ⟨_, rfl⟩
        have hval : v = num (oL v) * 10 ^ (oP v - ((oL v).length : Nat) + 10000).toNat := hdec.val.symm
        obtain ⟨a1, a2⟩ := rdI_0 h hval (num_lt _ hdec.dig) (by omega) hdec.low hJ
        rw [← hsz] at a1 a2
        exact fun w => kread_main hS hH hN p1 p2 p3 p4 p5 p6 hI2 hpos (by omega) (by omega) (by omega) hdec.dig rfl (by omega) (by omega) (by omega) hf1 hf2 rfl rfl (by rw [Nat.pow_succ]; omega) (by rw [Nat.pow_succ]; omega) p7 p8 (Nat.pos_of_ne_zero hv) (fun a b k hR hk => hr.uniq hu (hR.fin hf1 hu (by omega) hk)) a1 a2 w
end Go.Proofs.YthbabhbfpcfenaaGreatDoor
