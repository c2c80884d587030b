/- KFacts, KWalkB, KWalkC, KWalkD: these texts in one. -/
import Derived.Test.YthbabhbfpcfenaaGreatDoorPkM12
import Derived.Test.YthbabhbfpcfenaaGreatDoorPkF10
import Derived.Test.YthbabhbfpcfenaaGreatDoorPkM7
/- Plain mathematics of the document's Read: what is doubled and halved on the way to a quotient; values beyond the patterns. -/
namespace Go.Proofs.YthbabhbfpcfenaaGreatDoor
open Go.RowKit
set_option linter.unusedVariables false
set_option linter.unusedSimpArgs false

/-- The value is a by b, times 2 to the power of k, in the least pattern's halves; so many doublings of b are left at most. -/
structure RdI (u v f a b k J : Nat) : Prop where
  eq : v * b = u * a * 2 ^ (k + 1)
  pos : 0 < b
  lt : a < b * 2 ^ (f + 1 + J)
theorem RdI.up {u v f a b k J : Nat} (h : RdI u v f a b k J) (hl : ¬ a < b * 2 ^ (f + 1)) : ∃ J', J = J' + 1 ∧ RdI u v f a (b * 2) (k + 1) J' := by
  cases J with
  | zero => exact absurd h.lt hl
  | succ J =>
    refine ⟨J, rfl, ?_, by have := h.pos; omega, ?_⟩
    · rw [← Nat.mul_assoc, h.eq, Nat.pow_succ 2 (k + 1), Nat.mul_assoc]
    · have := h.lt
      rw [Nat.mul_assoc, ← Nat.pow_succ']
      exact this
theorem RdI.drop {u v f a b k J : Nat} (h : RdI u v f a b k J) (hl : a < b * 2 ^ (f + 1)) : RdI u v f a b k 0 := ⟨h.eq, h.pos, hl⟩
theorem RdI.dn {u v f a b k : Nat} (h : RdI u v f a b (k + 1) 0) (hl : a * 2 < b * 2 ^ (f + 1)) : RdI u v f (a * 2) b k 0 := by
  refine ⟨?_, h.pos, hl⟩
  rw [h.eq, Nat.pow_succ 2 (k + 1), ← Nat.mul_assoc u a 2, Nat.mul_assoc (u * a), Nat.mul_comm (2 ^ (k + 1)) 2]
/-- How the document rounds a quotient. -/
def rdM (a b : Nat) : Nat := if b < 2 * (a % b) ∨ (¬ 2 * (a % b) < b ∧ a / b % 2 = 1) then a / b + 1 else a / b
theorem RdI.fin {u v f a b k I : Nat} (h : RdI u v f a b k 0) (hf : 1 ≤ f) (hu : 0 < u) (hI : 1 ≤ I) (hk : k = 0 ∨ b * 2 ^ f ≤ a) : RD f I u v (if I < (if rdM a b < 2 ^ f then rdM a b else k * 2 ^ f + rdM a b) then I else (if rdM a b < 2 ^ f then rdM a b else k * 2 ^ f + rdM a b)) :=
  RDf.rd hu hI (div_rd hf hu h.pos h.eq h.lt hk rfl)
theorem rdM_le {u v f a b k : Nat} (h : RdI u v f a b k 0) : a / b < 2 ^ (f + 1) ∧ rdM a b ≤ 2 ^ (f + 1) := by
  have : a / b < 2 ^ (f + 1) := Nat.div_lt_of_lt_mul h.lt
  refine ⟨this, ?_⟩
  unfold rdM
  split <;> omega
theorem ten_two {A B : Nat} (hA : A = 400) (hB : B = 1340) : (10 : Nat) ^ A ≤ 2 ^ B := by
  obtain ⟨C, hC⟩ : ∃ C, C = 134 := ⟨_, rfl⟩
  have h1 : (10 : Nat) ^ A ≤ 10 ^ (3 * C) := Nat.pow_le_pow_right (by decide) (by omega)
  have h2 : (10 : Nat) ^ (3 * C) ≤ 2 ^ (10 * C) := by
    rw [Nat.pow_mul, Nat.pow_mul]
    exact Nat.pow_le_pow_left (by decide) _
  exact Nat.le_trans h1 (Nat.le_trans h2 (Nat.pow_le_pow_right (by decide) (by omega)))
theorem two_ten {x A : Nat} (h : x ≤ 3 * A) : (2 : Nat) ^ x ≤ 10 ^ A := by
  refine Nat.le_trans (Nat.pow_le_pow_right (by decide) h) ?_
  rw [Nat.pow_mul]
  exact Nat.pow_le_pow_left (by decide) _
theorem pa_great {size : Int} {f ww : Nat} {least : Int} {I C : Nat} (h : Ly size f ww least I) (hC : C = 1024) : pa f (I - 1) ≤ 2 ^ ((1 - least).toNat + C) := by
  have hm := pm_lt f (I - 1)
  have h1 : 2 * pm f (I - 1) + 1 ≤ 2 ^ (f + 2) := by rw [Nat.pow_succ 2 (f + 1)]; omega
  have h2 : f + 2 + pk f (I - 1) ≤ (1 - least).toNat + C := by
    rw [hC]
    rcases h with ⟨-, rfl, -, rfl, rfl⟩ | ⟨-, rfl, -, rfl, rfl⟩
    · have : pk 23 (2139095040 - 1) = 253 := by decide
      rw [this]; decide
    · have : pk 52 (9218868437227405312 - 1) = 2045 := by decide
      rw [this]; decide
  unfold pa
  refine Nat.le_trans (Nat.mul_le_mul_right _ h1) ?_
  rw [← Nat.pow_add]
  exact Nat.pow_le_pow_right (by decide) h2
/-- The beginning. -/
theorem rdI_0 {size : Int} {f ww : Nat} {least : Int} {I : Nat} (h : Ly size f ww least I) {v N l : Nat} {p : Int} (hv : v = N * 10 ^ (p - l + 10000).toNat) (hN : N < 10 ^ l) (hp : p ≤ 400) (hl : -10000 ≤ p - l) {J : Nat} (hJ : J = 1340) :
    ((l : Int) < p → RdI (un least) v f (N * 10 ^ (p - l).toNat) 1 (-least).toNat J) ∧ (¬ (l : Int) < p → RdI (un least) v f N (10 ^ ((l : Int) - p).toNat) (-least).toNat J) := by
  obtain ⟨q0, q1, -, -, -, -, -, -, -⟩ := h.pk
  obtain ⟨K, hK⟩ : ∃ K, K = 10000 := ⟨_, rfl⟩
  have hun := un_ten hK least (by omega) (by omega)
  have ek : (1 - least).toNat = (-least).toNat + 1 := by omega
  rw [ek] at hun
  obtain ⟨A, hA⟩ : ∃ A, A = 400 := ⟨_, rfl⟩
  have h400 := ten_two hA hJ
  have hbig : ∀ x b : Nat, x < b * 10 ^ A → x < b * 2 ^ (f + 1 + J) := fun x b hx => by
    refine Nat.lt_of_lt_of_le hx (Nat.mul_le_mul_left _ (Nat.le_trans h400 (Nat.pow_le_pow_right (by decide) (by omega))))
  refine ⟨fun hlt => ⟨?_, by decide, hbig _ _ ?_⟩, fun hge => ⟨?_, pow_pos10 _, hbig _ _ ?_⟩⟩
  · rw [val_up hK hv hlt, ← hun]
    rw [← Nat.mul_assoc, Nat.mul_comm (N * 10 ^ (p - l).toNat)]
  · rw [Nat.one_mul]
    have h1 := Nat.mul_lt_mul_of_pos_right hN (pow_pos10 (p - l).toNat)
    rw [← Nat.pow_add] at h1
    exact Nat.lt_of_lt_of_le h1 (Nat.pow_le_pow_right (by decide) (by omega))
  · rw [val_dn hK hv (by omega) hl, ← hun, ← Nat.mul_assoc, Nat.mul_comm N]
  · refine Nat.lt_of_lt_of_le hN ?_
    rw [← Nat.pow_add]
    exact Nat.pow_le_pow_right (by decide) (by omega)
theorem rd_small {size : Int} {f ww : Nat} {least : Int} {I : Nat} (h : Ly size f ww least I) {v Q : Nat} (hQ : Q = 9600) (hv : v < 10 ^ Q) : RD f I (un least) v 0 := by
  obtain ⟨q0, q1, -, hI, -, -, -, -, -⟩ := h.pk
  rw [RD_zero (by omega)]
  obtain ⟨K, hK⟩ : ∃ K, K = 10000 := ⟨_, rfl⟩
  obtain ⟨A, hA⟩ : ∃ A, A = 400 := ⟨_, rfl⟩
  have hun := un_ten hK least (by omega) (by omega)
  have h2 : 2 ^ (1 - least).toNat ≤ 10 ^ A := two_ten (by omega)
  have h3 : 10 ^ K ≤ un least * 10 ^ A := by rw [← hun]; exact Nat.mul_le_mul_left _ h2
  have h4 : 10 ^ K = 10 ^ Q * 10 ^ A := by rw [← Nat.pow_add]; congr 1; omega
  rw [h4] at h3
  have := Nat.le_of_mul_le_mul_right h3 (pow_pos10 A)
  omega
theorem rd_great {size : Int} {f ww : Nat} {least : Int} {I : Nat} (h : Ly size f ww least I) {v Q : Nat} (hQ : Q = 10400) (hv : 10 ^ Q ≤ v) : RD f I (un least) v I := by
  obtain ⟨q0, q1, -, hI, -, -, -, -, -⟩ := h.pk
  obtain ⟨K, hK⟩ : ∃ K, K = 10000 := ⟨_, rfl⟩
  obtain ⟨A, hA⟩ : ∃ A, A = 400 := ⟨_, rfl⟩
  obtain ⟨C, hC⟩ : ∃ C, C = 1024 := ⟨_, rfl⟩
  have hun := un_ten hK least (by omega) (by omega)
  have h2 := pa_great h hC
  rw [Nat.pow_add] at h2
  have h3 : pa f (I - 1) * un least ≤ 2 ^ C * 10 ^ K := by
    rw [← hun]
    refine Nat.le_trans (Nat.mul_le_mul_right _ h2) (Nat.le_of_eq ?_)
    rw [Nat.mul_comm (2 ^ (1 - least).toNat), Nat.mul_assoc, Nat.mul_comm (2 ^ (1 - least).toNat)]
  have h5 : (2 : Nat) ^ C < 10 ^ A := Nat.lt_of_lt_of_le (Nat.pow_lt_pow_right (by decide) (Nat.lt_succ_self C)) (two_ten (by omega))
  have h4 : 10 ^ Q = 10 ^ A * 10 ^ K := by rw [← Nat.pow_add]; congr 1; omega
  have h6 := Nat.mul_lt_mul_of_pos_right h5 (pow_pos10 K)
  rw [h4] at hv
  refine ⟨Nat.le_refl _, .inr ?_, .inl rfl⟩
  unfold TG
  omega
end Go.Proofs.YthbabhbfpcfenaaGreatDoor

/- The document's whole: the row of some digits, and noughts. -/
namespace Go.Proofs.YthbabhbfpcfenaaGreatDoor
open Go.RowKit
set_option linter.unusedVariables false
set_option linter.unusedSimpArgs false

set_option maxRecDepth 1000000 in
set_option maxHeartbeats 800000 in
theorem kwhole_any (S : ByteArray) (z : Nat) (w : World) (hd : allD S.data.toList = true) (hS : S.size ≤ 20000) (hz : z ≤ 20000) :
    Calls Tryz.prog 157 #[.string S, .int .i64 z] w fun e w' => (∃ ao n c, e = .returned (.slice ao n c) ∧ n = z + S.size ∧ ∃ xs, Nm w' w.heap.size ao n c xs ∧ le xs = num S.data.toList * 10 ^ z) ∧ Below w.heap.size w w' := by
  obtain ⟨i0, hi, hz0, hz1, hz2⟩ := info_parts infoU8
  have HD : Hid (∀ j (h : j < S.size), 48 ≤ (S[j]'h).toNat ∧ (S[j]'h).toNat ≤ 57 ∧ S.data.toList.drop j = S[j]'h :: S.data.toList.drop (j + 1)) := fun j h => by
    have hl : j < S.data.toList.length := by rw [list_len]; exact h
    have := (isD_iff _).1 (allD_mem hd (List.getElem_mem hl))
    exact ⟨this.1, this.2, List.drop_eq_getElem_cons hl⟩
  have HL : Hid (∀ j, (S.data.toList.drop j).length = S.size - j) := fun j => by rw [List.length_drop, list_len]
  have H0 : Hid (num (S.data.toList.drop S.size) = 0) := by
    show _ = _
    rw [List.drop_of_length_le (by rw [list_len]; exact Nat.le_refl _)]; rfl
  have HW : Hid (∀ (xs : List Nat) (j : Nat) (h : j < S.size), xs.length = z + (S.size - (j + 1)) → le xs = num (S.data.toList.drop (j + 1)) * 10 ^ z → le (xs ++ [(S[j]'h).toNat - 48]) = num (S.data.toList.drop j) * 10 ^ z) := fun xs j h h1 h2 => by
    rw [(HD.out j h).2.2]
    exact whole_step (by rw [h1, HL.out]) h2
  go_enter Tryz.func157, Tryz.ntmps157
  go_wp2_with (at_make; refine wpList_make_full _ rfl _ _ 122 rfl w.heap.size 5 i0 (.int .u8 0) 1 Tryz.underlying122 hi hz0 hz1 .i64 .i64 _ _ z rfl rfl ?c1 ?c2 ?c3 ?c4 ?c5 ?_)
  case c1 => rfl
  case c2 => rfl
  case c3 => rw [hz2]; omega
  case c4 => unfold maxLen; omega
  case c5 => exact Nat.le_refl _
  intro w1 hown hgrow
  have hN : Nm w1 w.heap.size (some ⟨w.heap.size, 0, none⟩) z z (List.replicate z 0) := by
    refine ⟨?_, fun x hx => by rw [List.eq_of_mem_replicate hx]; decide⟩
    rw [toList_madeCells_one] at hown
    simpa [cn] using hown
  have hb1 : Below w.heap.size w w1 := (Below.refl _ _).grown hgrow (Nat.le_refl _) (fun k hk => by cases hk)
  have HZ : Hid (le (List.replicate z 0) = 0) := le_zeros z
  clear hown hgrow
  go_wp2
  go_loopg [5, 6] S.size (fun g v iv wr => ∃ (j n c : Nat) (ao : Option Addr) (xs : List Nat), iv = .int .i64 ((j : Int) - 1) ∧ v = .slice ao n c ∧ j = g ∧ j ≤ S.size ∧ n ≤ 50000 ∧ Hid (n = z + (S.size - j)) ∧ Nm wr w.heap.size ao n c xs ∧ Below w.heap.size w wr ∧ Hid (le xs = num (S.data.toList.drop j) * 10 ^ z))
  case atStart => exact ⟨S.size, z, z, _, _, by go_num, rfl, rfl, Nat.le_refl _, by omega, by show _ = _; omega, hN, hb1, by show _ = _; rw [HZ.out, H0.out, Nat.zero_mul]⟩
  case round =>
    obtain ⟨j, n, c, ao, xs, rfl, rfl, rfl, hjS, hn50, hn, hL, hbl, HV⟩ := hrel
    clear HZ hN hb1
    rcases Nat.eq_zero_or_pos j with hj0 | hj0
    · subst hj0
      have HF : Hid (le xs = num S.data.toList * 10 ^ z) := HV.out
      clear HV HD HL H0 HW
      go_wp2
      go_ret
      exact ⟨⟨ao, n, c, rfl, hn.out, xs, hL, HF.out⟩, hbl⟩
    · obtain ⟨i, rfl⟩ : ∃ i, j = i + 1 := ⟨j - 1, by omega⟩
      have hiS : i < S.size := by omega
      have hiI : ((i + 1 : Nat) : Int) - 1 = (i : Int) := by omega
      rw [hiI]
      obtain ⟨d0, d1, -⟩ := HD.out i hiS
      have HV2 : Hid (le (xs ++ [(S[i]'hiS).toNat - 48]) = num (S.data.toList.drop i) * 10 ^ z) := HW.out xs i hiS (by rw [hL.len]; exact hn.out) HV.out
      clear HV HD HL H0 HW
      obtain ⟨r, hr⟩ : ∃ r, (S[i]'hiS).toNat - 48 = r := ⟨_, rfl⟩
      have hr10 : r < 10 := by omega
      have hn2 : Hid (n + 1 = z + (S.size - i)) := by show _ = _; have := hn.out; omega
      have hn51 : n + 1 ≤ 50000 := by have := hn2.out; omega
      clear hn
      have hrI : ((S[i]'hiS).toNat : Int) - 48 = (r : Int) := by omega
      rw [hr] at HV2
      have d2 : (S[i]'hiS).toNat < 256 := UInt8.toNat_lt _
      have hsz := hbl.size
      go_wp2_with (at_builtin; refine wpList_append_own _ rfl _ _ 122 rfl w.heap.size 5 i0 (.int .u8 0) 1 1 Tryz.underlying122 hi hz0 hz1 hz2 rfl (by decide) _ _ _ rfl (hL.own.alloc _) ⟨wr.heap.size, 0, none⟩ 1 1 [.int .u8 (r : Int)] rfl rfl ?c1 ?c2 ?c3 ?c4 ?c5 ?_)
      case c1 =>
        intro k u hk
        match k, hk with
        | 0, hk => simp at hk; subst hk; simp [Addr.add]
      case c2 => intro u hu; simp at hu; subst hu; rfl
      case c3 => unfold maxLen; omega
      case c4 => omega
      case c5 => simp; omega
      intro v' w2 hown' hgrow _
      obtain ⟨ao', c', rfl, hL'⟩ := hL.snoc hr10 hown'
      have hbl' : Below w.heap.size w w2 := (hbl.alloc hsz _).grown hgrow (by simp; omega) (own_ge hL.own)
      clear hown' hgrow hL
      go_wp2
      go_roundg i
      case measure => omega
      case rel => exact ⟨i, n + 1, c', ao', xs ++ [r], by go_num, rfl, rfl, by omega, hn51, hn2, hL', hbl', HV2⟩
end Go.Proofs.YthbabhbfpcfenaaGreatDoor

/- The document's minus: a row less another one. -/
namespace Go.Proofs.YthbabhbfpcfenaaGreatDoor
open Go.RowKit
set_option linter.unusedVariables false
set_option linter.unusedSimpArgs false

theorem cells_setN {ds rest : List Nat} {x r k : Nat} (h : ds.length = k) : (cn (ds ++ x :: rest)).set k (.int .u8 (r : Int)) = cn ((ds ++ [r]) ++ rest) := by
  subst h; simp [cn]
theorem getD_midN {ds rest : List Nat} {x k : Nat} (h : ds.length = k) : (ds ++ x :: rest).getD k 0 = x := by
  subst h; simp [List.getD]
/-- The cells of a row that is copied. -/
theorem Nm.news {w : World} {B g n c : Nat} {xs : List Nat} (h : Nm w B (some ⟨g, 0, none⟩) n c xs) (o : Obj) : ∀ j u, (cn xs)[j]? = some u → (w.alloc o).cell? ((⟨g, 0, none⟩ : Addr).add j) = some u := fun j u hj => by
  have hl := h.len
  have hj2 : j < n := by
    have := (List.getElem?_eq_some_iff.1 hj).1
    rw [cn_len] at this; omega
  have hc := h.cell j hj2
  have hlt := World.block_lt_of_cell? w _ hc
  have e : (⟨g, 0, none⟩ : Addr).add j = ⟨g, j, none⟩ := by simp [Addr.add]; exact fun h => h.symm
  rw [e]
  have hjx : j < xs.length := by omega
  have hu : u = .int .u8 ((xs.getD j 0 : Nat) : Int) := by
    simp [cn, hjx] at hj
    rw [← hj]
    simp [hjx, List.getD]
  rw [hu, ← hc]
  exact World.cell?_alloc_past _ _ _ hlt
theorem Nm.ones (xs : List Nat) : ∀ u ∈ cn xs, u.oneCell' = true := fun u hu => by
  obtain ⟨x, -, rfl⟩ := List.mem_map.1 hu
  rfl
set_option maxRecDepth 1000000 in
set_option maxHeartbeats 2000000 in
theorem kminus_any {B B2 n c n2 c2 : Nat} {ao ao2 : Option Addr} {xs ys : List Nat} (w : World) (h : Nm w B ao n c xs) (k : Nm w B2 ao2 n2 c2 ys) (hn0 : 0 < n) (hn : n ≤ 100000) (hn2 : n2 ≤ 100000) (hle : le ys ≤ le xs) :
    Calls Tryz.prog 174 #[.slice ao n c, .slice ao2 n2 c2] w fun e w' => (∃ ao' c', e = .returned (.slice ao' n c') ∧ ∃ ds, Nm w' w.heap.size ao' n c' ds ∧ le ds = le xs - le ys) ∧ Below w.heap.size w w' := by
  obtain ⟨i0, hi, hz0, hz1, hz2⟩ := info_parts infoU8
  obtain ⟨g, rfl, hBg, hgw⟩ := h.head hn0
  have hlen := h.len
  have HE : Hid (∀ (ds : List Nat) (bo : Nat), MinAt xs ys ds n bo → le ds = le xs - le ys) := fun ds bo hm => min_end hm hlen h.lim hle
  have ho0 : (w.alloc (.cells #[] 5)).ownsRow w.heap.size 5 1 (.slice (some ⟨w.heap.size, 0, none⟩) 0 0) 0 [] := World.ownsRow_made w #[] 0 (Nat.le_refl _) (by decide) rfl
  go_enter Tryz.func174, Tryz.ntmps174
  go_wp2_with (at_builtin; refine wpList_append_own _ rfl _ _ 122 rfl w.heap.size 5 i0 (.int .u8 0) 1 1 Tryz.underlying122 hi hz0 hz1 hz2 rfl (by decide) _ _ _ rfl ho0 ⟨g, 0, none⟩ n c (cn xs) rfl ?c1 (h.news _) (Nm.ones xs) ?c3 ?c4 ?c5 ?_)
  case c1 => rw [cn_len, hlen, Nat.mul_one]
  case c3 => unfold maxLen; omega
  case c4 => omega
  case c5 => simp
  intro v' w1 hown' hgrow hv'
  obtain ⟨ao1, c1, rfl, hN1⟩ : ∃ ao1 c1, v' = .slice ao1 n c1 ∧ Nm w1 w.heap.size ao1 n c1 xs := by
    rcases hown'.2 with ⟨h1, h2⟩ | ⟨g1, cap, cur, h1, hrest⟩
    · omega
    · subst h1
      exact ⟨_, _, rfl, hown', h.lim⟩
  have hb1 : Below w.heap.size w w1 := ((Below.refl _ _).alloc (Nat.le_refl _) _).grown hgrow (by simp) (own_ge ho0)
  clear hown' hgrow hv' hi hz0 hz1 hz2 ho0
  obtain ⟨g1, rfl, hBg1, hg1w⟩ := hN1.head hn0
  have HD : Hid (∀ j, DigAt w ao2 n2 j (ys.getD j 0) ∧ ys.getD j 0 < 10) := fun j => ⟨k.at j, getD_lt k.lim j⟩
  have HS : Hid (∀ (ds : List Nat) (j bo d bo' : Nat), MinAt xs ys ds j bo → d < 10 → bo' ≤ 1 → d + bo + ys.getD j 0 = xs.getD j 0 + 10 * bo' → MinAt xs ys (ds ++ [d]) (j + 1) bo') := fun ds j bo d bo' => min_step
  have HX : Hid (∀ j, xs.getD j 0 < 10) := fun j => getD_lt h.lim j
  have HXD : Hid (∀ j, j < n → xs.drop j = xs.getD j 0 :: xs.drop (j + 1)) := fun j hj => by
    have hjx : j < xs.length := by omega
    rw [List.drop_eq_getElem_cons hjx, List.getD_eq_getElem?_getD, List.getElem?_eq_getElem hjx, Option.getD_some]
  have HXL : Hid (∀ x ∈ xs, x < 10) := h.lim
  have HW : Hid (∀ wr (a : Addr) v, Below w.heap.size w wr → w.cell? a = some v → wr.cell? a = some v) := fun wr a v hb hc => keep hb hc
  clear k h
  go_wp2
  go_loopg [6, 7, 8, 14] n (fun g bv iv xv jv wr => ∃ (j bo : Nat) (ds : List Nat), jv = .int .i64 j ∧ bv = .int .i64 bo ∧ j + g = n ∧ bo ≤ 1 ∧ Nm wr w.heap.size (some ⟨g1, 0, none⟩) n c1 (ds ++ xs.drop j) ∧ Below w.heap.size w wr ∧ Hid (MinAt xs ys ds j bo))
  case atStart => exact ⟨0, 0, [], rfl, rfl, Nat.zero_add _, by omega, hN1, hb1, min_start xs ys⟩
  case round =>
    obtain ⟨j, bo, ds, rfl, rfl, hjg, hbo, hL, hbl, HM⟩ := hrel
    clear hN1 hb1
    by_cases hj : j < n
    · have hjI : (j : Int) < n := by omega
      have hds := HM.out.len
      have hdrop := HXD.out j hj
      have hc := hL.cell j hj
      have hfr := hL.froz j
      have hx10 := HX.out j
      obtain ⟨hD, hy10⟩ := HD.out j
      have hg : (ds ++ xs.drop j).getD j 0 = xs.getD j 0 := by
        rw [hdrop]; exact getD_midN hds
      rw [hg] at hc
      have HM2 : Hid (∀ d bo', d < 10 → bo' ≤ 1 → d + bo + ys.getD j 0 = xs.getD j 0 + 10 * bo' → MinAt xs ys (ds ++ [d]) (j + 1) bo') := fun d bo' a b e => HS.out ds j bo d bo' HM.out a b e
      have HP : Hid (∀ r : Nat, r < 10 → Nm (wr.setCell ⟨g1, j, none⟩ (.int .u8 (r : Int))) w.heap.size (some ⟨g1, 0, none⟩) n c1 ((ds ++ [r]) ++ xs.drop (j + 1)) ∧ Below w.heap.size w (wr.setCell ⟨g1, j, none⟩ (.int .u8 (r : Int)))) := fun r hr => by
        have hst := (hL.own.stored j (.int .u8 (r : Int))).1
        rw [hdrop, cells_setN hds] at hst
        refine ⟨⟨hst, ?_⟩, hbl.setCell hBg1 _⟩
        intro y hy
        rcases List.mem_append.1 hy with hy | hy
        · rcases List.mem_append.1 hy with hy | hy
          · exact hL.lim y (List.mem_append.2 (.inl hy))
          · simp at hy; omega
        · exact HXL.out y (List.mem_of_mem_drop hy)
      have hD2 : (j < n2 ∧ ∃ g2, ao2 = some ⟨g2, 0, none⟩ ∧ wr.cell? ⟨g2, j, none⟩ = some (.int .u8 ((ys.getD j 0 : Nat) : Int))) ∨ (n2 ≤ j ∧ ys.getD j 0 = 0) := by
        rcases hD with ⟨a, g2, b, e⟩ | e
        · exact .inl ⟨a, g2, b, HW.out wr _ _ hbl e⟩
        · exact .inr e
      clear HM HD HS HX HXD HXL HW HE hL hdrop hg hD hbl hds
      generalize xs.getD j 0 = x at *
      generalize ys.getD j 0 = y at *
      obtain ⟨d, bo', hd10, hbo', hdv⟩ : ∃ d bo' : Nat, d < 10 ∧ ((bo' = 0 ∧ ¬ (x : Int) - bo - y < 0 ∧ (x : Int) - bo - y = d) ∨ (bo' = 1 ∧ (x : Int) - bo - y < 0 ∧ (x : Int) - bo - y + 10 = d)) ∧ d + bo + y = x + 10 * bo' := by
        by_cases hneg : (x : Int) - bo - y < 0
        · exact ⟨((x : Int) - bo - y + 10).toNat, 1, by omega, .inr ⟨rfl, hneg, by omega⟩, by omega⟩
        · exact ⟨((x : Int) - bo - y).toNat, 0, by omega, .inl ⟨rfl, hneg, by omega⟩, by omega⟩
      have HM3 : Hid (MinAt xs ys (ds ++ [d]) (j + 1) bo') := HM2.out d bo' hd10 (by rcases hbo' with ⟨a, -⟩ | ⟨a, -⟩ <;> omega) hdv
      have hP := HP.out d hd10
      clear HM2 HP
      rcases hD2 with ⟨hj2, g2, rfl, hc2⟩ | ⟨hj2, hy0⟩
      · have hj2I : (j : Int) < n2 := by omega
        rcases hbo' with ⟨rfl, hneg, hval⟩ | ⟨rfl, hneg, hval⟩
        · clear hdv
          go_wp2
          go_roundg (gk - 1)
          case measure => omega
          case rel => exact ⟨j + 1, 0, ds ++ [d], by go_num, by go_num, by omega, by omega, hP.1, hP.2, HM3⟩
        · clear hdv
          go_wp2
          go_roundg (gk - 1)
          case measure => omega
          case rel => exact ⟨j + 1, 1, ds ++ [d], by go_num, by go_num, by omega, by omega, hP.1, hP.2, HM3⟩
      · have hj2I : ¬ (j : Int) < n2 := by omega
        subst hy0
        rw [Int.natCast_zero] at hbo'
        rw [Int.sub_zero] at hbo'
        rcases hbo' with ⟨rfl, hneg, hval⟩ | ⟨rfl, hneg, hval⟩
        · clear hdv
          go_wp2
          go_roundg (gk - 1)
          case measure => omega
          case rel => exact ⟨j + 1, 0, ds ++ [d], by go_num, by go_num, by omega, by omega, hP.1, hP.2, HM3⟩
        · clear hdv
          go_wp2
          go_roundg (gk - 1)
          case measure => omega
          case rel => exact ⟨j + 1, 1, ds ++ [d], by go_num, by go_num, by omega, by omega, hP.1, hP.2, HM3⟩
    · have hjI : ¬ (j : Int) < n := by omega
      obtain rfl : j = n := by omega
      have hLd : Nm wr w.heap.size (some ⟨g1, 0, none⟩) j c1 ds := by
        have := hL
        rw [List.drop_eq_nil_of_le (by omega), List.append_nil] at this
        exact this
      have HF : Hid (le ds = le xs - le ys) := HE.out ds bo HM.out
      clear HM HD HS HX HXD HXL HW HE hL
      go_wp2
      go_ret
      exact ⟨⟨_, _, rfl, ds, hLd, HF.out⟩, hbl⟩
end Go.Proofs.YthbabhbfpcfenaaGreatDoor

/- The document's divide: a quotient bit by bit, and what is left. -/
namespace Go.Proofs.YthbabhbfpcfenaaGreatDoor
open Go.RowKit
set_option linter.unusedVariables false
set_option linter.unusedSimpArgs false

theorem infoNum : (Tryz.prog.info? 122).map (fun i => (i.zero, i.size, i.bytes)) = some (some (.slice none 0 0), 1, 24) := by kernel_rfl
theorem own_below {w w' : World} {B : Nat} {e : TypeId} {m n : Nat} {v : Value} {xs : List Value} (h : w.ownsRow B e m v n xs) (b : Below w.heap.size w w') : w'.ownsRow B e m v n xs := by
  refine ⟨h.1, ?_⟩
  rcases h.2 with h1 | ⟨g, cap, cur, h1, hB, hg, k⟩
  · exact .inl h1
  · exact .inr ⟨g, cap, cur, h1, hB, (b.block g (Array.getElem?_eq_some_iff.1 hg).1).trans hg, k⟩
/-- A row of digits is no row of rows. -/
theorem own_apart {w : World} {B B2 g g2 n n2 c c2 m m2 : Nat} {xs ys : List Value} (h : w.ownsRow B 5 m (.slice (some ⟨g, 0, none⟩) n c) n xs) (k : w.ownsRow B2 122 m2 (.slice (some ⟨g2, 0, none⟩) n2 c2) n2 ys) : g ≠ g2 := by
  rintro rfl
  rcases h.2 with ⟨h1, -⟩ | ⟨g3, cap, cur, h1, -, hg, -⟩
  · cases h1
  · rcases k.2 with ⟨k1, -⟩ | ⟨g4, cap2, cur2, k1, -, kg, -⟩
    · cases k1
    · cases h1
      cases k1
      rw [hg] at kg
      injection kg with e
      injection e with e1 e2
      exact absurd e2 (by decide)
theorem Nm.grown {w w' : World} {B : Nat} {ao : Option Addr} {n c : Nat} {xs : List Nat} {row : Option Nat} (h : Nm w B ao n c xs) (hg : w.grownBy w' row) (hne : ∀ g, ao = some ⟨g, 0, none⟩ → some g ≠ row) : Nm w' B ao n c xs := by
  refine ⟨⟨h.own.1, ?_⟩, h.lim⟩
  rcases h.own.2 with h1 | ⟨g, cap, cur, h1, hB, hg2, k⟩
  · exact .inl h1
  · have e : ao = some ⟨g, 0, none⟩ := by injection h1
    exact .inr ⟨g, cap, cur, h1, hB, (hg.block g (Array.getElem?_eq_some_iff.1 hg2).1 (hne g e)).trans hg2, k⟩
theorem Nm.below2 {w w' : World} {ao : Option Addr} {n c B : Nat} {xs : List Nat} (h : Nm w B ao n c xs) (b : Below w.heap.size w w') : Nm w' B ao n c xs := h.below b
/-- Rows of so many doublings. -/
def Dbls (w : World) (b M n : Nat) (vs : List Value) : Prop := ∀ j, j < n → ∃ (ao : Option Addr) (m c : Nat) (xs : List Nat), vs[j]? = some (.slice ao m c) ∧ Nm w 0 ao m c xs ∧ le xs = b * 2 ^ j ∧ m ≤ M + j
theorem Dbls.below {w w' : World} {b M n : Nat} {vs : List Value} (h : Dbls w b M n vs) (k : Below w.heap.size w w') : Dbls w' b M n vs := fun j hj => by
  obtain ⟨ao, m, c, xs, h1, h2, h3, h4⟩ := h j hj
  exact ⟨ao, m, c, xs, h1, h2.below k, h3, h4⟩
theorem Dbls.snoc {w w' : World} {b M n g c0 m c : Nat} {vs : List Value} {ao : Option Addr} {xs : List Nat} {B : Nat} (h : Dbls w b M n vs) (hl : vs.length = n) (ho : w.ownsRow B 122 1 (.slice (some ⟨g, 0, none⟩) n c0) n vs) (hg : w.grownBy w' (some g)) (hN : Nm w 0 ao m c xs) (hx : le xs = b * 2 ^ n) (hm : m ≤ M + n) : Dbls w' b M (n + 1) (vs ++ [.slice ao m c]) := fun j hj => by
  have key : ∀ (ao : Option Addr) (m c : Nat) (xs : List Nat), Nm w 0 ao m c xs → Nm w' 0 ao m c xs := fun ao m c xs hN => hN.grown hg (fun g2 e => by
    subst e
    intro e2
    injection e2 with e3
    exact own_apart hN.own ho e3)
  rcases Nat.lt_or_ge j n with h1 | h1
  · obtain ⟨ao, m, c, xs, k1, k2, k3, k4⟩ := h j h1
    exact ⟨ao, m, c, xs, by rw [List.getElem?_append_left (by omega)]; exact k1, key _ _ _ _ k2, k3, k4⟩
  · obtain rfl : j = n := by omega
    exact ⟨ao, m, c, xs, by rw [List.getElem?_append_right (by omega), hl, Nat.sub_self]; rfl, key _ _ _ _ hN, hx, hm⟩
theorem own_cell {w : World} {B g n c : Nat} {vs : List Value} (h : w.ownsRow B 122 1 (.slice (some ⟨g, 0, none⟩) n c) n vs) {j : Nat} {v : Value} (hj : j < n) (hv : vs[j]? = some v) : w.cell? ⟨g, j, none⟩ = some v := by
  rw [h.cellAt j (by omega)]; exact hv
set_option maxRecDepth 1000000 in
set_option maxHeartbeats 4000000 in
theorem kdivide_any {B B2 n c n2 c2 : Nat} {ao ao2 : Option Addr} {xs ys : List Nat} (bits : Nat) (w : World) (h : Nm w B ao n c xs) (k : Nm w B2 ao2 n2 c2 ys) (hb1 : 1 ≤ bits) (hb2 : bits ≤ 60) (hn0 : 0 < n) (hn : n ≤ 50000) (hn2 : n2 ≤ 50000) (hA : le xs < le ys * 2 ^ bits) :
    Calls Tryz.prog 159 #[.slice ao n c, .slice ao2 n2 c2, .int .i64 bits] w fun e w' => (∃ ao' c', e = .returned (.tuple #[.int .u64 (le xs / le ys : Nat), .slice ao' n c']) ∧ ∃ ds, Nm w' 0 ao' n c' ds ∧ le ds = le xs % le ys) ∧ Below w.heap.size w w' := by
  obtain ⟨i0, hi, hz0, hz1, hz2⟩ := info_parts infoNum
  have hwT := htimes_2
  go_enter Tryz.func159, Tryz.ntmps159
  go_wp2
  go_loopg [8, 9] (bits - 1) (fun g v iv wr => ∃ (i c1 g1 : Nat) (vs : List Value), iv = .int .i64 i ∧ v = .slice (some ⟨g1, 0, none⟩) i c1 ∧ i + g = bits ∧ 1 ≤ i ∧ wr.ownsRow w.heap.size 122 1 (.slice (some ⟨g1, 0, none⟩) i c1) i vs ∧ Below w.heap.size w wr ∧ Hid (Dbls wr (le ys) n2 i vs))
  case atStart =>
    refine ⟨1, 1, w.heap.size, [.slice ao2 n2 c2], rfl, rfl, by omega, by omega, ?_, (Below.refl _ _).alloc (Nat.le_refl _) _, fun j hj => ?_⟩
    · exact ⟨rfl, .inr ⟨w.heap.size, 1, #[.slice ao2 n2 c2], rfl, Nat.le_refl _, heap_alloc_new w _, Nat.le_refl _, by decide, rfl, rfl⟩⟩
    · obtain rfl : j = 0 := by omega
      exact ⟨ao2, n2, c2, ys, rfl, (k.mono (Nat.zero_le _)).below ((Below.refl _ _).alloc (Nat.le_refl _) _), by rw [Nat.pow_zero, Nat.mul_one], by omega⟩
  case round =>
    obtain ⟨i, c1, g1, vs, rfl, rfl, hig, hi1, hO, hbl, HB⟩ := hrel
    have hg1 : g1 < wr.heap.size := (hO.lt g1 rfl).2
    by_cases hi2 : i < bits
    · have hiI : (i : Int) < bits := by omega
      obtain ⟨j, rfl⟩ : ∃ j, i = j + 1 := ⟨i - 1, by omega⟩
      have hjI : ((j + 1 : Nat) : Int) - 1 = (j : Int) := by omega
      obtain ⟨ao3, m3, c3, zs, hv, hN, hz, hm3⟩ := HB.out j (by omega)
      have hc := own_cell hO (show j < j + 1 by omega) hv
      have hT := htimes_2 0 ao3 m3 c3 zs wr hN (by omega)
      have hvl : vs.length = j + 1 := by have := hO.1; omega
      have HZ : Hid (le zs = le ys * 2 ^ j) := hz
      clear hz hN hv hwT
      go_wp2_with (first
        | (go_at_call 102; refine hT.mono ?_; rintro e w2 ⟨⟨ao4, m4, c4, rfl, hm4, ds, hN4, hd4⟩, hb4⟩; have hO2 := own_below hO hb4; have HB2 : Hid (Dbls w2 (le ys) n2 (j + 1) vs) := HB.out.below hb4; have HD4 : Hid (le ds = le zs * 2) := hd4; have hsz4 := hb4.size; have hsz0 := hbl.size; have hbl2 := bel_call hbl hb4 (Nat.le_refl _); clear hd4)
        | (at_builtin; refine wpList_append_own _ rfl _ _ 200 rfl w.heap.size 122 i0 (.slice none 0 0) 1 24 Tryz.underlying200 hi hz0 hz1 hz2 rfl (by decide) _ _ _ rfl (own_below hO2 ((Below.refl _ _).alloc (Nat.le_refl _) _)) ⟨w2.heap.size, 0, none⟩ 1 1 [.slice ao4 m4 c4] rfl rfl ?c1 ?c2 ?c3 ?c4 ?c5 ?_))
      case c1 =>
        intro q u hq
        match q, hq with
        | 0, hq => simp at hq; subst hq; simp [Addr.add]
      case c2 => intro u hu; simp at hu; subst hu; rfl
      case c3 => unfold maxLen; omega
      case c4 => omega
      case c5 => simp; omega
      intro v' w3 hown' hgrow _
      have hNa := (hN4.mono (Nat.zero_le _)).below ((Below.refl _ _).alloc (Nat.le_refl w2.heap.size) (.cells #[.slice ao4 m4 c4] 122))
      have hDa := HB2.out.below ((Below.refl _ _).alloc (Nat.le_refl w2.heap.size) (.cells #[.slice ao4 m4 c4] 122))
      have hOa := own_below hO2 ((Below.refl _ _).alloc (Nat.le_refl w2.heap.size) (.cells #[.slice ao4 m4 c4] 122))
      have HB3 : Hid (Dbls w3 (le ys) n2 (j + 1 + 1) (vs ++ [.slice ao4 m4 c4])) := hDa.snoc hvl hOa hgrow hNa (by rw [HD4.out, HZ.out, Nat.pow_succ, Nat.mul_assoc]) (by omega)
      obtain ⟨g2, c5, rfl⟩ : ∃ g2 c5, v' = .slice (some ⟨g2, 0, none⟩) (j + 1 + 1) c5 := by
        rcases hown'.2 with ⟨a, b⟩ | ⟨g2, cap, cur, a, -⟩
        · omega
        · exact ⟨g2, cap, a⟩
      have hbl' : Below w.heap.size w w3 := (hbl2.alloc hbl2.size _).grown hgrow (by simp; omega) (own_ge hO)
      clear HB2 HB hO hO2 hNa hDa hOa hgrow
      go_wp2
      go_roundg (gk - 1)
      case measure => omega
      case rel => exact ⟨j + 1 + 1, c5, g2, _, by go_num, rfl, by omega, by omega, hown', hbl', HB3⟩
    · have hiI : ¬ (i : Int) < bits := by omega
      obtain rfl : i = bits := by omega
      obtain ⟨W1, rfl⟩ : ∃ W1, W1 = wr := ⟨_, rfl⟩
      have HR : Hid (∀ j, j < i → ∃ (ao3 : Option Addr) (m3 c3 : Nat) (zs : List Nat), W1.cell? ⟨g1, j, none⟩ = some (.slice ao3 m3 c3) ∧ Nm W1 0 ao3 m3 c3 zs ∧ le zs = le ys * 2 ^ j ∧ m3 ≤ 60000) := fun j hj => by
        obtain ⟨ao3, m3, c3, zs, a1, a2, a3, a4⟩ := HB.out j hj
        exact ⟨ao3, m3, c3, zs, own_cell hO hj a1, a2, a3, by omega⟩
      have hX : Nm W1 0 ao n c xs := (h.mono (Nat.zero_le _)).below2 hbl
      have HA : Hid (DivAt (le xs) (le ys) 0 (le xs) i) := ⟨by rw [Nat.zero_mul, Nat.zero_add], hA⟩
      have HQ : Hid (∀ q a j, DivAt (le xs) (le ys) q a j → j ≤ i → q < 2 ^ (i - j)) := fun q a j hD hj => div_q hD hA hj
      have H60 : Hid (∀ j, 2 ^ (i - j) ≤ 1152921504606846976) := fun j => Nat.le_trans (Nat.pow_le_pow_right (by decide) (show i - j ≤ 60 by omega)) (by decide)
      clear HB hO k h hwT hi hz0 hz1 hz2 hA
      go_wp2
      go_loopg [0, 10, 11] i (fun g av qv iv wr => ∃ (j q c5 : Nat) (ao5 : Option Addr) (zs : List Nat), iv = .int .i64 ((j : Int) - 1) ∧ qv = .int .u64 q ∧ av = .slice ao5 n c5 ∧ j = g ∧ j ≤ i ∧ q ≤ 1152921504606846976 ∧ Nm wr 0 ao5 n c5 zs ∧ Below W1.heap.size W1 wr ∧ Hid (DivAt (le xs) (le ys) q (le zs) j))
      case atStart => exact ⟨i, 0, c, ao, xs, by go_num, rfl, rfl, rfl, Nat.le_refl _, by omega, hX, Below.refl _ _, HA.out⟩
      case round =>
        obtain ⟨j, q, c5, ao5, zs, rfl, rfl, rfl, rfl, hji, hq60, hL, hbl5, HV⟩ := hrel
        rcases Nat.eq_zero_or_pos j with hj0 | hj0
        · subst hj0
          have HF : Hid (q = le xs / le ys ∧ le zs = le xs % le ys) := div_end HV.out
          have hblF := bel_call hbl hbl5 (Nat.le_refl _)
          clear HV HR HA HQ H60 hX
          go_wp2
          go_returns
          refine ⟨⟨ao5, c5, ?_, zs, hL, HF.out.2⟩, hblF⟩
          rw [← HF.out.1]; rfl
        · obtain ⟨i2, rfl⟩ : ∃ i2, j = i2 + 1 := ⟨j - 1, by omega⟩
          have hiI2 : ((i2 + 1 : Nat) : Int) - 1 = (i2 : Int) := by omega
          rw [hiI2]
          obtain ⟨ao3, m3, c3, us, a1, a2, a3, a4⟩ := HR.out i2 (by omega)
          have hc : wr.cell? ⟨g1, i2, none⟩ = some (.slice ao3 m3 c3) := (hbl5.cell (p := ⟨g1, i2, none⟩) hg1).trans a1
          have hN3 : Nm wr 0 ao3 m3 c3 us := a2.below hbl5
          have hLs := kless_any wr hL hN3 (by omega) (by omega)
          have hi2i : i2 < i := by omega
          have hq2 : 2 * q ≤ 1152921504606846976 - 1 ∨ 2 * q + 1 ≤ 2305843009213693953 := by omega
          by_cases hlt : le zs < le us
          · have HV2 : Hid (DivAt (le xs) (le ys) (2 * q) (le zs) i2) := div_no HV.out (by rw [← a3]; exact hlt)
            have hqb : 2 * q ≤ 1152921504606846976 := by
              have := HQ.out _ _ _ HV2.out (by omega)
              have := H60.out i2
              omega
            rw [decide_eq_true hlt] at hLs
            clear HV HR HA HQ H60 hX a1 a2 a3 hN3 hlt
            go_wp2_with (go_at_call 158; refine hLs.mono ?_; rintro e w2 ⟨rfl, hw2⟩; subst w2)
            go_roundg i2
            case measure => omega
            case rel => exact ⟨i2, 2 * q, c5, ao5, zs, by go_num, by go_num, rfl, rfl, by omega, hqb, hL, hbl5, HV2⟩
          · have hM := kminus_any wr hL hN3 hn0 (by omega) (by omega) (by omega)
            have HV2 : Hid (DivAt (le xs) (le ys) (2 * q + 1) (le zs - le us) i2) := by
              show DivAt _ _ _ _ _
              rw [a3]
              exact div_yes HV.out (by rw [← a3]; omega)
            have hqb : 2 * q + 1 ≤ 1152921504606846976 := by
              have := HQ.out _ _ _ HV2.out (by omega)
              have := H60.out i2
              omega
            rw [decide_eq_false hlt] at hLs
            clear HV HR HA HQ H60 hX a1 a2 a3 hN3 hlt
            go_wp2_with (first
              | (go_at_call 158; refine hLs.mono ?_; rintro e w2 ⟨rfl, hw2⟩; subst w2)
              | (go_at_call 174; refine hM.mono ?_; rintro e w3 ⟨⟨ao6, c6, rfl, ds6, hN6, hd6⟩, hb6⟩))
            have HV3 : Hid (DivAt (le xs) (le ys) (2 * q + 1) (le ds6) i2) := by
              show DivAt _ _ _ _ _
              rw [hd6]; exact HV2.out
            have hbl6 := bel_call hbl5 hb6 (Nat.le_refl _)
            clear HV2 hd6
            go_roundg i2
            case measure => omega
            case rel => exact ⟨i2, 2 * q + 1, c6, ao6, ds6, by go_num, by go_num, rfl, rfl, by omega, hqb, hN6.mono (Nat.zero_le _), hbl6, HV3⟩
end Go.Proofs.YthbabhbfpcfenaaGreatDoor
