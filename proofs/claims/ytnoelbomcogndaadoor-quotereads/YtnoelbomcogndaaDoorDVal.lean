/- The walk of the document's value: the number of so many small digits. -/
import Derived.Test.YtnoelbomcogndaaDoorNumb
import Derived.Test.YtnoelbomcogndaaDoorDDig
import Derived.Test.YtnoelbomcogndaaDoorQReg
import Derived.Test.YtnoelbomcogndaaDoorUnq
import Derived.Deep.LoopGhost
namespace Go.Proofs.YtnoelbomcogndaaDoor
open Go.RowKit
set_option linter.unusedVariables false

/-- Which of the first k digits a byte is; -1: none. -/
def dgO (x : UInt8) : Nat → Int
  | 0 => -1
  | k + 1 => if hexB false k = x then (k : Int) else dgO x k
theorem dgO_le (x : UInt8) : ∀ k, -1 ≤ dgO x k ∧ dgO x k < (k : Int) + 1
  | 0 => by simp [dgO]
  | k + 1 => by
    have := dgO_le x k
    simp only [dgO]
    split <;> omega
theorem dgO_hex (d : Nat) (h : d < 16) : dgO (hexB false d) 16 = d := by
  have : ∀ i : Fin 16, dgO (hexB false i.val) 16 = (i.val : Nat) := by decide
  exact this ⟨d, h⟩
theorem one_byte (s : ByteArray) (i : Nat) (h : i < s.size) : s.extract i (i + 1) = ⟨#[s[i]'h]⟩ := by
  apply ByteArray.ext
  apply Array.ext'
  rw [ByteArray.data_extract, Array.toList_extract]
  have e : s.data.toList.drop i = (s[i]'h) :: s.data.toList.drop (i + 1) := by
    rw [List.drop_eq_getElem_cons (show i < s.data.toList.length by rw [list_len]; exact h)]; rfl
  show (s.data.toList.drop i).take (i + 1 - i) = _
  rw [e, show i + 1 - i = 1 by omega]
  rfl
theorem one_inj (a b : UInt8) : (⟨#[a]⟩ : ByteArray) = ⟨#[b]⟩ ↔ a = b := by
  constructor
  · intro h
    have := congrArg (fun x => x.data.toList) h
    simpa using this
  · intro h; rw [h]
theorem val_step (s : ByteArray) (n i x : Nat) (vn : Nat) (rest : List UInt8) (h : s.data.toList = hexL x n ++ rest) (hi : i < n) (hs : i < s.size) (hv : vn = x / 16 ^ (n - i)) :
    dgO (s[i]'hs) 16 = ((x / 16 ^ (n - (i + 1)) % 16 : Nat) : Int) ∧ 16 * vn + x / 16 ^ (n - (i + 1)) % 16 = x / 16 ^ (n - (i + 1)) := by
  have e0 : s.data.toList[i]? = some (s[i]'hs) := by
    rw [List.getElem?_eq_getElem (show i < s.data.toList.length by rw [list_len]; exact hs)]; rfl
  rw [h, List.getElem?_append_left (by rw [hexL_len]; exact hi), hexL_get n x i hi] at e0
  have e1 := Option.some.inj e0
  obtain ⟨m, hm⟩ : ∃ m, n - (i + 1) = m := ⟨_, rfl⟩
  rw [show n - 1 - i = m by omega] at e1
  have hd : x / 16 ^ m % 16 < 16 := Nat.mod_lt _ (by omega)
  rw [hm]
  refine ⟨by rw [← e1]; exact dgO_hex _ hd, ?_⟩
  rw [hv, show n - i = m + 1 by omega]
  have e3 : x / 16 ^ m / 16 = x / 16 ^ (m + 1) := by rw [Nat.div_div_eq_div_mul, Nat.pow_succ]
  rw [← e3]
  omega

set_option maxRecDepth 1000000 in
set_option maxHeartbeats 1000000 in
theorem dvalue_any (s : ByteArray) (n : Nat) (w : World) (hs : s.size ≤ 100000) (hn : n ≤ 8) :
    Calls Tryd.prog 26 #[.string s, .int .i64 n] w fun e w' => ∃ v : Int, e = .returned (.int .i64 v) ∧ Below w.heap.size w w' ∧ -1 ≤ v ∧ v ≤ 20000000 ∧ (0 ≤ v → n ≤ s.size) ∧ (∀ x rest, x ≤ 1114111 → x < 16 ^ n → s.data.toList = hexL x n ++ rest → v = (x : Nat)) := by
  by_cases hlen : s.size < n
  · have hlI : (s.size : Int) < n := by omega
    go_enter Tryd.func26, Tryd.ntmps26
    go_wp2
    go_ret
    refine ⟨-1, rfl, Below.refl _ _, by omega, by omega, by omega, ?_⟩
    intro x rest _ _ h
    have := congrArg List.length h
    rw [list_len, List.length_append, hexL_len] at this
    omega
  · have hlI : ¬ (s.size : Int) < n := by omega
    go_enter Tryd.func26, Tryd.ntmps26
    go_wp2
    go_loopg [5, 6] n (fun g v i wr => (∃ y : Cl w, wr = y.w) ∧ ∃ (vn k : Nat), v = .int .i64 vn ∧ i = .int .i64 k ∧ k + g = n ∧ vn ≤ 20000000 ∧ Hid (∀ x rest, x ≤ 1114111 → x < 16 ^ n → s.data.toList = hexL x n ++ rest → vn = x / 16 ^ (n - k)))
    case atStart =>
      refine ⟨⟨⟨_, Below.refl _ _⟩, rfl⟩, 0, 0, rfl, rfl, Nat.zero_add _, by omega, ?_⟩
      intro x rest _ hx h
      rw [show n - 0 = n by omega, Nat.div_eq_of_lt hx]
    case round =>
      obtain ⟨⟨y, rfl⟩, vn, k, rfl, rfl, hkg, hvn, HV⟩ := hrel
      by_cases hk : k < n
      · have hkI : (k : Int) < n := by omega
        have hks : k < s.size := by omega
        have hksI : (k : Int) + 1 ≤ s.size := by omega
        have hone := one_byte s k hks
        obtain ⟨x, hx⟩ : ∃ x, s[k]'hks = x := ⟨_, rfl⟩
        rw [hx] at hone
        have HD : Hid (∀ xx rest, xx ≤ 1114111 → xx < 16 ^ n → s.data.toList = hexL xx n ++ rest → dgO x 16 = ((xx / 16 ^ (n - (k + 1)) % 16 : Nat) : Int) ∧ 16 * vn + xx / 16 ^ (n - (k + 1)) % 16 = xx / 16 ^ (n - (k + 1))) := fun xx rest h1 h2 h3 => by
          rw [← hx]
          exact val_step s n k xx vn rest h3 hk hks (HV.out xx rest h1 h2 h3)
        go_wp2
        go_loopg [7, 8] 16 (fun g d j wr => (∃ y : Cl w, wr = y.w) ∧ ∃ m : Nat, j = .int .i64 m ∧ m + g = 16 ∧ d = .int .i64 (dgO x m))
        case atStart => exact ⟨⟨y, rfl⟩, 0, rfl, Nat.zero_add _, rfl⟩
        case round =>
          obtain ⟨⟨y2, rfl⟩, m, rfl, hmg, rfl⟩ := hrel
          by_cases hm : m < 16
          · have hmI : (m : Int) < 16 := by omega
            have hdg : ∀ w, Calls Tryd.prog 34 #[.int .i64 (m : Nat), .bool false] w fun e w' => e = .returned (.string ⟨#[hexB false m]⟩) ∧ w' = w := fun w => digit_any m false hm w
            by_cases he : hexB false m = x
            · have HS : Hid (dgO x (m + 1) = m) := by show dgO x (m + 1) = m; simp [dgO, he]
              rw [he] at hdg
              clear he
              generalize (⟨#[x]⟩ : ByteArray) = X at *
              go_wp2
              refine wp_region_above w y2.below (by kernel_rfl) (by kernel_rfl) ?_
              intro hCl
              repeat (go_big_quiet_step ((go_at_call 34; exact Cl.call_same (hdg _))))
              refine wpQuiet_nil ?_
              intro _ hw'
              obtain ⟨y3, hy⟩ := hw'
              subst hy
              go_wp2
              go_roundg (gk - 1)
              case measure => omega
              case rel => exact ⟨⟨y3, rfl⟩, m + 1, by go_num, by omega, by rw [HS.out]⟩
            · have HS : Hid (dgO x (m + 1) = dgO x m) := by show dgO x (m + 1) = dgO x m; simp [dgO, he]
              have hne : ¬ (⟨#[x]⟩ : ByteArray) = ⟨#[hexB false m]⟩ := fun h => he ((one_inj _ _).1 h).symm
              clear he
              generalize (⟨#[hexB false m]⟩ : ByteArray) = X2 at *
              generalize (⟨#[x]⟩ : ByteArray) = X at *
              have hq : (X.toList == X2.toList) = false := beq_n X X2 hne
              go_wp2
              refine wp_region_above w y2.below (by kernel_rfl) (by kernel_rfl) ?_
              intro hCl
              repeat (go_big_quiet_step ((go_at_call 34; exact Cl.call_same (hdg _))))
              refine wpQuiet_nil ?_
              intro _ hw'
              obtain ⟨y3, hy⟩ := hw'
              subst hy
              go_wp2
              go_roundg (gk - 1)
              case measure => omega
              case rel => exact ⟨⟨y3, rfl⟩, m + 1, by go_num, by omega, by rw [HS.out]⟩
          · have hmI : ¬ (m : Int) < 16 := by omega
            obtain rfl : m = 16 := by omega
            have hdl := dgO_le x 16
            by_cases hneg : dgO x 16 < 0
            · have HF : Hid (∀ xx rest, xx ≤ 1114111 → xx < 16 ^ n → s.data.toList = hexL xx n ++ rest → False) := fun xx rest h1 h2 h3 => by
                have := (HD.out xx rest h1 h2 h3).1
                omega
              generalize dgO x 16 = dd at *
              go_wp2
              go_ret
              exact ⟨-1, rfl, y2.below, by omega, by omega, by omega, fun xx rest h1 h2 h3 => (HF.out xx rest h1 h2 h3).elim⟩
            · obtain ⟨d, hd⟩ : ∃ d : Nat, dgO x 16 = (d : Int) := ⟨(dgO x 16).toNat, by omega⟩
              rw [hd] at hdl hneg
              have hnd : decide ((d : Int) < 0) = false := by simp
              by_cases hbig : 1114111 < vn
              · have hbI : (1114111 : Int) < vn := by omega
                have HF : Hid (∀ xx rest, xx ≤ 1114111 → xx < 16 ^ n → s.data.toList = hexL xx n ++ rest → False) := fun xx rest h1 h2 h3 => by
                  have h4 := HV.out xx rest h1 h2 h3
                  have h5 : xx / 16 ^ (n - k) ≤ xx := Nat.div_le_self _ _
                  omega
                rw [hd]
                clear hd
                go_wp2
                go_ret
                exact ⟨-1, rfl, y2.below, by omega, by omega, by omega, fun xx rest h1 h2 h3 => (HF.out xx rest h1 h2 h3).elim⟩
              · have hbI : ¬ (1114111 : Int) < vn := by omega
                have hbD : decide (1114111 < vn) = false := by simp; omega
                have HN : Hid (∀ xx rest, xx ≤ 1114111 → xx < 16 ^ n → s.data.toList = hexL xx n ++ rest → 16 * vn + d = xx / 16 ^ (n - (k + 1))) := fun xx rest h1 h2 h3 => by
                  have := HD.out xx rest h1 h2 h3
                  rw [hd] at this
                  omega
                have HSUM : Hid (16 * (vn : Int) + d = ((16 * vn + d : Nat) : Int)) := by show _ = _; omega
                have hd1 : 0 ≤ (d : Int) := by omega
                have hd2 : (d : Int) ≤ 16 := by omega
                have hv1 : (vn : Int) ≤ 1114111 := by omega
                rw [hd]
                clear hd
                go_wp2
                go_roundg (n - k - 1)
                case measure => omega
                case rel => exact ⟨⟨y2, rfl⟩, 16 * vn + d, k + 1, by rw [← HSUM.out], by go_num, by omega, by omega, HN⟩
      · have hkI : ¬ (k : Int) < n := by omega
        have HF : Hid (∀ x rest, x ≤ 1114111 → x < 16 ^ n → s.data.toList = hexL x n ++ rest → ((vn : Nat) : Int) = (x : Nat)) := fun x rest h1 h2 h3 => by
          have := HV.out x rest h1 h2 h3
          rw [show n - k = 0 by omega] at this
          simp at this
          rw [this]
        go_wp2
        go_ret
        exact ⟨vn, rfl, y.below, by omega, by omega, fun _ => by omega, HF.out⟩
end Go.Proofs.YtnoelbomcogndaaDoor
