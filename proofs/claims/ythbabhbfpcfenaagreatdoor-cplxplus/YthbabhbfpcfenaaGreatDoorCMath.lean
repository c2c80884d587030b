/- Plain mathematics of layer 7: where a pair's text is parted; the texts of floats hold no sign but their own and their exponent's. -/
import Derived.Test.YthbabhbfpcfenaaGreatDoorPkF26
namespace Go.Proofs.YthbabhbfpcfenaaGreatDoor
open Go.RowKit
set_option linter.unusedVariables false
set_option linter.unusedSimpArgs false

/-- A sign; a letter that an exponent begins with. -/
def sgB (x : UInt8) : Bool := decide (x.toNat = 43 ∨ x.toNat = 45)
def epB (x : UInt8) : Bool := decide (x.toNat = 101 ∨ x.toNat = 69 ∨ x.toNat = 112 ∨ x.toNat = 80)
theorem ep_sg {x : UInt8} (h : epB x = true) : sgB x = false := by
  have h := of_decide_eq_true h
  exact decide_eq_false (by omega)
/-- A sign that is not an exponent's; the last one of them ahead of n, if there is one behind the first byte. -/
def okS (l : List UInt8) (i : Nat) : Bool := sgB (l.getD i 0) && !(epB (l.getD (i - 1) 0))
def lastS (l : List UInt8) : Nat → Nat
  | 0 => 0
  | n + 1 => if n ≠ 0 ∧ okS l n = true then n else lastS l n
theorem lastS_one (l : List UInt8) : lastS l 1 = 0 := by unfold lastS; rw [if_neg (by simp)]; rfl
theorem lastS_yes {l : List UInt8} {n : Nat} (h0 : n ≠ 0) (h : okS l n = true) : lastS l (n + 1) = n := by
  unfold lastS; rw [if_pos ⟨h0, h⟩]
theorem lastS_no {l : List UInt8} {n : Nat} (h : okS l n = false) : lastS l (n + 1) = lastS l n := by
  rw [lastS, if_neg (by rw [h]; simp)]
theorem lastS_lt (l : List UInt8) : ∀ n, lastS l n ≤ n - 1
  | 0 => Nat.le_refl _
  | n + 1 => by
    have := lastS_lt l n
    unfold lastS
    split <;> omega
theorem lastS_is {l : List UInt8} {k : Nat} (h0 : k ≠ 0) (h : okS l k = true) : ∀ n, k < n → (∀ i, k < i → i < n → okS l i = false) → lastS l n = k
  | 0, hk, _ => by omega
  | n + 1, hk, hi => by
    by_cases e : n = k
    · subst e; exact lastS_yes h0 h
    · rw [lastS_no (hi n (by omega) (by omega))]
      exact lastS_is h0 h n (by omega) fun i h1 h2 => hi i h1 (by omega)
/-- No sign, and behind it no exponent's letter. -/
structure Tame (l : List UInt8) : Prop where
  no : ∀ x ∈ l, sgB x = false
  pos : l ≠ []
  last : ∀ x, l.getLast? = some x → epB x = false
/-- Without a sign, or with the one of its exponent. -/
def Shp (l : List UInt8) : Prop := Tame l ∨ ∃ (X : List UInt8) (c s : UInt8) (Y : List UInt8), l = X ++ c :: s :: Y ∧ (∀ x ∈ X, sgB x = false) ∧ epB c = true ∧ Tame Y
theorem Shp.pos {l : List UInt8} (h : Shp l) : l ≠ [] := by
  rcases h with h | ⟨X, c, s, Y, rfl, -, -, -⟩
  · exact h.pos
  · simp
theorem Shp.last {l : List UInt8} (h : Shp l) : ∀ x, l.getLast? = some x → epB x = false := by
  rcases h with h | ⟨X, c, s, Y, rfl, -, -, h⟩
  · exact h.last
  · intro x hx
    refine h.last x ?_
    have hp := h.pos
    cases Y with
    | nil => exact absurd rfl hp
    | cons y Y =>
      rw [List.getLast?_append, List.getLast?_cons_cons, List.getLast?_cons_cons] at hx
      rw [List.getLast?_eq_some_getLast hp] at hx ⊢
      simpa using hx
theorem getD_mem {l : List UInt8} {i : Nat} (h : i < l.length) : l.getD i 0 ∈ l := by
  rw [List.getD_eq_getElem?_getD, List.getElem?_eq_getElem h, Option.getD_some]
  exact List.getElem_mem h
theorem getD_app1 {a b : List UInt8} {i : Nat} (h : i < a.length) : (a ++ b).getD i 0 = a.getD i 0 := by
  simp only [List.getD_eq_getElem?_getD, List.getElem?_append_left h]
theorem getD_app2 {a b : List UInt8} {i : Nat} (h : a.length ≤ i) : (a ++ b).getD i 0 = b.getD (i - a.length) 0 := by
  simp only [List.getD_eq_getElem?_getD, List.getElem?_append_right h]
/-- Within a text of that shape no sign parts anything. -/
theorem Shp.none {T : List UInt8} (h : Shp T) (s : UInt8) {j : Nat} (hj : j < T.length) : (sgB (T.getD j 0) && !(epB ((s :: T).getD j 0))) = false := by
  rcases h with h | ⟨X, c, s', Y, rfl, hX, hc, hY⟩
  · rw [h.no _ (getD_mem hj)]; rfl
  · rcases Nat.lt_trichotomy j (X.length + 1) with h1 | h1 | h1
    · have : sgB ((X ++ c :: s' :: Y).getD j 0) = false := by
        rcases Nat.lt_or_ge j X.length with h2 | h2
        · rw [getD_app1 h2]; exact hX _ (getD_mem h2)
        · rw [getD_app2 h2, show j - X.length = 0 by omega]
          exact ep_sg hc
      rw [this]; rfl
    · subst h1
      have : (s :: (X ++ c :: s' :: Y)).getD (X.length + 1) 0 = c := by
        rw [List.getD_cons_succ, getD_app2 (Nat.le_refl _), Nat.sub_self]; rfl
      rw [this, hc]; simp
    · have : sgB ((X ++ c :: s' :: Y).getD j 0) = false := by
        rw [getD_app2 (by omega)]
        obtain ⟨k, hk⟩ : ∃ k, j - X.length = k + 2 := ⟨j - X.length - 2, by omega⟩
        rw [hk]
        refine hY.no _ (getD_mem (l := Y) ?_)
        simp at hj; omega
      rw [this]; rfl
theorem cut_pair {A T : List UInt8} {s : UInt8} (hA : A ≠ []) (hA2 : ∀ x, A.getLast? = some x → epB x = false) (hs : sgB s = true) (hT : Shp T) : lastS (A ++ s :: T) (A ++ s :: T).length = A.length := by
  have hl : A.length ≠ 0 := fun h => hA (List.length_eq_zero_iff.1 h)
  refine lastS_is hl ?_ _ (by simp) ?_
  · unfold okS
    rw [getD_app2 (Nat.le_refl _), Nat.sub_self, getD_app1 (by omega)]
    have h1 : (s :: T).getD 0 0 = s := rfl
    have h2 : epB (A.getD (A.length - 1) 0) = false := by
      refine hA2 _ ?_
      rw [List.getLast?_eq_getElem?, List.getD_eq_getElem?_getD, List.getElem?_eq_getElem (by omega), Option.getD_some]
    rw [h1, hs, h2]; rfl
  · intro i h1 h2
    unfold okS
    rw [getD_app2 (by omega), getD_app2 (by omega)]
    obtain ⟨j, hj⟩ : ∃ j, i - A.length = j + 1 := ⟨i - A.length - 1, by omega⟩
    rw [hj, show i - 1 - A.length = j by omega, List.getD_cons_succ]
    exact hT.none s (by simp at h2; omega)
/-- A text all of whose bytes are so. -/
def Al (P : UInt8 → Prop) (s : ByteArray) : Prop := ∀ x ∈ s.data.toList, P x
theorem Al.app {P : UInt8 → Prop} {a b : ByteArray} (h : Al P a) (k : Al P b) : Al P (a ++ b) := fun x hx => by
  rw [app_list] at hx
  rcases List.mem_append.1 hx with hx | hx
  · exact h x hx
  · exact k x hx
theorem Al.ext {P : UInt8 → Prop} {s : ByteArray} (h : Al P s) (a b : Nat) : Al P (s.extract a b) := fun x hx => by
  rw [ext_li] at hx
  exact h x (List.mem_of_mem_take (List.mem_of_mem_drop hx))
theorem Al.mono {P Q : UInt8 → Prop} {s : ByteArray} (h : Al P s) (k : ∀ x, P x → Q x) : Al Q s := fun x hx => k x (h x hx)
theorem Al.run {P : UInt8 → Prop} {c : Nat} (hc : P (UInt8.ofNat c)) (n : Nat) : Al P (run c n) := fun x hx => by
  rw [run_list] at hx
  have := List.eq_of_mem_replicate hx
  rw [this]; exact hc
/-- Digits and points; those, small letters of hexadecimal digits, and x. -/
def Dp (x : UInt8) : Prop := x.toNat = 46 ∨ (48 ≤ x.toNat ∧ x.toNat ≤ 57)
def Hp (x : UInt8) : Prop := Dp x ∨ (97 ≤ x.toNat ∧ x.toNat ≤ 102) ∨ x.toNat = 120
theorem dp_hp {x : UInt8} (h : Dp x) : Hp x := .inl h
theorem dp48 : Dp (UInt8.ofNat 48) := .inr ⟨by decide, by decide⟩
theorem al_dig (n : Nat) : Al Dp (digT false 10 n) := fun x hx => by
  obtain ⟨d, hd, rfl⟩ := digS_mem false 10 n (by decide) x hx
  have : ∀ d : Fin 10, 48 ≤ (hexB false d.val).toNat ∧ (hexB false d.val).toNat ≤ 57 := by decide
  exact .inr (this ⟨d, hd⟩)
theorem al_dig16 (n : Nat) : Al Hp (digT false 16 n) := fun x hx => by
  obtain ⟨d, hd, rfl⟩ := digS_mem false 16 n (by decide) x hx
  have : ∀ d : Fin 16, (48 ≤ (hexB false d.val).toNat ∧ (hexB false d.val).toNat ≤ 57) ∨ (97 ≤ (hexB false d.val).toNat ∧ (hexB false d.val).toNat ≤ 102) := by decide
  rcases this ⟨d, hd⟩ with h | h
  · exact .inl (.inr h)
  · exact .inr (.inl h)
theorem al_oS (v : Nat) : Al Dp (oS v) := fun x hx => .inr ((isD_iff x).1 (allD_mem (o_dig v) hx))
theorem Al.lnA {P : UInt8 → Prop} {s : ByteArray} (h : Al P s) (k : P (UInt8.ofNat 48)) (n : Int) : Al P (lnA s n) := (Al.run k _).app h
theorem Al.lnB {P : UInt8 → Prop} {s : ByteArray} (h : Al P s) (k : P (UInt8.ofNat 48)) (n : Int) : Al P (lnB s n) := h.app (Al.run k _)
theorem al1 {P : UInt8 → Prop} {c : UInt8} (h : P c) : Al P ⟨#[c]⟩ := fun x hx => by
  have : x = c := by simpa using hx
  rw [this]; exact h
theorem Al.ptd {P : UInt8 → Prop} {a b : ByteArray} (h : Al P a) (k : Al P b) (q : P 46) (sh : Bool) : Al P (ptd sh a b) := by
  unfold Go.Proofs.YthbabhbfpcfenaaGreatDoor.ptd
  split
  · exact h
  · exact (h.app (al1 q)).app k
theorem Al.arA {d : ByteArray} (h : Al Dp d) (p : Int) : Al Dp (arA d p) := by
  unfold Go.Proofs.YthbabhbfpcfenaaGreatDoor.arA
  split
  · exact al1 dp48
  · exact (h.lnB dp48 _).ext _ _
theorem Al.arB {d : ByteArray} (h : Al Dp d) (p : Int) : Al Dp (arB d p) := by
  unfold Go.Proofs.YthbabhbfpcfenaaGreatDoor.arB
  split
  · exact h.lnA dp48 _
  · exact (h.lnB dp48 _).ext _ _
theorem dp46 : Dp 46 := .inl (by decide)
theorem al_genD (sh : Bool) (d : Nat) (c : Int) : Al Dp (genD sh d c) := by
  unfold genD
  split
  · exact ((al_oS _).lnB dp48 _).lnB dp48 _
  · exact (al_oS _).lnB dp48 _
theorem al_hxP {d : ByteArray} (h : Al Hp d) (P : Int) : Al Hp (hxP d P) := by
  unfold hxP
  split
  · intro x hx
    obtain ⟨k, h1, -⟩ := rtr_split d.data.toList
    refine h x ?_
    rw [h1]
    exact List.mem_append_left _ (by simpa using hx)
  · exact (h.ext _ _).lnB (dp_hp dp48) _
theorem hp_sg {x : UInt8} (h : Hp x) : sgB x = false := decide_eq_false (by rcases h with (h | h) | h | h <;> omega)
theorem dp_ep {x : UInt8} (h : Dp x) : epB x = false := decide_eq_false (by rcases h with h | h <;> omega)
theorem tame_of {s : ByteArray} (h : Al Dp s) (hs : 1 ≤ s.size) : Tame s.data.toList where
  no := fun x hx => hp_sg (dp_hp (h x hx))
  pos := fun e => by rw [← list_len, e] at hs; simp at hs
  last := fun x hx => dp_ep (h x (List.mem_of_getLast? hx))
theorem sgd_list (n l : Int) : ∃ (s : UInt8) (Y : ByteArray), (sgd n l).data.toList = s :: Y.data.toList ∧ Al Dp Y ∧ 1 ≤ Y.size := by
  have h1 := lnA_size (digT false 10 n.natAbs) l
  have h2 := digT_size false 10 n.natAbs
  unfold sgd
  rw [app_list]
  unfold sx1
  split
  · exact ⟨45, _, rfl, (al_dig _).lnA dp48 _, by omega⟩
  · exact ⟨43, _, rfl, (al_dig _).lnA dp48 _, by omega⟩
theorem shp_exp {A : ByteArray} {c : UInt8} (h : Al Hp A) (hc : epB c = true) (n l : Int) : Shp ((A ++ ⟨#[c]⟩) ++ sgd n l).data.toList := by
  obtain ⟨s, Y, e, hY, hz⟩ := sgd_list n l
  refine .inr ⟨A.data.toList, c, s, Y.data.toList, ?_, fun x hx => hp_sg (h x hx), hc, tame_of hY hz⟩
  rw [app_list, app_list, e]; simp
theorem Al.sci {d : ByteArray} (h : Al Dp d) (sh : Bool) (x : Int) : Shp (sci sh d x).data.toList :=
  shp_exp (((h.ext _ _).ptd (h.ext _ _) dp46 sh).mono fun _ => dp_hp) (by decide) _ _
theorem shp_genG (sh : Bool) (d : Nat) (t c : Int) (hz : 1 ≤ (genG sh d t c).size) : Shp (genG sh d t c).data.toList := by
  unfold genG at hz ⊢
  split
  · exact (al_genD _ _ _).sci _ _
  · rename_i h
    rw [if_neg h] at hz
    exact .inl (tame_of (((al_genD _ _ _).arA _).ptd ((al_genD _ _ _).arB _) dp46 _) hz)
theorem shp_num {sh : Bool} {P : Int} {m : Nat} {e : Int} {v d : Nat} {verb : Int} (hz : 1 ≤ (numT sh P m e v d verb).size) : Shp (numT sh P m e v d verb).data.toList := by
  unfold numT at hz ⊢
  split
  · exact ((al_oS _).lnB dp48 _).sci _ _
  · rename_i h1
    rw [if_neg h1] at hz
    split
    · rename_i h2
      rw [if_pos h2] at hz
      exact .inl (tame_of (((al_oS _).arA _).ptd (((al_oS _).arB _).lnB dp48 _) dp46 _) hz)
    · rename_i h2
      rw [if_neg h2] at hz
      split
      · exact shp_exp ((al_dig _).mono fun _ => dp_hp) (by decide) _ _
      · rename_i h3
        rw [if_neg h3] at hz
        split
        · have hD : Al Hp (hxD m P) := (al_dig16 _).lnA (dp_hp dp48) _
          have h0x : Al Hp ⟨#[48, 120]⟩ := fun x hx => by
            have : x = 48 ∨ x = 120 := by simpa using hx
            rcases this with rfl | rfl
            · exact dp_hp dp48
            · exact .inr (.inr (by decide))
          exact shp_exp (h0x.app ((hD.ext _ _).ptd (al_hxP (hD.ext _ _) _) (dp_hp dp46) _)) (by decide) _ _
        · rename_i h4
          rw [if_neg h4] at hz
          unfold genT at hz ⊢
          split
          · rename_i h5
            rw [if_pos h5] at hz
            exact shp_genG _ _ _ _ hz
          · rename_i h5
            rw [if_neg h5] at hz
            exact shp_genG _ _ _ _ hz
theorem upper_sg (x : UInt8) : sgB (Lib.upperB x) = sgB x ∧ epB (Lib.upperB x) = epB x := by
  have : ∀ y : Fin 256, sgB (Lib.upperB (UInt8.ofNat y.val)) = sgB (UInt8.ofNat y.val) ∧ epB (Lib.upperB (UInt8.ofNat y.val)) = epB (UInt8.ofNat y.val) := by decide +kernel
  have h3 := this ⟨x.toNat, x.toNat_lt⟩
  simpa using h3
theorem Tame.upper {l : List UInt8} (h : Tame l) : Tame (Lib.toUpperA l) where
  no := fun x hx => by
    obtain ⟨y, hy, rfl⟩ := List.mem_map.1 hx
    rw [(upper_sg y).1]; exact h.no y hy
  pos := fun e => h.pos (by unfold Lib.toUpperA at e; simpa using e)
  last := fun x hx => by
    unfold Lib.toUpperA at hx
    rw [List.getLast?_map] at hx
    obtain ⟨y, hy, rfl⟩ := Option.map_eq_some_iff.1 hx
    rw [(upper_sg y).2]; exact h.last y hy
theorem Shp.upper {l : List UInt8} (h : Shp l) : Shp (Lib.toUpperA l) := by
  rcases h with h | ⟨X, c, s, Y, rfl, hX, hc, hY⟩
  · exact .inl h.upper
  · refine .inr ⟨Lib.toUpperA X, Lib.upperB c, Lib.upperB s, Lib.toUpperA Y, by simp [Lib.toUpperA], fun x hx => ?_, by rw [(upper_sg c).2]; exact hc, hY.upper⟩
    obtain ⟨y, hy, rfl⟩ := List.mem_map.1 hx
    rw [(upper_sg y).1]; exact hX y hy
theorem shp_fin {sh : Bool} {prec : Int} {m : Nat} {e : Int} {v d : Nat} {verb : Int} (hz : 1 ≤ (finT sh prec m e v d verb).size) : Shp (finT sh prec m e v d verb).data.toList := by
  unfold finT at hz ⊢
  rw [big_size] at hz
  have h := shp_num hz
  unfold bigT
  split
  · exact h.upper
  · exact h
end Go.Proofs.YthbabhbfpcfenaaGreatDoor
