/- Plain mathematics: what stands in quotes is plain. -/
import Derived.Test.YtnoelbomcogndaaDoorQItems
import Derived.Test.YtnoelbomcogndaaDoorChar
namespace Go.Proofs.YtnoelbomcogndaaDoor
open Go.RowKit
set_option linter.unusedVariables false

def Asc (l : List UInt8) : Prop := ∀ x ∈ l, 32 ≤ x.toNat ∧ x.toNat ≤ 126
theorem Asc.app {a b : List UInt8} (ha : Asc a) (hb : Asc b) : Asc (a ++ b) := fun x h => (List.mem_append.1 h).elim (ha x) (hb x)
theorem Asc.cons {x : UInt8} {l : List UInt8} (hx : 32 ≤ x.toNat ∧ x.toNat ≤ 126) (h : Asc l) : Asc (x :: l) := fun y hy => by
  rcases List.mem_cons.1 hy with e | e
  · rw [e]; exact hx
  · exact h y e
theorem Asc.nil : Asc [] := fun x h => by cases h
theorem hexB_asc (d : Nat) (h : d < 16) : 32 ≤ (hexB false d).toNat ∧ (hexB false d).toNat ≤ 126 := by
  have : ∀ i : Fin 16, 32 ≤ (hexB false i.val).toNat ∧ (hexB false i.val).toNat ≤ 126 := by decide
  exact this ⟨d, h⟩
theorem hexL_asc : ∀ (k n : Nat), Asc (hexL n k)
  | 0, _ => Asc.nil
  | k + 1, n => Asc.app (hexL_asc k (n / 16)) (Asc.cons (hexB_asc _ (Nat.mod_lt _ (by omega))) Asc.nil)
theorem esc_asc (c : Nat) : 32 ≤ (UInt8.ofNat (escT (c - 7))).toNat ∧ (UInt8.ofNat (escT (c - 7))).toNat ≤ 126 := by
  match c - 7 with
  | 0 => decide
  | 1 => decide
  | 2 => decide
  | 3 => decide
  | 4 => decide
  | 5 => decide
  | n + 6 => exact (show 32 ≤ (UInt8.ofNat 114).toNat ∧ (UInt8.ofNat 114).toNat ≤ 126 by decide)
theorem of_nat (c : Nat) (h1 : 32 ≤ c) (h2 : c ≤ 126) : 32 ≤ (UInt8.ofNat c).toNat ∧ (UInt8.ofNat c).toNat ≤ 126 := by
  have : (UInt8.ofNat c).toNat = c := by simp; omega
  rw [this]; exact ⟨h1, h2⟩
/-- With ascii there are bytes from 32 to 126 alone; without it these, or the rune itself, which is plain. -/
theorem inL_asc (c q : Nat) (a : Bool) (hq : q = 34 ∨ q = 39) : Asc (inL c q a) ∨ (a = false ∧ plainP c = true ∧ inL c q a = (Utf8.encode (c : Int)).data.toList) := by
  unfold inL
  split
  · rename_i h
    exact .inl (Asc.cons (by decide) (Asc.cons (of_nat c (by omega) (by omega)) Asc.nil))
  · split
    · exact .inl (Asc.cons (by decide) (Asc.cons (esc_asc c) Asc.nil))
    · split
      · rename_i h
        obtain ⟨h1, h2⟩ := h
        by_cases h3 : c ≤ 126
        · have h4 := (plainP_iff c).1 h1
          left
          rw [enc1 c (by omega)]
          exact Asc.cons (of_nat c (by omega) h3) Asc.nil
        · exact .inr ⟨h2.resolve_left h3, h1, rfl⟩
      · split
        · exact .inl (Asc.cons (by decide) (Asc.cons (by decide) (hexL_asc 2 c)))
        · split
          · exact .inl (Asc.cons (by decide) (Asc.cons (by decide) (hexL_asc 4 c)))
          · exact .inl (Asc.cons (by decide) (Asc.cons (by decide) (hexL_asc 8 c)))
theorem item_asc (a : Bool) (l : List UInt8) (hl : l ≠ []) : Asc (itemL a l) ∨ (a = false ∧ ∃ c : Nat, Utf8.valid (c : Int) = true ∧ plainP c = true ∧ itemL a l = (Utf8.encode (c : Int)).data.toList) := by
  cases hb : brk (Lib.decodeL l) with
  | true =>
    unfold itemL
    rw [if_pos hb]
    exact .inl (Asc.cons (by decide) (Asc.cons (by decide) (hexL_asc 2 _)))
  | false =>
    obtain ⟨hv, -⟩ := decL_pt l hl hb
    have e : itemL a l = inL (Lib.decodeL l).1 34 a := by unfold itemL; rw [if_neg (by rw [hb]; simp)]
    rw [e]
    rcases inL_asc (Lib.decodeL l).1 34 a (.inl rfl) with h | ⟨h1, h2, h3⟩
    · exact .inl h
    · exact .inr ⟨h1, _, hv, h2, h3⟩
theorem quoI_asc : ∀ (n : Nat) (l : List UInt8), l.length ≤ n → Asc (quoI true l)
  | 0, l, h => by
    have : l = [] := List.eq_nil_of_length_eq_zero (by omega)
    subst this; rw [quoI_nil]; exact Asc.nil
  | n + 1, l, h => by
    by_cases hl : l = []
    · subst hl; rw [quoI_nil]; exact Asc.nil
    · have hw := Lib.decodeL_width l
      have hn : l.length ≠ 0 := fun h => hl (List.eq_nil_of_length_eq_zero h)
      rw [quoI_step true l hl]
      refine Asc.app ?_ (quoI_asc n _ (by rw [List.length_drop]; omega))
      rcases item_asc true l hl with h1 | ⟨h1, -⟩
      · exact h1
      · exact absurd h1 (by simp)
theorem quoS_asc (s : ByteArray) : Asc (quoS s true).data.toList := by
  show Asc (34 :: (quoI true s.data.toList ++ [34])).toArray.toList
  exact Asc.cons (by decide) (Asc.app (quoI_asc _ _ (Nat.le_refl _)) (Asc.cons (by decide) Asc.nil))
theorem chrS_asc (c : Int) : Asc (chrS c true).data.toList := by
  show Asc (39 :: (inL (pt c) 39 true ++ [39])).toArray.toList
  refine Asc.cons (by decide) (Asc.app ?_ (Asc.cons (by decide) Asc.nil))
  rcases inL_asc (pt c) 39 true (.inr rfl) with h1 | ⟨h1, -⟩
  · exact h1
  · exact absurd h1 (by simp)
theorem asc_at (s : ByteArray) (h : Asc s.data.toList) (k : Nat) (hk : k < s.size) : 32 ≤ (s[k]'hk).toNat ∧ (s[k]'hk).toNat ≤ 126 := by
  have hm : s[k]'hk ∈ s.data.toList := by
    have : s[k]'hk = s.data[k]'hk := rfl
    rw [this]
    exact Array.mem_toList_iff.2 (Array.getElem_mem _)
  exact h _ hm
/-- A text of plain runes alone. -/
def PT (l : List UInt8) : Prop := ∃ cs : List Nat, (∀ c ∈ cs, Utf8.valid (c : Int) = true ∧ plainP (c : Int) = true) ∧ l = cs.flatMap fun c : Nat => (Utf8.encode (c : Int)).data.toList
theorem PT.nil : PT [] := ⟨[], fun _ h => (by cases h), rfl⟩
theorem PT.cons (c : Nat) (r : List UInt8) (hv : Utf8.valid (c : Int) = true) (hp : plainP c = true) (h : PT r) : PT ((Utf8.encode (c : Int)).data.toList ++ r) := by
  obtain ⟨cs, h1, h2⟩ := h
  refine ⟨c :: cs, fun d hd => ?_, by rw [List.flatMap_cons, h2]⟩
  rcases List.mem_cons.1 hd with e | e
  · rw [e]; exact ⟨hv, hp⟩
  · exact h1 d e
theorem PT.asc : ∀ (l r : List UInt8), Asc l → PT r → PT (l ++ r)
  | [], r, _, h => h
  | x :: l, r, ha, h => by
    have hx := ha x (List.mem_cons_self ..)
    have h1 := PT.asc l r (fun y hy => ha y (List.mem_cons_of_mem _ hy)) h
    have hv : Utf8.valid ((x.toNat : Nat) : Int) = true := (valid_iff _).2 (by omega)
    have hp : plainP ((x.toNat : Nat) : Int) = true := (plainP_iff _).2 (by omega)
    have := PT.cons x.toNat (l ++ r) hv hp h1
    rw [enc1 x.toNat (by omega)] at this
    have e : UInt8.ofNat x.toNat = x := by simp
    rw [e] at this
    exact this
theorem quoI_PT : ∀ (n : Nat) (l r : List UInt8), l.length ≤ n → PT r → PT (quoI false l ++ r)
  | 0, l, r, h, hr => by
    have : l = [] := List.eq_nil_of_length_eq_zero (by omega)
    subst this; rw [quoI_nil]; exact hr
  | n + 1, l, r, h, hr => by
    by_cases hl : l = []
    · subst hl; rw [quoI_nil]; exact hr
    · have hw := Lib.decodeL_width l
      have hn : l.length ≠ 0 := fun h => hl (List.eq_nil_of_length_eq_zero h)
      have ih := quoI_PT n (l.drop (Lib.decodeL l).2) r (by rw [List.length_drop]; omega) hr
      rw [quoI_step false l hl, List.append_assoc]
      rcases item_asc false l hl with h1 | ⟨-, c, hv, hp, he⟩
      · exact PT.asc _ _ h1 ih
      · rw [he]; exact PT.cons c _ hv hp ih
theorem quoS_PT (s : ByteArray) : PT (quoS s false).data.toList := by
  show PT (34 :: (quoI false s.data.toList ++ [34])).toArray.toList
  have h1 : PT (quoI false s.data.toList ++ [34]) := quoI_PT _ _ _ (Nat.le_refl _) (PT.asc [34] [] (Asc.cons (by decide) Asc.nil) PT.nil)
  exact PT.asc [34] _ (Asc.cons (by decide) Asc.nil) h1
/-- The first rune of such a text is plain, and what stands behind it is such a text. -/
theorem PT.first (T : ByteArray) (h : PT T.data.toList) (h0 : 0 < T.size) : ∃ c n : Nat, dec T = (c, n) ∧ 1 ≤ n ∧ n ≤ T.size ∧ plainP c = true ∧ PT (T.extract n T.size).data.toList := by
  have key : ∀ l : List UInt8, PT l → l ≠ [] → ∃ c n : Nat, Lib.decodeL l = (c, n) ∧ 1 ≤ n ∧ n ≤ l.length ∧ plainP c = true ∧ PT (l.drop n) := by
    intro l hl hne
    obtain ⟨cs, h1, h2⟩ := hl
    cases cs with
    | nil => exact absurd h2 hne
    | cons c cs =>
      obtain ⟨hv, hp⟩ := h1 c (List.mem_cons_self ..)
      have hr : PT (cs.flatMap fun c : Nat => (Utf8.encode (c : Int)).data.toList) := ⟨cs, fun d hd => h1 d (List.mem_cons_of_mem _ hd), rfl⟩
      rw [List.flatMap_cons] at h2
      rw [h2]
      generalize (cs.flatMap fun c : Nat => (Utf8.encode (c : Int)).data.toList) = r at *
      have hd := decL_enc c hv r
      have hw := Lib.decodeL_width ((Utf8.encode (c : Int)).data.toList ++ r)
      have hz : (Utf8.encode (c : Int)).size = (Utf8.encode (c : Int)).data.toList.length := (list_len _).symm
      rw [hd] at hw
      generalize (Utf8.encode (c : Int)).data.toList = E at *
      generalize (Utf8.encode (c : Int)).size = z at *
      refine ⟨c, z, hd, hw, ?_, hp, ?_⟩
      · rw [List.length_append]; omega
      · rw [hz, List.drop_left]; exact hr
  have hne : T.data.toList ≠ [] := fun e => by
    have := congrArg List.length e
    rw [list_len, List.length_nil] at this
    omega
  obtain ⟨c, n, h1, h2, h3, h4, h5⟩ := key _ h hne
  rw [list_len] at h3
  refine ⟨c, n, ?_, h2, h3, h4, ?_⟩
  · rw [dec_ne T h0, ← dec_tail_list]; exact h1
  · rw [tail_list]; exact h5
theorem plain_big (c : Nat) (h : plainP c = true) : 32 ≤ c ∧ ¬ c = 65533 ∧ c ≤ 1114111 := by
  have := (plainP_iff c).1 h
  omega
end Go.Proofs.YtnoelbomcogndaaDoor
