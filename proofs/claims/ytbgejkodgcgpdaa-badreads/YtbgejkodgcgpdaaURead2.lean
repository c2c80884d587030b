/- The document's Read of package bad. -/
import Derived.Test.YtbgejkodgcgpdaaURead
namespace Go.Proofs.Ytbgejkodgcgpdaa
open Go.RowKit
set_option linter.unusedVariables false
set_option linter.unusedSimpArgs false

/-- A byte of a text, by its place. -/
theorem byteAt {s : ByteArray} {i : Nat} {x : UInt8} (h : s.data.toList[i]? = some x) : ∃ hi : i < s.size, s[i]'hi = x := by
  obtain ⟨hi, he⟩ := List.getElem?_eq_some_iff.1 h
  rw [list_len] at hi
  refine ⟨hi, ?_⟩
  rw [← he, Array.getElem_toList]
  rfl
/-- The four texts. -/
def lits (j : Nat) : ByteArray := if j = 0 then ⟨#[78, 79, 86, 69, 82, 66]⟩ else if j = 1 then ⟨#[66, 65, 68, 87, 73, 68, 84, 72]⟩ else if j = 2 then ⟨#[66, 65, 68, 80, 82, 69, 67]⟩ else ⟨#[68, 69, 80, 84, 72]⟩
theorem three (s : ByteArray) : (s.size < 4 ∧ reK s = (0, 0, ⟨#[]⟩)) ∨ (4 ≤ s.size ∧ [37, 33].isPrefixOf s.data.toList = false ∧ reK s = (0, 0, ⟨#[]⟩)) ∨
    (4 ≤ s.size ∧ [37, 33].isPrefixOf s.data.toList = true ∧ (∃ x, s.data.toList[s.size - 1]? = some x ∧ x ≠ 41) ∧ reK s = (0, 0, ⟨#[]⟩)) ∨
    (4 ≤ s.size ∧ [37, 33].isPrefixOf s.data.toList = true ∧ ∃ L, L ≠ [] ∧ s = mk (37 :: 33 :: (L ++ [41])) ∧ reK s = udK L) := by
  have hl := list_len s
  by_cases h4 : s.size < 4
  · refine .inl ⟨h4, ?_⟩
    by_cases hL : ∃ L, s.data.toList = 37 :: 33 :: (L ++ [41])
    · obtain ⟨L, hL⟩ := hL
      have : L.length = 0 := by
        have := congrArg List.length hL
        rw [hl] at this
        simp at this
        omega
      obtain rfl : L = [] := List.eq_nil_of_length_eq_zero this
      have e : s = mk (37 :: 33 :: ([] ++ [41])) := ba_extB hL
      rw [e, reK_body, udK_nil]
    · exact reK_no s hL
  right
  cases hp : [37, 33].isPrefixOf s.data.toList with
  | false =>
    refine .inl ⟨by omega, rfl, reK_no s ?_⟩
    rintro ⟨L, hL⟩
    rw [hL] at hp
    simp [List.isPrefixOf] at hp
  | true =>
    right
    obtain ⟨t, ht⟩ := List.isPrefixOf_iff_prefix.1 hp
    have hlt : s.size = t.length + 2 := by rw [← hl, ← ht]; simp
    rcases List.eq_nil_or_concat t with rfl | ⟨L, x, rfl⟩
    · simp at hlt; omega
    · have hx : s.data.toList[s.size - 1]? = some x := by
        rw [hlt, ← ht]
        simp
      by_cases h41 : x = 41
      · subst h41
        refine .inr ⟨by omega, rfl, L, ?_, ba_extB (by rw [← ht, List.concat_eq_append]; rfl), ?_⟩
        · rintro rfl; simp at hlt; omega
        · have e : s = mk (37 :: 33 :: (L ++ [41])) := ba_extB (by rw [← ht, List.concat_eq_append]; rfl)
          rw [e, reK_body]
      · refine .inl ⟨by omega, rfl, ⟨x, hx, h41⟩, reK_no s ?_⟩
        rintro ⟨L', hL'⟩
        rw [hL', hlt] at hx
        have h2 : (37 :: 33 :: (L' ++ [41])).length = (L.concat x).length + 2 := by rw [← hL', hl, hlt]
        simp at h2
        simp at hx
        rw [← h2] at hx
        simp at hx
        exact h41 hx.symm
set_option maxRecDepth 1000000 in
set_option maxHeartbeats 2000000 in
theorem uread_any (s : ByteArray) (hs : s.size ≤ 1000) (w : World) : Calls Try.prog 17 #[.string s] w fun e w' => e = .returned (.tuple #[.int .i64 (reK s).1, .int .i32 (reK s).2.1, .string (reK s).2.2]) ∧ Below w.heap.size w w' := by
  have hsI : (s.size : Int) ≤ 1000 := by omega
  have hB1 := fun w => ubegins_any s ⟨#[37, 33]⟩ (by omega) (by decide) w
  rcases three s with ⟨h4, hr⟩ | ⟨h4, hp, hr⟩ | ⟨h4, hp, ⟨x, hx, hx41⟩, hr⟩ | ⟨h4, hp, L, hL, hsL, hr⟩
  · rw [hr]
    clear hr hB1
    have h4I : (s.size : Int) < 4 := by omega
    go_enter Try.func17, Try.ntmps17
    go_wp2
    go_ret3
    exact ⟨rfl, Below.refl _ _⟩
  · rw [hr]
    rw [show (⟨#[37, 33]⟩ : ByteArray).data.toList = [37, 33] from rfl, hp] at hB1
    clear hr hp
    have h4I : 4 ≤ (s.size : Int) := by omega
    go_enter Try.func17, Try.ntmps17
    go_wp2_with (go_at_call 33; refine (hB1 _).mono ?_; rintro e w9 ⟨rfl, hw9⟩; subst w9)
    go_ret3
    exact ⟨rfl, Below.refl _ _⟩
  · rw [hr]
    rw [show (⟨#[37, 33]⟩ : ByteArray).data.toList = [37, 33] from rfl, hp] at hB1
    obtain ⟨hi, hb⟩ := byteAt hx
    have hI1 : (s.size : Int) - 1 = ((s.size - 1 : Nat) : Int) := by omega
    have hbn : ¬ (s[s.size - 1]'hi).toNat = 41 := by
      rw [hb]
      intro h
      exact hx41 (UInt8.toNat_inj.1 (by rw [h]; rfl))
    have hbI : (((s[s.size - 1]'hi).toNat : Int) != 41) = true := by simp; omega
    clear hr hp hx hx41 hb
    have h4I : 4 ≤ (s.size : Int) := by omega
    go_enter Try.func17, Try.ntmps17
    go_wp2_with (go_at_call 33; refine (hB1 _).mono ?_; rintro e w9 ⟨rfl, hw9⟩; subst w9)
    go_ret3
    exact ⟨rfl, Below.refl _ _⟩
  · rw [hr]
    rw [show (⟨#[37, 33]⟩ : ByteArray).data.toList = [37, 33] from rfl, hp] at hB1
    have hlist : s.data.toList = 37 :: 33 :: (L ++ [41]) := by rw [hsL]; rfl
    have hsz : s.size = L.length + 3 := by rw [hsL, mk_size]; simp
    have hLpos : 0 < L.length := List.length_pos_iff.2 hL
    have hlast : s.data.toList[s.size - 1]? = some 41 := by rw [hlist, hsz]; simp
    obtain ⟨hi, hb⟩ := byteAt hlast
    have hI1 : (s.size : Int) - 1 = ((s.size - 1 : Nat) : Int) := by omega
    have hbn : (s[s.size - 1]'hi).toNat = 41 := by rw [hb]; rfl
    have hbI : (((s[s.size - 1]'hi).toNat : Int) != 41) = false := by rw [hbn]; rfl
    have h4I : 4 ≤ (s.size : Int) := by omega
    have h2? : s.data.toList[2]? = L[0]? := by
      rw [hlist]; cases L with
      | nil => simp at hLpos
      | cons x r => rfl
    have h3? : s.data.toList[3]? = (L ++ [41])[1]? := by rw [hlist]; rfl
    obtain ⟨x2, hx2⟩ : ∃ x, L[0]? = some x := ⟨_, List.getElem?_eq_getElem hLpos⟩
    obtain ⟨x3, hx3⟩ : ∃ x, (L ++ [41])[1]? = some x := ⟨_, List.getElem?_eq_getElem (by simp; omega)⟩
    obtain ⟨i2, b2⟩ := byteAt (h2?.trans hx2)
    obtain ⟨i3, b3⟩ := byteAt (h3?.trans hx3)
    have h1iff : L[1]? = some 40 ↔ x3 = 40 := by
      rcases Nat.lt_or_ge 1 L.length with h | h
      · rw [List.getElem?_append_left h] at hx3
        rw [hx3]; simp
      · rw [List.getElem?_append_right h] at hx3
        rw [List.getElem?_eq_none h]
        have : 1 - L.length = 0 := by omega
        rw [this] at hx3
        simp at hx3
        subst hx3
        decide
    clear hp hb hlast hsL
    by_cases hA : L[0]? = some 40 ∧ ¬ L[1]? = some 40
    · have e2 : (s[2]'i2).toNat = 40 := by
        rw [b2]; rw [hA.1] at hx2; obtain rfl := Option.some.inj hx2; rfl
      have e3 : ¬ (s[3]'i3).toNat = 40 := by
        rw [b3]; intro h; exact hA.2 (h1iff.2 (UInt8.toNat_inj.1 (by rw [h]; rfl)))
      have e3I : (((s[3]'i3).toNat : Int) != 40) = true := by simp; omega
      obtain ⟨I, hI⟩ : ∃ I, I = mk (L.drop 1) := ⟨_, rfl⟩
      have hex : s.extract 3 (s.size - 1) = I := by
        rw [hI]; apply ba_extB
        rw [ByteArray.data_extract, Array.toList_extract, List.extract_eq_take_drop, hlist, hsz]
        cases L with
        | nil => simp at hLpos
        | cons x r => simp [mk]
      have hud : udK L = z0 (woK I) 0 I := by unfold udK; rw [if_pos hA, hI]
      rw [hud]
      have hIz : I.size ≤ 1000 := by rw [hI, mk_size, List.length_drop]; omega
      have hIzI : (I.size : Int) ≤ 1000 := by omega
      have hBE := fun w => ubegins_any I ⟨#[69, 88, 84, 82, 65, 32]⟩ (by omega) (by decide) w
      rw [show (⟨#[69, 88, 84, 82, 65, 32]⟩ : ByteArray).data.toList = [69, 88, 84, 82, 65, 32] from rfl] at hBE
      clear hr hud hI hA hx2 hx3 h2? h3? h1iff hlist hLpos b2 b3 hL hsz
      go_enter Try.func17, Try.ntmps17
      go_upto_region 6 with (go_at_call 33; refine (hB1 _).mono ?_; rintro e w9 ⟨rfl, hw9⟩; subst w9)
      obtain ⟨W6, hW6⟩ : ∃ W6, W6 = w.alloc (.cells #[.string ⟨#[78, 79, 86, 69, 82, 66]⟩, .string ⟨#[66, 65, 68, 87, 73, 68, 84, 72]⟩, .string ⟨#[66, 65, 68, 80, 82, 69, 67]⟩, .string ⟨#[68, 69, 80, 84, 72]⟩] 9) := ⟨_, rfl⟩
      have c0 : W6.cell? ⟨w.heap.size, 0, none⟩ = some (.string ⟨#[78, 79, 86, 69, 82, 66]⟩) := by rw [hW6]; simp
      have c1 : W6.cell? ⟨w.heap.size, 1, none⟩ = some (.string ⟨#[66, 65, 68, 87, 73, 68, 84, 72]⟩) := by rw [hW6]; simp
      have c2 : W6.cell? ⟨w.heap.size, 2, none⟩ = some (.string ⟨#[66, 65, 68, 80, 82, 69, 67]⟩) := by rw [hW6]; simp
      have c3 : W6.cell? ⟨w.heap.size, 3, none⟩ = some (.string ⟨#[68, 69, 80, 84, 72]⟩) := by rw [hW6]; simp
      have b6 : Below w.heap.size w W6 := by rw [hW6]; exact (Below.refl _ _).alloc (Nat.le_refl _) _
      go_wp2_with fail
      rw [← hW6]
      clear hW6
      go_loopg [7, 8, 43] 4 (fun g _ _ iv wr => wr = W6 ∧ ∃ i : Nat, iv = .int .i64 (i : Nat) ∧ i + g = 4 ∧ Hid (∀ j, j < i → I ≠ lits j))
      case atStart => exact ⟨rfl, 0, rfl, by omega, fun j hj => by omega⟩
      case round =>
        obtain ⟨rfl, i, rfl, hi, HN⟩ := hrel
        rcases (by omega : i = 0 ∨ i = 1 ∨ i = 2 ∨ i = 3 ∨ i = 4) with rfl | rfl | rfl | rfl | rfl
        · by_cases hI : I = ⟨#[78, 79, 86, 69, 82, 66]⟩
          · have Hz : Hid (z0 (woK I) 0 I = (6, 0, I)) := by show _ = _; rw [hI]; rfl
            have heq : I.toList = [78, 79, 86, 69, 82, 66] := by rw [hI]; simp
            clear HN hI
            go_wp2
            go_ret3
            exact ⟨by rw [Hz.out]; rfl, b6⟩
          · have HN2 : Hid (∀ j, j < 0 + 1 → I ≠ lits j) := by
              intro j hj
              rcases Nat.lt_or_ge j 0 with h1 | h1
              · exact HN.out j h1
              · rw [show j = 0 by omega]; exact hI
            have hne : (I.toList == [78, 79, 86, 69, 82, 66]) = false := by simpa using beq_nB I ⟨#[78, 79, 86, 69, 82, 66]⟩ hI
            clear hI HN
            go_wp2
            go_roundg (gk - 1)
            case measure => omega
            case rel => exact ⟨rfl, 0 + 1, by go_num, by omega, HN2⟩
        · by_cases hI : I = ⟨#[66, 65, 68, 87, 73, 68, 84, 72]⟩
          · have Hz : Hid (z0 (woK I) 0 I = (7, 0, I)) := by show _ = _; rw [hI]; rfl
            have heq : I.toList = [66, 65, 68, 87, 73, 68, 84, 72] := by rw [hI]; simp
            clear HN hI
            go_wp2
            go_ret3
            exact ⟨by rw [Hz.out]; rfl, b6⟩
          · have HN2 : Hid (∀ j, j < 1 + 1 → I ≠ lits j) := by
              intro j hj
              rcases Nat.lt_or_ge j 1 with h1 | h1
              · exact HN.out j h1
              · rw [show j = 1 by omega]; exact hI
            have hne : (I.toList == [66, 65, 68, 87, 73, 68, 84, 72]) = false := by simpa using beq_nB I ⟨#[66, 65, 68, 87, 73, 68, 84, 72]⟩ hI
            clear hI HN
            go_wp2
            go_roundg (gk - 1)
            case measure => omega
            case rel => exact ⟨rfl, 1 + 1, by go_num, by omega, HN2⟩
        · by_cases hI : I = ⟨#[66, 65, 68, 80, 82, 69, 67]⟩
          · have Hz : Hid (z0 (woK I) 0 I = (8, 0, I)) := by show _ = _; rw [hI]; rfl
            have heq : I.toList = [66, 65, 68, 80, 82, 69, 67] := by rw [hI]; simp
            clear HN hI
            go_wp2
            go_ret3
            exact ⟨by rw [Hz.out]; rfl, b6⟩
          · have HN2 : Hid (∀ j, j < 2 + 1 → I ≠ lits j) := by
              intro j hj
              rcases Nat.lt_or_ge j 2 with h1 | h1
              · exact HN.out j h1
              · rw [show j = 2 by omega]; exact hI
            have hne : (I.toList == [66, 65, 68, 80, 82, 69, 67]) = false := by simpa using beq_nB I ⟨#[66, 65, 68, 80, 82, 69, 67]⟩ hI
            clear hI HN
            go_wp2
            go_roundg (gk - 1)
            case measure => omega
            case rel => exact ⟨rfl, 2 + 1, by go_num, by omega, HN2⟩
        · by_cases hI : I = ⟨#[68, 69, 80, 84, 72]⟩
          · have Hz : Hid (z0 (woK I) 0 I = (9, 0, I)) := by show _ = _; rw [hI]; rfl
            have heq : I.toList = [68, 69, 80, 84, 72] := by rw [hI]; simp
            clear HN hI
            go_wp2
            go_ret3
            exact ⟨by rw [Hz.out]; rfl, b6⟩
          · have HN2 : Hid (∀ j, j < 3 + 1 → I ≠ lits j) := by
              intro j hj
              rcases Nat.lt_or_ge j 3 with h1 | h1
              · exact HN.out j h1
              · rw [show j = 3 by omega]; exact hI
            have hne : (I.toList == [68, 69, 80, 84, 72]) = false := by simpa using beq_nB I ⟨#[68, 69, 80, 84, 72]⟩ hI
            clear hI HN
            go_wp2
            go_roundg (gk - 1)
            case measure => omega
            case rel => exact ⟨rfl, 3 + 1, by go_num, by omega, HN2⟩
        · have hwo : woK I = if Lib.hasPrefix I.data.toList [69, 88, 84, 82, 65, 32] = true then 10 else 0 := by
            unfold woK
            rw [if_neg (show ¬ I = ⟨#[78, 79, 86, 69, 82, 66]⟩ from HN.out 0 (by omega)), if_neg (show ¬ I = ⟨#[66, 65, 68, 87, 73, 68, 84, 72]⟩ from HN.out 1 (by omega)), if_neg (show ¬ I = ⟨#[66, 65, 68, 80, 82, 69, 67]⟩ from HN.out 2 (by omega)), if_neg (show ¬ I = ⟨#[68, 69, 80, 84, 72]⟩ from HN.out 3 (by omega))]
          cases hpe : ([69, 88, 84, 82, 65, 32] : List UInt8).isPrefixOf I.data.toList with
          | true =>
            rw [hpe] at hBE
            have Hz : Hid (z0 (woK I) 0 I = (10, 0, I)) := by show _ = _; rw [hwo, if_pos (show Lib.hasPrefix I.data.toList [69, 88, 84, 82, 65, 32] = true from hpe)]; rfl
            clear HN hwo hpe
            go_wp2_with (go_at_call 33; refine (hBE _).mono ?_; rintro e w9 ⟨rfl, hw9⟩; subst w9)
            go_ret3
            exact ⟨by rw [Hz.out]; rfl, b6⟩
          | false =>
            rw [hpe] at hBE
            have Hz : Hid (z0 (woK I) 0 I = (0, 0, ⟨#[]⟩)) := by show _ = _; rw [hwo, if_neg (by unfold Lib.hasPrefix; rw [hpe]; decide)]; rfl
            clear HN hwo hpe
            go_wp2_with (go_at_call 33; refine (hBE _).mono ?_; rintro e w9 ⟨rfl, hw9⟩; subst w9)
            go_ret3
            exact ⟨by rw [Hz.out]; rfl, b6⟩
    · obtain ⟨D, hD⟩ : ∃ D, D = mk (L ++ [41]) := ⟨_, rfl⟩
      have hexD : s.extract 2 s.size = D := by
        rw [hD]; apply ba_extB
        rw [ext_listB, hlist]
        rfl
      have hDz : D.size ≤ maxLen := by rw [hD, mk_size]; simp; unfold maxLen; omega
      have hDec := fun w => rdecodeB_any D w hDz
      rw [hD, dec_close L hL, ← hD] at hDec
      have hkl := dec_le (mk L)
      rw [mk_size] at hkl
      have hud : udK L = if brk (dec (mk L)) = true ∨ ¬ L[(dec (mk L)).2]? = some 40 then (0, 0, ⟨#[]⟩) else z0 (wiK (mk (L.drop ((dec (mk L)).2 + 1)))) (dec (mk L)).1 (mk (L.drop ((dec (mk L)).2 + 1))) := by
        conv => lhs; unfold udK
        rw [if_neg hA]
      obtain ⟨R, hR⟩ : ∃ R, R = udK L := ⟨_, rfl⟩
      rw [← hR]
      rw [← hR] at hud
      have F1 : Hid (brk (dec (mk L)) = true → R = (0, 0, ⟨#[]⟩)) := fun h => hud.trans (if_pos (.inl h))
      have F2 : Hid (¬ L[(dec (mk L)).2]? = some 40 → R = (0, 0, ⟨#[]⟩)) := fun h => hud.trans (if_pos (.inr h))
      have F3 : Hid (brk (dec (mk L)) = false → L[(dec (mk L)).2]? = some 40 → R = z0 (wiK (mk (L.drop ((dec (mk L)).2 + 1)))) (dec (mk L)).1 (mk (L.drop ((dec (mk L)).2 + 1)))) := fun h h' => hud.trans (if_neg (by rintro (hh | hh); rw [h] at hh; cases hh; exact hh h'))
      clear hud hr hD hDz hR
      generalize dec (mk L) = d at *
      obtain ⟨c, k⟩ := d
      dsimp only at *
      have h23 : (¬ (s[2]'i2).toNat = 40) ∨ ((s[2]'i2).toNat = 40 ∧ (s[3]'i3).toNat = 40) := by
        by_cases h : x2 = 40
        · subst h
          right
          refine ⟨by rw [b2]; rfl, ?_⟩
          by_cases h3 : x3 = 40
          · rw [b3, h3]; rfl
          · exact absurd ⟨hx2, fun hh => h3 (h1iff.1 hh)⟩ hA
        · left
          rw [b2]
          intro hh
          exact h (UInt8.toNat_inj.1 (by rw [hh]; rfl))
      have hLI : (L.length : Int) ≤ 1000 := by omega
      have hkI : (k : Int) ≤ L.length := by omega
      have hsz2 : ((s.size - 1 : Nat) : Int) ≤ L.length + 2 ∧ (L.length : Int) + 2 ≤ ((s.size - 1 : Nat) : Int) := by omega
      have hget : ∀ x, L[k]? = some x → s.data.toList[2 + k]? = some x := by
        intro x hx
        rw [hlist, show 2 + k = k + 1 + 1 by omega, List.getElem?_cons_succ, List.getElem?_cons_succ, List.getElem?_append_left (List.getElem?_eq_some_iff.1 hx).1]
        exact hx
      have hexI : s.extract (3 + k) (s.size - 1) = mk (L.drop (k + 1)) := by
        apply ba_extB
        rw [ByteArray.data_extract, Array.toList_extract, List.extract_eq_take_drop, hlist, hsz]
        rw [show 3 + k = k + 1 + 1 + 1 by omega]
        rw [show L.length + 3 - 1 - (k + 1 + 1 + 1) = L.length - (k + 1) by omega]
        simp only [List.drop_succ_cons, mk]
        rw [List.drop_append, List.take_append_of_le_length (by simp)]
        rw [List.take_of_length_le (by simp)]
      obtain ⟨H1, H2⟩ := hsz2
      have h01 : (s.size : Int) - 1 = ((s.size - 1 : Nat) : Int) := hI1
      clear hA h1iff hx2 hx3 h2? h3? b2 b3 hlist hsz hL
      go_enter Try.func17, Try.ntmps17
      go_upto_region 4 with (go_at_call 33; refine (hB1 _).mono ?_; rintro e w9 ⟨rfl, hw9⟩; subst w9)
      go_cut [36] (fun t wx => t = .bool false ∧ wx = w)
      case first =>
        rcases h23 with h23 | ⟨h23, h33⟩
        · have h2I : (((s[2]'i2).toNat : Int) == 40) = false := by simp; omega
          go_wp2
          go_meet
          exact ⟨rfl, rfl⟩
        · have h3I : (((s[3]'i3).toNat : Int) != 40) = false := by rw [h33]; rfl
          go_wp2
          go_meet
          exact ⟨rfl, rfl⟩
      case rest =>
      clear h23
      obtain ⟨rfl, hwx⟩ := hcut
      subst hwx
      cases hbr : brk (c, k) with
      | true =>
        rw [hbr] at hDec
        have Hz : Hid (R = (0, 0, ⟨#[]⟩)) := F1.out hbr
        clear F1 F2 F3
        clear hbr hget hexI
        go_wp2_with (go_at_call 34; refine (hDec _).mono ?_; rintro e w5 ⟨rfl, b5⟩)
        go_ret3
        exact ⟨by rw [Hz.out]; rfl, b5⟩
      | false =>
        rw [hbr] at hDec
        have F3 : Hid (L[k]? = some 40 → R = z0 (wiK (mk (L.drop (k + 1)))) c (mk (L.drop (k + 1)))) := F3.out hbr
        clear hbr F1
        rcases Nat.lt_or_ge k L.length with hkL | hkL
        · obtain ⟨x, hx⟩ : ∃ x, L[k]? = some x := ⟨_, List.getElem?_eq_getElem hkL⟩
          obtain ⟨ik, bk⟩ := byteAt (hget x hx)
          have hkI2 : (k : Int) < L.length := by omega
          have hno : ¬ ((s.size - 1 : Nat) : Int) < 2 + (k : Int) + 1 := by omega
          by_cases h40 : x = 40
          · have bkn : (s[2 + k]'ik).toNat = 40 := by rw [bk, h40]; rfl
            have bkI : (((s[2 + k]'ik).toNat : Int) != 40) = false := by rw [bkn]; rfl
            have HC := F3.out (by rw [hx, h40])
            obtain ⟨I, hI⟩ : ∃ I, I = mk (L.drop (k + 1)) := ⟨_, rfl⟩
            rw [← hI] at hexI HC
            have hIz : I.size ≤ 1000 := by rw [hI, mk_size, List.length_drop]; omega
            have HC : Hid _ := HC
            have hP := fun w => ubegins_any I ⟨#[80, 65, 78, 73, 67, 61]⟩ (by omega) (by decide) w
            have hM := fun w => uhas_any I ⟨#[32, 109, 101, 116, 104, 111, 100, 58, 32]⟩ (by omega) (by decide) w
            have hQ := fun w => uhas_any I ⟨#[61]⟩ (by omega) (by decide) w
            rw [show (⟨#[80, 65, 78, 73, 67, 61]⟩ : ByteArray).data.toList = [80, 65, 78, 73, 67, 61] from rfl] at hP
            rw [show (⟨#[32, 109, 101, 116, 104, 111, 100, 58, 32]⟩ : ByteArray).data.toList = [32, 109, 101, 116, 104, 111, 100, 58, 32] from rfl] at hM
            rw [show (⟨#[61]⟩ : ByteArray).data.toList = [61] from rfl, has_byte] at hQ
            clear F2 F3 hget hx h40 bk hI
            have hwi := (rfl : wiK I = wiK I)
            by_cases n1 : I = ⟨#[60, 110, 105, 108, 62]⟩
            · have a1 : I.toList = [60, 110, 105, 108, 62] := by rw [n1]; simp
              have a2 : (I.toList == [77, 73, 83, 83, 73, 78, 71]) = false := by rw [a1]; rfl
              have a3 : (I.toList == [66, 65, 68, 73, 78, 68, 69, 88]) = false := by rw [a1]; rfl
              have Hz : Hid (z0 (wiK I) c I = (2, (c : Int), I)) := by show _ = _; rw [n1]; rfl
              clear hwi n1
              go_wp2_with (first
              | (go_at_call 34; refine (hDec _).mono ?_; rintro e w5 ⟨rfl, b5⟩)
              | (go_at_call 33; refine (hP _).mono ?_; rintro e w9 ⟨rfl, hw9⟩; subst w9)
              | (go_at_call_of 35 (⟨#[61]⟩ : ByteArray); refine (hQ _).mono ?_; rintro e w9 ⟨rfl, hw9⟩; subst w9)
              | (go_at_call 35; refine (hM _).mono ?_; rintro e w9 ⟨rfl, hw9⟩; subst w9))
              go_ret3
              exact ⟨by first | (rw [HC.out, Hz.out]; rfl) | (rw [HC.out, Hz.out, ← hexI]; rfl), b5⟩
            by_cases n2 : I = ⟨#[77, 73, 83, 83, 73, 78, 71]⟩
            · have a1 : I.toList = [77, 73, 83, 83, 73, 78, 71] := by rw [n2]; simp
              have Hz : Hid (z0 (wiK I) c I = (3, (c : Int), I)) := by show _ = _; rw [n2]; rfl
              clear hwi n2
              go_wp2_with (first
              | (go_at_call 34; refine (hDec _).mono ?_; rintro e w5 ⟨rfl, b5⟩)
              | (go_at_call 33; refine (hP _).mono ?_; rintro e w9 ⟨rfl, hw9⟩; subst w9)
              | (go_at_call_of 35 (⟨#[61]⟩ : ByteArray); refine (hQ _).mono ?_; rintro e w9 ⟨rfl, hw9⟩; subst w9)
              | (go_at_call 35; refine (hM _).mono ?_; rintro e w9 ⟨rfl, hw9⟩; subst w9))
              go_ret3
              exact ⟨by first | (rw [HC.out, Hz.out]; rfl) | (rw [HC.out, Hz.out, ← hexI]; rfl), b5⟩
            by_cases n3 : I = ⟨#[66, 65, 68, 73, 78, 68, 69, 88]⟩
            · have a1 : I.toList = [66, 65, 68, 73, 78, 68, 69, 88] := by rw [n3]; simp
              have a2 : (I.toList == [77, 73, 83, 83, 73, 78, 71]) = false := by rw [a1]; rfl
              have Hz : Hid (z0 (wiK I) c I = (4, (c : Int), I)) := by show _ = _; rw [n3]; rfl
              clear hwi n3
              go_wp2_with (first
              | (go_at_call 34; refine (hDec _).mono ?_; rintro e w5 ⟨rfl, b5⟩)
              | (go_at_call 33; refine (hP _).mono ?_; rintro e w9 ⟨rfl, hw9⟩; subst w9)
              | (go_at_call_of 35 (⟨#[61]⟩ : ByteArray); refine (hQ _).mono ?_; rintro e w9 ⟨rfl, hw9⟩; subst w9)
              | (go_at_call 35; refine (hM _).mono ?_; rintro e w9 ⟨rfl, hw9⟩; subst w9))
              go_ret3
              exact ⟨by first | (rw [HC.out, Hz.out]; rfl) | (rw [HC.out, Hz.out, ← hexI]; rfl), b5⟩
            have a1 : (I.toList == [60, 110, 105, 108, 62]) = false := by simpa using beq_nB I ⟨#[60, 110, 105, 108, 62]⟩ n1
            have a2 : (I.toList == [77, 73, 83, 83, 73, 78, 71]) = false := by simpa using beq_nB I ⟨#[77, 73, 83, 83, 73, 78, 71]⟩ n2
            have a3 : (I.toList == [66, 65, 68, 73, 78, 68, 69, 88]) = false := by simpa using beq_nB I ⟨#[66, 65, 68, 73, 78, 68, 69, 88]⟩ n3
            have hwi : wiK I = if Lib.hasPrefix I.data.toList [80, 65, 78, 73, 67, 61] = true ∧ Lib.contains I.data.toList [32, 109, 101, 116, 104, 111, 100, 58, 32] = true then 5 else if 0 ≤ Lib.indexByte I.data.toList 61 then 1 else 0 := by
              unfold wiK
              rw [if_neg n1, if_neg n2, if_neg n3]
            clear n1 n2 n3
            unfold Lib.hasPrefix at hwi
            generalize ([80, 65, 78, 73, 67, 61] : List UInt8).isPrefixOf I.data.toList = pp at *
            generalize Lib.contains I.data.toList [32, 109, 101, 116, 104, 111, 100, 58, 32] = mm at *
            have hq : (if 0 ≤ Lib.indexByte I.data.toList 61 then (1 : Int) else 0) = if decide (0 ≤ Lib.indexByte I.data.toList 61) = true then 1 else 0 := by simp
            rw [hq] at hwi
            clear hq
            generalize decide (0 ≤ Lib.indexByte I.data.toList 61) = qq at *
            cases pp with
            | true =>
              cases mm with
              | true =>
                have Hz : Hid (z0 (wiK I) c I = (5, (c : Int), I)) := by show _ = _; rw [hwi]; rfl
                clear hwi
                go_wp2_with (first
              | (go_at_call 34; refine (hDec _).mono ?_; rintro e w5 ⟨rfl, b5⟩)
              | (go_at_call 33; refine (hP _).mono ?_; rintro e w9 ⟨rfl, hw9⟩; subst w9)
              | (go_at_call_of 35 (⟨#[61]⟩ : ByteArray); refine (hQ _).mono ?_; rintro e w9 ⟨rfl, hw9⟩; subst w9)
              | (go_at_call 35; refine (hM _).mono ?_; rintro e w9 ⟨rfl, hw9⟩; subst w9))
                go_ret3
                exact ⟨by first | (rw [HC.out, Hz.out]; rfl) | (rw [HC.out, Hz.out, ← hexI]; rfl), b5⟩
              | false =>
                cases qq with
                | true =>
                  have Hz : Hid (z0 (wiK I) c I = (1, (c : Int), I)) := by show _ = _; rw [hwi]; rfl
                  clear hwi
                  go_wp2_with (first
              | (go_at_call 34; refine (hDec _).mono ?_; rintro e w5 ⟨rfl, b5⟩)
              | (go_at_call 33; refine (hP _).mono ?_; rintro e w9 ⟨rfl, hw9⟩; subst w9)
              | (go_at_call_of 35 (⟨#[61]⟩ : ByteArray); refine (hQ _).mono ?_; rintro e w9 ⟨rfl, hw9⟩; subst w9)
              | (go_at_call 35; refine (hM _).mono ?_; rintro e w9 ⟨rfl, hw9⟩; subst w9))
                  go_ret3
                  exact ⟨by first | (rw [HC.out, Hz.out]; rfl) | (rw [HC.out, Hz.out, ← hexI]; rfl), b5⟩
                | false =>
                  have Hz : Hid (z0 (wiK I) c I = (0, 0, ⟨#[]⟩)) := by show _ = _; rw [hwi]; rfl
                  clear hwi
                  go_wp2_with (first
              | (go_at_call 34; refine (hDec _).mono ?_; rintro e w5 ⟨rfl, b5⟩)
              | (go_at_call 33; refine (hP _).mono ?_; rintro e w9 ⟨rfl, hw9⟩; subst w9)
              | (go_at_call_of 35 (⟨#[61]⟩ : ByteArray); refine (hQ _).mono ?_; rintro e w9 ⟨rfl, hw9⟩; subst w9)
              | (go_at_call 35; refine (hM _).mono ?_; rintro e w9 ⟨rfl, hw9⟩; subst w9))
                  go_ret3
                  exact ⟨by first | (rw [HC.out, Hz.out]; rfl) | (rw [HC.out, Hz.out, ← hexI]; rfl), b5⟩
            | false =>
              cases qq with
              | true =>
                have Hz : Hid (z0 (wiK I) c I = (1, (c : Int), I)) := by show _ = _; rw [hwi]; simp [z0]
                clear hwi
                go_wp2_with (first
              | (go_at_call 34; refine (hDec _).mono ?_; rintro e w5 ⟨rfl, b5⟩)
              | (go_at_call 33; refine (hP _).mono ?_; rintro e w9 ⟨rfl, hw9⟩; subst w9)
              | (go_at_call_of 35 (⟨#[61]⟩ : ByteArray); refine (hQ _).mono ?_; rintro e w9 ⟨rfl, hw9⟩; subst w9)
              | (go_at_call 35; refine (hM _).mono ?_; rintro e w9 ⟨rfl, hw9⟩; subst w9))
                go_ret3
                exact ⟨by first | (rw [HC.out, Hz.out]; rfl) | (rw [HC.out, Hz.out, ← hexI]; rfl), b5⟩
              | false =>
                have Hz : Hid (z0 (wiK I) c I = (0, 0, ⟨#[]⟩)) := by show _ = _; rw [hwi]; simp [z0]
                clear hwi
                go_wp2_with (first
              | (go_at_call 34; refine (hDec _).mono ?_; rintro e w5 ⟨rfl, b5⟩)
              | (go_at_call 33; refine (hP _).mono ?_; rintro e w9 ⟨rfl, hw9⟩; subst w9)
              | (go_at_call_of 35 (⟨#[61]⟩ : ByteArray); refine (hQ _).mono ?_; rintro e w9 ⟨rfl, hw9⟩; subst w9)
              | (go_at_call 35; refine (hM _).mono ?_; rintro e w9 ⟨rfl, hw9⟩; subst w9))
                go_ret3
                exact ⟨by first | (rw [HC.out, Hz.out]; rfl) | (rw [HC.out, Hz.out, ← hexI]; rfl), b5⟩
          · have bkn : ¬ (s[2 + k]'ik).toNat = 40 := by
              rw [bk]; intro hh; exact h40 (UInt8.toNat_inj.1 (by rw [hh]; rfl))
            have bkI : (((s[2 + k]'ik).toNat : Int) != 40) = true := by simp; omega
            have Hz : Hid _ := F2.out (by rw [hx]; intro hh; exact h40 (Option.some.inj hh))
            clear F2 F3 hget hexI hx h40 bk
            go_wp2_with (go_at_call 34; refine (hDec _).mono ?_; rintro e w5 ⟨rfl, b5⟩)
            go_ret3
            exact ⟨by rw [Hz.out]; rfl, b5⟩
        · have hno : ((s.size - 1 : Nat) : Int) < 2 + (k : Int) + 1 := by omega
          have Hz : Hid _ := F2.out (by rw [List.getElem?_eq_none hkL]; simp)
          clear F2 F3 hget hexI
          go_wp2_with (go_at_call 34; refine (hDec _).mono ?_; rintro e w5 ⟨rfl, b5⟩)
          go_ret3
          exact ⟨by rw [Hz.out]; rfl, b5⟩
end Go.Proofs.Ytbgejkodgcgpdaa
