/- Inq2, Quot, Char, Fill, Count, Pad, INumA: these texts in one. -/
import Derived.Test.YtdlnmnipnkeabaaGreatDoorPt3
import Derived.Test.YtdlnmnipnkeabaaGreatDoorPt1
import Derived.Test.YtdlnmnipnkeabaaGreatDoorShelf
import Derived.Deep.QuietTactic
import Derived.BigQuiet
namespace Go.Proofs.YtdlnmnipnkeabaaGreatDoor
open Go.RowKit
set_option maxRecDepth 1000000 in
set_option maxHeartbeats 400000 in
theorem inq_p (c q : Nat) (a : Bool) (w : World) (h : ¬ (c = q ∨ c = 92)) (h1 : ¬ (7 ≤ c ∧ c ≤ 13)) (h2 : plainP c = true ∧ (c ≤ 126 ∨ a = false)) :
  Calls Tryz.prog 162 #[.int .i32 c, .int .i32 q, .bool a] w fun e w' => e = .returned (.string ⟨(inL c q a).toArray⟩) ∧ Below w.heap.size w w' := by
 rw [inL_p c q a h h1 h2, ba_list]
 obtain ⟨t, ht⟩ : ∃ t, Utf8.encode (c : Int) = t := ⟨_, rfl⟩
 rw [ht]
 obtain ⟨hp, h3⟩ := h2
 have n1 : ¬ (c : Int) = (q : Int) := by omega
 have n2 : ¬ (c : Int) = 92 := by omega
 have n3 : ¬ (c : Int) = 7 := by omega
 have n4 : ¬ (c : Int) = 8 := by omega
 have n5 : ¬ (c : Int) = 9 := by omega
 have n6 : ¬ (c : Int) = 10 := by omega
 have n7 : ¬ (c : Int) = 11 := by omega
 have n8 : ¬ (c : Int) = 12 := by omega
 have n9 : ¬ (c : Int) = 13 := by omega
 have hR := rune_is c t ht
 have hP : ∀ w, Calls Tryz.prog 205 #[.int .i32 c] w fun e w' => e = .returned (.bool true) ∧ w' = w := fun w => plain_yes c w hp
 clear ht hp
 by_cases hle : c ≤ 126
 ·have hle' : (c : Int) ≤ 126 := by omega
  clear h3 h h1
  go_enter Tryz.func162, Tryz.ntmps162
  go_wp2_with (first | (go_at_call 10; refine (hR _).mono ?_; rintro e w' ⟨rfl, rfl⟩) | (go_at_call 205; refine (hP _).mono ?_; rintro e w' ⟨rfl, rfl⟩))
  go_ret
  exact ⟨rfl, Below.refl _ _⟩
 ·obtain rfl : a = false := by
   rcases h3 with h3 | h3
   ·omega
   ·exact h3
  have hle' : ¬ (c : Int) ≤ 126 := by omega
  clear h3 h h1
  go_enter Tryz.func162, Tryz.ntmps162
  go_wp2_with (first | (go_at_call 10; refine (hR _).mono ?_; rintro e w' ⟨rfl, rfl⟩) | (go_at_call 205; refine (hP _).mono ?_; rintro e w' ⟨rfl, rfl⟩))
  go_ret
  exact ⟨rfl, Below.refl _ _⟩
theorem inq_any (c q : Nat) (a : Bool) (w : World) (hE : Esc w) (hc : c ≤ 1114111) (hq : q = 34 ∨ q = 39) :
  Calls Tryz.prog 162 #[.int .i32 c, .int .i32 q, .bool a] w fun e w' => e = .returned (.string ⟨(inL c q a).toArray⟩) ∧ Below w.heap.size w w' := by
 by_cases h : c = q ∨ c = 92
 ·exact inq_q c q a w (by omega) h
 by_cases h1 : 7 ≤ c ∧ c ≤ 13
 ·exact inq_e c q a w hE (by omega) h1
 by_cases h2 : plainP c = true ∧ (c ≤ 126 ∨ a = false)
 ·exact inq_p c q a w h h1 h2
 by_cases h3 : c < 128
 ·exact inq_x c q a w hc h h1 h2 h3
 by_cases h4 : c ≤ 65535
 ·exact inq_u c q a w hc h h1 h2 h3 h4
 ·exact inq_U c q a w hc h h1 h2 h3 h4
end Go.Proofs.YtdlnmnipnkeabaaGreatDoor
namespace Go.Proofs.YtdlnmnipnkeabaaGreatDoor
open Go.RowKit
theorem isB_below {T e : TypeId} {B b : Nat} {bs : List Value} {W W' : World} (h : Lib.IsBuilderF T e B b bs W) (hb : Below W.heap.size W W') : Lib.IsBuilderF T e B b bs W' := by
 have key : ∀ p, Lib.BuilderAtF T e B b p bs W → Lib.BuilderAtF T e B b p bs W' := by
  rintro p ⟨hB, v, hbk, hown, hne⟩
  have blk : ∀ k o, W.heap[k]? = some o → W'.heap[k]? = some o := fun k o hk => (hb.block k (Array.getElem?_eq_some_iff.1 hk).1).trans hk
  refine ⟨hB, v, blk _ _ hbk, ⟨hown.1, ?_⟩, hne⟩
  rcases hown.2 with hn | ⟨g, cap, cur, fz, hv, hbg, hg, rest⟩
  ·exact .inl hn
  ·exact .inr ⟨g, cap, cur, fz, hv, hbg, blk _ _ hg, rest⟩
 exact h.elim (fun x => .inl (key _ x)) (fun x => .inr (key _ x))
theorem iter_keep {W W' : World} (hb : Below W.heap.size W W') {k : Nat} {o : Obj} (hk : W.heap[k]? = some o) : W'.heap[k]? = some o :=
 (hb.block k (Array.getElem?_eq_some_iff.1 hk).1).trans hk
theorem broken_is (c : Nat) (s : ByteArray) (b : Bool) (w : World) (hc : c = (dec s).1) (hb : brk (dec s) = b) :
  Calls Tryz.prog 160 #[.int .i32 c, .string s] w fun e w' => e = .returned (.bool b) ∧ Below w.heap.size w w' := by
 rw [← hb]; exact broken_any c s w hc
theorem dec_pt_le (s : ByteArray) (p : Nat) : (Utf8.decode s p).1 ≤ 1114111 := by
 rw [← dec_tail_list]; exact Lib.decodeL_rune _
theorem drop_ne (s : ByteArray) (p : Nat) (h : p < s.size) : s.data.toList.drop p ≠ [] := by
 intro h0
 have := congrArg List.length h0
 rw [List.length_drop, list_len] at this
 simp at this
 omega
theorem item_at (a : Bool) (s : ByteArray) (p : Nat) (h : p < s.size) : quoI a (s.data.toList.drop p) = itemL a (s.data.toList.drop p) ++ quoI a (s.data.toList.drop (p + (Utf8.decode s p).2)) := by
 rw [quoI_step a _ (drop_ne s p h), dec_tail_list, List.drop_drop]
theorem item_brk (a : Bool) (s : ByteArray) (p : Nat) (h : p < s.size) (hb : brk (Utf8.decode s p) = true) : itemL a (s.data.toList.drop p) = [92, 120] ++ hexL (s[p]'h).toNat 2 := by
 have e : ((s.data.toList.drop p).getD 0 0) = s[p]'h := by
  rw [List.getD_eq_getElem?_getD, List.getElem?_drop]
  simp [List.getElem?_eq_getElem (show p < s.data.toList.length by rw [list_len]; exact h)]
  rfl
 unfold itemL
 rw [dec_tail_list, if_pos hb, e]; rfl
theorem item_in (a : Bool) (s : ByteArray) (p : Nat) (hb : brk (Utf8.decode s p) = false) : itemL a (s.data.toList.drop p) = inL (Utf8.decode s p).1 34 a := by
 unfold itemL
 rw [dec_tail_list, if_neg (by rw [hb]; simp)]
theorem str_cells' (r : ByteArray) : Lib.strCells r = Lib.byteCells r.data.toList := by
 simp [Lib.strCells, Lib.byteCells]
theorem hex_pack (x : UInt8) (n k : Nat) (L : List UInt8) (h : L = [92, x] ++ hexL n k) (hn : n ≤ 1114111) (hk : k ≤ 8) :
  ∃ r t : ByteArray, r.data.toList = L ∧ t.size = k ∧ (ByteArray.mk #[92, x]) ++ t = r ∧ ∀ w, Calls Tryz.prog 161 #[.int .i32 n, .int .i64 k] w fun e w' => e = .returned (.string t) ∧ Below w.heap.size w w' :=
 ⟨⟨([92, x] ++ hexL n k).toArray⟩, ⟨(hexL n k).toArray⟩, by rw [h], hex_size n k, hex_bytes x n k, fun w => hexa_any n k w hn hk⟩
theorem in_pack (c q : Nat) (a : Bool) (L : List UInt8) (h : L = inL c q a) (hc : c ≤ 1114111) (hq : q = 34 ∨ q = 39) :
  ∃ r : ByteArray, r.data.toList = L ∧ ∀ w, Esc w → Calls Tryz.prog 162 #[.int .i32 c, .int .i32 q, .bool a] w fun e w' => e = .returned (.string r) ∧ Below w.heap.size w w' :=
 ⟨⟨(inL c q a).toArray⟩, by rw [h], fun w hE => inq_any c q a w hE hc hq⟩
theorem two_sum (x y : UInt8) (t : ByteArray) (h : t.size ≤ 8) : ¬ 9223372036854775807 < (ByteArray.mk #[x, y]).size + t.size := by
 show ¬ 9223372036854775807 < 2 + t.size
 omega
theorem wrap32_byte (n : Nat) (h : n < 256) : wrap32 (n : Int) = (n : Int) := by unfold wrap32; omega
theorem brk_pack (a : Bool) (s : ByteArray) (pos : Nat) (hp : pos < s.size) (hi : itemL a (s.data.toList.drop pos) = [92, 120] ++ hexL (s[pos]'hp).toNat 2) :
  ∃ (r t : ByteArray) (n0 : Nat), (s[pos]'hp).toNat = n0 ∧ wrap32 (n0 : Int) = (n0 : Int) ∧ r.data.toList = itemL a (s.data.toList.drop pos) ∧ ¬ 9223372036854775807 < (ByteArray.mk #[92, 120]).size + t.size ∧ (ByteArray.mk #[92, 120]) ++ t = r ∧
    ∀ w, Calls Tryz.prog 161 #[.int .i32 n0, .int .i64 2] w fun e w' => e = .returned (.string t) ∧ Below w.heap.size w w' := by
 have hn : (s[pos]'hp).toNat < 256 := (s[pos]'hp).toNat_lt
 obtain ⟨r, t, h1, h2, h3, h4⟩ := hex_pack 120 _ 2 _ hi (Nat.le_trans (Nat.le_of_lt hn) (by decide)) (by decide)
 exact ⟨r, t, _, rfl, wrap32_byte _ hn, h1, two_sum _ _ t (by rw [h2]; decide), h3, h4⟩
set_option maxRecDepth 1000000 in
set_option maxHeartbeats 1000000 in
theorem quote_any (s : ByteArray) (a : Bool) (w : World) (hE : Esc w) (hs : s.size ≤ 1000000) :
  Calls Tryz.prog 130 #[.string s, .bool a] w fun e w' => e = .returned (.string (quoS s a)) ∧ Below w.heap.size w w' := by
 have hI0 := Lib.IsBuilderF.of (Lib.fresh_isBuilder 73 5 w)
 go_enter Tryz.func130, Tryz.ntmps130
 go_wp2_with (go_at_call 159; refine (Tryz.writeByte w.heap.size w.heap.size _ _ _ hI0 (by simp) (by simp)).mono ?_)
 rintro e w1 ⟨rfl, h1, hb1, -⟩
 have hb1' : Below w.heap.size w w1 := ((Below.refl _ w).alloc (Nat.le_refl _) _).trans hb1
 have hsz1 := hb1'.size
 have hI1 : Lib.IsBuilderF 73 5 w.heap.size w.heap.size (Lib.byteCells [34]) w1 := .inr h1
 have hlt1 : w.heap.size < w1.heap.size := h1.lt
 clear hb1 h1
 go_wp2
 go_loopw [] (fun wr => ∃ (pos : Nat) (acc : List UInt8), Lib.IsBuilderF 73 5 w.heap.size w.heap.size (Lib.byteCells acc) wr ∧ wr.heap[w1.heap.size]? = some (.stringIter s pos) ∧ Below w.heap.size w wr ∧ pos ≤ s.size ∧ Hid (acc ++ quoI a (s.data.toList.drop pos) = 34 :: quoI a s.data.toList) ∧ acc.length ≤ 10 * pos + 1) (fun wr => s.size - wr.iterPos w1.heap.size)
 case atStart =>
  refine ⟨0, [34], hI1.alloc _, ?_, hb1'.alloc hsz1 _, Nat.zero_le _, rfl, by simp⟩
  simpa using World.iter_heap w1 s 0
 case round =>
  obtain ⟨pos, acc, hI, hit, hb, hpos, hacc, hal⟩ := hrel
  have hK : w1.heap.size < wr.heap.size := (Array.getElem?_eq_some_iff.1 hit).1
  by_cases hp : pos < s.size
  ·have hnx : ∀ ty, (Instr.next (.pointer (some ⟨w1.heap.size, 0, none⟩)) true ty).run Tryz.prog wr = _ := fun ty => Lib.run_next_any_at wr w1.heap.size s pos ty hit hp
   have hwd := wid_pos s pos
   have hwl := wid_le s pos hp
   have hpt := dec_pt_le s pos
   have hI2 := hI.iterAt hit (pos + (Utf8.decode s pos).2)
   have hit2 := Lib.iterAt_heap wr w1.heap.size s pos (pos + (Utf8.decode s pos).2) hit
   have hb2 := Lib.below_iterAt hb (k := w1.heap.size) hsz1 s (pos + (Utf8.decode s pos).2)
   have hE2 : Esc (wr.iterAt w1.heap.size s (pos + (Utf8.decode s pos).2)) := hE.below hb2
   have hdt := dec_tail s pos hp
   have hib := item_brk a s pos hp
   have hii := item_in a s pos
   have hat := item_at a s pos hp
   generalize Utf8.decode s pos = D at *
   have hn1 : (s[pos]'hp).toNat < 256 := (s[pos]'hp).toNat_lt
   have hin : s.data.toList.length = s.size := list_len s
   cases hbk : brk D with
   | true =>
     have hitem := hib hbk
     have hBk : ∀ w, Calls Tryz.prog 160 #[.int .i32 (D.1 : Nat), .string (s.extract pos s.size)] w fun e w' => e = .returned (.bool true) ∧ Below w.heap.size w w' := fun w => broken_is _ _ true w (by rw [hdt]) (by rw [hdt]; exact hbk)
     clear hdt hbk hib hii
     obtain ⟨r, t, n0, hn0, hw0, HR0, hsum, he, hHx⟩ := brk_pack a s pos hp hitem
     have HR : Hid (r.data.toList = itemL a (s.data.toList.drop pos)) := HR0
     clear HR0 hitem hn1 hin
     go_wp2_with (first | (go_at_call 160; refine (hBk _).mono ?_; rintro e w3 ⟨rfl, hb3⟩) | (go_at_call 161; refine (hHx _).mono ?_; rintro e w4 ⟨rfl, hb4⟩))
     clear hn0 hw0 hsum he
     have hb34 := hb3.trans (hb4.mono hb3.size)
     have hI4 := isB_below hI2 hb34
     have hit4 := iter_keep hb34 hit2
     have hb5 := hb2.trans (hb34.mono hb2.size)
     have hls := itemL_len a (s.data.toList.drop pos)
     have hrs : r.size ≤ 10 := by
      rw [← list_len, HR.out]; exact hls
     refine (Tryz.writeString w.heap.size w.heap.size _ _ _ hI4 (by rw [Lib.byteCells_length]; omega) hb5.size).mono ?_
     rintro e w6 ⟨rfl, h6, hb6, hk6⟩
     go_wp2
     go_roundw
     case rel =>
      refine ⟨pos + D.2, acc ++ itemL a (s.data.toList.drop pos), ?_, hk6.iter hit4 (by omega), hb5.trans hb6, hwl, ?_, ?_⟩
      ·rw [str_cells', HR.out] at h6
       rw [Lib.byteCells_append]; exact Or.inr h6
      ·have := hacc.out
       rw [hat] at this
       show (acc ++ itemL a (s.data.toList.drop pos)) ++ _ = _
       rw [List.append_assoc]; exact this
      ·rw [List.length_append]; omega
     case measure =>
      simp only [World.iterPos, hk6.iter hit4 (by omega), hit]
      omega
   | false =>
     have hitem := hii hbk
     have hBk : ∀ w, Calls Tryz.prog 160 #[.int .i32 (D.1 : Nat), .string (s.extract pos s.size)] w fun e w' => e = .returned (.bool false) ∧ Below w.heap.size w w' := fun w => broken_is _ _ false w (by rw [hdt]) (by rw [hdt]; exact hbk)
     clear hdt hbk hib hii
     obtain ⟨r, HR0, hHx⟩ := in_pack _ 34 a _ hitem hpt (.inl rfl)
     have HR : Hid (r.data.toList = itemL a (s.data.toList.drop pos)) := HR0
     clear HR0 hitem
     go_wp2_with (first | (go_at_call 160; refine (hBk _).mono ?_; rintro e w3 ⟨rfl, hb3⟩) | (go_at_call 162; refine (hHx _ (hE2.below hb3)).mono ?_; rintro e w4 ⟨rfl, hb4⟩))
     have hb34 := hb3.trans (hb4.mono hb3.size)
     have hI4 := isB_below hI2 hb34
     have hit4 := iter_keep hb34 hit2
     have hb5 := hb2.trans (hb34.mono hb2.size)
     have hls := itemL_len a (s.data.toList.drop pos)
     have hrs : r.size ≤ 10 := by
      rw [← list_len, HR.out]; exact hls
     refine (Tryz.writeString w.heap.size w.heap.size _ _ _ hI4 (by rw [Lib.byteCells_length]; omega) hb5.size).mono ?_
     rintro e w6 ⟨rfl, h6, hb6, hk6⟩
     go_wp2
     go_roundw
     case rel =>
      refine ⟨pos + D.2, acc ++ itemL a (s.data.toList.drop pos), ?_, hk6.iter hit4 (by omega), hb5.trans hb6, hwl, ?_, ?_⟩
      ·rw [str_cells', HR.out] at h6
       rw [Lib.byteCells_append]; exact Or.inr h6
      ·have := hacc.out
       rw [hat] at this
       show (acc ++ itemL a (s.data.toList.drop pos)) ++ _ = _
       rw [List.append_assoc]; exact this
      ·rw [List.length_append]; omega
     case measure =>
      simp only [World.iterPos, hk6.iter hit4 (by omega), hit]
      omega
  ·have hnx : ∀ ty, (Instr.next (.pointer (some ⟨w1.heap.size, 0, none⟩)) true ty).run Tryz.prog wr = _ := fun ty => Lib.run_next_end_at wr w1.heap.size s pos ty hit hp
   have hfin : acc ++ [34] = (34 :: (quoI a s.data.toList ++ [34])) := by
    have := hacc.out
    rw [show s.data.toList.drop pos = [] from List.drop_eq_nil_of_le (by rw [list_len]; omega), quoI_nil, List.append_nil] at this
    rw [this]; rfl
   have HF : Hid (acc ++ [34] = (34 :: (quoI a s.data.toList ++ [34]))) := hfin
   clear hfin
   go_wp2_with (go_at_call 159; refine (Tryz.writeByte w.heap.size w.heap.size _ _ _ hI (by rw [Lib.byteCells_length]; omega) hb.size).mono ?_)
   rintro e w6 ⟨rfl, h6, hb6, hk6⟩
   have hI6 : Lib.IsBuilderF 73 5 w.heap.size w.heap.size (Lib.byteCells (acc ++ [34])) w6 := by
    rw [Lib.byteCells_append]; exact Or.inr h6
   have hb7 := hb.trans hb6
   go_wp2_with (go_at_call 32; refine (Tryz.builderString w.heap.size w.heap.size _ _ hI6 hb7.size).mono ?_)
   rintro e w8 ⟨rfl, -, hb8, -⟩
   go_wp2
   go_ret
   rw [HF.out]
   exact ⟨rfl, hb7.trans hb8⟩
end Go.Proofs.YtdlnmnipnkeabaaGreatDoor
namespace Go.Proofs.YtdlnmnipnkeabaaGreatDoor
open Go.RowKit
set_option linter.unusedVariables false
theorem one_sum (x : UInt8) (t : ByteArray) (h : t.size ≤ 100000000) : ¬ 9223372036854775807 < (ByteArray.mk #[x]).size + t.size := by
 show ¬ 9223372036854775807 < 1 + t.size
 omega
theorem sum_one (x : UInt8) (t : ByteArray) (h : t.size ≤ 100000000) : ¬ 9223372036854775807 < t.size + (ByteArray.mk #[x]).size := by
 show ¬ 9223372036854775807 < t.size + 1
 omega
def hind (c : Int) : Bool := decide (c = 96 ∨ (c < 32 ∧ c ≠ 9) ∨ c = 127 ∨ c = 65279)
set_option maxRecDepth 1000000 in
set_option maxHeartbeats 400000 in
theorem hinders_any (c : Int) (w : World) :
  Calls Tryz.prog 206 #[.int .i32 c] w fun e w' => e = .returned (.bool (hind c)) ∧ w' = w := by
 by_cases h1 : c = 9 <;> by_cases h2 : c = 96 <;> by_cases h3 : c = 127 <;> by_cases h4 : c = 65279 <;> by_cases h5 : c < 32
 all_goals first | (exfalso; omega) | skip
 all_goals first | (have hp : hind c = true := (by unfold hind; rw [decide_eq_true_iff]; omega)) | (have hp : hind c = false := (by unfold hind; rw [decide_eq_false_iff_not]; omega))
 all_goals
  rw [hp]
  go_enter Tryz.func206, Tryz.ntmps206
  go_wp2
  go_ret
  exact ⟨rfl, rfl⟩
def rawGo (s : ByteArray) : Nat → Nat → Bool
 | 0, _ => true
 | f + 1, p => if p < s.size then (if hind (Utf8.decode s p).1 = true ∨ brk (Utf8.decode s p) = true then false else rawGo s f (p + (Utf8.decode s p).2)) else true
theorem rawGo_fuel (s : ByteArray) : ∀ (f g p : Nat), s.size - p ≤ f → s.size - p ≤ g → rawGo s f p = rawGo s g p
 | 0, 0, _, _, _ => rfl
 | 0, g + 1, p, h, _ => by simp [rawGo, show ¬ p < s.size by omega]
 | f + 1, 0, p, _, h => by simp [rawGo, show ¬ p < s.size by omega]
 | f + 1, g + 1, p, h1, h2 => by
   have hw := wid_pos s p
   by_cases hp : p < s.size
   ·simp only [rawGo, if_pos hp]
    rw [rawGo_fuel s f g _ (by omega) (by omega)]
   ·simp [rawGo, hp]
def rawF (s : ByteArray) (p : Nat) : Bool := rawGo s (s.size - p) p
theorem rawF_end (s : ByteArray) (p : Nat) (h : ¬ p < s.size) : rawF s p = true := by
 unfold rawF
 rw [show s.size - p = 0 by omega]; rfl
theorem rawF_no (s : ByteArray) (p : Nat) (h : p < s.size) (hh : hind (Utf8.decode s p).1 = true ∨ brk (Utf8.decode s p) = true) : rawF s p = false := by
 unfold rawF
 obtain ⟨f, hf⟩ : ∃ f, s.size - p = f + 1 := ⟨s.size - p - 1, by omega⟩
 rw [hf]
 simp only [rawGo, if_pos h, if_pos hh]
theorem rawF_on (s : ByteArray) (p : Nat) (h : p < s.size) (hh : ¬ (hind (Utf8.decode s p).1 = true ∨ brk (Utf8.decode s p) = true)) : rawF s p = rawF s (p + (Utf8.decode s p).2) := by
 have hw := wid_pos s p
 unfold rawF
 obtain ⟨f, hf⟩ : ∃ f, s.size - p = f + 1 := ⟨s.size - p - 1, by omega⟩
 rw [hf]
 simp only [rawGo, if_pos h, if_neg hh]
 rw [rawGo_fuel s f _ _ (by omega) (Nat.le_refl _)]
end Go.Proofs.YtdlnmnipnkeabaaGreatDoor
namespace Go.Proofs.YtdlnmnipnkeabaaGreatDoor
open Go.RowKit
set_option maxHeartbeats 400000 in
theorem width_any (n : Int) (w : World) :
  Calls Tryz.prog 156 #[.int .i64 n] w fun e w' => e = .returned (.int .i64 (wdt n : Nat)) ∧ w' = w := by
 go_enter Tryz.func156, Tryz.ntmps156
 go_wp2
 go_ret
 exact ⟨ret_int (wdt_eq n), rfl⟩
theorem conv1d (w : World) (x : Int) :
  (convert 47 9 (.slice (some ⟨w.heap.size, 0, none⟩) 1 1)).run Tryz.prog (w.alloc (.cells #[.int .u8 x] 5)).drew = .ok (.string (strOfNums [x])) (w.alloc (.cells #[.int .u8 x] 5)).drew := by
 refine run_convert_bytes_arg _ 47 5 Tryz.underlying47 Tryz.underlying5 w.heap.size 0 1 1 [x] rfl (fun i hi => ?_) 9 Tryz.underlying9
 have : i = 0 := by omega
 subst this
 simp
theorem repeat_byte (x : Int) (k : Nat) (w : World) (hk : k ≤ 1000) :
  Calls Tryz.prog 204 #[.string (strOfNums [x]), .int .i64 k] w fun e w' => e = .returned (.string ⟨(List.replicate k (UInt8.ofNat x.toNat)).toArray⟩) ∧ Below w.heap.size w w' := by
 have hz : (strOfNums [x]).size = 1 := rfl
 refine (Tryz.strings_Repeat (strOfNums [x]) k w (by omega) (by rw [hz]; omega)).mono ?_
 rintro e w' ⟨rfl, hb⟩
 refine ⟨ret_str ?_, hb⟩
 have e : (strOfNums [x]).data.toList = List.replicate 1 (UInt8.ofNat x.toNat) := rfl
 rw [e, Lib.repeatL_replicate, Nat.mul_one]
set_option maxRecDepth 1000000 in
set_option maxHeartbeats 400000 in
theorem fill_any (c : Nat) (n : Int) (w : World) :
  Calls Tryz.prog 158 #[.int .u8 c, .int .i64 n] w fun e w' => e = .returned (.string (run c (wdt n))) ∧ Below w.heap.size w w' := by
 have kc := conv1d
 go_enter Tryz.func158, Tryz.ntmps158
 go_wp2_with fail
 go_region_with (first | (go_at_call 156; refine (width_any _ _).mono ?_; rintro e w' ⟨rfl, rfl⟩) | (go_at_call 204; refine (repeat_byte _ _ _ (wdt_le n)).mono ?_; rintro e w1 ⟨rfl, hb⟩))
 all_goals go_wp2
 all_goals go_ret
 all_goals exact ⟨rfl, (((Below.refl _ _).alloc (Nat.le_refl _) _).drew).trans (hb.mono (by simp))⟩
end Go.Proofs.YtdlnmnipnkeabaaGreatDoor
namespace Go.Proofs.YtdlnmnipnkeabaaGreatDoor
open Go.RowKit
set_option maxRecDepth 1000000 in
set_option maxHeartbeats 800000 in
theorem count_any (s : ByteArray) (w : World) (hs : s.size ≤ maxLen) :
  Calls Tryz.prog 157 #[.string s] w fun e w' => e = .returned (.int .i64 (cntR s : Nat)) ∧ Below w.heap.size w w' := by
 unfold maxLen at hs
 go_enter Tryz.func157, Tryz.ntmps157
 go_wp2
 go_loopw [3] (fun n w' => ∃ pos k : Nat, w' = w.iter s pos ∧ n = .int .i64 k ∧ pos ≤ s.size ∧ k ≤ pos ∧ Hid (k + cntFrom s pos = cntR s)) (fun _ w' => s.size - w'.iterPos w.heap.size)
 case atStart => exact ⟨0, 0, rfl, rfl, Nat.zero_le _, Nat.le_refl _, by unfold cntR; exact Nat.zero_add _⟩
 case round =>
  obtain ⟨pos, k, rfl, rfl, hpos, hk, hc⟩ := hrel
  by_cases hp : pos < s.size
  ·have hnx : ∀ ty, (Instr.next (.pointer (some ⟨w.heap.size, 0, none⟩)) true ty).run Tryz.prog (w.iter s pos) = _ := fun ty => run_next_any w s pos ty hp
   go_wp2
   have hw := wid_pos s pos
   have hl := wid_le s pos hp
   go_roundw
   case rel =>
    refine ⟨pos + (Utf8.decode s pos).2, k + 1, rfl, by go_num, hl, by omega, ?_⟩
    have := hc.out
    rw [cntFrom_step s pos hp] at this
    show k + 1 + cntFrom s _ = _
    omega
   case measure =>
    simp
    omega
  ·have hnx : ∀ ty, (Instr.next (.pointer (some ⟨w.heap.size, 0, none⟩)) true ty).run Tryz.prog (w.iter s pos) = _ := fun ty => run_next_end w s pos ty hp
   go_wp2
   go_ret
   have := hc.out
   rw [cntFrom_end s pos hp] at this
   refine ⟨ret_int ?_, iter_below _ _ _⟩
   omega
end Go.Proofs.YtdlnmnipnkeabaaGreatDoor
namespace Go.Proofs.YtdlnmnipnkeabaaGreatDoor
open Go.RowKit
set_option maxRecDepth 1000000 in
set_option maxHeartbeats 400000 in
theorem pad_any (s : ByteArray) (p mi sh sp z : Bool) (wid prec verb : Int) (w : World) (hs : s.size ≤ 1000000) :
  Calls Tryz.prog 129 #[.string s, .agg #[.bool p, .bool mi, .bool sh, .bool sp, .bool z, .int .i64 wid, .int .i64 prec, .int .i32 verb]] w fun e w' => e = .returned (.string (padS s mi z wid)) ∧ Below w.heap.size w w' := by
 have hcn := cntR_le s
 have hwl := wdt_le wid
 have hk := wdt_le ((wdt wid : Nat) - (cntR s : Nat) : Int)
 cases mi with
 | true =>
   have hsum : ¬ 9223372036854775807 < s.size + (run 32 (wdt ((wdt wid : Nat) - (cntR s : Nat) : Int))).size := by rw [run_size]; omega
   go_enter Tryz.func129, Tryz.ntmps129
   go_wp2_with (first | (go_at_call 156; refine (width_any _ _).mono ?_; rintro e w' ⟨rfl, rfl⟩) | (go_at_call 157; refine (count_any _ _ (by unfold maxLen; omega)).mono ?_; rintro e w1 ⟨rfl, hb1⟩; have c1 : w1.cell? ⟨w.heap.size, 1, none⟩ = some (.bool true) := (by rw [hb1.cell (by simp)]; simp); have c4 : w1.cell? ⟨w.heap.size, 4, none⟩ = some (.bool z) := (by rw [hb1.cell (by simp)]; simp)) | (go_at_call 158; refine (fill_any 32 _ _).mono ?_; rintro e w2 ⟨rfl, hb2⟩))
   go_ret
   exact ⟨rfl, ((Below.refl _ _).alloc (Nat.le_refl _) _).trans ((hb1.trans (hb2.mono hb1.size)).mono (by simp))⟩
 | false =>
   cases z with
   | true =>
     have hsum : ¬ 9223372036854775807 < (run 48 (wdt ((wdt wid : Nat) - (cntR s : Nat) : Int))).size + s.size := by rw [run_size]; omega
     go_enter Tryz.func129, Tryz.ntmps129
     go_wp2_with (first | (go_at_call 156; refine (width_any _ _).mono ?_; rintro e w' ⟨rfl, rfl⟩) | (go_at_call 157; refine (count_any _ _ (by unfold maxLen; omega)).mono ?_; rintro e w1 ⟨rfl, hb1⟩; have c1 : w1.cell? ⟨w.heap.size, 1, none⟩ = some (.bool false) := (by rw [hb1.cell (by simp)]; simp); have c4 : w1.cell? ⟨w.heap.size, 4, none⟩ = some (.bool true) := (by rw [hb1.cell (by simp)]; simp)) | (go_at_call 158; refine (fill_any 48 _ _).mono ?_; rintro e w2 ⟨rfl, hb2⟩))
     go_ret
     exact ⟨rfl, ((Below.refl _ _).alloc (Nat.le_refl _) _).trans ((hb1.trans (hb2.mono hb1.size)).mono (by simp))⟩
   | false =>
     have hsum : ¬ 9223372036854775807 < (run 32 (wdt ((wdt wid : Nat) - (cntR s : Nat) : Int))).size + s.size := by rw [run_size]; omega
     go_enter Tryz.func129, Tryz.ntmps129
     go_wp2_with (first | (go_at_call 156; refine (width_any _ _).mono ?_; rintro e w' ⟨rfl, rfl⟩) | (go_at_call 157; refine (count_any _ _ (by unfold maxLen; omega)).mono ?_; rintro e w1 ⟨rfl, hb1⟩; have c1 : w1.cell? ⟨w.heap.size, 1, none⟩ = some (.bool false) := (by rw [hb1.cell (by simp)]; simp); have c4 : w1.cell? ⟨w.heap.size, 4, none⟩ = some (.bool false) := (by rw [hb1.cell (by simp)]; simp)) | (go_at_call 158; refine (fill_any 32 _ _).mono ?_; rintro e w2 ⟨rfl, hb2⟩))
     go_ret
     exact ⟨rfl, ((Below.refl _ _).alloc (Nat.le_refl _) _).trans ((hb1.trans (hb2.mono hb1.size)).mono (by simp))⟩
end Go.Proofs.YtdlnmnipnkeabaaGreatDoor
namespace Go.Proofs.YtdlnmnipnkeabaaGreatDoor
open Go.RowKit
set_option linter.unusedVariables false
end Go.Proofs.YtdlnmnipnkeabaaGreatDoor
