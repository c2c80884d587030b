/- The walk of Quote. -/
import Derived.Test.YtbfaapbbhgegiaaDoorInq2
namespace Go.Proofs.YtbfaapbbhgegiaaDoor
open Go.RowKit

theorem isB_below {T e : TypeId} {B b : Nat} {bs : List Value} {W W' : World} (h : Lib.IsBuilderF T e B b bs W) (hb : Below W.heap.size W W') : Lib.IsBuilderF T e B b bs W' := by
  have key : ∀ p, Lib.BuilderAtF T e B b p bs W → Lib.BuilderAtF T e B b p bs W' := by
    rintro p ⟨hB, v, hbk, hown, hne⟩
    have blk : ∀ k o, W.heap[k]? = some o → W'.heap[k]? = some o := fun k o hk => (hb.block k (Array.getElem?_eq_some_iff.1 hk).1).trans hk
    refine ⟨hB, v, blk _ _ hbk, ⟨hown.1, ?_⟩, hne⟩
    rcases hown.2 with hn | ⟨g, cap, cur, fz, hv, hbg, hg, rest⟩
    · exact .inl hn
    · exact .inr ⟨g, cap, cur, fz, hv, hbg, blk _ _ hg, rest⟩
  exact h.elim (fun x => .inl (key _ x)) (fun x => .inr (key _ x))
theorem iter_keep {W W' : World} (hb : Below W.heap.size W W') {k : Nat} {o : Obj} (hk : W.heap[k]? = some o) : W'.heap[k]? = some o :=
  (hb.block k (Array.getElem?_eq_some_iff.1 hk).1).trans hk
theorem str_cells (l : List UInt8) : Lib.strCells ⟨l.toArray⟩ = Lib.byteCells l := by
  simp [Lib.strCells, Lib.byteCells]
theorem broken_is (c : Nat) (s : ByteArray) (b : Bool) (w : World) (hc : c = (dec s).1) (hb : brk (dec s) = b) :
    Calls Tryd.prog 72 #[.int .i32 c, .string s] w fun e w' => e = .returned (.bool b) ∧ Below w.heap.size w w' := by
  rw [← hb]; exact broken_any c s w hc
theorem inq_is (c q : Nat) (a : Bool) (t : ByteArray) (h : (⟨(inL c q a).toArray⟩ : ByteArray) = t) (w : World) (hE : Esc w) (hc : c ≤ 1114111) (hq : q = 34 ∨ q = 39) :
    Calls Tryd.prog 75 #[.int .i32 c, .int .i32 q, .bool a] w fun e w' => e = .returned (.string t) ∧ Below w.heap.size w w' := by
  rw [← h]; exact inq_any c q a w hE hc hq
theorem dec_pt_le (s : ByteArray) (p : Nat) : (Utf8.decode s p).1 ≤ 1114111 := by
  rw [← dec_tail_list]; exact Lib.decodeL_rune _
theorem drop_ne (s : ByteArray) (p : Nat) (h : p < s.size) : s.data.toList.drop p ≠ [] := by
  intro h0
  have := congrArg List.length h0
  rw [List.length_drop, list_len] at this
  simp at this
  omega
theorem item_at (a : Bool) (s : ByteArray) (p : Nat) (h : p < s.size) : quoI a (s.data.toList.drop p) = itemL a (s.data.toList.drop p) ++ quoI a (s.data.toList.drop (p + (Utf8.decode s p).2)) := by
  rw [quoI_step a _ (drop_ne s p h), dec_tail_list, List.drop_drop]
theorem item_brk (a : Bool) (s : ByteArray) (p : Nat) (h : p < s.size) (hb : brk (Utf8.decode s p) = true) : itemL a (s.data.toList.drop p) = [92, 120] ++ hexL (s[p]'h).toNat 2 := by
  have e : ((s.data.toList.drop p).getD 0 0) = s[p]'h := by
    rw [List.getD_eq_getElem?_getD, List.getElem?_drop]
    simp [List.getElem?_eq_getElem (show p < s.data.toList.length by rw [list_len]; exact h)]
    rfl
  unfold itemL
  rw [dec_tail_list, if_pos hb, e]; rfl
theorem item_in (a : Bool) (s : ByteArray) (p : Nat) (hb : brk (Utf8.decode s p) = false) : itemL a (s.data.toList.drop p) = inL (Utf8.decode s p).1 34 a := by
  unfold itemL
  rw [dec_tail_list, if_neg (by rw [hb]; simp)]

theorem str_cells' (r : ByteArray) : Lib.strCells r = Lib.byteCells r.data.toList := by
  simp [Lib.strCells, Lib.byteCells]
theorem hex_pack (x : UInt8) (n k : Nat) (L : List UInt8) (h : L = [92, x] ++ hexL n k) (hn : n ≤ 1114111) (hk : k ≤ 8) :
    ∃ r t : ByteArray, r.data.toList = L ∧ t.size = k ∧ (ByteArray.mk #[92, x]) ++ t = r ∧ ∀ w, Calls Tryd.prog 74 #[.int .i32 n, .int .i64 k] w fun e w' => e = .returned (.string t) ∧ Below w.heap.size w w' :=
  ⟨⟨([92, x] ++ hexL n k).toArray⟩, ⟨(hexL n k).toArray⟩, by rw [h], hex_size n k, hex_bytes x n k, fun w => hexa_any n k w hn hk⟩
theorem in_pack (c q : Nat) (a : Bool) (L : List UInt8) (h : L = inL c q a) (hc : c ≤ 1114111) (hq : q = 34 ∨ q = 39) :
    ∃ r : ByteArray, r.data.toList = L ∧ ∀ w, Esc w → Calls Tryd.prog 75 #[.int .i32 c, .int .i32 q, .bool a] w fun e w' => e = .returned (.string r) ∧ Below w.heap.size w w' :=
  ⟨⟨(inL c q a).toArray⟩, by rw [h], fun w hE => inq_any c q a w hE hc hq⟩

theorem two_sum (x y : UInt8) (t : ByteArray) (h : t.size ≤ 8) : ¬ 9223372036854775807 < (ByteArray.mk #[x, y]).size + t.size := by
  show ¬ 9223372036854775807 < 2 + t.size
  omega
theorem wrap32_byte (n : Nat) (h : n < 256) : wrap32 (n : Int) = (n : Int) := by unfold wrap32; omega
theorem brk_pack (a : Bool) (s : ByteArray) (pos : Nat) (hp : pos < s.size) (hi : itemL a (s.data.toList.drop pos) = [92, 120] ++ hexL (s[pos]'hp).toNat 2) :
    ∃ (r t : ByteArray) (n0 : Nat), (s[pos]'hp).toNat = n0 ∧ wrap32 (n0 : Int) = (n0 : Int) ∧ r.data.toList = itemL a (s.data.toList.drop pos) ∧ ¬ 9223372036854775807 < (ByteArray.mk #[92, 120]).size + t.size ∧ (ByteArray.mk #[92, 120]) ++ t = r ∧
      ∀ w, Calls Tryd.prog 74 #[.int .i32 n0, .int .i64 2] w fun e w' => e = .returned (.string t) ∧ Below w.heap.size w w' := by
  have hn : (s[pos]'hp).toNat < 256 := (s[pos]'hp).toNat_lt
  obtain ⟨r, t, h1, h2, h3, h4⟩ := hex_pack 120 _ 2 _ hi (Nat.le_trans (Nat.le_of_lt hn) (by decide)) (by decide)
  exact ⟨r, t, _, rfl, wrap32_byte _ hn, h1, two_sum _ _ t (by rw [h2]; decide), h3, h4⟩

set_option maxRecDepth 1000000 in
set_option maxHeartbeats 1000000 in
theorem quote_any (s : ByteArray) (a : Bool) (w : World) (hE : Esc w) (hs : s.size ≤ 1000000) :
    Calls Tryd.prog 54 #[.string s, .bool a] w fun e w' => e = .returned (.string (quoS s a)) ∧ Below w.heap.size w w' := by
  have hI0 := Lib.IsBuilderF.of (Lib.fresh_isBuilder 99 5 w)
  go_enter Tryd.func54, Tryd.ntmps54
  go_wp2_with (go_at_call 71; refine (Tryd.writeByte w.heap.size w.heap.size _ _ _ hI0 (by simp) (by simp)).mono ?_)
  rintro e w1 ⟨rfl, h1, hb1, -⟩
  have hb1' : Below w.heap.size w w1 := ((Below.refl _ w).alloc (Nat.le_refl _) _).trans hb1
  have hsz1 := hb1'.size
  have hI1 : Lib.IsBuilderF 99 5 w.heap.size w.heap.size (Lib.byteCells [34]) w1 := .inr h1
  have hlt1 : w.heap.size < w1.heap.size := h1.lt
  clear hb1 h1
  go_wp2
  go_loopw [] (fun wr => ∃ (pos : Nat) (acc : List UInt8), Lib.IsBuilderF 99 5 w.heap.size w.heap.size (Lib.byteCells acc) wr ∧ wr.heap[w1.heap.size]? = some (.stringIter s pos) ∧ Below w.heap.size w wr ∧ pos ≤ s.size ∧ Hid (acc ++ quoI a (s.data.toList.drop pos) = 34 :: quoI a s.data.toList) ∧ acc.length ≤ 10 * pos + 1) (fun wr => s.size - wr.iterPos w1.heap.size)
  case atStart =>
    refine ⟨0, [34], hI1.alloc _, ?_, hb1'.alloc hsz1 _, Nat.zero_le _, rfl, by simp⟩
    simpa using World.iter_heap w1 s 0
  case round =>
    obtain ⟨pos, acc, hI, hit, hb, hpos, hacc, hal⟩ := hrel
    have hK : w1.heap.size < wr.heap.size := (Array.getElem?_eq_some_iff.1 hit).1
    by_cases hp : pos < s.size
    · have hnx : ∀ ty, (Instr.next (.pointer (some ⟨w1.heap.size, 0, none⟩)) true ty).run Tryd.prog wr = _ := fun ty => Lib.run_next_any_at wr w1.heap.size s pos ty hit hp
      have hwd := wid_pos s pos
      have hwl := wid_le s pos hp
      have hpt := dec_pt_le s pos
      have hI2 := hI.iterAt hit (pos + (Utf8.decode s pos).2)
      have hit2 := Lib.iterAt_heap wr w1.heap.size s pos (pos + (Utf8.decode s pos).2) hit
      have hb2 := Lib.below_iterAt hb (k := w1.heap.size) hsz1 s (pos + (Utf8.decode s pos).2)
      have hE2 : Esc (wr.iterAt w1.heap.size s (pos + (Utf8.decode s pos).2)) := hE.below hb2
      have hdt := dec_tail s pos hp
      have hib := item_brk a s pos hp
      have hii := item_in a s pos
      have hat := item_at a s pos hp
      generalize Utf8.decode s pos = D at *
      have hn1 : (s[pos]'hp).toNat < 256 := (s[pos]'hp).toNat_lt
      have hin : s.data.toList.length = s.size := list_len s
      cases hbk : brk D with
      | true =>
        have hitem := hib hbk
        have hBk : ∀ w, Calls Tryd.prog 72 #[.int .i32 (D.1 : Nat), .string (s.extract pos s.size)] w fun e w' => e = .returned (.bool true) ∧ Below w.heap.size w w' := fun w => broken_is _ _ true w (by rw [hdt]) (by rw [hdt]; exact hbk)
        clear hdt hbk hib hii
        obtain ⟨r, t, n0, hn0, hw0, HR0, hsum, he, hHx⟩ := brk_pack a s pos hp hitem
        have HR : Hid (r.data.toList = itemL a (s.data.toList.drop pos)) := HR0
        clear HR0 hitem hn1 hin
        go_wp2_with (first | (go_at_call 72; refine (hBk _).mono ?_; rintro e w3 ⟨rfl, hb3⟩) | (go_at_call 74; refine (hHx _).mono ?_; rintro e w4 ⟨rfl, hb4⟩))
        clear hn0 hw0 hsum he
        have hb34 := hb3.trans (hb4.mono hb3.size)
        have hI4 := isB_below hI2 hb34
        have hit4 := iter_keep hb34 hit2
        have hb5 := hb2.trans (hb34.mono hb2.size)
        have hls := itemL_len a (s.data.toList.drop pos)
        have hrs : r.size ≤ 10 := by
          rw [← list_len, HR.out]; exact hls
        refine (Tryd.writeString w.heap.size w.heap.size _ _ _ hI4 (by rw [Lib.byteCells_length]; omega) hb5.size).mono ?_
        rintro e w6 ⟨rfl, h6, hb6, hk6⟩
        go_wp2
        go_roundw
        case rel =>
          refine ⟨pos + D.2, acc ++ itemL a (s.data.toList.drop pos), ?_, hk6.iter hit4 (by omega), hb5.trans hb6, hwl, ?_, ?_⟩
          · rw [str_cells', HR.out] at h6
            rw [Lib.byteCells_append]; exact Or.inr h6
          · have := hacc.out
            rw [hat] at this
            show (acc ++ itemL a (s.data.toList.drop pos)) ++ _ = _
            rw [List.append_assoc]; exact this
          · rw [List.length_append]; omega
        case measure =>
          simp only [World.iterPos, hk6.iter hit4 (by omega), hit]
          omega
      | false =>
        have hitem := hii hbk
        have hBk : ∀ w, Calls Tryd.prog 72 #[.int .i32 (D.1 : Nat), .string (s.extract pos s.size)] w fun e w' => e = .returned (.bool false) ∧ Below w.heap.size w w' := fun w => broken_is _ _ false w (by rw [hdt]) (by rw [hdt]; exact hbk)
        clear hdt hbk hib hii
        obtain ⟨r, HR0, hHx⟩ := in_pack _ 34 a _ hitem hpt (.inl rfl)
        have HR : Hid (r.data.toList = itemL a (s.data.toList.drop pos)) := HR0
        clear HR0 hitem
        go_wp2_with (first | (go_at_call 72; refine (hBk _).mono ?_; rintro e w3 ⟨rfl, hb3⟩) | (go_at_call 75; refine (hHx _ (hE2.below hb3)).mono ?_; rintro e w4 ⟨rfl, hb4⟩))
        have hb34 := hb3.trans (hb4.mono hb3.size)
        have hI4 := isB_below hI2 hb34
        have hit4 := iter_keep hb34 hit2
        have hb5 := hb2.trans (hb34.mono hb2.size)
        have hls := itemL_len a (s.data.toList.drop pos)
        have hrs : r.size ≤ 10 := by
          rw [← list_len, HR.out]; exact hls
        refine (Tryd.writeString w.heap.size w.heap.size _ _ _ hI4 (by rw [Lib.byteCells_length]; omega) hb5.size).mono ?_
        rintro e w6 ⟨rfl, h6, hb6, hk6⟩
        go_wp2
        go_roundw
        case rel =>
          refine ⟨pos + D.2, acc ++ itemL a (s.data.toList.drop pos), ?_, hk6.iter hit4 (by omega), hb5.trans hb6, hwl, ?_, ?_⟩
          · rw [str_cells', HR.out] at h6
            rw [Lib.byteCells_append]; exact Or.inr h6
          · have := hacc.out
            rw [hat] at this
            show (acc ++ itemL a (s.data.toList.drop pos)) ++ _ = _
            rw [List.append_assoc]; exact this
          · rw [List.length_append]; omega
        case measure =>
          simp only [World.iterPos, hk6.iter hit4 (by omega), hit]
          omega
    · have hnx : ∀ ty, (Instr.next (.pointer (some ⟨w1.heap.size, 0, none⟩)) true ty).run Tryd.prog wr = _ := fun ty => Lib.run_next_end_at wr w1.heap.size s pos ty hit hp
      have hfin : acc ++ [34] = (34 :: (quoI a s.data.toList ++ [34])) := by
        have := hacc.out
        rw [show s.data.toList.drop pos = [] from List.drop_eq_nil_of_le (by rw [list_len]; omega), quoI_nil, List.append_nil] at this
        rw [this]; rfl
      have HF : Hid (acc ++ [34] = (34 :: (quoI a s.data.toList ++ [34]))) := hfin
      clear hfin
      go_wp2_with (go_at_call 71; refine (Tryd.writeByte w.heap.size w.heap.size _ _ _ hI (by rw [Lib.byteCells_length]; omega) hb.size).mono ?_)
      rintro e w6 ⟨rfl, h6, hb6, hk6⟩
      have hI6 : Lib.IsBuilderF 99 5 w.heap.size w.heap.size (Lib.byteCells (acc ++ [34])) w6 := by
        rw [Lib.byteCells_append]; exact Or.inr h6
      have hb7 := hb.trans hb6
      go_wp2_with (go_at_call 76; refine (Tryd.builderString w.heap.size w.heap.size _ _ hI6 hb7.size).mono ?_)
      rintro e w8 ⟨rfl, -, hb8, -⟩
      go_wp2
      go_ret
      rw [HF.out]
      exact ⟨rfl, hb7.trans hb8⟩
end Go.Proofs.YtbfaapbbhgegiaaDoor
