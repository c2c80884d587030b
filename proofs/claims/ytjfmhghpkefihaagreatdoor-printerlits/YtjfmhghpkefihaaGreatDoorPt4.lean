/- Quot, Char, Fill, Count, Pad, QReg, INumA: these texts in one. -/
import Derived.Test.YtjfmhghpkefihaaGreatDoorPt3
import Derived.Test.YtjfmhghpkefihaaGreatDoorPt1
import Derived.Test.YtjfmhghpkefihaaGreatDoorPt2
import Derived.Test.YtjfmhghpkefihaaGreatDoorShelf
import Derived.Deep.QuietTactic
import Derived.BigQuiet
import Derived.WalkKit
/- The walk of Quote. -/
namespace Go.Proofs.YtjfmhghpkefihaaGreatDoor
open Go.RowKit

theorem isB_below {T e : TypeId} {B b : Nat} {bs : List Value} {W W' : World} (h : Lib.IsBuilderF T e B b bs W) (hb : Below W.heap.size W W') : Lib.IsBuilderF T e B b bs W' := by
  have key : ∀ p, Lib.BuilderAtF T e B b p bs W → Lib.BuilderAtF T e B b p bs W' := by
    rintro p ⟨hB, v, hbk, hown, hne⟩
    have blk : ∀ k o, W.heap[k]? = some o → W'.heap[k]? = some o := fun k o hk => (hb.block k (Array.getElem?_eq_some_iff.1 hk).1).trans hk
    refine ⟨hB, v, blk _ _ hbk, ⟨hown.1, ?_⟩, hne⟩
    rcases hown.2 with hn | ⟨g, cap, cur, fz, hv, hbg, hg, rest⟩
    · exact .inl hn
    · exact .inr ⟨g, cap, cur, fz, hv, hbg, blk _ _ hg, rest⟩
  exact h.elim (fun x => .inl (key _ x)) (fun x => .inr (key _ x))
theorem iter_keep {W W' : World} (hb : Below W.heap.size W W') {k : Nat} {o : Obj} (hk : W.heap[k]? = some o) : W'.heap[k]? = some o :=
  (hb.block k (Array.getElem?_eq_some_iff.1 hk).1).trans hk
theorem str_cells (l : List UInt8) : Lib.strCells ⟨l.toArray⟩ = Lib.byteCells l := by
  simp [Lib.strCells, Lib.byteCells]
theorem broken_is (c : Nat) (s : ByteArray) (b : Bool) (w : World) (hc : c = (dec s).1) (hb : brk (dec s) = b) :
    Calls Tryz.prog 124 #[.int .i32 c, .string s] w fun e w' => e = .returned (.bool b) ∧ Below w.heap.size w w' := by
  rw [← hb]; exact broken_any c s w hc
theorem inq_is (c q : Nat) (a : Bool) (t : ByteArray) (h : (⟨(inL c q a).toArray⟩ : ByteArray) = t) (w : World) (hE : Esc w) (hc : c ≤ 1114111) (hq : q = 34 ∨ q = 39) :
    Calls Tryz.prog 126 #[.int .i32 c, .int .i32 q, .bool a] w fun e w' => e = .returned (.string t) ∧ Below w.heap.size w w' := by
  rw [← h]; exact inq_any c q a w hE hc hq
theorem dec_pt_le (s : ByteArray) (p : Nat) : (Utf8.decode s p).1 ≤ 1114111 := by
  rw [← dec_tail_list]; exact Lib.decodeL_rune _
theorem drop_ne (s : ByteArray) (p : Nat) (h : p < s.size) : s.data.toList.drop p ≠ [] := by
  intro h0
  have := congrArg List.length h0
  rw [List.length_drop, list_len] at this
  simp at this
  omega
theorem item_at (a : Bool) (s : ByteArray) (p : Nat) (h : p < s.size) : quoI a (s.data.toList.drop p) = itemL a (s.data.toList.drop p) ++ quoI a (s.data.toList.drop (p + (Utf8.decode s p).2)) := by
  rw [quoI_step a _ (drop_ne s p h), dec_tail_list, List.drop_drop]
theorem item_brk (a : Bool) (s : ByteArray) (p : Nat) (h : p < s.size) (hb : brk (Utf8.decode s p) = true) : itemL a (s.data.toList.drop p) = [92, 120] ++ hexL (s[p]'h).toNat 2 := by
  have e : ((s.data.toList.drop p).getD 0 0) = s[p]'h := by
    rw [List.getD_eq_getElem?_getD, List.getElem?_drop]
    simp [List.getElem?_eq_getElem (show p < s.data.toList.length by rw [list_len]; exact h)]
    rfl
  unfold itemL
  rw [dec_tail_list, if_pos hb, e]; rfl
theorem item_in (a : Bool) (s : ByteArray) (p : Nat) (hb : brk (Utf8.decode s p) = false) : itemL a (s.data.toList.drop p) = inL (Utf8.decode s p).1 34 a := by
  unfold itemL
  rw [dec_tail_list, if_neg (by rw [hb]; simp)]

theorem str_cells' (r : ByteArray) : Lib.strCells r = Lib.byteCells r.data.toList := by
  simp [Lib.strCells, Lib.byteCells]
theorem hex_pack (x : UInt8) (n k : Nat) (L : List UInt8) (h : L = [92, x] ++ hexL n k) (hn : n ≤ 1114111) (hk : k ≤ 8) :
    ∃ r t : ByteArray, r.data.toList = L ∧ t.size = k ∧ (ByteArray.mk #[92, x]) ++ t = r ∧ ∀ w, Calls Tryz.prog 125 #[.int .i32 n, .int .i64 k] w fun e w' => e = .returned (.string t) ∧ Below w.heap.size w w' :=
  ⟨⟨([92, x] ++ hexL n k).toArray⟩, ⟨(hexL n k).toArray⟩, by rw [h], hex_size n k, hex_bytes x n k, fun w => hexa_any n k w hn hk⟩
theorem in_pack (c q : Nat) (a : Bool) (L : List UInt8) (h : L = inL c q a) (hc : c ≤ 1114111) (hq : q = 34 ∨ q = 39) :
    ∃ r : ByteArray, r.data.toList = L ∧ ∀ w, Esc w → Calls Tryz.prog 126 #[.int .i32 c, .int .i32 q, .bool a] w fun e w' => e = .returned (.string r) ∧ Below w.heap.size w w' :=
  ⟨⟨(inL c q a).toArray⟩, by rw [h], fun w hE => inq_any c q a w hE hc hq⟩

theorem two_sum (x y : UInt8) (t : ByteArray) (h : t.size ≤ 8) : ¬ 9223372036854775807 < (ByteArray.mk #[x, y]).size + t.size := by
  show ¬ 9223372036854775807 < 2 + t.size
  omega
theorem wrap32_byte (n : Nat) (h : n < 256) : wrap32 (n : Int) = (n : Int) := by unfold wrap32; omega
theorem brk_pack (a : Bool) (s : ByteArray) (pos : Nat) (hp : pos < s.size) (hi : itemL a (s.data.toList.drop pos) = [92, 120] ++ hexL (s[pos]'hp).toNat 2) :
    ∃ (r t : ByteArray) (n0 : Nat), (s[pos]'hp).toNat = n0 ∧ wrap32 (n0 : Int) = (n0 : Int) ∧ r.data.toList = itemL a (s.data.toList.drop pos) ∧ ¬ 9223372036854775807 < (ByteArray.mk #[92, 120]).size + t.size ∧ (ByteArray.mk #[92, 120]) ++ t = r ∧
      ∀ w, Calls Tryz.prog 125 #[.int .i32 n0, .int .i64 2] w fun e w' => e = .returned (.string t) ∧ Below w.heap.size w w' := by
  have hn : (s[pos]'hp).toNat < 256 := (s[pos]'hp).toNat_lt
  obtain ⟨r, t, h1, h2, h3, h4⟩ := hex_pack 120 _ 2 _ hi (Nat.le_trans (Nat.le_of_lt hn) (by decide)) (by decide)
  exact ⟨r, t, _, rfl, wrap32_byte _ hn, h1, two_sum _ _ t (by rw [h2]; decide), h3, h4⟩

set_option maxRecDepth 1000000 in
set_option maxHeartbeats 1000000 in
theorem quote_any (s : ByteArray) (a : Bool) (w : World) (hE : Esc w) (hs : s.size ≤ 1000000) :
    Calls Tryz.prog 87 #[.string s, .bool a] w fun e w' => e = .returned (.string (quoS s a)) ∧ Below w.heap.size w w' := by
  have hI0 := Lib.IsBuilderF.of (Lib.fresh_isBuilder 73 5 w)
  go_enter Tryz.func87, Tryz.ntmps87
  go_wp2_with (go_at_call 123; refine (Tryz.writeByte w.heap.size w.heap.size _ _ _ hI0 (by simp) (by simp)).mono ?_)
  rintro e w1 ⟨rfl, h1, hb1, -⟩
  have hb1' : Below w.heap.size w w1 := ((Below.refl _ w).alloc (Nat.le_refl _) _).trans hb1
  have hsz1 := hb1'.size
  have hI1 : Lib.IsBuilderF 73 5 w.heap.size w.heap.size (Lib.byteCells [34]) w1 := .inr h1
  have hlt1 : w.heap.size < w1.heap.size := h1.lt
  clear hb1 h1
  go_wp2
  go_loopw [] (fun wr => ∃ (pos : Nat) (acc : List UInt8), Lib.IsBuilderF 73 5 w.heap.size w.heap.size (Lib.byteCells acc) wr ∧ wr.heap[w1.heap.size]? = some (.stringIter s pos) ∧ Below w.heap.size w wr ∧ pos ≤ s.size ∧ Hid (acc ++ quoI a (s.data.toList.drop pos) = 34 :: quoI a s.data.toList) ∧ acc.length ≤ 10 * pos + 1) (fun wr => s.size - wr.iterPos w1.heap.size)
  case atStart =>
    refine ⟨0, [34], hI1.alloc _, ?_, hb1'.alloc hsz1 _, Nat.zero_le _, rfl, by simp⟩
    simpa using World.iter_heap w1 s 0
  case round =>
    obtain ⟨pos, acc, hI, hit, hb, hpos, hacc, hal⟩ := hrel
    have hK : w1.heap.size < wr.heap.size := (Array.getElem?_eq_some_iff.1 hit).1
    by_cases hp : pos < s.size
    · have hnx : ∀ ty, (Instr.next (.pointer (some ⟨w1.heap.size, 0, none⟩)) true ty).run Tryz.prog wr = _ := fun ty => Lib.run_next_any_at wr w1.heap.size s pos ty hit hp
      have hwd := wid_pos s pos
      have hwl := wid_le s pos hp
      have hpt := dec_pt_le s pos
      have hI2 := hI.iterAt hit (pos + (Utf8.decode s pos).2)
      have hit2 := Lib.iterAt_heap wr w1.heap.size s pos (pos + (Utf8.decode s pos).2) hit
      have hb2 := Lib.below_iterAt hb (k := w1.heap.size) hsz1 s (pos + (Utf8.decode s pos).2)
      have hE2 : Esc (wr.iterAt w1.heap.size s (pos + (Utf8.decode s pos).2)) := hE.below hb2
      have hdt := dec_tail s pos hp
      have hib := item_brk a s pos hp
      have hii := item_in a s pos
      have hat := item_at a s pos hp
      generalize Utf8.decode s pos = D at *
      have hn1 : (s[pos]'hp).toNat < 256 := (s[pos]'hp).toNat_lt
      have hin : s.data.toList.length = s.size := list_len s
      cases hbk : brk D with
      | true =>
        have hitem := hib hbk
        have hBk : ∀ w, Calls Tryz.prog 124 #[.int .i32 (D.1 : Nat), .string (s.extract pos s.size)] w fun e w' => e = .returned (.bool true) ∧ Below w.heap.size w w' := fun w => broken_is _ _ true w (by rw [hdt]) (by rw [hdt]; exact hbk)
        clear hdt hbk hib hii
        obtain ⟨r, t, n0, hn0, hw0, HR0, hsum, he, hHx⟩ := brk_pack a s pos hp hitem
        have HR : Hid (r.data.toList = itemL a (s.data.toList.drop pos)) := HR0
        clear HR0 hitem hn1 hin
        go_wp2_with (first | (go_at_call 124; refine (hBk _).mono ?_; rintro e w3 ⟨rfl, hb3⟩) | (go_at_call 125; refine (hHx _).mono ?_; rintro e w4 ⟨rfl, hb4⟩))
        clear hn0 hw0 hsum he
        have hb34 := hb3.trans (hb4.mono hb3.size)
        have hI4 := isB_below hI2 hb34
        have hit4 := iter_keep hb34 hit2
        have hb5 := hb2.trans (hb34.mono hb2.size)
        have hls := itemL_len a (s.data.toList.drop pos)
        have hrs : r.size ≤ 10 := by
          rw [← list_len, HR.out]; exact hls
        refine (Tryz.writeString w.heap.size w.heap.size _ _ _ hI4 (by rw [Lib.byteCells_length]; omega) hb5.size).mono ?_
        rintro e w6 ⟨rfl, h6, hb6, hk6⟩
        go_wp2
        go_roundw
        case rel =>
          refine ⟨pos + D.2, acc ++ itemL a (s.data.toList.drop pos), ?_, hk6.iter hit4 (by omega), hb5.trans hb6, hwl, ?_, ?_⟩
          · rw [str_cells', HR.out] at h6
            rw [Lib.byteCells_append]; exact Or.inr h6
          · have := hacc.out
            rw [hat] at this
            show (acc ++ itemL a (s.data.toList.drop pos)) ++ _ = _
            rw [List.append_assoc]; exact this
          · rw [List.length_append]; omega
        case measure =>
          simp only [World.iterPos, hk6.iter hit4 (by omega), hit]
          omega
      | false =>
        have hitem := hii hbk
        have hBk : ∀ w, Calls Tryz.prog 124 #[.int .i32 (D.1 : Nat), .string (s.extract pos s.size)] w fun e w' => e = .returned (.bool false) ∧ Below w.heap.size w w' := fun w => broken_is _ _ false w (by rw [hdt]) (by rw [hdt]; exact hbk)
        clear hdt hbk hib hii
        obtain ⟨r, HR0, hHx⟩ := in_pack _ 34 a _ hitem hpt (.inl rfl)
        have HR : Hid (r.data.toList = itemL a (s.data.toList.drop pos)) := HR0
        clear HR0 hitem
        go_wp2_with (first | (go_at_call 124; refine (hBk _).mono ?_; rintro e w3 ⟨rfl, hb3⟩) | (go_at_call 126; refine (hHx _ (hE2.below hb3)).mono ?_; rintro e w4 ⟨rfl, hb4⟩))
        have hb34 := hb3.trans (hb4.mono hb3.size)
        have hI4 := isB_below hI2 hb34
        have hit4 := iter_keep hb34 hit2
        have hb5 := hb2.trans (hb34.mono hb2.size)
        have hls := itemL_len a (s.data.toList.drop pos)
        have hrs : r.size ≤ 10 := by
          rw [← list_len, HR.out]; exact hls
        refine (Tryz.writeString w.heap.size w.heap.size _ _ _ hI4 (by rw [Lib.byteCells_length]; omega) hb5.size).mono ?_
        rintro e w6 ⟨rfl, h6, hb6, hk6⟩
        go_wp2
        go_roundw
        case rel =>
          refine ⟨pos + D.2, acc ++ itemL a (s.data.toList.drop pos), ?_, hk6.iter hit4 (by omega), hb5.trans hb6, hwl, ?_, ?_⟩
          · rw [str_cells', HR.out] at h6
            rw [Lib.byteCells_append]; exact Or.inr h6
          · have := hacc.out
            rw [hat] at this
            show (acc ++ itemL a (s.data.toList.drop pos)) ++ _ = _
            rw [List.append_assoc]; exact this
          · rw [List.length_append]; omega
        case measure =>
          simp only [World.iterPos, hk6.iter hit4 (by omega), hit]
          omega
    · have hnx : ∀ ty, (Instr.next (.pointer (some ⟨w1.heap.size, 0, none⟩)) true ty).run Tryz.prog wr = _ := fun ty => Lib.run_next_end_at wr w1.heap.size s pos ty hit hp
      have hfin : acc ++ [34] = (34 :: (quoI a s.data.toList ++ [34])) := by
        have := hacc.out
        rw [show s.data.toList.drop pos = [] from List.drop_eq_nil_of_le (by rw [list_len]; omega), quoI_nil, List.append_nil] at this
        rw [this]; rfl
      have HF : Hid (acc ++ [34] = (34 :: (quoI a s.data.toList ++ [34]))) := hfin
      clear hfin
      go_wp2_with (go_at_call 123; refine (Tryz.writeByte w.heap.size w.heap.size _ _ _ hI (by rw [Lib.byteCells_length]; omega) hb.size).mono ?_)
      rintro e w6 ⟨rfl, h6, hb6, hk6⟩
      have hI6 : Lib.IsBuilderF 73 5 w.heap.size w.heap.size (Lib.byteCells (acc ++ [34])) w6 := by
        rw [Lib.byteCells_append]; exact Or.inr h6
      have hb7 := hb.trans hb6
      go_wp2_with (go_at_call 29; refine (Tryz.builderString w.heap.size w.heap.size _ _ hI6 hb7.size).mono ?_)
      rintro e w8 ⟨rfl, -, hb8, -⟩
      go_wp2
      go_ret
      rw [HF.out]
      exact ⟨rfl, hb7.trans hb8⟩
end Go.Proofs.YtjfmhghpkefihaaGreatDoor

/- The walks of Char, hindersRaw and Raw. -/
namespace Go.Proofs.YtjfmhghpkefihaaGreatDoor
open Go.RowKit
set_option linter.unusedVariables false

/-- A code point in single quotes. -/
def chrS (c : Int) (a : Bool) : ByteArray := ⟨(39 :: (inL (pt c) 39 a ++ [39])).toArray⟩
theorem pt_le (c : Int) : pt c ≤ 1114111 := by
  have := (valid_iff _).1 (pt_valid c)
  omega
theorem one_sum (x : UInt8) (t : ByteArray) (h : t.size ≤ 100000000) : ¬ 9223372036854775807 < (ByteArray.mk #[x]).size + t.size := by
  show ¬ 9223372036854775807 < 1 + t.size
  omega
theorem sum_one (x : UInt8) (t : ByteArray) (h : t.size ≤ 100000000) : ¬ 9223372036854775807 < t.size + (ByteArray.mk #[x]).size := by
  show ¬ 9223372036854775807 < t.size + 1
  omega
theorem chr_pack (c : Int) (a : Bool) : ∃ r t u : ByteArray, chrS c a = r ∧ (ByteArray.mk #[39]) ++ t = u ∧ u ++ (ByteArray.mk #[39]) = r ∧ ¬ 9223372036854775807 < (ByteArray.mk #[39]).size + t.size ∧ ¬ 9223372036854775807 < u.size + (ByteArray.mk #[39]).size ∧
    ∀ w, Esc w → Calls Tryz.prog 126 #[.int .i32 (pt c : Nat), .int .i32 39, .bool a] w fun e w' => e = .returned (.string t) ∧ Below w.heap.size w w' := by
  have hl := inL_len (pt c) 39 a
  have e1 : (ByteArray.mk #[39]) ++ (ByteArray.mk (inL (pt c) 39 a).toArray) = ⟨(39 :: inL (pt c) 39 a).toArray⟩ := ba_app [39] _
  have e2 : (ByteArray.mk (39 :: inL (pt c) 39 a).toArray) ++ (ByteArray.mk #[39]) = chrS c a := ba_app (39 :: inL (pt c) 39 a) [39]
  refine ⟨_, _, _, rfl, e1, e2, one_sum 39 _ ?_, sum_one 39 _ ?_, fun w hE => inq_any (pt c) 39 a w hE (pt_le c) (.inr rfl)⟩
  · show (inL (pt c) 39 a).toArray.size ≤ 100000000
    simp; omega
  · show (39 :: inL (pt c) 39 a).toArray.size ≤ 100000000
    simp; omega
theorem dec_enc (c : Int) : dec (Utf8.encode c) = (pt c, (Utf8.encode c).size) := by
  have := back_dec c ⟨#[]⟩
  have e : Utf8.encode c ++ (ByteArray.mk #[]) = Utf8.encode c := by
    have := ba_app (Utf8.encode c).data.toList []
    rw [List.append_nil, ba_list] at this
    exact this
  rw [e] at this
  exact this

set_option maxRecDepth 1000000 in
set_option maxHeartbeats 400000 in
theorem char_any (c : Int) (a : Bool) (w : World) (hE : Esc w) :
    Calls Tryz.prog 218 #[.int .i32 c, .bool a] w fun e w' => e = .returned (.string (chrS c a)) ∧ Below w.heap.size w w' := by
  obtain ⟨r, t, u, hr, h1, h2, h3, h4, hQ⟩ := chr_pack c a
  rw [hr]
  obtain ⟨k, hk⟩ : ∃ k, Utf8.encode c = k := ⟨_, rfl⟩
  have hR := rune_is c k hk
  have hD : ∀ w, Calls Tryz.prog 42 #[.string k] w fun e w' => e = .returned (.tuple #[.int .i32 (pt c : Nat), .int .i64 k.size]) ∧ Below w.heap.size w w' := by
    intro w
    have := decode_any k w
    rw [← hk, dec_enc c] at this
    rw [← hk]
    exact this
  clear hk hr
  generalize pt c = P at *
  go_enter Tryz.func218, Tryz.ntmps218
  go_wp2_with (first | (go_at_call 36; refine (hR _).mono ?_; rintro e w' ⟨rfl, rfl⟩) | (go_at_call 42; refine (hD _).mono ?_; rintro e w1 ⟨rfl, hb1⟩) | (go_at_call 126; refine (hQ _ (hE.below hb1)).mono ?_; rintro e w2 ⟨rfl, hb2⟩))
  go_ret
  exact ⟨rfl, hb1.trans (hb2.mono hb1.size)⟩

/-- Does a code point hinder Raw? -/
def hind (c : Int) : Bool := decide (c = 96 ∨ (c < 32 ∧ c ≠ 9) ∨ c = 127 ∨ c = 65279)
set_option maxRecDepth 1000000 in
set_option maxHeartbeats 400000 in
theorem hinders_any (c : Int) (w : World) :
    Calls Tryz.prog 168 #[.int .i32 c] w fun e w' => e = .returned (.bool (hind c)) ∧ w' = w := by
  by_cases h1 : c = 9 <;> by_cases h2 : c = 96 <;> by_cases h3 : c = 127 <;> by_cases h4 : c = 65279 <;> by_cases h5 : c < 32
  all_goals first | (exfalso; omega) | skip
  all_goals first | (have hp : hind c = true := (by unfold hind; rw [decide_eq_true_iff]; omega)) | (have hp : hind c = false := (by unfold hind; rw [decide_eq_false_iff_not]; omega))
  all_goals
    rw [hp]
    go_enter Tryz.func168, Tryz.ntmps168
    go_wp2
    go_ret
    exact ⟨rfl, rfl⟩
/-- Does anything in a text, from a place on, hinder Raw? -/
def rawGo (s : ByteArray) : Nat → Nat → Bool
  | 0, _ => true
  | f + 1, p => if p < s.size then (if hind (Utf8.decode s p).1 = true ∨ brk (Utf8.decode s p) = true then false else rawGo s f (p + (Utf8.decode s p).2)) else true
theorem rawGo_fuel (s : ByteArray) : ∀ (f g p : Nat), s.size - p ≤ f → s.size - p ≤ g → rawGo s f p = rawGo s g p
  | 0, 0, _, _, _ => rfl
  | 0, g + 1, p, h, _ => by simp [rawGo, show ¬ p < s.size by omega]
  | f + 1, 0, p, _, h => by simp [rawGo, show ¬ p < s.size by omega]
  | f + 1, g + 1, p, h1, h2 => by
    have hw := wid_pos s p
    by_cases hp : p < s.size
    · simp only [rawGo, if_pos hp]
      rw [rawGo_fuel s f g _ (by omega) (by omega)]
    · simp [rawGo, hp]
def rawF (s : ByteArray) (p : Nat) : Bool := rawGo s (s.size - p) p
theorem rawF_end (s : ByteArray) (p : Nat) (h : ¬ p < s.size) : rawF s p = true := by
  unfold rawF
  rw [show s.size - p = 0 by omega]; rfl
theorem rawF_no (s : ByteArray) (p : Nat) (h : p < s.size) (hh : hind (Utf8.decode s p).1 = true ∨ brk (Utf8.decode s p) = true) : rawF s p = false := by
  unfold rawF
  obtain ⟨f, hf⟩ : ∃ f, s.size - p = f + 1 := ⟨s.size - p - 1, by omega⟩
  rw [hf]
  simp only [rawGo, if_pos h, if_pos hh]
theorem rawF_on (s : ByteArray) (p : Nat) (h : p < s.size) (hh : ¬ (hind (Utf8.decode s p).1 = true ∨ brk (Utf8.decode s p) = true)) : rawF s p = rawF s (p + (Utf8.decode s p).2) := by
  have hw := wid_pos s p
  unfold rawF
  obtain ⟨f, hf⟩ : ∃ f, s.size - p = f + 1 := ⟨s.size - p - 1, by omega⟩
  rw [hf]
  simp only [rawGo, if_pos h, if_neg hh]
  rw [rawGo_fuel s f _ _ (by omega) (Nat.le_refl _)]
end Go.Proofs.YtjfmhghpkefihaaGreatDoor

/- The walks of width and Fill. -/
namespace Go.Proofs.YtjfmhghpkefihaaGreatDoor
open Go.RowKit

set_option maxHeartbeats 400000 in
theorem width_any (n : Int) (w : World) :
    Calls Tryz.prog 120 #[.int .i64 n] w fun e w' => e = .returned (.int .i64 (wdt n : Nat)) ∧ w' = w := by
  go_enter Tryz.func120, Tryz.ntmps120
  go_wp2
  go_ret
  exact ⟨ret_int (wdt_eq n), rfl⟩

theorem conv1d (w : World) (x : Int) :
    (convert 70 9 (.slice (some ⟨w.heap.size, 0, none⟩) 1 1)).run Tryz.prog (w.alloc (.cells #[.int .u8 x] 5)).drew = .ok (.string (strOfNums [x])) (w.alloc (.cells #[.int .u8 x] 5)).drew := by
  refine run_convert_bytes_arg _ 70 5 Tryz.underlying70 Tryz.underlying5 w.heap.size 0 1 1 [x] rfl (fun i hi => ?_) 9 Tryz.underlying9
  have : i = 0 := by omega
  subst this
  simp

theorem repeat_byte (x : Int) (k : Nat) (w : World) (hk : k ≤ 1000) :
    Calls Tryz.prog 166 #[.string (strOfNums [x]), .int .i64 k] w fun e w' => e = .returned (.string ⟨(List.replicate k (UInt8.ofNat x.toNat)).toArray⟩) ∧ Below w.heap.size w w' := by
  have hz : (strOfNums [x]).size = 1 := rfl
  refine (Tryz.strings_Repeat (strOfNums [x]) k w (by omega) (by rw [hz]; omega)).mono ?_
  rintro e w' ⟨rfl, hb⟩
  refine ⟨ret_str ?_, hb⟩
  have e : (strOfNums [x]).data.toList = List.replicate 1 (UInt8.ofNat x.toNat) := rfl
  rw [e, Lib.repeatL_replicate, Nat.mul_one]

set_option maxRecDepth 1000000 in
set_option maxHeartbeats 400000 in
theorem fill_any (c : Nat) (n : Int) (w : World) :
    Calls Tryz.prog 122 #[.int .u8 c, .int .i64 n] w fun e w' => e = .returned (.string (run c (wdt n))) ∧ Below w.heap.size w w' := by
  have kc := conv1d
  go_enter Tryz.func122, Tryz.ntmps122
  go_wp2_with fail
  go_region_with (first | (go_at_call 120; refine (width_any _ _).mono ?_; rintro e w' ⟨rfl, rfl⟩) | (go_at_call 166; refine (repeat_byte _ _ _ (wdt_le n)).mono ?_; rintro e w1 ⟨rfl, hb⟩))
  all_goals go_wp2
  all_goals go_ret
  all_goals exact ⟨rfl, (((Below.refl _ _).alloc (Nat.le_refl _) _).drew).trans (hb.mono (by simp))⟩
end Go.Proofs.YtjfmhghpkefihaaGreatDoor

/- The walk of Count. -/
namespace Go.Proofs.YtjfmhghpkefihaaGreatDoor
open Go.RowKit

set_option maxRecDepth 1000000 in
set_option maxHeartbeats 800000 in
theorem count_any (s : ByteArray) (w : World) (hs : s.size ≤ maxLen) :
    Calls Tryz.prog 121 #[.string s] w fun e w' => e = .returned (.int .i64 (cntR s : Nat)) ∧ Below w.heap.size w w' := by
  unfold maxLen at hs
  go_enter Tryz.func121, Tryz.ntmps121
  go_wp2
  go_loopw [3] (fun n w' => ∃ pos k : Nat, w' = w.iter s pos ∧ n = .int .i64 k ∧ pos ≤ s.size ∧ k ≤ pos ∧ Hid (k + cntFrom s pos = cntR s)) (fun _ w' => s.size - w'.iterPos w.heap.size)
  case atStart => exact ⟨0, 0, rfl, rfl, Nat.zero_le _, Nat.le_refl _, by unfold cntR; exact Nat.zero_add _⟩
  case round =>
    obtain ⟨pos, k, rfl, rfl, hpos, hk, hc⟩ := hrel
    by_cases hp : pos < s.size
    · have hnx : ∀ ty, (Instr.next (.pointer (some ⟨w.heap.size, 0, none⟩)) true ty).run Tryz.prog (w.iter s pos) = _ := fun ty => run_next_any w s pos ty hp
      go_wp2
      have hw := wid_pos s pos
      have hl := wid_le s pos hp
      go_roundw
      case rel =>
        refine ⟨pos + (Utf8.decode s pos).2, k + 1, rfl, by go_num, hl, by omega, ?_⟩
        have := hc.out
        rw [cntFrom_step s pos hp] at this
        show k + 1 + cntFrom s _ = _
        omega
      case measure =>
        simp
        omega
    · have hnx : ∀ ty, (Instr.next (.pointer (some ⟨w.heap.size, 0, none⟩)) true ty).run Tryz.prog (w.iter s pos) = _ := fun ty => run_next_end w s pos ty hp
      go_wp2
      go_ret
      have := hc.out
      rw [cntFrom_end s pos hp] at this
      refine ⟨ret_int ?_, iter_below _ _ _⟩
      omega
end Go.Proofs.YtjfmhghpkefihaaGreatDoor

/- The walk of Pad. -/
namespace Go.Proofs.YtjfmhghpkefihaaGreatDoor
open Go.RowKit

set_option maxRecDepth 1000000 in
set_option maxHeartbeats 400000 in
theorem pad_any (s : ByteArray) (p mi sh sp z : Bool) (wid prec verb : Int) (w : World) (hs : s.size ≤ 1000000) :
    Calls Tryz.prog 86 #[.string s, .agg #[.bool p, .bool mi, .bool sh, .bool sp, .bool z, .int .i64 wid, .int .i64 prec, .int .i32 verb]] w fun e w' => e = .returned (.string (padS s mi z wid)) ∧ Below w.heap.size w w' := by
  have hcn := cntR_le s
  have hwl := wdt_le wid
  have hk := wdt_le ((wdt wid : Nat) - (cntR s : Nat) : Int)
  cases mi with
  | true =>
    have hsum : ¬ 9223372036854775807 < s.size + (run 32 (wdt ((wdt wid : Nat) - (cntR s : Nat) : Int))).size := by rw [run_size]; omega
    go_enter Tryz.func86, Tryz.ntmps86
    go_wp2_with (first | (go_at_call 120; refine (width_any _ _).mono ?_; rintro e w' ⟨rfl, rfl⟩) | (go_at_call 121; refine (count_any _ _ (by unfold maxLen; omega)).mono ?_; rintro e w1 ⟨rfl, hb1⟩; have c1 : w1.cell? ⟨w.heap.size, 1, none⟩ = some (.bool true) := (by rw [hb1.cell (by simp)]; simp); have c4 : w1.cell? ⟨w.heap.size, 4, none⟩ = some (.bool z) := (by rw [hb1.cell (by simp)]; simp)) | (go_at_call 122; refine (fill_any 32 _ _).mono ?_; rintro e w2 ⟨rfl, hb2⟩))
    go_ret
    exact ⟨rfl, ((Below.refl _ _).alloc (Nat.le_refl _) _).trans ((hb1.trans (hb2.mono hb1.size)).mono (by simp))⟩
  | false =>
    cases z with
    | true =>
      have hsum : ¬ 9223372036854775807 < (run 48 (wdt ((wdt wid : Nat) - (cntR s : Nat) : Int))).size + s.size := by rw [run_size]; omega
      go_enter Tryz.func86, Tryz.ntmps86
      go_wp2_with (first | (go_at_call 120; refine (width_any _ _).mono ?_; rintro e w' ⟨rfl, rfl⟩) | (go_at_call 121; refine (count_any _ _ (by unfold maxLen; omega)).mono ?_; rintro e w1 ⟨rfl, hb1⟩; have c1 : w1.cell? ⟨w.heap.size, 1, none⟩ = some (.bool false) := (by rw [hb1.cell (by simp)]; simp); have c4 : w1.cell? ⟨w.heap.size, 4, none⟩ = some (.bool true) := (by rw [hb1.cell (by simp)]; simp)) | (go_at_call 122; refine (fill_any 48 _ _).mono ?_; rintro e w2 ⟨rfl, hb2⟩))
      go_ret
      exact ⟨rfl, ((Below.refl _ _).alloc (Nat.le_refl _) _).trans ((hb1.trans (hb2.mono hb1.size)).mono (by simp))⟩
    | false =>
      have hsum : ¬ 9223372036854775807 < (run 32 (wdt ((wdt wid : Nat) - (cntR s : Nat) : Int))).size + s.size := by rw [run_size]; omega
      go_enter Tryz.func86, Tryz.ntmps86
      go_wp2_with (first | (go_at_call 120; refine (width_any _ _).mono ?_; rintro e w' ⟨rfl, rfl⟩) | (go_at_call 121; refine (count_any _ _ (by unfold maxLen; omega)).mono ?_; rintro e w1 ⟨rfl, hb1⟩; have c1 : w1.cell? ⟨w.heap.size, 1, none⟩ = some (.bool false) := (by rw [hb1.cell (by simp)]; simp); have c4 : w1.cell? ⟨w.heap.size, 4, none⟩ = some (.bool false) := (by rw [hb1.cell (by simp)]; simp)) | (go_at_call 122; refine (fill_any 32 _ _).mono ?_; rintro e w2 ⟨rfl, hb2⟩))
      go_ret
      exact ⟨rfl, ((Below.refl _ _).alloc (Nat.le_refl _) _).trans ((hb1.trans (hb2.mono hb1.size)).mono (by simp))⟩
end Go.Proofs.YtjfmhghpkefihaaGreatDoor

/- A region that draws its order and whose calls make new memory alone is walked once, in the order of its text: the library's theorem of the class of worlds, at the class of those that lie above a world. -/
namespace Go.Proofs.YtjfmhghpkefihaaGreatDoor
open Go.RowKit

/-- The worlds that have all that w0 has, and new memory. -/
def Cl (w0 : World) : Type := { w : World // Below w0.heap.size w0 w }
def Cl.w {w0 : World} (x : Cl w0) : World := x.1
theorem Cl.below {w0 : World} (x : Cl w0) : Below w0.heap.size w0 x.w := x.2
theorem Cl.some_one {w0 : World} : Nonempty (Cl w0) := ⟨⟨w0, Below.refl _ _⟩⟩
theorem Cl.cell {w0 : World} (x : Cl w0) {p : Addr} {v : Value} (h : w0.cell? p = some v) : x.w.cell? p = some v := by
  have hp : p.block < w0.heap.size := by
    rcases Nat.lt_or_ge p.block w0.heap.size with h1 | h1
    · exact h1
    · simp [World.cell?, Array.getElem?_eq_none h1] at h
  exact (x.2.cell hp).trans h
theorem Cl.call {P : Program} {f : FuncId} {args : Array Value} {w0 : World} {x : Cl w0} {v : Value}
    (h : Calls P f args x.w fun e w' => e = .returned v ∧ Below x.w.heap.size x.w w') : Calls P f args x.w fun e w'' => e = .returned v ∧ ∃ y : Cl w0, w'' = y.w :=
  h.mono fun _ w' ⟨he, hb⟩ => ⟨he, ⟨w', x.2.trans (hb.mono x.2.size)⟩, rfl⟩
theorem Cl.call_same {P : Program} {f : FuncId} {args : Array Value} {w0 : World} {x : Cl w0} {v : Value}
    (h : Calls P f args x.w fun e w' => e = .returned v ∧ w' = x.w) : Calls P f args x.w fun e w'' => e = .returned v ∧ ∃ y : Cl w0, w'' = y.w :=
  h.mono fun _ _ ⟨he, hb⟩ => ⟨he, x, hb⟩
/-- A call in straight code, made in a world above w0 (or in w0 itself): the world behind it lies above w0 too. -/
theorem Cl.go {P : Program} {f : FuncId} {args : Array Value} {w0 : World} {x : Cl w0} {v : Value}
    (h : Calls P f args x.w fun e w' => e = .returned v ∧ Below x.w.heap.size x.w w') : Calls P f args x.w fun e w'' => ∃ y : Cl w0, e = .returned v ∧ w'' = y.w :=
  h.mono fun _ w' ⟨he, hb⟩ => ⟨⟨w', x.2.trans (hb.mono x.2.size)⟩, he, rfl⟩
theorem Cl.go0 {P : Program} {f : FuncId} {args : Array Value} {w0 : World} {v : Value}
    (h : Calls P f args w0 fun e w' => e = .returned v ∧ Below w0.heap.size w0 w') : Calls P f args w0 fun e w'' => ∃ y : Cl w0, e = .returned v ∧ w'' = y.w :=
  h.mono fun _ w' ⟨he, hb⟩ => ⟨⟨w', hb⟩, he, rfl⟩
/-- The region, walked in the order of its text. -/
theorem wp_region_above {P : Program} {id : Nat} {Q : Exit → Act → World → Prop} {a : Act} {w : World} {l : List Oper} (w0 : World) (hw : Below w0.heap.size w0 w) (hm : P.follows .mixedOrders = true) (hB : Region.lexB .any l.toArray = true)
    (h : Nonempty (Cl w0) → wpQuiet P l.toArray (fun w' => ∃ x : Cl w0, w' = x.w) (fun a' => ∀ w', (∃ x : Cl w0, w' = x.w) → Q .normal a' w') l a) : (Code.region id l.toArray true).wp P Q a w :=
  wp_region_quiet (C := fun w' => ∃ x : Cl w0, w' = x.w) hm hB ⟨⟨_, hw.drew⟩, rfl⟩ (by simpa using h Cl.some_one)
end Go.Proofs.YtjfmhghpkefihaaGreatDoor

/- The walks of package ints. -/
namespace Go.Proofs.YtjfmhghpkefihaaGreatDoor
open Go.RowKit
set_option linter.unusedVariables false

set_option maxHeartbeats 400000 in
theorem ilimit_any (n : Int) (w : World) :
    Calls Tryz.prog 251 #[.int .i64 n] w fun e w' => e = .returned (.int .i64 (wdt n : Nat)) ∧ w' = w := by
  go_enter Tryz.func251, Tryz.ntmps251
  go_wp2
  go_ret
  exact ⟨ret_int (wdt_eq n), rfl⟩

set_option maxHeartbeats 400000 in
theorem ipoint_any (bits : Nat) (w : World) (hb : bits < 18446744073709551616) :
    Calls Tryz.prog 217 #[.int .u64 bits] w fun e w' => e = .returned (.int .i32 (ptN bits : Nat)) ∧ w' = w := by
  by_cases h : 1114111 < bits
  · have h' : (1114111 : Int) < bits := by omega
    go_enter Tryz.func217, Tryz.ntmps217
    go_wp2
    go_ret
    exact ⟨ret_int (by unfold ptN; rw [if_pos h]; rfl), rfl⟩
  · have h' : ¬ (1114111 : Int) < bits := by omega
    have hw : IntKind.i32.wrap (bits : Int) = bits := by rw [IntKind.wrap_i32]; omega
    go_enter Tryz.func217, Tryz.ntmps217
    go_wp2
    go_ret
    exact ⟨ret_int (by unfold ptN; rw [if_neg h]), rfl⟩

set_option maxRecDepth 1000000 in
set_option maxHeartbeats 1000000 in
theorem ilengthen_any (s : ByteArray) (n : Int) (w : World) (hs : s.size ≤ 100000) (h1 : -100000 ≤ n) (h2 : n ≤ 100000) :
    Calls Tryz.prog 250 #[.string s, .int .i64 n] w fun e w' => e = .returned (.string (lenS s n)) ∧ Below w.heap.size w w' := by
  have hF : ∀ w, Calls Tryz.prog 122 #[.int .u8 48, .int .i64 (n - (s.size : Nat))] w fun e w' => e = .returned (.string (run 48 (wdt (n - (s.size : Nat))))) ∧ Below w.heap.size w w' := fun w => fill_any 48 _ w
  have hk := wdt_le (n - (s.size : Nat))
  have hsum : ¬ 9223372036854775807 < (run 48 (wdt (n - (s.size : Nat)))).size + s.size := by rw [run_size]; omega
  have HL : Hid (run 48 (wdt (n - (s.size : Nat))) ++ s = lenS s n) := rfl
  generalize run 48 (wdt (n - (s.size : Nat))) = t at *
  go_enter Tryz.func250, Tryz.ntmps250
  go_wp2_with (go_at_call 122; refine (hF _).mono ?_; rintro e w1 ⟨rfl, hb1⟩)
  go_ret
  exact ⟨ret_str HL.out, hb1⟩

set_option maxRecDepth 1000000 in
set_option maxHeartbeats 1000000 in
theorem ipad_any (s : ByteArray) (p mi sh sp z : Bool) (wid prec verb : Int) (w : World) (hs : s.size ≤ 1000000) :
    Calls Tryz.prog 219 #[.string s, .agg #[.bool p, .bool mi, .bool sh, .bool sp, .bool z, .int .i64 wid, .int .i64 prec, .int .i32 verb]] w fun e w' => e = .returned (.string (padS s mi false wid)) ∧ Below w.heap.size w w' := by
  have hP : ∀ w, Calls Tryz.prog 86 #[.string s, .agg #[.bool p, .bool mi, .bool sh, .bool sp, .bool false, .int .i64 wid, .int .i64 prec, .int .i32 verb]] w fun e w' => e = .returned (.string (padS s mi false wid)) ∧ Below w.heap.size w w' := fun w => pad_any s p mi sh sp false wid prec verb w hs
  generalize padS s mi false wid = r at *
  have hbA : Below w.heap.size w (w.alloc (.cells #[.bool p, .bool mi, .bool sh, .bool sp, .bool false, .int .i64 wid, .int .i64 prec, .int .i32 verb] 67)) := (Below.refl _ _).alloc (Nat.le_refl _) _
  go_enter Tryz.func219, Tryz.ntmps219
  go_wp2_with (go_at_call 86; refine (hP _).mono ?_; rintro e w1 ⟨rfl, hb1⟩)
  go_ret
  exact ⟨rfl, hbA.trans (hb1.mono hbA.size)⟩

set_option maxRecDepth 1000000 in
set_option maxHeartbeats 1000000 in
theorem isign_any (p mi sh sp z : Bool) (wid prec verb : Int) (w : World) :
    Calls Tryz.prog 170 #[.agg #[.bool p, .bool mi, .bool sh, .bool sp, .bool z, .int .i64 wid, .int .i64 prec, .int .i32 verb]] w fun e w' => e = .returned (.string (signA p sp)) ∧ Below w.heap.size w w' := by
  cases p <;> cases sp
  all_goals
    go_enter Tryz.func170, Tryz.ntmps170
    go_wp2
    go_ret
    exact ⟨rfl, (Below.refl _ _).alloc (Nat.le_refl _) _⟩

set_option maxRecDepth 1000000 in
set_option maxHeartbeats 1000000 in
theorem ibase_any (verb : Int) (w : World) :
    Calls Tryz.prog 221 #[.int .i32 verb] w fun e w' => e = .returned (.int .i64 (baseV verb : Nat)) ∧ w' = w := by
  by_cases h1 : verb = 100
  · subst h1
    go_enter Tryz.func221, Tryz.ntmps221
    go_wp2
    go_ret
    exact ⟨rfl, rfl⟩
  by_cases h2 : verb = 118
  · subst h2
    go_enter Tryz.func221, Tryz.ntmps221
    go_wp2
    go_ret
    exact ⟨rfl, rfl⟩
  by_cases h3 : verb = 98
  · subst h3
    go_enter Tryz.func221, Tryz.ntmps221
    go_wp2
    go_ret
    exact ⟨rfl, rfl⟩
  by_cases h4 : verb = 111
  · subst h4
    go_enter Tryz.func221, Tryz.ntmps221
    go_wp2
    go_ret
    exact ⟨rfl, rfl⟩
  by_cases h5 : verb = 79
  · subst h5
    go_enter Tryz.func221, Tryz.ntmps221
    go_wp2
    go_ret
    exact ⟨rfl, rfl⟩
  by_cases h6 : verb = 120
  · subst h6
    go_enter Tryz.func221, Tryz.ntmps221
    go_wp2
    go_ret
    exact ⟨rfl, rfl⟩
  by_cases h7 : verb = 88
  · subst h7
    go_enter Tryz.func221, Tryz.ntmps221
    go_wp2
    go_ret
    exact ⟨rfl, rfl⟩
  go_enter Tryz.func221, Tryz.ntmps221
  go_wp2
  go_ret
  exact ⟨ret_int (by simp [baseV, h1, h2, h3, h4, h5, h6, h7]), rfl⟩

set_option maxRecDepth 1000000 in
set_option maxHeartbeats 1000000 in
theorem imark_any (d : ByteArray) (p mi sh sp z : Bool) (wid prec verb : Int) (w : World) (hd : 0 < d.size) :
    Calls Tryz.prog 253 #[.string d, .agg #[.bool p, .bool mi, .bool sh, .bool sp, .bool z, .int .i64 wid, .int .i64 prec, .int .i32 verb]] w fun e w' => e = .returned (.string (markB d sh verb)) ∧ Below w.heap.size w w' := by
  by_cases h1 : verb = 79
  · subst h1
    go_enter Tryz.func253, Tryz.ntmps253
    go_wp2
    go_ret
    exact ⟨ret_str (by simp [markB]), (Below.refl _ _).alloc (Nat.le_refl _) _⟩
  cases sh with
  | false =>
    go_enter Tryz.func253, Tryz.ntmps253
    go_wp2
    go_ret
    exact ⟨ret_str (by simp [markB, h1]), (Below.refl _ _).alloc (Nat.le_refl _) _⟩
  | true =>
  by_cases h2 : verb = 98
  · subst h2
    go_enter Tryz.func253, Tryz.ntmps253
    go_wp2
    go_ret
    exact ⟨ret_str (by simp [markB]), (Below.refl _ _).alloc (Nat.le_refl _) _⟩
  by_cases h3 : verb = 111
  · subst h3
    have hbt := bt_at d 0 hd
    by_cases h0 : bt d 0 = 48
    · have h0' : ((d[0]'hd).toNat : Int) = 48 := by rw [hbt]; omega
      have hm : markB d true 111 = ⟨#[]⟩ := by simp [markB, h0]
      rw [hm]
      clear hm hbt h0
      go_enter Tryz.func253, Tryz.ntmps253
      go_wp2
      go_ret
      exact ⟨ret_str (by rfl), (Below.refl _ _).alloc (Nat.le_refl _) _⟩
    · have h0' : ¬ ((d[0]'hd).toNat : Int) = 48 := by rw [hbt]; omega
      have hm : markB d true 111 = ⟨#[48]⟩ := by simp [markB, h0]
      rw [hm]
      clear hm hbt h0
      go_enter Tryz.func253, Tryz.ntmps253
      go_wp2
      go_ret
      exact ⟨ret_str (by rfl), (Below.refl _ _).alloc (Nat.le_refl _) _⟩
  by_cases h4 : verb = 120
  · subst h4
    go_enter Tryz.func253, Tryz.ntmps253
    go_wp2
    go_ret
    exact ⟨ret_str (by simp [markB]), (Below.refl _ _).alloc (Nat.le_refl _) _⟩
  by_cases h5 : verb = 88
  · subst h5
    go_enter Tryz.func253, Tryz.ntmps253
    go_wp2
    go_ret
    exact ⟨ret_str (by simp [markB]), (Below.refl _ _).alloc (Nat.le_refl _) _⟩
  go_enter Tryz.func253, Tryz.ntmps253
  go_wp2
  go_ret
  exact ⟨ret_str (by simp [markB, h1, h2, h3, h4, h5]), (Below.refl _ _).alloc (Nat.le_refl _) _⟩
end Go.Proofs.YtjfmhghpkefihaaGreatDoor
