/- The walk of Quote. -/
import Derived.Test.YtnoelbomcogndabDoorInq2
namespace Go.Proofs.YtnoelbomcogndabDoor
open Go.RowKit

theorem isB_below {T e : TypeId} {B b : Nat} {bs : List Value} {W W' : World} (h : Lib.IsBuilderF T e B b bs W) (hb : Below W.heap.size W W') : Lib.IsBuilderF T e B b bs W' := by
  have key : ∀ p, Lib.BuilderAtF T e B b p bs W → Lib.BuilderAtF T e B b p bs W' := by
    rintro p ⟨hB, v, hbk, hown, hne⟩
    have blk : ∀ k o, W.heap[k]? = some o → W'.heap[k]? = some o := fun k o hk => (hb.block k (Array.getElem?_eq_some_iff.1 hk).1).trans hk
    refine ⟨hB, v, blk _ _ hbk, ⟨hown.1, ?_⟩, hne⟩
    rcases hown.2 with hn | ⟨g, cap, cur, fz, hv, hbg, hg, rest⟩
    · exact .inl hn
    · exact .inr ⟨g, cap, cur, fz, hv, hbg, blk _ _ hg, rest⟩
  exact h.elim (fun x => .inl (key _ x)) (fun x => .inr (key _ x))
theorem iter_keep {W W' : World} (hb : Below W.heap.size W W') {k : Nat} {o : Obj} (hk : W.heap[k]? = some o) : W'.heap[k]? = some o :=
  (hb.block k (Array.getElem?_eq_some_iff.1 hk).1).trans hk
theorem str_cells (l : List UInt8) : Lib.strCells ⟨l.toArray⟩ = Lib.byteCells l := by
  simp [Lib.strCells, Lib.byteCells]
theorem inq_is (c q : Nat) (a : Bool) (t : ByteArray) (h : (⟨(inL c q a).toArray⟩ : ByteArray) = t) (w : World) (hE : Esc w) (hc : c ≤ 1114111) (hq : q = 34 ∨ q = 39) :
    Calls Tryd.prog 47 #[.int .i32 c, .int .i32 q, .bool a] w fun e w' => e = .returned (.string t) ∧ Below w.heap.size w w' := by
  rw [← h]; exact inq_any c q a w hE hc hq
theorem dec_pt_le (s : ByteArray) (p : Nat) : (Utf8.decode s p).1 ≤ 1114111 := by
  rw [← dec_tail_list]; exact Lib.decodeL_rune _
theorem drop_ne (s : ByteArray) (p : Nat) (h : p < s.size) : s.data.toList.drop p ≠ [] := by
  intro h0
  have := congrArg List.length h0
  rw [List.length_drop, list_len] at this
  simp at this
  omega
theorem item_at (a : Bool) (s : ByteArray) (p : Nat) (h : p < s.size) : quoI a (s.data.toList.drop p) = itemL a (s.data.toList.drop p) ++ quoI a (s.data.toList.drop (p + (Utf8.decode s p).2)) := by
  rw [quoI_step a _ (drop_ne s p h), dec_tail_list, List.drop_drop]
theorem item_brk (a : Bool) (s : ByteArray) (p : Nat) (h : p < s.size) (hb : brk (Utf8.decode s p) = true) : itemL a (s.data.toList.drop p) = [92, 120] ++ hexL (s[p]'h).toNat 2 := by
  have e : ((s.data.toList.drop p).getD 0 0) = s[p]'h := by
    rw [List.getD_eq_getElem?_getD, List.getElem?_drop]
    simp [List.getElem?_eq_getElem (show p < s.data.toList.length by rw [list_len]; exact h)]
    rfl
  unfold itemL
  rw [dec_tail_list, if_pos hb, e]; rfl
theorem item_in (a : Bool) (s : ByteArray) (p : Nat) (hb : brk (Utf8.decode s p) = false) : itemL a (s.data.toList.drop p) = inL (Utf8.decode s p).1 34 a := by
  unfold itemL
  rw [dec_tail_list, if_neg (by rw [hb]; simp)]

theorem str_cells' (r : ByteArray) : Lib.strCells r = Lib.byteCells r.data.toList := by
  simp [Lib.strCells, Lib.byteCells]
theorem hex_pack (x : UInt8) (n k : Nat) (L : List UInt8) (h : L = [92, x] ++ hexL n k) (hn : n ≤ 1114111) (hk : k ≤ 8) :
    ∃ r t : ByteArray, r.data.toList = L ∧ t.size = k ∧ (ByteArray.mk #[92, x]) ++ t = r ∧ ∀ w, Calls Tryd.prog 59 #[.int .i32 n, .int .i64 k] w fun e w' => e = .returned (.string t) ∧ Below w.heap.size w w' :=
  ⟨⟨([92, x] ++ hexL n k).toArray⟩, ⟨(hexL n k).toArray⟩, by rw [h], hex_size n k, hex_bytes x n k, fun w => hexa_any n k w hn hk⟩
theorem in_pack (c q : Nat) (a : Bool) (L : List UInt8) (h : L = inL c q a) (hc : c ≤ 1114111) (hq : q = 34 ∨ q = 39) :
    ∃ r : ByteArray, r.data.toList = L ∧ ∀ w, Esc w → Calls Tryd.prog 47 #[.int .i32 c, .int .i32 q, .bool a] w fun e w' => e = .returned (.string r) ∧ Below w.heap.size w w' :=
  ⟨⟨(inL c q a).toArray⟩, by rw [h], fun w hE => inq_any c q a w hE hc hq⟩

theorem two_sum (x y : UInt8) (t : ByteArray) (h : t.size ≤ 8) : ¬ 9223372036854775807 < (ByteArray.mk #[x, y]).size + t.size := by
  show ¬ 9223372036854775807 < 2 + t.size
  omega
theorem wrap32_byte (n : Nat) (h : n < 256) : wrap32 (n : Int) = (n : Int) := by unfold wrap32; omega
theorem brk_pack (a : Bool) (s : ByteArray) (pos : Nat) (hp : pos < s.size) (hi : itemL a (s.data.toList.drop pos) = [92, 120] ++ hexL (s[pos]'hp).toNat 2) :
    ∃ (r t : ByteArray) (n0 : Nat), (s[pos]'hp).toNat = n0 ∧ wrap32 (n0 : Int) = (n0 : Int) ∧ r.data.toList = itemL a (s.data.toList.drop pos) ∧ ¬ 9223372036854775807 < (ByteArray.mk #[92, 120]).size + t.size ∧ (ByteArray.mk #[92, 120]) ++ t = r ∧
      ∀ w, Calls Tryd.prog 59 #[.int .i32 n0, .int .i64 2] w fun e w' => e = .returned (.string t) ∧ Below w.heap.size w w' := by
  have hn : (s[pos]'hp).toNat < 256 := (s[pos]'hp).toNat_lt
  obtain ⟨r, t, h1, h2, h3, h4⟩ := hex_pack 120 _ 2 _ hi (Nat.le_trans (Nat.le_of_lt hn) (by decide)) (by decide)
  exact ⟨r, t, _, rfl, wrap32_byte _ hn, h1, two_sum _ _ t (by rw [h2]; decide), h3, h4⟩

end Go.Proofs.YtnoelbomcogndabDoor
