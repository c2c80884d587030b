/- Package parse: Text. -/
import Derived.Test.YtilgemppbiibkaaPEq
import Derived.Test.YtilgemppbiibkaaShelf
import Derived.Lib.OthersKept
namespace Go.Proofs.Ytilgemppbiibkaa
open Go.RowKit
set_option linter.unusedVariables false
set_option linter.unusedSimpArgs false

theorem isB_below {T e : TypeId} {B b : Nat} {bs : List Value} {W W' : World} (h : Lib.IsBuilderF T e B b bs W) (hb : Below W.heap.size W W') : Lib.IsBuilderF T e B b bs W' := by
  have key : ∀ p, Lib.BuilderAtF T e B b p bs W → Lib.BuilderAtF T e B b p bs W' := by
    rintro p ⟨hB, v, hbk, hown, hne⟩
    have blk : ∀ k o, W.heap[k]? = some o → W'.heap[k]? = some o := fun k o hk => (hb.block k (Array.getElem?_eq_some_iff.1 hk).1).trans hk
    refine ⟨hB, v, blk _ _ hbk, ⟨hown.1, ?_⟩, hne⟩
    rcases hown.2 with hn | ⟨g, cap, cur, fz, hv, hbg, hg, rest⟩
    · exact .inl hn
    · exact .inr ⟨g, cap, cur, fz, hv, hbg, blk _ _ hg, rest⟩
  exact h.elim (fun x => .inl (key _ x)) (fun x => .inr (key _ x))
/-- A row of pieces lies there. -/
def RowAt (w : World) (g : Nat) (ps : List Pc) : Prop := ∀ (j : Nat) (p : Pc), ps[j]? = some p → w.rangeAt g (j * 20) (pcV p (ba p.text))
theorem rowP_at : ∀ (ps : List Pc) (j : Nat) (p : Pc), ps[j]? = some p → ∀ i v, (pcV p (ba p.text))[i]? = some v → (rowP ps)[j * 20 + i]? = some v
  | [], _, _, h, _, _, _ => by simp at h
  | q :: t, 0, p, h, i, v, hv => by
    simp at h
    subst h
    have hi : i < (pcV q (ba q.text)).length := (List.getElem?_eq_some_iff.1 hv).1
    rw [rowP, Nat.zero_mul, Nat.zero_add, List.getElem?_append_left hi]
    exact hv
  | q :: t, j + 1, p, h, i, v, hv => by
    have hl : (pcV q (ba q.text)).length = 20 := rfl
    rw [rowP, List.getElem?_append_right (by rw [hl]; omega), hl, show (j + 1) * 20 + i - 20 = j * 20 + i by omega]
    exact rowP_at t j p (by simpa using h) i v hv
theorem own_row {w : World} {b : Nat} {a : Option Addr} {c : Nat} {ps : List Pc} (h : w.ownsRow b 40 20 (.slice a ps.length c) ps.length (rowP ps)) (hn : 0 < ps.length) : ∃ g, a = some ⟨g, 0, none⟩ ∧ b ≤ g ∧ g < w.heap.size ∧ RowAt w g ps := by
  obtain ⟨g, rfl, h1, h2, h3⟩ := own_cell9 h hn
  exact ⟨g, rfl, h1, h2, fun j p hj i v hv => h3 _ _ (rowP_at ps j p hj i v hv)⟩
theorem RowAt.up {w w' : World} {g : Nat} {ps : List Pc} (h : RowAt w g ps) (hg : g < w.heap.size) (hb : Below w.heap.size w w') : RowAt w' g ps := fun j p hj i v hv => (hb.cell (p := ⟨g, j * 20 + i, none⟩) hg).trans (h j p hj i v hv)
/-- The texts of pieces. -/
def txt (ps : List Pc) : Bs := ps.flatMap (·.text)
theorem txt_take {ps : List Pc} {n : Nat} {p : Pc} (h : ps[n]? = some p) : txt (ps.take (n + 1)) = txt (ps.take n) ++ p.text := by
  unfold txt
  rw [List.take_add_one, h]
  simp
set_option maxRecDepth 1000000 in
set_option maxHeartbeats 4000000 in
theorem text_any (ps : List Pc) (a : Option Addr) (c : Nat) (w : World) (hlen : ps.length ≤ 1000000) (hsz : (txt ps).length ≤ 1000000) (hrow : 0 < ps.length → ∃ g, a = some ⟨g, 0, none⟩ ∧ g < w.heap.size ∧ RowAt w g ps) :
    Calls Try.prog 14 #[.slice a ps.length c] w fun e w' => e = .returned (.string (ba (txt ps))) ∧ Below w.heap.size w w' := by
  have hI0 := Lib.IsBuilderF.of (Lib.fresh_isBuilder 62 5 w)
  have hb0 : Below w.heap.size w (w.alloc (.cells #[.pointer none, .slice none 0 0] 62)) := (Below.refl _ _).alloc (Nat.le_refl _) _
  go_enter Try.func14, Try.ntmps14
  go_wp2
  go_loopg [5, 8] ps.length (fun gg xv iv wr => ∃ (n : Nat) (acc : Bs), iv = .int .i64 (n : Nat) ∧ n + gg = ps.length ∧ Lib.IsBuilderF 62 5 w.heap.size w.heap.size (Lib.byteCells acc) wr ∧ Below w.heap.size w wr ∧ Hid (acc = txt (ps.take n)))
  case atStart => exact ⟨0, [], rfl, by omega, hI0, hb0, rfl⟩
  case round =>
    obtain ⟨n, acc, rfl, hn, hI, hb, HA⟩ := hrel
    clear hI0 hb0
    by_cases hlt : n < ps.length
    · have hltI : (n : Int) < ps.length := by omega
      obtain ⟨p, hp⟩ : ∃ p, ps[n]? = some p := ⟨_, List.getElem?_eq_getElem hlt⟩
      obtain ⟨g, rfl, hg, hR⟩ := hrow (by omega)
      have hrg : wr.rangeAt g (n * 20) (pcV p (ba p.text)) := (hR.up hg (hb.mono (Nat.le_refl _))) n p hp
      have HA' : Hid (acc ++ p.text = txt (ps.take (n + 1))) := by show _ = _; rw [txt_take hp, HA.out]
      have hacc : acc.length + p.text.length ≤ 1000000 := by
        have h1 := congrArg List.length HA'.out
        rw [List.length_append] at h1
        have h2 : (txt (ps.take (n + 1))).length ≤ (txt ps).length := by
          conv => rhs; rw [← List.take_append_drop (n + 1) ps]
          unfold txt
          rw [List.flatMap_append, List.length_append]
          omega
        omega
      have hbs : (ba p.text).size = p.text.length := by rw [← list_len]; simp [ba]
      have HB : Hid (Lib.byteCells acc ++ Lib.strCells (ba p.text) = Lib.byteCells (acc ++ p.text)) := by
        show _ = _
        rw [Lib.byteCells_append, Lib.strCells_eq]
        simp [ba]
      have hwl : (Lib.byteCells acc).length + (ba p.text).size ≤ 140737488355328 := by rw [Lib.byteCells_length, hbs]; omega
      clear hp hbs
      go_upto_region 5 with (first
        | (refine wpl_load20g rfl (.tmp 10) rfl rfl hrg rfl ?_)
        | (refine wpl_store20 rfl (.tmp 5) (.tmp 11) rfl (us := pcV p (ba p.text)) rfl rfl (Bx.new wr (pieceV 0 ⟨#[]⟩ fl0 0 0 nb0 nb0 ix0) 40) rfl rfl (pcV_one _ _) ?_))
      have p2 : Bx ((wr.alloc (.cells #[.int .i64 0, .string ⟨#[]⟩, .bool false, .bool false, .bool false, .bool false, .bool false, .int .i64 0, .int .i64 0, .int .i32 0, .int .i64 0, .int .i64 0, .int .i64 0, .int .i64 0, .int .i64 0, .int .i64 0, .int .i64 0, .int .i64 0, .int .i64 0, .int .i64 0] 40)).setCells wr.heap.size 0 (pcV p (ba p.text))) wr.heap.size (pcV p (ba p.text)) := Bx.all (Bx.new wr (pieceV 0 ⟨#[]⟩ fl0 0 0 nb0 nb0 ix0) 40) _ rfl
      have b2 : Below wr.heap.size wr ((wr.alloc (.cells #[.int .i64 0, .string ⟨#[]⟩, .bool false, .bool false, .bool false, .bool false, .bool false, .int .i64 0, .int .i64 0, .int .i32 0, .int .i64 0, .int .i64 0, .int .i64 0, .int .i64 0, .int .i64 0, .int .i64 0, .int .i64 0, .int .i64 0, .int .i64 0, .int .i64 0] 40)).setCells wr.heap.size 0 (pcV p (ba p.text))) := below_sc ((Below.refl _ _).alloc (Nat.le_refl _) _) (Nat.le_refl _) _ _
      generalize (wr.alloc (.cells #[.int .i64 0, .string ⟨#[]⟩, .bool false, .bool false, .bool false, .bool false, .bool false, .int .i64 0, .int .i64 0, .int .i32 0, .int .i64 0, .int .i64 0, .int .i64 0, .int .i64 0, .int .i64 0, .int .i64 0, .int .i64 0, .int .i64 0, .int .i64 0, .int .i64 0] 40)).setCells wr.heap.size 0 (pcV p (ba p.text)) = W2 at *
      generalize Value.agg (pcV p (ba p.text)).toArray = pav
      have t2 := p2.c 1 _ rfl
      have I2 := isB_below hI b2
      have z2 : w.heap.size ≤ W2.heap.size := Nat.le_trans hb.size b2.size
      have hWS := Try.writeString w.heap.size w.heap.size _ (ba p.text) W2 I2 hwl z2
      generalize ba p.text = PT at *
      clear p2 hI hrg
      go_wp2_with (go_at_call 22; refine hWS.mono ?_; rintro e w3 ⟨rfl, h3, b3, -⟩)
      go_roundg (gk - 1)
      case measure => omega
      case rel => exact ⟨n + 1, acc ++ p.text, by go_num, by omega, by rw [← HB.out]; exact Or.inr h3, (hb.trans (b2.mono hb.size)).trans b3, HA'⟩
    · have hltI : ¬ (n : Int) < ps.length := by omega
      have HF : Hid (acc = txt ps) := by show _ = _; rw [HA.out, List.take_of_length_le (by omega)]
      have hBS := Try.builderString w.heap.size w.heap.size acc wr hI hb.size
      clear hrow
      go_wp2_with (go_at_call 23; refine hBS.mono ?_; rintro e w3 ⟨rfl, h3, b3, -⟩)
      go_ret
      rw [← HF.out]
      exact ⟨rfl, hb.trans b3⟩
end Go.Proofs.Ytilgemppbiibkaa
