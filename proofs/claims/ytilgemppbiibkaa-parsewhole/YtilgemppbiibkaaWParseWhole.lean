/- The walk of the law ParseWhole. -/
import Derived.Test.YtilgemppbiibkaaPWhole
namespace Go.Proofs.Ytilgemppbiibkaa
open Go.RowKit
set_option linter.unusedVariables false
set_option linter.unusedSimpArgs false

theorem first_byte (l : Bs) (h : 0 < (ba l).size) : ((ba l)[0]'h).toNat = hd l := by
  cases l with
  | nil => exact absurd h (by decide)
  | cons x t => rfl
set_option maxRecDepth 1000000 in
set_option maxHeartbeats 4000000 in
theorem parseWhole_walk (s0 : ByteArray) (hs : s0.size ≤ 9223372036854775807) (w : World) :
    Calls Try.prog 4 #[.string s0] w fun e w' => e = .returned (.bool true) ∧ Below w.heap.size w w' := by
  obtain ⟨s, hs2, hC⟩ := cut9_any s0
  have hL := lives9_any
  have hlen := list_len s
  obtain ⟨hok, htx, -⟩ := prs_ok _ s.data.toList (Nat.le_refl _)
  have hpl := prs_len s.data.toList
  have hP := parse_any s (by omega)
  unfold PsC at hP
  have hT := fun (a : Option Addr) (c : Nat) (w : World) => text_any (prs s.data.toList) a c w (by omega) (by rw [htx]; omega)
  have hid : ba (txt (prs s.data.toList)) = s := by rw [htx]; unfold ba; simp
  rw [hid] at hT
  generalize prs s.data.toList = ps at *
  have hlp : ps.length ≤ 2000 := by omega
  clear htx hpl hlen hid hs
  go_enter Try.func4, Try.ntmps4
  go_wp2_with (first
    | (go_at_call 9; refine (hC _).mono ?_; rintro e w1 ⟨rfl, hw1⟩; subst w1)
    | (go_at_call 10; refine (hP _).mono ?_; rintro e w2 ⟨v2, rfl, o2, b2⟩; obtain ⟨a2, c2, rfl, -, -⟩ := own_slice9 o2))
  have hrow := fun h => own_row o2 h
  clear o2 hP hC
  go_loopg [4, 5, 12] ps.length (fun gg xv yv iv wr => ∃ n : Nat, iv = .int .i64 (n : Nat) ∧ n + gg = ps.length ∧ Below w2.heap.size w2 wr)
  case atStart => exact ⟨0, rfl, by omega, Below.refl _ _⟩
  case round =>
    obtain ⟨n, rfl, hn, hb⟩ := hrel
    by_cases hlt : n < ps.length
    · have hltI : (n : Int) < ps.length := by omega
      obtain ⟨p, hp⟩ : ∃ p, ps[n]? = some p := ⟨_, List.getElem?_eq_getElem hlt⟩
      obtain ⟨g, rfl, -, hg, hR⟩ := hrow (by omega)
      have hR' := hR.up hg hb
      have hrg : wr.rangeAt g (n * 20) (pcV p (ba p.text)) := hR' n p hp
      obtain ⟨k1, k2, k3, k4, k5⟩ := hok n p hp
      go_upto_region 6 with (first
        | (refine wpl_load20g rfl (.tmp 15) rfl rfl hrg rfl ?_)
        | (refine wpl_store20 rfl (.tmp 5) (.tmp 16) rfl (us := pcV p (ba p.text)) rfl rfl (Bx.new wr (pieceV 0 ⟨#[]⟩ fl0 0 0 nb0 nb0 ix0) 40) rfl rfl (pcV_one _ _) ?_))
      have p2 : Bx ((wr.alloc (.cells #[.int .i64 0, .string ⟨#[]⟩, .bool false, .bool false, .bool false, .bool false, .bool false, .int .i64 0, .int .i64 0, .int .i32 0, .int .i64 0, .int .i64 0, .int .i64 0, .int .i64 0, .int .i64 0, .int .i64 0, .int .i64 0, .int .i64 0, .int .i64 0, .int .i64 0] 40)).setCells wr.heap.size 0 (pcV p (ba p.text))) wr.heap.size (pcV p (ba p.text)) := Bx.all (Bx.new wr (pieceV 0 ⟨#[]⟩ fl0 0 0 nb0 nb0 ix0) 40) _ rfl
      have bb : Below wr.heap.size wr ((wr.alloc (.cells #[.int .i64 0, .string ⟨#[]⟩, .bool false, .bool false, .bool false, .bool false, .bool false, .int .i64 0, .int .i64 0, .int .i32 0, .int .i64 0, .int .i64 0, .int .i64 0, .int .i64 0, .int .i64 0, .int .i64 0, .int .i64 0, .int .i64 0, .int .i64 0, .int .i64 0] 40)).setCells wr.heap.size 0 (pcV p (ba p.text))) := below_sc ((Below.refl _ _).alloc (Nat.le_refl _) _) (Nat.le_refl _) _ _
      generalize (wr.alloc (.cells #[.int .i64 0, .string ⟨#[]⟩, .bool false, .bool false, .bool false, .bool false, .bool false, .int .i64 0, .int .i64 0, .int .i32 0, .int .i64 0, .int .i64 0, .int .i64 0, .int .i64 0, .int .i64 0, .int .i64 0, .int .i64 0, .int .i64 0, .int .i64 0, .int .i64 0] 40)).setCells wr.heap.size 0 (pcV p (ba p.text)) = W2 at *
      generalize Value.agg (pcV p (ba p.text)).toArray = pav
      have t0 := p2.c 0 _ rfl
      have t1 := p2.c 1 _ rfl
      have hfin : Below w2.heap.size w2 W2 := hb.trans (bb.mono hb.size)
      have hR2 := hR.up hg hfin
      have hbs : (ba p.text).size = p.text.length := by rw [← list_len]; simp [ba]
      have hpos : 0 < (ba p.text).size := by rw [hbs]; exact List.length_pos_iff.2 k1
      have hem := empty_no _ hpos
      have h37 : p.kind ≠ 0 → ((ba p.text)[0]'hpos).toNat = 37 := fun hk => (first_byte _ hpos).trans (k3 hk)
      have hposI : 0 < ((ba p.text).size : Int) := by omega
      have hprev : ∀ j, n = j + 1 → p.kind = 0 → ∃ q : Nat, q ≠ 0 ∧ W2.cell? ⟨g, j * 20, none⟩ = some (.int .i64 (q : Nat)) := fun j hj hk => by
        obtain ⟨q, hq1, hq2⟩ := k4 j hj hk
        exact ⟨q.kind, hq2, hR2 j q hq1 0 _ rfl⟩
      have hlast : p.kind = 2 → n + 1 = ps.length := k2
      have hkk : p.kind ≤ 2 := k5
      generalize ba p.text = T at *
      generalize p.kind = K at *
      clear k1 k2 k3 k4 k5 hR hR' hR2 hrg p2 hp hok hrow hbs
      rcases (by omega : K = 0 ∨ K = 1 ∨ K = 2) with rfl | rfl | rfl
      · clear h37 hlast
        rcases Nat.eq_zero_or_pos n with rfl | hn0
        · clear hprev
          go_wp2
          go_roundg (gk - 1)
          case measure => omega
          case rel => exact ⟨1, by go_num, by omega, hfin⟩
        · obtain ⟨j, rfl⟩ : ∃ j, n = j + 1 := ⟨n - 1, by omega⟩
          obtain ⟨q, hq0, f1⟩ := hprev j rfl rfl
          have hqI : ¬ (q : Int) = 0 := by omega
          clear hprev
          have hjI : (j : Int) < ps.length := by omega
          go_wp2
          go_roundg (gk - 1)
          case measure => omega
          case rel => exact ⟨j + 2, by go_num, by omega, hfin⟩
      · have h37' := h37 (by omega)
        have h37I : ((T[0]'hpos).toNat : Int) = 37 := by omega
        have h37B : (((T[0]'hpos).toNat : Int) != 37) = false := by simp [h37I]
        clear h37 hlast hprev
        by_cases hn0 : 0 < n
        · have hnI : 0 < (n : Int) := by omega
          go_wp2
          go_roundg (gk - 1)
          case measure => omega
          case rel => exact ⟨n + 1, by go_num, by omega, hfin⟩
        · have hnI : ¬ 0 < (n : Int) := by omega
          go_wp2
          go_roundg (gk - 1)
          case measure => omega
          case rel => exact ⟨n + 1, by go_num, by omega, hfin⟩
      · have h37' := h37 (by omega)
        have h37I : ((T[0]'hpos).toNat : Int) = 37 := by omega
        have h37B : (((T[0]'hpos).toNat : Int) != 37) = false := by simp [h37I]
        have hl1 := hlast rfl
        have hl2 : ¬ (n : Int) + 1 < ps.length := by omega
        clear h37 hlast hprev hl1
        by_cases hn0 : 0 < n
        · have hnI : 0 < (n : Int) := by omega
          go_wp2
          go_roundg (gk - 1)
          case measure => omega
          case rel => exact ⟨n + 1, by go_num, by omega, hfin⟩
        · have hnI : ¬ 0 < (n : Int) := by omega
          go_wp2
          go_roundg (gk - 1)
          case measure => omega
          case rel => exact ⟨n + 1, by go_num, by omega, hfin⟩
    · have hltI : ¬ (n : Int) < ps.length := by omega
      have hT2 := hT a2 c2 wr (fun h => by
        obtain ⟨g, e, -, hg, hR⟩ := hrow h
        exact ⟨g, e, Nat.lt_of_lt_of_le hg hb.size, hR.up hg hb⟩)
      clear hT hrow
      go_wp2_with (first
        | (go_at_call 14; refine hT2.mono ?_; rintro e w4 ⟨rfl, b4⟩)
        | (go_at_call 13; refine (hL _).mono ?_; rintro e w5 ⟨rfl, b5⟩))
      go_ret
      have b6 : Below w.heap.size w w4 := (b2.trans (hb.mono b2.size)).trans (b4.mono (Nat.le_trans b2.size hb.size))
      exact ⟨rfl, b6.trans (b5.mono b6.size)⟩
end Go.Proofs.Ytilgemppbiibkaa
