/- partsOf at whatever value. -/
import Derived.Test.YtjphklhfigammaaDoorVRow8
import Derived.Test.YtjphklhfigammaaDoorVInF
import Derived.Test.YtjphklhfigammaaDoorVRaw
import Derived.OwnWalk
import Derived.Maps.AppendAt
namespace Go.Proofs.YtjphklhfigammaaDoor
open Go.RowKit
set_option linter.unusedVariables false
set_option linter.unusedSimpArgs false

set_option maxRecDepth 1000000 in
set_option maxHeartbeats 1000000 in
theorem partsof_pair (v : Value) (w : World) : Calls Tryd.prog 28 #[.iface 78 v] w fun e w' => e = .returned (.slice none 0 0) ∧ w' = w := by
  have h1 := ta_pair_structure
  have h2 := ta_pair_list
  have h3 := ta_pair_dictionary
  have h4 := ta_pair_pointer
  go_enter Tryd.func28, Tryd.ntmps28
  go_wp2
  go_ret
  exact ⟨rfl, rfl⟩
set_option maxRecDepth 1000000 in
set_option maxHeartbeats 1000000 in
theorem partsof_structure (k h : Int) (ty : ByteArray) (a1 : Option Addr) (n1 c1 : Nat) (a2 : Option Addr) (n2 c2 : Nat) (w : World) : Calls Tryd.prog 28 #[.iface 83 (.agg #[.int .i64 k, .string ty, .int .i64 h, .slice a1 n1 c1, .slice a2 n2 c2])] w fun e w' => e = .returned (.slice a2 n2 c2) ∧ Below w.heap.size w w' := by
  have h0 := ta_structure_structure
  go_enter Tryd.func28, Tryd.ntmps28
  go_wp2
  go_ret
  exact ⟨rfl, (Below.refl _ _).alloc (Nat.le_refl _) _⟩
set_option maxRecDepth 1000000 in
set_option maxHeartbeats 1000000 in
theorem partsof_list (k h : Int) (ty : ByteArray) (a2 : Option Addr) (n2 c2 : Nat) (w : World) : Calls Tryd.prog 28 #[.iface 96 (.agg #[.int .i64 k, .string ty, .int .i64 h, .slice a2 n2 c2])] w fun e w' => e = .returned (.slice a2 n2 c2) ∧ Below w.heap.size w w' := by
  have h0 := ta_list_structure
  have h1 := ta_list_list
  go_enter Tryd.func28, Tryd.ntmps28
  go_wp2
  go_ret
  exact ⟨rfl, (Below.refl _ _).alloc (Nat.le_refl _) _⟩
set_option maxRecDepth 1000000 in
set_option maxHeartbeats 1000000 in
theorem partsof_pointer (k h : Int) (ty : ByteArray) (n : Int) (a2 : Option Addr) (n2 c2 : Nat) (w : World) : Calls Tryd.prog 28 #[.iface 85 (.agg #[.int .i64 k, .string ty, .int .i64 h, .int .u64 n, .slice a2 n2 c2])] w fun e w' => e = .returned (.slice a2 n2 c2) ∧ Below w.heap.size w w' := by
  have h0 := ta_pointer_structure
  have h1 := ta_pointer_list
  have h2 := ta_pointer_dictionary
  have h3 := ta_pointer_pointer
  go_enter Tryd.func28, Tryd.ntmps28
  go_wp2
  go_ret
  exact ⟨rfl, (Below.refl _ _).alloc (Nat.le_refl _) _⟩
theorem info_Value : ∃ i, Tryd.prog.info? 28 = some i ∧ i.zero = some .nilIface ∧ i.size = 1 ∧ i.bytes = 16 := by
  have h : (Tryd.prog.info? 28).map (fun i => (i.zero, i.size, i.bytes)) = some (some .nilIface, 1, 16) := by kernel_rfl
  obtain ⟨i, hi, hb⟩ := Option.map_eq_some_iff.1 h
  simp only [Prod.mk.injEq] at hb
  exact ⟨i, hi, hb⟩
set_option maxRecDepth 1000000 in
set_option maxHeartbeats 4000000 in
theorem partsof_dictionary (R : Value → D → Prop) (S : Nat → Prop) (k h : Int) (ty : ByteArray) (m : List (D × D)) (fa : Option Addr) (fc : Nat) (w : World) (hm : m.length ≤ 1000) (hv : Ents R S w fa m) :
    Calls Tryd.prog 28 #[.iface 100 (.agg #[.int .i64 k, .string ty, .int .i64 h, .slice fa m.length fc])] w fun e w' => Below w.heap.size w w' ∧ ∃ ga gc, e = .returned (.slice ga (flat2 m).length gc) ∧ (flat2 m).length ≤ gc ∧ gc ≤ maxLen ∧ Vals R (fun b => w.heap.size ≤ b) w' ga (flat2 m) := by
  have h0 := ta_dictionary_structure
  have h1 := ta_dictionary_list
  have h2 := ta_dictionary_dictionary
  obtain ⟨i0, hi, hz0, hz1, hz2⟩ := info_Value
  obtain ⟨W1, hW1⟩ : ∃ W1, W1 = w.alloc (.cells #[.int .i64 k, .string ty, .int .i64 h, .slice fa m.length fc] 100) := ⟨_, rfl⟩
  have hb1 : Below w.heap.size w W1 := by rw [hW1]; exact (Below.refl _ _).alloc (Nat.le_refl _) _
  have hmI : (m.length : Int) ≤ 1000 := by omega
  rw [flat2_len]
  go_enter Tryd.func28, Tryd.ntmps28
  go_wp2
  rw [← hW1]
  clear hW1
  go_loopg [6, 8, 27] m.length (fun g sv _ iv wr => ∃ (j : Nat) (us : List Value), iv = .int .i64 (j : Nat) ∧ j + g = m.length ∧ us.length ≤ 2 * j ∧ 2 * j ≤ us.length ∧ wr.ownsRow w.heap.size 28 1 sv us.length us ∧ Below w.heap.size w wr ∧ Hid (∀ (q : Nat) (p : D × D), q < j → m[q]? = some p → ∃ t u t' u', us[2 * q]? = some (.iface t u) ∧ us[2 * q + 1]? = some (.iface t' u') ∧ R (.iface t u) p.1 ∧ R (.iface t' u') p.2))
  case atStart => exact ⟨0, [], rfl, by omega, Nat.le_refl _, Nat.le_refl _, World.ownsRow_nil _ _ _ _, hb1, fun q p hq => by omega⟩
  case round =>
    obtain ⟨j, us, rfl, hjg, hu1, hu2, hown, hbl, HV⟩ := hrel
    obtain ⟨ao, ca, rfl, hca, hcm⟩ := own_sliceZ hown
    by_cases hlt : j < m.length
    · have hltI : (j : Int) < m.length := by omega
      obtain ⟨p, hp⟩ : ∃ p, m[j]? = some p := ⟨_, List.getElem?_eq_getElem hlt⟩
      obtain ⟨B, off, t, u, t', u', rfl, hSB, ca0, ca1, hR0, hR1⟩ := hv j p hp
      have hBw : B < w.heap.size := lt_of_cell ca0
      have q0 : wr.cell? ⟨B, off + j * 2, none⟩ = some (.iface t u) := (hbl.cell (p := ⟨B, off + j * 2, none⟩) hBw).trans ca0
      have q1 : wr.cell? ⟨B, off + j * 2 + 1, none⟩ = some (.iface t' u') := (hbl.cell (p := ⟨B, off + j * 2 + 1, none⟩) hBw).trans ca1
      have HV2 : Hid (∀ (q : Nat) (p : D × D), q < j + 1 → m[q]? = some p → ∃ t2 u2 t3 u3, (us ++ [.iface t u, .iface t' u'])[2 * q]? = some (.iface t2 u2) ∧ (us ++ [.iface t u, .iface t' u'])[2 * q + 1]? = some (.iface t3 u3) ∧ R (.iface t2 u2) p.1 ∧ R (.iface t3 u3) p.2) := by
        intro q p' hq hp'
        by_cases hqj : q < j
        · obtain ⟨t2, u2, t3, u3, e1, e2, e3, e4⟩ := HV.out q p' hqj hp'
          exact ⟨t2, u2, t3, u3, by rw [List.getElem?_append_left (by omega)]; exact e1, by rw [List.getElem?_append_left (by omega)]; exact e2, e3, e4⟩
        · obtain rfl : q = j := by omega
          rw [hp] at hp'
          obtain rfl := Option.some.inj hp'
          refine ⟨t, u, t', u', ?_, ?_, hR0, hR1⟩
          · rw [List.getElem?_append_right (by omega), show 2 * q - us.length = 0 by omega]; rfl
          · rw [List.getElem?_append_right (by omega), show 2 * q + 1 - us.length = 1 by omega]; rfl
      have hsz := hbl.size
      have hul : us.length ≤ 2000 := by omega
      have hulen : us.length + 2 ≤ 2 * (j + 1) ∧ 2 * (j + 1) ≤ us.length + 2 := by omega
      obtain ⟨hul1, hul2⟩ := hulen
      have hjI : (j : Int) ≤ 1000 := by omega
      have hownA := hown
      clear hv hp HV hR0 hR1 hb1 hown hu1 hu2
      go_wp2_with (at_builtin; refine wpList_append_own_at _ rfl _ _ 56 rfl w.heap.size 28 i0 .nilIface 1 16 Tryd.underlying56 hi hz0 hz1 hz2 rfl (by decide) _ _ _ rfl (((hownA.alloc _).alloc _)) ⟨_, 0, none⟩ 2 2 [.iface t u, .iface t' u'] rfl rfl ?c1 ?c2 ?c3 ?c4 ?c5 ?_)
      case c1 =>
        intro j2 u2 hj
        rw [show ((⟨wr.heap.size + 1, 0, none⟩ : Addr).add j2) = ⟨wr.heap.size + 1, j2, none⟩ by unfold Addr.add; split <;> simp_all]
        have hz9 : (wr.alloc (.cells #[.iface t u, .iface t' u'] 108)).heap.size = wr.heap.size + 1 := by simp
        rw [← hz9]
        exact (cell_of_row _ _ j2 #[.iface t u, .iface t' u'] 28 (0, 0) (heap_alloc_new (wr.alloc (.cells #[.iface t u, .iface t' u'] 108)) _)).trans (by simpa using hj)
      case c2 => intro u2 hu; simp at hu; rcases hu with rfl | rfl <;> rfl
      case c3 => unfold maxLen; omega
      case c4 => omega
      case c5 => simp; omega
      intro v' w7 o7 g7 _ _
      have b7 : Below w.heap.size w w7 := ((hbl.alloc hbl.size _).alloc (by simp; omega) _).grown g7 (by simp; omega) (fun kk hkk => (hownA.lt kk hkk).1)
      have hel : (us ++ [Value.iface t u, Value.iface t' u']).length = us.length + 2 := by simp
      rw [← hel] at o7
      rw [← hel] at hul1 hul2
      clear hownA g7 hel
      go_wp2
      go_roundg (gk - 1)
      case measure => omega
      case rel => exact ⟨j + 1, us ++ [.iface t u, .iface t' u'], by go_num, by omega, hul1, hul2, o7, b7, HV2⟩
    · have hltI : ¬ (j : Int) < m.length := by omega
      have HR : Hid (Vals R (fun b => w.heap.size ≤ b) wr ao (flat2 m)) := by
        intro i y hy
        have hil : i < 2 * m.length := by rw [← flat2_len]; exact (List.getElem?_eq_some_iff.1 hy).1
        obtain ⟨p, hp⟩ : ∃ p, m[i / 2]? = some p := ⟨_, List.getElem?_eq_getElem (by omega)⟩
        obtain ⟨f1, f2⟩ := flat2_get m _ p hp
        obtain ⟨t, u, t', u', e1, e2, e3, e4⟩ := HV.out (i / 2) p (by omega) hp
        have hcell : ∀ x, us[i]? = some x → ∃ b off, ao = some ⟨b, off, none⟩ ∧ w.heap.size ≤ b ∧ wr.cell? ⟨b, off + i, none⟩ = some x := by
          intro x hx
          have hxl := (List.getElem?_eq_some_iff.1 hx).1
          rcases hown.2 with ⟨-, h0⟩ | ⟨g, cap, cur, hv, hB, hg, -⟩
          · omega
          · obtain ⟨rfl, -, -⟩ := Value.slice.inj hv
            refine ⟨g, 0, rfl, hB, ?_⟩
            rw [Nat.zero_add, hown.cellAt i (by omega)]
            exact hx
        rcases Nat.mod_two_eq_zero_or_one i with hmo | hmo
        · rw [show 2 * (i / 2) = i by omega] at f1 e1
          rw [hy] at f1
          obtain rfl := Option.some.inj f1
          obtain ⟨b, off, q1, q2, q3⟩ := hcell _ e1
          exact ⟨b, off, t, u, q1, q2, q3, e3⟩
        · rw [show 2 * (i / 2) + 1 = i by omega] at f2 e2
          rw [hy] at f2
          obtain rfl := Option.some.inj f2
          obtain ⟨b, off, q1, q2, q3⟩ := hcell _ e2
          exact ⟨b, off, t', u', q1, q2, q3, e4⟩
      have hue : us.length = 2 * m.length := by omega
      have HU : Hid (us.length = 2 * m.length) := hue
      clear HV hv hue hown
      go_wp2
      go_ret
      exact ⟨hbl, ao, ca, by rw [HU.out]; rfl, by rw [← HU.out]; exact hca, hcm, HR.out⟩
/-- partsOf at whatever value. -/
theorem partsof_any (n : Nat) (S : Nat → Prop) (d : D) (v : Value) (w : World) (h : VlC srt (n + 1) S w v d) (h0 : 0 ≤ d.kind) (h22 : d.kind ≤ 22) (hp : great d.kind = true → d.parts.length ≤ 1000) :
    Calls Tryd.prog 28 #[v] w fun e w' => Below w.heap.size w w' ∧ ∃ ga gc, e = .returned (.slice ga (vp d).length gc) ∧ Vals (VlC srt n S w) (fun b => S b ∨ w.heap.size ≤ b) w' ga (vp d) := by
  have hno : d.kind ≤ 17 → vp d = [] := fun hk => by
    unfold vp
    have hg : great d.kind = false := by simp [great]; omega
    rw [if_neg (by omega), hg]
    rfl
  have hgr : ¬ d.kind ≤ 17 → d.kind ≠ 21 → vp d = d.parts := fun hk h21 => by
    unfold vp
    have hg : great d.kind = true := by simp [great]; omega
    rw [if_neg h21, if_pos hg]
  unfold VlC at h
  split at h
  · rename_i hk
    rw [hno hk]
    have key : ∀ t x, mdV d = .iface t x → (∀ w, Calls Tryd.prog 28 #[.iface t x] w fun e w' => e = .returned (.slice none 0 0) ∧ w' = w) → Calls Tryd.prog 28 #[v] w fun e w' => Below w.heap.size w w' ∧ ∃ ga gc, e = .returned (.slice ga ([] : List D).length gc) ∧ Vals (VlC srt n S w) (fun b => S b ∨ w.heap.size ≤ b) w' ga [] := by
      intro t x e hc
      rw [h, e]
      refine (hc w).mono ?_
      rintro e w' ⟨rfl, rfl⟩
      exact ⟨Below.refl _ _, none, 0, rfl, fun i y hy => by simp at hy⟩
    unfold mdV at key
    by_cases k1 : d.kind = 1
    · exact key _ _ (by rw [if_pos k1]) fun w => partsof_truthT _ w
    by_cases k2 : 2 ≤ d.kind ∧ d.kind ≤ 6
    · exact key _ _ (by rw [if_neg k1, if_pos k2]) fun w => partsof_signed _ w
    by_cases k3 : 7 ≤ d.kind ∧ d.kind ≤ 11
    · exact key _ _ (by rw [if_neg k1, if_neg k2, if_pos k3]) fun w => partsof_unsigned _ w
    by_cases k4 : d.kind = 12
    · exact key _ _ (by rw [if_neg k1, if_neg k2, if_neg k3, if_pos k4]) fun w => partsof_float _ w
    by_cases k5 : d.kind = 13
    · exact key _ _ (by rw [if_neg k1, if_neg k2, if_neg k3, if_neg k4, if_pos k5]) fun w => partsof_float _ w
    by_cases k6 : d.kind = 14
    · exact key _ _ (by rw [if_neg k1, if_neg k2, if_neg k3, if_neg k4, if_neg k5, if_pos k6]) fun w => partsof_pair _ w
    by_cases k7 : d.kind = 15
    · exact key _ _ (by rw [if_neg k1, if_neg k2, if_neg k3, if_neg k4, if_neg k5, if_neg k6, if_pos k7]) fun w => partsof_pair _ w
    by_cases k8 : d.kind = 16
    · exact key _ _ (by rw [if_neg k1, if_neg k2, if_neg k3, if_neg k4, if_neg k5, if_neg k6, if_neg k7, if_pos k8]) fun w => partsof_text _ w
    by_cases k9 : d.kind = 17
    · exact key _ _ (by rw [if_neg k1, if_neg k2, if_neg k3, if_neg k4, if_neg k5, if_neg k6, if_neg k7, if_neg k8, if_pos k9]) fun w => partsof_octets _ w
    · exact key _ _ (by rw [if_neg k1, if_neg k2, if_neg k3, if_neg k4, if_neg k5, if_neg k6, if_neg k7, if_neg k8, if_neg k9]) fun w => partsof_nothing _ w
  rename_i hk
  have tn : ∀ {ga : Option Addr} {W' : World}, Below w.heap.size w W' → Vals (VlC srt n S w) S w ga d.parts → Vals (VlC srt n S w) (fun b => S b ∨ w.heap.size ≤ b) W' ga d.parts := fun hb hv => hv.turn (Kept.below hb fun b hb _ => Or.inl hb) fun _ _ h => h
  split at h
  · rename_i h18
    obtain ⟨na, nc, fa, fc, rfl, -, -, -, -, -, hv⟩ := h
    rw [hgr hk (by omega)]
    refine (partsof_structure _ _ _ na _ nc fa _ fc w).mono ?_
    rintro e w' ⟨rfl, hb⟩
    exact ⟨hb, fa, fc, rfl, tn hb hv⟩
  split at h
  · rename_i h18 h21
    obtain ⟨fa, fc, rfl, -, -, hv⟩ := h
    have hvp : vp d = flat2 (srt d.parts) := by unfold vp; rw [if_pos h21]
    rw [hvp]
    refine (partsof_dictionary (VlC srt n S w) S _ _ _ (srt d.parts) fa fc w (by rw [srt_len]; have := hp (by simp [great]; omega); omega) hv).mono ?_
    rintro e w' ⟨hb, ga, gc, rfl, -, -, hv⟩
    exact ⟨hb, ga, gc, rfl, hv.turn (fun b hb _ => ⟨Or.inr hb, fun _ => rfl⟩) fun _ _ h => h⟩
  split at h
  · rename_i h18 h21 h22'
    obtain ⟨fa, fc, rfl, -, -, hv⟩ := h
    rw [hgr hk (by omega)]
    refine (partsof_pointer _ _ _ _ fa _ fc w).mono ?_
    rintro e w' ⟨rfl, hb⟩
    exact ⟨hb, fa, fc, rfl, tn hb hv⟩
  · obtain ⟨fa, fc, rfl, -, -, hv⟩ := h
    rw [hgr hk (by assumption)]
    refine (partsof_list _ _ _ fa _ fc w).mono ?_
    rintro e w' ⟨rfl, hb⟩
    exact ⟨hb, fa, fc, rfl, tn hb hv⟩
end Go.Proofs.YtjphklhfigammaaDoor
