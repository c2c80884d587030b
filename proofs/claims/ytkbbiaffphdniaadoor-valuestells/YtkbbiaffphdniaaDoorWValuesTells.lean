/- The walk of the law ValuesTells. -/
import Derived.Test.YtkbbiaffphdniaaDoorVBuilt
import Derived.Test.YtkbbiaffphdniaaDoorVDocT
namespace Go.Proofs.YtkbbiaffphdniaaDoor
open Go.RowKit
set_option linter.unusedVariables false
set_option linter.unusedSimpArgs false

theorem vp_len {d : D} (hs : GoodN d) : (vp d).length ≤ 1000 := by
  unfold vp
  by_cases h21 : d.kind = 21
  · rw [if_pos h21, flat2_len, srt_len]
    have := hs.few (by simp [great]; omega)
    omega
  · rw [if_neg h21]
    by_cases hg : great d.kind = true
    · rw [if_pos hg]; exact hs.few hg
    · rw [if_neg hg]; simp
theorem take_in (l : List D) (j : Nat) (x : D) (h : l[j]? = some x) : (l.map inF)[j]? = some (inF x) := by
  rw [List.getElem?_map, h]; rfl
set_option maxRecDepth 1000000 in
set_option maxHeartbeats 4000000 in
theorem vsize_any : ∀ (n : Nat) (d : D), Good8 d → ∀ (S : Nat → Prop) (w : World) (v : Value), VlC srt n S w v d → nAll (inF d) ≤ 1000000 →
    Calls Tryd.prog 19 #[v] w fun e w' => e = .returned (.int .i64 (nAll (inF d))) ∧ Below w.heap.size w w' := by
  intro n
  induction n with
  | zero => intro d _ S w v h; exact h.elim
  | succ n ih =>
    intro d hg S w v h hb
    have hs := hg.self
    have hp := partsof_any n S d v w h hs.lo hs.hi hs.few
    have hpr := inF_parts d (key_of hs.form)
    have HA : Hid (nAll (inF d) = 1 + nRow ((vp d).map inF)) := by
      show _ = _
      rw [← hpr]; exact nAll_eq _
    have HB : Hid (nAll (inF d) ≤ 1000000) := hb
    have hrec : ∀ x ∈ vp d, ∀ (S : Nat → Prop) (w : World) (v : Value), VlC srt n S w v x → nAll (inF x) ≤ 1000000 → Calls Tryd.prog 19 #[v] w fun e w' => e = .returned (.int .i64 (nAll (inF x))) ∧ Below w.heap.size w w' := fun x hx => ih x (hg.part (vp_mem hx).1 (vp_mem hx).2)
    have hlen := vp_len hs
    have hlI : ((vp d).length : Int) ≤ 1000 := by omega
    clear hb ih h hg hs hpr
    generalize nAll (inF d) = N at *
    generalize vp d = L at *
    go_enter Tryd.func19, Tryd.ntmps19
    go_wp2_with (go_at_call 37; refine hp.mono ?_; rintro e W1 ⟨hb1, ga, gc, rfl, hV⟩)
    clear hp
    go_loopg [3, 5, 9] L.length (fun gg cv z i wr => ∃ (j : Nat) (c : Int), cv = .int .i64 c ∧ i = .int .i64 j ∧ j + gg = L.length ∧ Below W1.heap.size W1 wr ∧ 0 ≤ c ∧ c ≤ 1000000 ∧ Hid (c = 1 + nRow ((L.map inF).take j)))
    case atStart => exact ⟨0, 1, rfl, rfl, Nat.zero_add _, Below.refl _ _, by omega, by omega, by show _ = _; simp [nRow]⟩
    case round =>
      obtain ⟨j, c, rfl, rfl, hjg, hbl, hc0, hc4, HC⟩ := hrel
      by_cases hlt : j < L.length
      · have hltI : (j : Int) < L.length := by omega
        obtain ⟨x, hx⟩ : ∃ x, L[j]? = some x := ⟨L[j], List.getElem?_eq_getElem hlt⟩
        obtain ⟨bb, off, t, u, rfl, -, hc, hr'⟩ := hV j x hx
        have c0 : wr.cell? ⟨bb, off + j, none⟩ = some (.iface t u) := (hbl.cell (p := ⟨bb, off + j, none⟩) (lt_of_cell hc)).trans hc
        have HN : Hid (nRow ((L.map inF).take (j + 1)) = nRow ((L.map inF).take j) + nAll (inF x)) := nRow_take _ j _ (take_in _ _ _ hx)
        have HP := nRow_le (L.map inF) (j + 1)
        have hbw1 : Below w.heap.size w wr := hb1.trans (hbl.mono hb1.size)
        obtain ⟨m, hm, hm0, hm4, hm5⟩ : ∃ m : Int, (nAll (inF x) : Int) = m ∧ 0 ≤ m ∧ m ≤ 1000000 ∧ c + m ≤ 1000000 := ⟨_, rfl, by omega, by have h1 := HB.out; have h2 := HA.out; have h3 := HN.out; omega, by have h1 := HB.out; have h2 := HC.out; have h3 := HA.out; have h4 := HN.out; omega⟩
        have hre := hrec x (List.mem_of_getElem? hx) S wr (.iface t u) (hr'.turn (Kept.below hbw1 fun b hb _ => hb)) (by omega)
        have HC2 : Hid (c + m = 1 + nRow ((L.map inF).take (j + 1))) := by
          have h1 := HC.out; have h2 := HN.out
          show _ = _
          omega
        rw [hm] at hre
        clear hV hr' hrec hm HP hc HC HN
        go_wp2_with (go_at_call 19; refine hre.mono ?_; rintro e Z ⟨rfl, hbZ⟩)
        have hbw : Below W1.heap.size W1 Z := hbl.trans (hbZ.mono hbl.size)
        go_roundg (gk - 1)
        case measure => omega
        case rel => exact ⟨j + 1, c + m, by go_num, by go_num, by omega, hbw, by omega, hm5, HC2⟩
      · have hltI : ¬ (j : Int) < L.length := by omega
        have HF : Hid ((N : Int) = c) := by
          have h1 := HC.out; have h3 := HA.out
          rw [List.take_of_length_le (by rw [List.length_map]; omega)] at h1
          show _ = _
          omega
        clear hV hrec
        go_wp2
        go_ret
        rw [HF.out]
        exact ⟨rfl, hb1.trans (hbl.mono hb1.size)⟩
theorem fmax_le : ∀ (l : List Nat) (a : Nat), a ≤ l.foldl max a ∧ ∀ x ∈ l, x ≤ l.foldl max a
  | [], a => by simp
  | y :: t, a => by
    obtain ⟨h1, h2⟩ := fmax_le t (max a y)
    refine ⟨by simp only [List.foldl_cons]; omega, ?_⟩
    intro x hx
    simp only [List.foldl_cons]
    rcases List.mem_cons.1 hx with rfl | hx
    · omega
    · exact h2 x hx
theorem dpR_mem {l : List D} {x : D} (h : x ∈ l) : dpF x ≤ dpR l := (fmax_le (l.map dpF) 0).2 _ (List.mem_map_of_mem h)
set_option maxRecDepth 1000000 in
set_option maxHeartbeats 4000000 in
theorem vdeep_any : ∀ (n : Nat) (d : D), Good8 d → ∀ (S : Nat → Prop) (w : World) (v : Value), VlC srt n S w v d → dpF (inF d) ≤ 1000000 →
    Calls Tryd.prog 21 #[v] w fun e w' => e = .returned (.int .i64 (dpF (inF d))) ∧ Below w.heap.size w w' := by
  intro n
  induction n with
  | zero => intro d _ S w v h; exact h.elim
  | succ n ih =>
    intro d hg S w v h hb
    have hs := hg.self
    have hp := partsof_any n S d v w h hs.lo hs.hi hs.few
    have hpr := inF_parts d (key_of hs.form)
    have HA : Hid (dpF (inF d) = 1 + dpR ((vp d).map inF)) := by
      show _ = _
      rw [← hpr]; exact dpF_eq _
    have HB : Hid (dpF (inF d) ≤ 1000000) := hb
    have hrec : ∀ x ∈ vp d, ∀ (S : Nat → Prop) (w : World) (v : Value), VlC srt n S w v x → dpF (inF x) ≤ 1000000 → Calls Tryd.prog 21 #[v] w fun e w' => e = .returned (.int .i64 (dpF (inF x))) ∧ Below w.heap.size w w' := fun x hx => ih x (hg.part (vp_mem hx).1 (vp_mem hx).2)
    have hlen := vp_len hs
    have hlI : ((vp d).length : Int) ≤ 1000 := by omega
    clear hb ih h hg hs hpr
    generalize dpF (inF d) = N at *
    generalize vp d = L at *
    go_enter Tryd.func21, Tryd.ntmps21
    go_wp2_with (go_at_call 37; refine hp.mono ?_; rintro e W1 ⟨hb1, ga, gc, rfl, hV⟩)
    clear hp
    go_loopg [3, 5, 9] L.length (fun gg cv z i wr => ∃ (j : Nat) (c : Int), cv = .int .i64 c ∧ i = .int .i64 j ∧ j + gg = L.length ∧ Below W1.heap.size W1 wr ∧ 0 ≤ c ∧ c ≤ 1000000 ∧ Hid (c = dpR ((L.map inF).take j)))
    case atStart => exact ⟨0, 0, rfl, rfl, Nat.zero_add _, Below.refl _ _, by omega, by omega, by show _ = _; simp [dpR]⟩
    case round =>
      obtain ⟨j, c, rfl, rfl, hjg, hbl, hc0, hc4, HC⟩ := hrel
      by_cases hlt : j < L.length
      · have hltI : (j : Int) < L.length := by omega
        obtain ⟨x, hx⟩ : ∃ x, L[j]? = some x := ⟨L[j], List.getElem?_eq_getElem hlt⟩
        obtain ⟨bb, off, t, u, rfl, -, hc, hr'⟩ := hV j x hx
        have c0 : wr.cell? ⟨bb, off + j, none⟩ = some (.iface t u) := (hbl.cell (p := ⟨bb, off + j, none⟩) (lt_of_cell hc)).trans hc
        have HN : Hid (dpR ((L.map inF).take (j + 1)) = max (dpR ((L.map inF).take j)) (dpF (inF x))) := dpR_take _ j _ (take_in _ _ _ hx)
        have HP := dpR_mem (List.mem_of_getElem? (take_in _ _ _ hx))
        have hbw1 : Below w.heap.size w wr := hb1.trans (hbl.mono hb1.size)
        obtain ⟨m, hm, hm0, hm4⟩ : ∃ m : Int, (dpF (inF x) : Int) = m ∧ 0 ≤ m ∧ m ≤ 1000000 := ⟨_, rfl, by omega, by have h1 := HB.out; have h2 := HA.out; omega⟩
        have hre := hrec x (List.mem_of_getElem? hx) S wr (.iface t u) (hr'.turn (Kept.below hbw1 fun b hb _ => hb)) (by omega)
        rw [hm] at hre
        by_cases hcm : c < m
        · have HC2 : Hid (m = dpR ((L.map inF).take (j + 1))) := by
            have h1 := HC.out; have h2 := HN.out
            show _ = _
            omega
          clear hV hr' hrec hm HP hc HC HN
          go_wp2_with (go_at_call 21; refine hre.mono ?_; rintro e Z ⟨rfl, hbZ⟩)
          have hbw : Below W1.heap.size W1 Z := hbl.trans (hbZ.mono hbl.size)
          go_roundg (gk - 1)
          case measure => omega
          case rel => exact ⟨j + 1, m, by go_num, by go_num, by omega, hbw, by omega, hm4, HC2⟩
        · have HC2 : Hid (c = dpR ((L.map inF).take (j + 1))) := by
            have h1 := HC.out; have h2 := HN.out
            show _ = _
            omega
          clear hV hr' hrec hm HP hc HC HN
          go_wp2_with (go_at_call 21; refine hre.mono ?_; rintro e Z ⟨rfl, hbZ⟩)
          have hbw : Below W1.heap.size W1 Z := hbl.trans (hbZ.mono hbl.size)
          go_roundg (gk - 1)
          case measure => omega
          case rel => exact ⟨j + 1, c, by go_num, by go_num, by omega, hbw, by omega, hc4, HC2⟩
      · have hltI : ¬ (j : Int) < L.length := by omega
        have HF : Hid ((N : Int) = 1 + c) := by
          have h1 := HC.out; have h3 := HA.out
          rw [List.take_of_length_le (by rw [List.length_map]; omega)] at h1
          show _ = _
          omega
        clear hV hrec
        go_wp2
        go_ret
        rw [HF.out]
        exact ⟨rfl, hb1.trans (hbl.mono hb1.size)⟩
def MkC (v : Value) (k : Int) (ty : ByteArray) (h : Int) : Prop := ∀ W, Calls Tryd.prog 36 #[v] W fun e w' => e = .returned (.agg #[.int .i64 k, .string ty, .int .i64 h]) ∧ Below W.heap.size W w'
theorem inF_mark (d : D) (h : d.kind ≠ 0) : (inF d).ty = d.ty ∧ (inF d).hook = d.hook := by
  rw [inF_eq, if_neg h]
  exact ⟨rfl, rfl⟩
theorem mark_any (n : Nat) (S : Nat → Prop) (W : World) (v : Value) (d : D) (hl : 0 ≤ d.kind) (hv : VlC srt n S W v d) : MkC v (inF d).kind (inF d).ty (inF d).hook := by
  by_cases k0 : d.kind = 0
  · match n, hv with
    | n + 1, hv =>
      unfold VlC at hv
      rw [if_pos (by omega)] at hv
      rw [hv]
      unfold mdV
      rw [if_neg (by omega), if_neg (by omega), if_neg (by omega), if_neg (by omega), if_neg (by omega), if_neg (by omega), if_neg (by omega), if_neg (by omega), if_neg (by omega), inF_eq, if_pos k0]
      exact fun W => markof_nothing _ _ _ W
  obtain ⟨e1, e2⟩ := inF_mark d k0
  rw [inF_kind, e1, e2]
  clear e1 e2
  match n, hv with
  | n + 1, hv =>
    unfold VlC at hv
    by_cases k17 : d.kind ≤ 17
    · rw [if_pos k17] at hv
      rw [hv]
      unfold mdV
      by_cases k1 : d.kind = 1
      · rw [if_pos k1]; exact fun W => markof_truth _ _ _ _ W
      rw [if_neg k1]
      by_cases k2 : 2 ≤ d.kind ∧ d.kind ≤ 6
      · rw [if_pos k2]; exact fun W => markof_signed _ _ _ _ W
      rw [if_neg k2]
      by_cases k3 : 7 ≤ d.kind ∧ d.kind ≤ 11
      · rw [if_pos k3]; exact fun W => markof_unsigned _ _ _ _ W
      rw [if_neg k3]
      by_cases k12 : d.kind = 12
      · rw [if_pos k12]; exact fun W => markof_float _ _ _ _ W
      rw [if_neg k12]
      by_cases k13 : d.kind = 13
      · rw [if_pos k13]; exact fun W => markof_float _ _ _ _ W
      rw [if_neg k13]
      by_cases k14 : d.kind = 14
      · rw [if_pos k14]; exact fun W => markof_pair _ _ _ _ _ W
      rw [if_neg k14]
      by_cases k15 : d.kind = 15
      · rw [if_pos k15]; exact fun W => markof_pair _ _ _ _ _ W
      rw [if_neg k15]
      by_cases k16 : d.kind = 16
      · rw [if_pos k16]; exact fun W => markof_text _ _ _ _ W
      rw [if_neg k16]
      rw [if_pos (by omega)]; exact fun W => markof_octets _ _ _ _ W
    · rw [if_neg k17] at hv
      by_cases k18 : d.kind = 18
      · rw [if_pos k18] at hv
        obtain ⟨na, nc, fa, fc, rfl, _⟩ := hv
        exact fun W => markof_structure _ _ _ _ _ _ _ _ _ W
      rw [if_neg k18] at hv
      by_cases k21 : d.kind = 21
      · rw [if_pos k21] at hv
        obtain ⟨fa, fc, rfl, _⟩ := hv
        exact fun W => markof_dictionary _ _ _ _ _ _ W
      rw [if_neg k21] at hv
      by_cases k22 : d.kind = 22
      · rw [if_pos k22] at hv
        obtain ⟨fa, fc, rfl, _⟩ := hv
        exact fun W => markof_pointer _ _ _ _ _ _ _ W
      rw [if_neg k22] at hv
      obtain ⟨fa, fc, rfl, _⟩ := hv
      exact fun W => markof_list _ _ _ _ _ _ W
theorem ba_nil {s : ByteArray} (h : s.size = 0) : s = ⟨#[]⟩ := by
  obtain ⟨a⟩ := s
  have : a.size = 0 := h
  rw [Array.eq_empty_of_size_eq_zero this]
theorem vtype_any (v : Value) (k : Int) (ty : ByteArray) (h : Int) (hm : MkC v k ty h) (w : World) (hk : KN w) (s : ByteArray) (hs : if ty.size = 0 then 0 ≤ k ∧ kindN[k.toNat]? = some s else s = ty) :
    Calls Tryd.prog 16 #[v] w fun e w' => e = .returned (.string s) ∧ Below w.heap.size w w' := by
  by_cases h0 : ty.size = 0
  · rw [if_pos h0] at hs
    obtain ⟨k', rfl⟩ : ∃ k' : Nat, k = k' := ⟨k.toNat, by omega⟩
    rw [ba_nil h0] at hm
    exact type_own v k' h w s hs.2 hk hm
  · rw [if_neg h0] at hs
    subst hs
    exact type_given v k h w s (by omega) hm
set_option maxRecDepth 1000000 in
theorem vhook_any (v : Value) (k : Int) (ty : ByteArray) (h : Int) (hm : MkC v k ty h) (w : World) :
    Calls Tryd.prog 18 #[v] w fun e w' => e = .returned (.int .i64 h) ∧ Below w.heap.size w w' := by
  have hm' := hm w
  have hf : ∀ w, (Instr.field 58 (.agg #[.int .i64 k, .string ty, .int .i64 h]) 2).run Tryd.prog w = .ok (.int .i64 h) w := fun w => by kernel_rfl
  clear hm
  go_enter Tryd.func18, Tryd.ntmps18
  go_wp2_with (go_at_call 36; refine hm'.mono ?_; rintro e V ⟨rfl, hV⟩)
  go_ret
  exact ⟨rfl, hV⟩
theorem type_there (k : Int) (ty : ByteArray) (h0 : 0 ≤ k) (h1 : k ≤ 22) : ∃ s, if ty.size = 0 then 0 ≤ k ∧ kindN[k.toNat]? = some s else s = ty := by
  by_cases h : ty.size = 0
  · have hl : k.toNat < kindN.length := by show _ < 23; omega
    refine ⟨kindN[k.toNat], ?_⟩
    rw [if_pos h]
    exact ⟨h0, List.getElem?_eq_getElem hl⟩
  · refine ⟨ty, ?_⟩
    rw [if_neg h]
set_option maxRecDepth 1000000 in
theorem kind_any (k h : Int) (ty : ByteArray) (w : World) : Calls Tryd.prog 119 #[.agg #[.int .i64 k, .string ty, .int .i64 h]] w fun e w' => e = .returned (.int .i64 k) ∧ Below w.heap.size w w' := by
  go_enter Tryd.func119, Tryd.ntmps119
  go_wp2
  go_ret
  exact ⟨rfl, (Below.refl _ _).alloc (Nat.le_refl _) _⟩
theorem nRow_flat2 : ∀ m : List (D × D), nRow (flat2 m) = (m.map fun p => nAll p.1 + nAll p.2).sum
  | [] => rfl
  | p :: t => by
    have h := nRow_flat2 t
    unfold nRow flat2 at *
    simp only [List.flatMap_cons, List.map_append, List.map_cons, List.map_nil, List.sum_append, List.sum_cons, List.sum_nil] at *
    omega
theorem sum2_perm {l m : List (D × D)} (h : l.Perm m) : (l.map fun p => nAll p.1 + nAll p.2).sum = (m.map fun p => nAll p.1 + nAll p.2).sum := by
  induction h with
  | nil => rfl
  | cons x _ ih => simp only [List.map_cons, List.sum_cons]; omega
  | swap x y l => simp only [List.map_cons, List.sum_cons]; omega
  | trans _ _ h1 h2 => exact h1.trans h2
theorem sum2_prs : ∀ l : List D, ((prs2 l).map fun p => nAll p.1 + nAll p.2).sum ≤ nRow l
  | [] => Nat.le_refl _
  | [_] => by simp [prs2]
  | a :: b :: t => by
    have h := sum2_prs t
    unfold nRow at *
    simp only [prs2, List.map_cons, List.sum_cons] at *
    omega
theorem nRow_in : ∀ l : List D, (∀ x ∈ l, nAll (inF x) ≤ nAll x) → nRow (l.map inF) ≤ nRow l
  | [], _ => Nat.le_refl _
  | x :: t, h => by
    have h1 := nRow_in t fun y hy => h y (List.mem_cons_of_mem _ hy)
    have h2 := h x (List.mem_cons_self ..)
    unfold nRow at *
    simp only [List.map_cons, List.sum_cons] at *
    omega
theorem nAll_mem {d x : D} (h : x ∈ d.parts) : nAll x < nAll d := by
  obtain ⟨j, hj⟩ := List.mem_iff_getElem?.1 h
  have := nAll_part hj
  omega
theorem nAll_inN : ∀ (n : Nat) (d : D), nAll d ≤ n → nAll (inF d) ≤ nAll d
  | 0, d, h => by have := nAll_pos d; omega
  | n + 1, d, h => by
    have hr := nRow_in d.parts fun x hx => nAll_inN n x (by have := nAll_mem hx; omega)
    rw [nAll_eq (inF d), nAll_eq d, inF_eq]
    split
    · have : nRow d00.parts = 0 := rfl
      omega
    · show 1 + nRow (if d.kind = 21 then flat2 (srt (d.parts.map inF)) else if great d.kind then d.parts.map inF else []) ≤ _
      split
      · rw [nRow_flat2, sum2_perm (srt_perm _)]
        have := sum2_prs (d.parts.map inF)
        omega
      · split
        · omega
        · have : nRow [] = 0 := rfl
          omega
theorem nAll_inF (d : D) : nAll (inF d) ≤ nAll d := nAll_inN _ d (Nat.le_refl _)
theorem fmax_sum : ∀ (l : List D) (a : Nat), (∀ x ∈ l, dpF x ≤ nAll x) → (l.map dpF).foldl max a ≤ a + nRow l
  | [], a, _ => by simp [nRow]
  | x :: t, a, h => by
    have h1 := fmax_sum t (max a (dpF x)) fun y hy => h y (List.mem_cons_of_mem _ hy)
    have h2 := h x (List.mem_cons_self ..)
    unfold nRow at *
    simp only [List.map_cons, List.foldl_cons, List.sum_cons] at *
    omega
theorem dpF_leN : ∀ (n : Nat) (d : D), nAll d ≤ n → dpF d ≤ nAll d
  | 0, d, h => by have := nAll_pos d; omega
  | n + 1, d, h => by
    have hr := fmax_sum d.parts 0 fun x hx => dpF_leN n x (by have := nAll_mem hx; omega)
    rw [nAll_eq d, dpF_eq d]
    unfold dpR
    omega
theorem dpF_le (d : D) : dpF d ≤ nAll d := dpF_leN _ d (Nat.le_refl _)
def KdC (t : TypeId) (x : Value) (k : Int) (ty : ByteArray) (h : Int) : Prop := ∀ Z : World, Sem.run Tryd.prog (method 264 t x "Kind") Z = .ok (119, .agg #[.int .i64 k, .string ty, .int .i64 h]) Z
theorem kd_nothing (k h : Int) (ty : ByteArray) : KdC 105 (.agg #[.int .i64 k, .string ty, .int .i64 h]) k ty h := fun Z => by kernel_rfl
theorem kd_truth (k h : Int) (ty : ByteArray) (v0 : Value) : KdC 76 (.agg #[.int .i64 k, .string ty, .int .i64 h, v0]) k ty h := fun Z => by kernel_rfl
theorem kd_signed (k h : Int) (ty : ByteArray) (v0 : Value) : KdC 79 (.agg #[.int .i64 k, .string ty, .int .i64 h, v0]) k ty h := fun Z => by kernel_rfl
theorem kd_unsigned (k h : Int) (ty : ByteArray) (v0 : Value) : KdC 82 (.agg #[.int .i64 k, .string ty, .int .i64 h, v0]) k ty h := fun Z => by kernel_rfl
theorem kd_float (k h : Int) (ty : ByteArray) (v0 : Value) : KdC 85 (.agg #[.int .i64 k, .string ty, .int .i64 h, v0]) k ty h := fun Z => by kernel_rfl
theorem kd_text (k h : Int) (ty : ByteArray) (v0 : Value) : KdC 89 (.agg #[.int .i64 k, .string ty, .int .i64 h, v0]) k ty h := fun Z => by kernel_rfl
theorem kd_octets (k h : Int) (ty : ByteArray) (v0 : Value) : KdC 90 (.agg #[.int .i64 k, .string ty, .int .i64 h, v0]) k ty h := fun Z => by kernel_rfl
theorem kd_list (k h : Int) (ty : ByteArray) (v0 : Value) : KdC 97 (.agg #[.int .i64 k, .string ty, .int .i64 h, v0]) k ty h := fun Z => by kernel_rfl
theorem kd_dictionary (k h : Int) (ty : ByteArray) (v0 : Value) : KdC 101 (.agg #[.int .i64 k, .string ty, .int .i64 h, v0]) k ty h := fun Z => by kernel_rfl
theorem kd_pair (k h : Int) (ty : ByteArray) (v0 v1 : Value) : KdC 87 (.agg #[.int .i64 k, .string ty, .int .i64 h, v0, v1]) k ty h := fun Z => by kernel_rfl
theorem kd_structure (k h : Int) (ty : ByteArray) (v0 v1 : Value) : KdC 95 (.agg #[.int .i64 k, .string ty, .int .i64 h, v0, v1]) k ty h := fun Z => by kernel_rfl
theorem kd_pointer (k h : Int) (ty : ByteArray) (v0 v1 : Value) : KdC 103 (.agg #[.int .i64 k, .string ty, .int .i64 h, v0, v1]) k ty h := fun Z => by kernel_rfl
theorem kd_any (n : Nat) (S : Nat → Prop) (W : World) (t : TypeId) (x : Value) (d : D) (hl : 0 ≤ d.kind) (hv : VlC srt n S W (.iface t x) d) : KdC t x (inF d).kind (inF d).ty (inF d).hook := by
  by_cases k0 : d.kind = 0
  · match n, hv with
    | n + 1, hv =>
      unfold VlC at hv
      rw [if_pos (by omega)] at hv
      unfold mdV at hv
      rw [if_neg (by omega), if_neg (by omega), if_neg (by omega), if_neg (by omega), if_neg (by omega), if_neg (by omega), if_neg (by omega), if_neg (by omega), if_neg (by omega)] at hv
      obtain ⟨rfl, rfl⟩ := Value.iface.inj hv
      rw [inF_eq, if_pos k0]
      exact kd_nothing _ _ _
  obtain ⟨e1, e2⟩ := inF_mark d k0
  rw [inF_kind, e1, e2]
  clear e1 e2
  match n, hv with
  | n + 1, hv =>
    unfold VlC at hv
    by_cases k17 : d.kind ≤ 17
    · rw [if_pos k17] at hv
      unfold mdV at hv
      by_cases c1 : d.kind = 1
      · rw [if_pos c1] at hv
        obtain ⟨rfl, rfl⟩ := Value.iface.inj hv
        exact kd_truth _ _ _ _
      rw [if_neg c1] at hv
      by_cases c2 : 2 ≤ d.kind ∧ d.kind ≤ 6
      · rw [if_pos c2] at hv
        obtain ⟨rfl, rfl⟩ := Value.iface.inj hv
        exact kd_signed _ _ _ _
      rw [if_neg c2] at hv
      by_cases c3 : 7 ≤ d.kind ∧ d.kind ≤ 11
      · rw [if_pos c3] at hv
        obtain ⟨rfl, rfl⟩ := Value.iface.inj hv
        exact kd_unsigned _ _ _ _
      rw [if_neg c3] at hv
      by_cases c4 : d.kind = 12
      · rw [if_pos c4] at hv
        obtain ⟨rfl, rfl⟩ := Value.iface.inj hv
        exact kd_float _ _ _ _
      rw [if_neg c4] at hv
      by_cases c5 : d.kind = 13
      · rw [if_pos c5] at hv
        obtain ⟨rfl, rfl⟩ := Value.iface.inj hv
        exact kd_float _ _ _ _
      rw [if_neg c5] at hv
      by_cases c6 : d.kind = 14
      · rw [if_pos c6] at hv
        obtain ⟨rfl, rfl⟩ := Value.iface.inj hv
        exact kd_pair _ _ _ _ _
      rw [if_neg c6] at hv
      by_cases c7 : d.kind = 15
      · rw [if_pos c7] at hv
        obtain ⟨rfl, rfl⟩ := Value.iface.inj hv
        exact kd_pair _ _ _ _ _
      rw [if_neg c7] at hv
      by_cases c8 : d.kind = 16
      · rw [if_pos c8] at hv
        obtain ⟨rfl, rfl⟩ := Value.iface.inj hv
        exact kd_text _ _ _ _
      rw [if_neg c8] at hv
      rw [if_pos (by omega)] at hv
      obtain ⟨rfl, rfl⟩ := Value.iface.inj hv
      exact kd_octets _ _ _ _
    · rw [if_neg k17] at hv
      by_cases k18 : d.kind = 18
      · rw [if_pos k18] at hv
        obtain ⟨na, nc, fa, fc, he, _⟩ := hv
        obtain ⟨rfl, rfl⟩ := Value.iface.inj he
        exact kd_structure _ _ _ _ _
      rw [if_neg k18] at hv
      by_cases k21 : d.kind = 21
      · rw [if_pos k21] at hv
        obtain ⟨fa, fc, he, _⟩ := hv
        obtain ⟨rfl, rfl⟩ := Value.iface.inj he
        exact kd_dictionary _ _ _ _
      rw [if_neg k21] at hv
      by_cases k22 : d.kind = 22
      · rw [if_pos k22] at hv
        obtain ⟨fa, fc, he, _⟩ := hv
        obtain ⟨rfl, rfl⟩ := Value.iface.inj he
        exact kd_pointer _ _ _ _ _
      rw [if_neg k22] at hv
      obtain ⟨fa, fc, he, _⟩ := hv
      obtain ⟨rfl, rfl⟩ := Value.iface.inj he
      exact kd_list _ _ _ _

set_option maxRecDepth 1000000 in
set_option maxHeartbeats 8000000 in
theorem valuesTells_walk (d : D) (n1 : Nat) (nv1 pv1 : Value) (w : World) (hK : KN w) (hr1 : RdC n1 w nv1 pv1 d) :
    Calls Tryd.prog 4 #[DV d nv1 pv1] w fun e w' => e = .returned (.bool true) ∧ Below w.heap.size w w' := by
  obtain ⟨na, nc, pa, pc, rfl, rfl⟩ := hr1.slices
  obtain ⟨W1, hW1⟩ : ∃ W1, W1 = w.alloc (.cells #[.int .i64 d.kind, .string d.ty, .int .u64 d.bits, .int .u64 d.imag, .string d.text, .slice na d.names.length nc, .slice pa d.parts.length pc, .int .i64 d.hook] 26) := ⟨_, rfl⟩
  have b1 : Below w.heap.size w W1 := by rw [hW1]; exact (Below.refl _ _).alloc (Nat.le_refl _) _
  have a1 : At8 W1 w.heap.size 0 d (.slice na d.names.length nc) (.slice pa d.parts.length pc) := by
    rw [hW1]
    refine ⟨?_, ?_, ?_, ?_, ?_, ?_, ?_, ?_⟩
    all_goals simp [go_sem]
  have hA := built_any d n1 _ _ W1 (hr1.up b1)
  obtain ⟨c0, c1, c2, c3, c4, c5, c6, c7⟩ := a1
  simp only [Nat.zero_add] at c0 c1 c2 c3 c4 c5 c6 c7
  go_enter Tryd.func4, Tryd.ntmps4
  go_upto_region 1 with fail
  rw [← hW1]
  clear hW1
  by_cases HO : okB d
  · replace hA := hA.mono fun e w' h => (⟨h.1, h.2.elim (fun q => q.2) (fun q => absurd HO q.1)⟩ : _ ∧ _)
    go_upto_region 2 with (go_at_call 15; refine hA.mono ?_; rintro e W2 ⟨b2, t1, x1, nv1, pv1, rfl, hv1, hd1⟩; obtain ⟨na1, nc1, pa1, pc1, rfl, rfl⟩ := hd1.slices; obtain ⟨W3, hW3⟩ : ∃ W3, W3 = W2.alloc (.cells #[.int .i64 (inF d).kind, .string (inF d).ty, .int .u64 (inF d).bits, .int .u64 (inF d).imag, .string (inF d).text, .slice na1 (inF d).names.length nc1, .slice pa1 (inF d).parts.length pc1, .int .i64 (inF d).hook] 26) := ⟨_, rfl⟩)
    rw [← hW3]
    have b3 : Below W2.heap.size W2 W3 := by rw [hW3]; exact (Below.refl _ _).alloc (Nat.le_refl _) _
    have bW3 : Below w.heap.size w W3 := (b1.trans (b2.mono b1.size)).trans (b3.mono (Nat.le_trans b1.size b2.size))
    have x3 : At8 W3 W2.heap.size 0 (inF d) (.slice na1 (inF d).names.length nc1) (.slice pa1 (inF d).parts.length pc1) := by
      rw [hW3]
      refine ⟨?_, ?_, ?_, ?_, ?_, ?_, ?_, ?_⟩
      all_goals simp [go_sem]
    have hg8 := (good_of (rd_nAll n1 hr1) HO.2).1
    have hmk := mark_any _ _ _ _ _ hg8.self.lo hv1
    have hkd := kd_any _ _ _ _ _ _ hg8.self.lo hv1
    have hnA : nAll (inF d) ≤ nAll d := nAll_inF d
    have hn4 : nAll d < 400 := HO.1
    have hdA := dpF_le (inF d)
    obtain ⟨Yd, hYd⟩ : ∃ Yd, Yd = W3.drew := ⟨_, rfl⟩
    have bY : Below w.heap.size w Yd := by rw [hYd]; exact bW3.drew
    have b23 : Below W2.heap.size W2 Yd := by rw [hYd]; exact b3.drew
    have hsz := fun (Z : World) (hZ : Below Yd.heap.size Yd Z) => vsize_any _ d hg8 _ Z _ (hv1.turn (Kept.below (b23.trans (hZ.mono b23.size)) fun b hb _ => hb)) (by omega)
    have hdp := fun (Z : World) (hZ : Below Yd.heap.size Yd Z) => vdeep_any _ d hg8 _ Z _ (hv1.turn (Kept.below (b23.trans (hZ.mono b23.size)) fun b hb _ => hb)) (by omega)
    have hosz := fun (Z : World) (hZ : Below Yd.heap.size Yd Z) => osize_any _ (inF d) _ _ Z (hd1.plain.up (b23.trans (hZ.mono b23.size))) (by omega)
    have hodp := fun (Z : World) (hZ : Below Yd.heap.size Yd Z) => odeep_any _ (inF d) _ _ Z (hd1.plain.up (b23.trans (hZ.mono b23.size))) (by omega)
    obtain ⟨sT, hsT⟩ := type_there (inF d).kind (inF d).ty (by rw [inF_kind]; exact hg8.self.lo) (by rw [inF_kind]; exact hg8.self.hi)
    obtain ⟨X1, hX1⟩ : ∃ X1, W2.heap.size = X1 := ⟨_, rfl⟩
    rw [hX1] at x3
    try simp only [hX1]
    clear hW3 hA HO hX1 hv1 hd1 hg8 hr1 hnA hn4 hdA c0 c1 c2 c3 c4 c5 c6 c7 b1 b2 b3 b23
    generalize (nAll (inF d) : Int) = qn at hsz hosz
    generalize (dpF (inF d) : Int) = qd at hdp hodp
    generalize inF d = fd at *
    go_upto_region 4 with fail
    refine wp_region_held_drew (S := fun w' : World => At8 w' X1 0 fd (.slice na1 fd.names.length nc1) (.slice pa1 fd.parts.length pc1)) (by kernel_rfl) (by exact x3) ?_
    rw [← hYd]
    have s5 : (fun w' : World => At8 w' X1 0 fd (.slice na1 fd.names.length nc1) (.slice pa1 fd.parts.length pc1)) Yd := by rw [hYd]; exact x3
    have hup : ∀ {w1 w2 : World}, (fun w' : World => At8 w' X1 0 fd (.slice na1 fd.names.length nc1) (.slice pa1 fd.parts.length pc1)) w1 → Below w1.heap.size w1 w2 → (fun w' : World => At8 w' X1 0 fd (.slice na1 fd.names.length nc1) (.slice pa1 fd.parts.length pc1)) w2 := fun h h' => h.up h'
    clear hYd x3
    intro hS
    refine wpAnyH_take (i := 0) (v := .iface t1 x1) rfl (by kernel_rfl) (by kernel_rfl) (by kernel_rfl) (fun _ _ _ h => h) (Or.inl ⟨by rfl, ?_⟩) (by assumption) ?_
    · intro w5 s0
      go_simp
    try simp only [Act.put, List.getElem_toArray, List.getElem_cons_zero, List.getElem_cons_succ, List.setIfInBounds_toArray, List.set_cons_zero, List.set_cons_succ]
    refine wpAnyH_take (i := 2) (v := .agg #[.int .i64 fd.kind, .string fd.ty, .int .u64 fd.bits, .int .u64 fd.imag, .string fd.text, .slice na1 fd.names.length nc1, .slice pa1 fd.parts.length pc1, .int .i64 fd.hook]) rfl (by kernel_rfl) (by kernel_rfl) (by kernel_rfl) (fun _ _ _ h => h) (Or.inl ⟨by rfl, ?_⟩) (by assumption) ?_
    · intro w5 s0
      obtain ⟨q0, q1, q2, q3, q4, q5, q6, q7⟩ := s0
      simp only [Nat.zero_add] at q0 q1 q2 q3 q4 q5 q6 q7
      go_simp
    try simp only [Act.put, List.getElem_toArray, List.getElem_cons_zero, List.getElem_cons_succ, List.setIfInBounds_toArray, List.set_cons_zero, List.set_cons_succ]
    refine wpAnyH_ready (rs := [1]) (by kernel_rfl) (by simp) ?_
    refine AllReadyH.cons rfl (fun K1 hK1 => ?_) AllReadyH.nil
    go_simp
    refine (vtype_any _ _ _ _ hmk _ (hK.up bY) sT hsT).mono ?_
    rintro e Z1 ⟨rfl, z1⟩
    have sZ1 := (hup s5) z1
    refine hK1.out _ _ sZ1 (fun _ => ?_)
    clear hK1
    try simp only [Act.put, List.getElem_toArray, List.getElem_cons_zero, List.getElem_cons_succ, List.setIfInBounds_toArray, List.set_cons_zero, List.set_cons_succ]
    refine wpAnyH_ready (rs := [3]) (by kernel_rfl) (by simp) ?_
    refine AllReadyH.cons rfl (fun K2 hK2 => ?_) AllReadyH.nil
    go_simp
    refine (otype_any fd na1 pa1 fd.names.length nc1 fd.parts.length pc1 _ sT hsT).mono ?_
    rintro e Z2 ⟨rfl, z2⟩
    have sZ2 := (hup sZ1) z2
    refine hK2.out _ _ sZ2 (fun _ => ?_)
    clear hK2
    try simp only [Act.put, List.getElem_toArray, List.getElem_cons_zero, List.getElem_cons_succ, List.setIfInBounds_toArray, List.set_cons_zero, List.set_cons_succ]
    have g2 : Below Yd.heap.size Yd Z2 := z1.trans (z2.mono z1.size)
    refine wpAnyH_ready (rs := [4]) (by kernel_rfl) (by simp) ?_
    refine AllReadyH.cons rfl (fun K3 hK3 => ?_) AllReadyH.nil
    go_simp
    refine hK3.out _ _ sZ2 (fun _ => ?_)
    clear hK3
    try simp only [Act.put, List.getElem_toArray, List.getElem_cons_zero, List.getElem_cons_succ, List.setIfInBounds_toArray, List.set_cons_zero, List.set_cons_succ]
    refine wpAnyH_ready (rs := [5]) (by kernel_rfl) (by simp) ?_
    refine AllReadyH.cons rfl (fun K4 hK4 => ?_) AllReadyH.nil
    go_simp
    refine hK4.out _ _ sZ2 (fun _ => ?_)
    clear hK4
    try simp only [Act.put, List.getElem_toArray, List.getElem_cons_zero, List.getElem_cons_succ, List.setIfInBounds_toArray, List.set_cons_zero, List.set_cons_succ]
    refine wpAnyH_take (i := 6) (v := .iface t1 x1) rfl (by kernel_rfl) (by kernel_rfl) (by kernel_rfl) (fun _ _ _ h => h) (Or.inl ⟨by rfl, ?_⟩) (by assumption) ?_
    · intro w5 s0
      go_simp
    try simp only [Act.put, List.getElem_toArray, List.getElem_cons_zero, List.getElem_cons_succ, List.setIfInBounds_toArray, List.set_cons_zero, List.set_cons_succ]
    refine wpAnyH_take (i := 8) (v := .pointer (some ⟨X1, 7, none⟩)) rfl (by kernel_rfl) (by kernel_rfl) (by kernel_rfl) (fun _ _ _ h => h) (Or.inl ⟨by rfl, ?_⟩) (by assumption) ?_
    · intro w5 s0
      go_simp
    try simp only [Act.put, List.getElem_toArray, List.getElem_cons_zero, List.getElem_cons_succ, List.setIfInBounds_toArray, List.set_cons_zero, List.set_cons_succ]
    refine wpAnyH_take (i := 9) (v := .int .i64 fd.hook) rfl (by kernel_rfl) (by kernel_rfl) (by kernel_rfl) (fun _ _ _ h => h) (Or.inl ⟨by rfl, ?_⟩) (by assumption) ?_
    · intro w5 s0
      obtain ⟨q0, q1, q2, q3, q4, q5, q6, q7⟩ := s0
      simp only [Nat.zero_add] at q0 q1 q2 q3 q4 q5 q6 q7
      go_simp
    try simp only [Act.put, List.getElem_toArray, List.getElem_cons_zero, List.getElem_cons_succ, List.setIfInBounds_toArray, List.set_cons_zero, List.set_cons_succ]
    refine wpAnyH_ready (rs := [7]) (by kernel_rfl) (by simp) ?_
    refine AllReadyH.cons rfl (fun K5 hK5 => ?_) AllReadyH.nil
    go_simp
    refine (vhook_any _ _ _ _ hmk _).mono ?_
    rintro e Z3 ⟨rfl, z3⟩
    have sZ3 := (hup sZ2) z3
    refine hK5.out _ _ sZ3 (fun _ => ?_)
    clear hK5
    try simp only [Act.put, List.getElem_toArray, List.getElem_cons_zero, List.getElem_cons_succ, List.setIfInBounds_toArray, List.set_cons_zero, List.set_cons_succ]
    have g3 : Below Yd.heap.size Yd Z3 := g2.trans (z3.mono g2.size)
    refine wpAnyH_ready (rs := [10]) (by kernel_rfl) (by simp) ?_
    refine AllReadyH.cons rfl (fun K6 hK6 => ?_) AllReadyH.nil
    go_simp
    refine hK6.out _ _ sZ3 (fun _ => ?_)
    clear hK6
    try simp only [Act.put, List.getElem_toArray, List.getElem_cons_zero, List.getElem_cons_succ, List.setIfInBounds_toArray, List.set_cons_zero, List.set_cons_succ]
    refine wpAnyH_ready (rs := [11]) (by kernel_rfl) (by simp) ?_
    refine AllReadyH.cons rfl (fun K7 hK7 => ?_) AllReadyH.nil
    go_simp
    refine hK7.out _ _ sZ3 (fun _ => ?_)
    clear hK7
    try simp only [Act.put, List.getElem_toArray, List.getElem_cons_zero, List.getElem_cons_succ, List.setIfInBounds_toArray, List.set_cons_zero, List.set_cons_succ]
    refine wpAnyH_ready (rs := [12]) (by kernel_rfl) (by simp) ?_
    refine AllReadyH.cons rfl (fun K8 hK8 => ?_) AllReadyH.nil
    go_simp
    refine hK8.out _ _ sZ3 (fun _ => ?_)
    clear hK8
    try simp only [Act.put, List.getElem_toArray, List.getElem_cons_zero, List.getElem_cons_succ, List.setIfInBounds_toArray, List.set_cons_zero, List.set_cons_succ]
    refine wpAnyH_take (i := 13) (v := .iface t1 x1) rfl (by kernel_rfl) (by kernel_rfl) (by kernel_rfl) (fun _ _ _ h => h) (Or.inl ⟨by rfl, ?_⟩) (by assumption) ?_
    · intro w5 s0
      go_simp
    try simp only [Act.put, List.getElem_toArray, List.getElem_cons_zero, List.getElem_cons_succ, List.setIfInBounds_toArray, List.set_cons_zero, List.set_cons_succ]
    refine wpAnyH_take (i := 15) (v := .agg #[.int .i64 fd.kind, .string fd.ty, .int .u64 fd.bits, .int .u64 fd.imag, .string fd.text, .slice na1 fd.names.length nc1, .slice pa1 fd.parts.length pc1, .int .i64 fd.hook]) rfl (by kernel_rfl) (by kernel_rfl) (by kernel_rfl) (fun _ _ _ h => h) (Or.inl ⟨by rfl, ?_⟩) (by assumption) ?_
    · intro w5 s0
      obtain ⟨q0, q1, q2, q3, q4, q5, q6, q7⟩ := s0
      simp only [Nat.zero_add] at q0 q1 q2 q3 q4 q5 q6 q7
      go_simp
    try simp only [Act.put, List.getElem_toArray, List.getElem_cons_zero, List.getElem_cons_succ, List.setIfInBounds_toArray, List.set_cons_zero, List.set_cons_succ]
    refine wpAnyH_ready (rs := [14]) (by kernel_rfl) (by simp) ?_
    refine AllReadyH.cons rfl (fun K9 hK9 => ?_) AllReadyH.nil
    go_simp
    refine (hsz _ g3).mono ?_
    rintro e Z4 ⟨rfl, z4⟩
    have sZ4 := (hup sZ3) z4
    refine hK9.out _ _ sZ4 (fun _ => ?_)
    clear hK9
    try simp only [Act.put, List.getElem_toArray, List.getElem_cons_zero, List.getElem_cons_succ, List.setIfInBounds_toArray, List.set_cons_zero, List.set_cons_succ]
    have g4 : Below Yd.heap.size Yd Z4 := g3.trans (z4.mono g3.size)
    refine wpAnyH_ready (rs := [16]) (by kernel_rfl) (by simp) ?_
    refine AllReadyH.cons rfl (fun K10 hK10 => ?_) AllReadyH.nil
    go_simp
    refine (hosz _ g4).mono ?_
    rintro e Z5 ⟨rfl, z5⟩
    have sZ5 := (hup sZ4) z5
    refine hK10.out _ _ sZ5 (fun _ => ?_)
    clear hK10
    try simp only [Act.put, List.getElem_toArray, List.getElem_cons_zero, List.getElem_cons_succ, List.setIfInBounds_toArray, List.set_cons_zero, List.set_cons_succ]
    have g5 : Below Yd.heap.size Yd Z5 := g4.trans (z5.mono g4.size)
    refine wpAnyH_ready (rs := [17]) (by kernel_rfl) (by simp) ?_
    refine AllReadyH.cons rfl (fun K11 hK11 => ?_) AllReadyH.nil
    go_simp
    refine hK11.out _ _ sZ5 (fun _ => ?_)
    clear hK11
    try simp only [Act.put, List.getElem_toArray, List.getElem_cons_zero, List.getElem_cons_succ, List.setIfInBounds_toArray, List.set_cons_zero, List.set_cons_succ]
    refine wpAnyH_ready (rs := [18]) (by kernel_rfl) (by simp) ?_
    refine AllReadyH.cons rfl (fun K12 hK12 => ?_) AllReadyH.nil
    go_simp
    refine hK12.out _ _ sZ5 (fun _ => ?_)
    clear hK12
    try simp only [Act.put, List.getElem_toArray, List.getElem_cons_zero, List.getElem_cons_succ, List.setIfInBounds_toArray, List.set_cons_zero, List.set_cons_succ]
    refine wpAnyH_ready (rs := [19]) (by kernel_rfl) (by simp) ?_
    refine AllReadyH.cons rfl (fun K13 hK13 => ?_) AllReadyH.nil
    go_simp
    refine hK13.out _ _ sZ5 (fun _ => ?_)
    clear hK13
    try simp only [Act.put, List.getElem_toArray, List.getElem_cons_zero, List.getElem_cons_succ, List.setIfInBounds_toArray, List.set_cons_zero, List.set_cons_succ]
    refine wpAnyH_take (i := 20) (v := .iface t1 x1) rfl (by kernel_rfl) (by kernel_rfl) (by kernel_rfl) (fun _ _ _ h => h) (Or.inl ⟨by rfl, ?_⟩) (by assumption) ?_
    · intro w5 s0
      go_simp
    try simp only [Act.put, List.getElem_toArray, List.getElem_cons_zero, List.getElem_cons_succ, List.setIfInBounds_toArray, List.set_cons_zero, List.set_cons_succ]
    refine wpAnyH_take (i := 22) (v := .agg #[.int .i64 fd.kind, .string fd.ty, .int .u64 fd.bits, .int .u64 fd.imag, .string fd.text, .slice na1 fd.names.length nc1, .slice pa1 fd.parts.length pc1, .int .i64 fd.hook]) rfl (by kernel_rfl) (by kernel_rfl) (by kernel_rfl) (fun _ _ _ h => h) (Or.inl ⟨by rfl, ?_⟩) (by assumption) ?_
    · intro w5 s0
      obtain ⟨q0, q1, q2, q3, q4, q5, q6, q7⟩ := s0
      simp only [Nat.zero_add] at q0 q1 q2 q3 q4 q5 q6 q7
      go_simp
    try simp only [Act.put, List.getElem_toArray, List.getElem_cons_zero, List.getElem_cons_succ, List.setIfInBounds_toArray, List.set_cons_zero, List.set_cons_succ]
    refine wpAnyH_ready (rs := [21]) (by kernel_rfl) (by simp) ?_
    refine AllReadyH.cons rfl (fun K14 hK14 => ?_) AllReadyH.nil
    go_simp
    refine (hdp _ g5).mono ?_
    rintro e Z6 ⟨rfl, z6⟩
    have sZ6 := (hup sZ5) z6
    refine hK14.out _ _ sZ6 (fun _ => ?_)
    clear hK14
    try simp only [Act.put, List.getElem_toArray, List.getElem_cons_zero, List.getElem_cons_succ, List.setIfInBounds_toArray, List.set_cons_zero, List.set_cons_succ]
    have g6 : Below Yd.heap.size Yd Z6 := g5.trans (z6.mono g5.size)
    refine wpAnyH_ready (rs := [23]) (by kernel_rfl) (by simp) ?_
    refine AllReadyH.cons rfl (fun K15 hK15 => ?_) AllReadyH.nil
    go_simp
    refine (hodp _ g6).mono ?_
    rintro e Z7 ⟨rfl, z7⟩
    have sZ7 := (hup sZ6) z7
    refine hK15.out _ _ sZ7 (fun _ => ?_)
    clear hK15
    try simp only [Act.put, List.getElem_toArray, List.getElem_cons_zero, List.getElem_cons_succ, List.setIfInBounds_toArray, List.set_cons_zero, List.set_cons_succ]
    have g7 : Below Yd.heap.size Yd Z7 := g6.trans (z7.mono g6.size)
    refine wpAnyH_ready (rs := [24]) (by kernel_rfl) (by simp) ?_
    refine AllReadyH.cons rfl (fun K16 hK16 => ?_) AllReadyH.nil
    go_simp
    refine hK16.out _ _ sZ7 (fun _ => ?_)
    clear hK16
    try simp only [Act.put, List.getElem_toArray, List.getElem_cons_zero, List.getElem_cons_succ, List.setIfInBounds_toArray, List.set_cons_zero, List.set_cons_succ]
    refine wpAnyH_ready (rs := [25]) (by kernel_rfl) (by simp) ?_
    refine AllReadyH.cons rfl (fun K17 hK17 => ?_) AllReadyH.nil
    go_simp
    refine hK17.out _ _ sZ7 (fun _ => ?_)
    clear hK17
    try simp only [Act.put, List.getElem_toArray, List.getElem_cons_zero, List.getElem_cons_succ, List.setIfInBounds_toArray, List.set_cons_zero, List.set_cons_succ]
    refine wpAnyH_ready (rs := [26]) (by kernel_rfl) (by simp) ?_
    refine AllReadyH.cons rfl (fun K18 hK18 => ?_) AllReadyH.nil
    go_simp
    refine hK18.out _ _ sZ7 (fun _ => ?_)
    clear hK18
    try simp only [Act.put, List.getElem_toArray, List.getElem_cons_zero, List.getElem_cons_succ, List.setIfInBounds_toArray, List.set_cons_zero, List.set_cons_succ]
    refine wpAnyH_take (i := 27) (v := .iface t1 x1) rfl (by kernel_rfl) (by kernel_rfl) (by kernel_rfl) (fun _ _ _ h => h) (Or.inl ⟨by rfl, ?_⟩) (by assumption) ?_
    · intro w5 s0
      go_simp
    try simp only [Act.put, List.getElem_toArray, List.getElem_cons_zero, List.getElem_cons_succ, List.setIfInBounds_toArray, List.set_cons_zero, List.set_cons_succ]
    refine wpAnyH_take (i := 28) (v := .bool false) rfl (by kernel_rfl) (by kernel_rfl) (by kernel_rfl) (fun _ _ _ h => h) (Or.inl ⟨by rfl, ?_⟩) (by assumption) ?_
    · intro w5 s0
      go_simp
    try simp only [Act.put, List.getElem_toArray, List.getElem_cons_zero, List.getElem_cons_succ, List.setIfInBounds_toArray, List.set_cons_zero, List.set_cons_succ]
    refine wpAnyH_take (i := 29) (v := .bool false) rfl (by kernel_rfl) (by kernel_rfl) (by kernel_rfl) (fun _ _ _ h => h) (Or.inl ⟨by rfl, ?_⟩) (by assumption) ?_
    · intro w5 s0
      go_simp
    try simp only [Act.put, List.getElem_toArray, List.getElem_cons_zero, List.getElem_cons_succ, List.setIfInBounds_toArray, List.set_cons_zero, List.set_cons_succ]
    refine wpAnyH_take (i := 30) (v := undef) rfl (by kernel_rfl) (by kernel_rfl) (by kernel_rfl) (fun _ _ _ h => h) (Or.inr ⟨by rfl, rfl⟩) (by assumption) ?_
    try simp only [Act.put, List.getElem_toArray, List.getElem_cons_zero, List.getElem_cons_succ, List.setIfInBounds_toArray, List.set_cons_zero, List.set_cons_succ]
    refine wpAnyH_take (i := 31) (v := undef) rfl (by kernel_rfl) (by kernel_rfl) (by kernel_rfl) (fun _ _ _ h => h) (Or.inr ⟨by rfl, rfl⟩) (by assumption) ?_
    try simp only [Act.put, List.getElem_toArray, List.getElem_cons_zero, List.getElem_cons_succ, List.setIfInBounds_toArray, List.set_cons_zero, List.set_cons_succ]
    refine wpAnyH_take (i := 32) (v := undef) rfl (by kernel_rfl) (by kernel_rfl) (by kernel_rfl) (fun _ _ _ h => h) (Or.inr ⟨by rfl, rfl⟩) (by assumption) ?_
    try simp only [Act.put, List.getElem_toArray, List.getElem_cons_zero, List.getElem_cons_succ, List.setIfInBounds_toArray, List.set_cons_zero, List.set_cons_succ]
    refine wpAnyH_take (i := 33) (v := .bool false) rfl (by kernel_rfl) (by kernel_rfl) (by kernel_rfl) (fun _ _ _ h => h) (Or.inl ⟨by rfl, ?_⟩) (by assumption) ?_
    · intro w5 s0
      go_simp
    try simp only [Act.put, List.getElem_toArray, List.getElem_cons_zero, List.getElem_cons_succ, List.setIfInBounds_toArray, List.set_cons_zero, List.set_cons_succ]
    refine wpAnyH_take (i := 34) (v := .bool false) rfl (by kernel_rfl) (by kernel_rfl) (by kernel_rfl) (fun _ _ _ h => h) (Or.inl ⟨by rfl, ?_⟩) (by assumption) ?_
    · intro w5 s0
      go_simp
    try simp only [Act.put, List.getElem_toArray, List.getElem_cons_zero, List.getElem_cons_succ, List.setIfInBounds_toArray, List.set_cons_zero, List.set_cons_succ]
    refine wpAnyH_take (i := 35) (v := .iface t1 x1) rfl (by kernel_rfl) (by kernel_rfl) (by kernel_rfl) (fun _ _ _ h => h) (Or.inl ⟨by rfl, ?_⟩) (by assumption) ?_
    · intro w5 s0
      go_simp
    try simp only [Act.put, List.getElem_toArray, List.getElem_cons_zero, List.getElem_cons_succ, List.setIfInBounds_toArray, List.set_cons_zero, List.set_cons_succ]
    refine wpAnyH_take (i := 36) (v := .bool true) rfl (by kernel_rfl) (by kernel_rfl) (by kernel_rfl) (fun _ _ _ h => h) (Or.inl ⟨by rfl, ?_⟩) (by assumption) ?_
    · intro w5 s0
      go_simp
    try simp only [Act.put, List.getElem_toArray, List.getElem_cons_zero, List.getElem_cons_succ, List.setIfInBounds_toArray, List.set_cons_zero, List.set_cons_succ]
    refine wpAnyH_take (i := 37) (v := .bool true) rfl (by kernel_rfl) (by kernel_rfl) (by kernel_rfl) (fun _ _ _ h => h) (Or.inl ⟨by rfl, ?_⟩) (by assumption) ?_
    · intro w5 s0
      go_simp
    try simp only [Act.put, List.getElem_toArray, List.getElem_cons_zero, List.getElem_cons_succ, List.setIfInBounds_toArray, List.set_cons_zero, List.set_cons_succ]
    refine wpAnyH_take (i := 38) (v := .iface t1 x1) rfl (by kernel_rfl) (by kernel_rfl) (by kernel_rfl) (fun _ _ _ h => h) (Or.inl ⟨by rfl, ?_⟩) (by assumption) ?_
    · intro w5 s0
      go_simp
    try simp only [Act.put, List.getElem_toArray, List.getElem_cons_zero, List.getElem_cons_succ, List.setIfInBounds_toArray, List.set_cons_zero, List.set_cons_succ]
    refine wpAnyH_take (i := 40) (v := .pointer (some ⟨X1, 0, none⟩)) rfl (by kernel_rfl) (by kernel_rfl) (by kernel_rfl) (fun _ _ _ h => h) (Or.inl ⟨by rfl, ?_⟩) (by assumption) ?_
    · intro w5 s0
      go_simp
    try simp only [Act.put, List.getElem_toArray, List.getElem_cons_zero, List.getElem_cons_succ, List.setIfInBounds_toArray, List.set_cons_zero, List.set_cons_succ]
    refine wpAnyH_take (i := 41) (v := .int .i64 fd.kind) rfl (by kernel_rfl) (by kernel_rfl) (by kernel_rfl) (fun _ _ _ h => h) (Or.inl ⟨by rfl, ?_⟩) (by assumption) ?_
    · intro w5 s0
      obtain ⟨q0, q1, q2, q3, q4, q5, q6, q7⟩ := s0
      simp only [Nat.zero_add] at q0 q1 q2 q3 q4 q5 q6 q7
      go_simp
    try simp only [Act.put, List.getElem_toArray, List.getElem_cons_zero, List.getElem_cons_succ, List.setIfInBounds_toArray, List.set_cons_zero, List.set_cons_succ]
    refine wpAnyH_ready (rs := [39]) (by kernel_rfl) (by simp) ?_
    refine AllReadyH.cons rfl (fun K19 hK19 => ?_) AllReadyH.nil
    go_simp
    first | rw [hkd] | skip
    try go_simp
    refine (kind_any _ _ _ _).mono ?_
    rintro e Z8 ⟨rfl, z8⟩
    have sZ8 := (hup sZ7) z8
    have g8 : Below Yd.heap.size Yd Z8 := g7.trans (z8.mono g7.size)
    refine hK19.out _ _ sZ8 (fun _ => ?_)
    clear hK19
    try simp only [Act.put, List.getElem_toArray, List.getElem_cons_zero, List.getElem_cons_succ, List.setIfInBounds_toArray, List.set_cons_zero, List.set_cons_succ]
    refine wpAnyH_ready (rs := [42]) (by kernel_rfl) (by simp) ?_
    refine AllReadyH.cons rfl (fun K20 hK20 => ?_) AllReadyH.nil
    go_simp
    refine hK20.out _ _ sZ8 (fun _ => ?_)
    clear hK20
    try simp only [Act.put, List.getElem_toArray, List.getElem_cons_zero, List.getElem_cons_succ, List.setIfInBounds_toArray, List.set_cons_zero, List.set_cons_succ]
    refine wpAnyH_ready (rs := [43]) (by kernel_rfl) (by simp) ?_
    refine AllReadyH.cons rfl (fun K21 hK21 => ?_) AllReadyH.nil
    go_simp
    refine hK21.out _ _ sZ8 (fun _ => ?_)
    clear hK21
    try simp only [Act.put, List.getElem_toArray, List.getElem_cons_zero, List.getElem_cons_succ, List.setIfInBounds_toArray, List.set_cons_zero, List.set_cons_succ]
    refine wpAnyH_ready (rs := [44]) (by kernel_rfl) (by simp) ?_
    refine AllReadyH.cons rfl (fun K22 hK22 => ?_) AllReadyH.nil
    go_simp
    refine hK22.out _ _ sZ8 (fun _ => ?_)
    clear hK22
    try simp only [Act.put, List.getElem_toArray, List.getElem_cons_zero, List.getElem_cons_succ, List.setIfInBounds_toArray, List.set_cons_zero, List.set_cons_succ]
    refine wpAnyH_ready (rs := [45]) (by kernel_rfl) (by simp) ?_
    refine AllReadyH.cons rfl (fun K23 hK23 => ?_) AllReadyH.nil
    go_simp
    refine hK23.out _ _ sZ8 (fun _ => ?_)
    clear hK23
    try simp only [Act.put, List.getElem_toArray, List.getElem_cons_zero, List.getElem_cons_succ, List.setIfInBounds_toArray, List.set_cons_zero, List.set_cons_succ]
    refine wpAnyH_ready (rs := [46]) (by kernel_rfl) (by simp) ?_
    refine AllReadyH.cons rfl (fun K24 hK24 => ?_) AllReadyH.nil
    go_simp
    refine hK24.out _ _ sZ8 (fun _ => ?_)
    clear hK24
    try simp only [Act.put, List.getElem_toArray, List.getElem_cons_zero, List.getElem_cons_succ, List.setIfInBounds_toArray, List.set_cons_zero, List.set_cons_succ]
    have bZ8 : Below w.heap.size w Z8 := bY.trans (g8.mono bY.size)
    refine wpAnyH_ready (rs := [47]) (by kernel_rfl) (by simp) ?_
    refine AllReadyH.cons rfl (fun K30 hK30 => ?_) AllReadyH.nil
    go_simp
    refine (lives8_any _ (hK.up bZ8)).mono ?_
    rintro e Z9 ⟨rfl, z9⟩
    have sZ9 := (hup sZ8) z9
    refine hK30.out _ _ sZ9 (fun _ => ?_)
    clear hK30
    try simp only [Act.put, List.getElem_toArray, List.getElem_cons_zero, List.getElem_cons_succ, List.setIfInBounds_toArray, List.set_cons_zero, List.set_cons_succ]
    refine wpAnyH_ready (rs := [48]) (by kernel_rfl) (by simp) ?_
    refine AllReadyH.cons rfl (fun K31 hK31 => ?_) AllReadyH.nil
    go_simp
    refine hK31.out _ _ sZ9 (fun _ => ?_)
    clear hK31
    try simp only [Act.put, List.getElem_toArray, List.getElem_cons_zero, List.getElem_cons_succ, List.setIfInBounds_toArray, List.set_cons_zero, List.set_cons_succ]
    refine wpAnyH_ready (rs := [49]) (by kernel_rfl) (by simp) ?_
    refine AllReadyH.cons rfl (fun K32 hK32 => ?_) AllReadyH.nil
    go_simp
    refine hK32.out _ _ sZ9 (fun _ => ?_)
    clear hK32
    try simp only [Act.put, List.getElem_toArray, List.getElem_cons_zero, List.getElem_cons_succ, List.setIfInBounds_toArray, List.set_cons_zero, List.set_cons_succ]
    refine wpAnyH_done (by kernel_rfl) ?_ _
    clear hS
    go_wp2
    go_ret
    exact ⟨rfl, bZ8.trans (z9.mono bZ8.size)⟩
  · replace hA := hA.mono fun e w' h => (⟨h.1, h.2.elim (fun q => absurd q.1 HO) (fun q => q.2)⟩ : _ ∧ _)
    go_upto_region 2 with (go_at_call 15; refine hA.mono ?_; rintro e W2 ⟨b2, rfl⟩; obtain ⟨W3, hW3⟩ : ∃ W3, W3 = W2.alloc (.cells #[.int .i64 0, .string ⟨#[]⟩, .int .u64 0, .int .u64 0, .string ⟨#[]⟩, .slice none 0 0, .slice none 0 0, .int .i64 0] 26) := ⟨_, rfl⟩)
    rw [← hW3]
    have b3 : Below W2.heap.size W2 W3 := by rw [hW3]; exact (Below.refl _ _).alloc (Nat.le_refl _) _
    have bW3 : Below w.heap.size w W3 := (b1.trans (b2.mono b1.size)).trans (b3.mono (Nat.le_trans b1.size b2.size))
    clear hW3 hA HO
    go_wp2_with (go_at_call 10; refine (lives8_any _ (hK.up bW3)).mono ?_; rintro e W6 ⟨rfl, b6⟩)
    go_ret
    exact ⟨rfl, bW3.trans (b6.mono bW3.size)⟩
end Go.Proofs.YtkbbiaffphdniaaDoor
