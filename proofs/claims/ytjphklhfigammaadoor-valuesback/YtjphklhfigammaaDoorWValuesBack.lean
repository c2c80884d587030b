/- The walk of the law ValuesBack. -/
import Derived.Test.YtjphklhfigammaaDoorVBuilt
namespace Go.Proofs.YtjphklhfigammaaDoor
open Go.RowKit
set_option linter.unusedVariables false
set_option linter.unusedSimpArgs false

theorem vp_len {d : D} (hs : GoodN d) : (vp d).length ≤ 1000 := by
  unfold vp
  by_cases h21 : d.kind = 21
  · rw [if_pos h21, flat2_len, srt_len]
    have := hs.few (by simp [great]; omega)
    omega
  · rw [if_neg h21]
    by_cases hg : great d.kind = true
    · rw [if_pos hg]; exact hs.few hg
    · rw [if_neg hg]; simp
theorem take_in (l : List D) (j : Nat) (x : D) (h : l[j]? = some x) : (l.map inF)[j]? = some (inF x) := by
  rw [List.getElem?_map, h]; rfl
set_option maxRecDepth 1000000 in
set_option maxHeartbeats 4000000 in
theorem vsize_any : ∀ (n : Nat) (d : D), Good8 d → ∀ (S : Nat → Prop) (w : World) (v : Value), VlC srt n S w v d → nAll (inF d) ≤ 1000000 →
    Calls Tryd.prog 13 #[v] w fun e w' => e = .returned (.int .i64 (nAll (inF d))) ∧ Below w.heap.size w w' := by
  intro n
  induction n with
  | zero => intro d _ S w v h; exact h.elim
  | succ n ih =>
    intro d hg S w v h hb
    have hs := hg.self
    have hp := partsof_any n S d v w h hs.lo hs.hi hs.few
    have hpr := inF_parts d (key_of hs.form)
    have HA : Hid (nAll (inF d) = 1 + nRow ((vp d).map inF)) := by
      show _ = _
      rw [← hpr]; exact nAll_eq _
    have HB : Hid (nAll (inF d) ≤ 1000000) := hb
    have hrec : ∀ x ∈ vp d, ∀ (S : Nat → Prop) (w : World) (v : Value), VlC srt n S w v x → nAll (inF x) ≤ 1000000 → Calls Tryd.prog 13 #[v] w fun e w' => e = .returned (.int .i64 (nAll (inF x))) ∧ Below w.heap.size w w' := fun x hx => ih x (hg.part (vp_mem hx).1 (vp_mem hx).2)
    have hlen := vp_len hs
    have hlI : ((vp d).length : Int) ≤ 1000 := by omega
    clear hb ih h hg hs hpr
    generalize nAll (inF d) = N at *
    generalize vp d = L at *
    go_enter Tryd.func13, Tryd.ntmps13
    go_wp2_with (go_at_call 28; refine hp.mono ?_; rintro e W1 ⟨hb1, ga, gc, rfl, hV⟩)
    clear hp
    go_loopg [3, 5, 9] L.length (fun gg cv z i wr => ∃ (j : Nat) (c : Int), cv = .int .i64 c ∧ i = .int .i64 j ∧ j + gg = L.length ∧ Below W1.heap.size W1 wr ∧ 0 ≤ c ∧ c ≤ 1000000 ∧ Hid (c = 1 + nRow ((L.map inF).take j)))
    case atStart => exact ⟨0, 1, rfl, rfl, Nat.zero_add _, Below.refl _ _, by omega, by omega, by show _ = _; simp [nRow]⟩
    case round =>
      obtain ⟨j, c, rfl, rfl, hjg, hbl, hc0, hc4, HC⟩ := hrel
      by_cases hlt : j < L.length
      · have hltI : (j : Int) < L.length := by omega
        obtain ⟨x, hx⟩ : ∃ x, L[j]? = some x := ⟨L[j], List.getElem?_eq_getElem hlt⟩
        obtain ⟨bb, off, t, u, rfl, -, hc, hr'⟩ := hV j x hx
        have c0 : wr.cell? ⟨bb, off + j, none⟩ = some (.iface t u) := (hbl.cell (p := ⟨bb, off + j, none⟩) (lt_of_cell hc)).trans hc
        have HN : Hid (nRow ((L.map inF).take (j + 1)) = nRow ((L.map inF).take j) + nAll (inF x)) := nRow_take _ j _ (take_in _ _ _ hx)
        have HP := nRow_le (L.map inF) (j + 1)
        have hbw1 : Below w.heap.size w wr := hb1.trans (hbl.mono hb1.size)
        obtain ⟨m, hm, hm0, hm4, hm5⟩ : ∃ m : Int, (nAll (inF x) : Int) = m ∧ 0 ≤ m ∧ m ≤ 1000000 ∧ c + m ≤ 1000000 := ⟨_, rfl, by omega, by have h1 := HB.out; have h2 := HA.out; have h3 := HN.out; omega, by have h1 := HB.out; have h2 := HC.out; have h3 := HA.out; have h4 := HN.out; omega⟩
        have hre := hrec x (List.mem_of_getElem? hx) S wr (.iface t u) (hr'.turn (Kept.below hbw1 fun b hb _ => hb)) (by omega)
        have HC2 : Hid (c + m = 1 + nRow ((L.map inF).take (j + 1))) := by
          have h1 := HC.out; have h2 := HN.out
          show _ = _
          omega
        rw [hm] at hre
        clear hV hr' hrec hm HP hc HC HN
        go_wp2_with (go_at_call 13; refine hre.mono ?_; rintro e Z ⟨rfl, hbZ⟩)
        have hbw : Below W1.heap.size W1 Z := hbl.trans (hbZ.mono hbl.size)
        go_roundg (gk - 1)
        case measure => omega
        case rel => exact ⟨j + 1, c + m, by go_num, by go_num, by omega, hbw, by omega, hm5, HC2⟩
      · have hltI : ¬ (j : Int) < L.length := by omega
        have HF : Hid ((N : Int) = c) := by
          have h1 := HC.out; have h3 := HA.out
          rw [List.take_of_length_le (by rw [List.length_map]; omega)] at h1
          show _ = _
          omega
        clear hV hrec
        go_wp2
        go_ret
        rw [HF.out]
        exact ⟨rfl, hb1.trans (hbl.mono hb1.size)⟩
theorem fmax_le : ∀ (l : List Nat) (a : Nat), a ≤ l.foldl max a ∧ ∀ x ∈ l, x ≤ l.foldl max a
  | [], a => by simp
  | y :: t, a => by
    obtain ⟨h1, h2⟩ := fmax_le t (max a y)
    refine ⟨by simp only [List.foldl_cons]; omega, ?_⟩
    intro x hx
    simp only [List.foldl_cons]
    rcases List.mem_cons.1 hx with rfl | hx
    · omega
    · exact h2 x hx
theorem dpR_mem {l : List D} {x : D} (h : x ∈ l) : dpF x ≤ dpR l := (fmax_le (l.map dpF) 0).2 _ (List.mem_map_of_mem h)
def MkC (v : Value) (k : Int) (ty : ByteArray) (h : Int) : Prop := ∀ W, Calls Tryd.prog 27 #[v] W fun e w' => e = .returned (.agg #[.int .i64 k, .string ty, .int .i64 h]) ∧ Below W.heap.size W w'
theorem inF_mark (d : D) (h : d.kind ≠ 0) : (inF d).ty = d.ty ∧ (inF d).hook = d.hook := by
  rw [inF_eq, if_neg h]
  exact ⟨rfl, rfl⟩
theorem mark_any (n : Nat) (S : Nat → Prop) (W : World) (v : Value) (d : D) (hl : 0 ≤ d.kind) (hv : VlC srt n S W v d) : MkC v (inF d).kind (inF d).ty (inF d).hook := by
  by_cases k0 : d.kind = 0
  · match n, hv with
    | n + 1, hv =>
      unfold VlC at hv
      rw [if_pos (by omega)] at hv
      rw [hv]
      unfold mdV
      rw [if_neg (by omega), if_neg (by omega), if_neg (by omega), if_neg (by omega), if_neg (by omega), if_neg (by omega), if_neg (by omega), if_neg (by omega), if_neg (by omega), inF_eq, if_pos k0]
      exact fun W => markof_nothing _ _ _ W
  obtain ⟨e1, e2⟩ := inF_mark d k0
  rw [inF_kind, e1, e2]
  clear e1 e2
  match n, hv with
  | n + 1, hv =>
    unfold VlC at hv
    by_cases k17 : d.kind ≤ 17
    · rw [if_pos k17] at hv
      rw [hv]
      unfold mdV
      by_cases k1 : d.kind = 1
      · rw [if_pos k1]; exact fun W => markof_truth _ _ _ _ W
      rw [if_neg k1]
      by_cases k2 : 2 ≤ d.kind ∧ d.kind ≤ 6
      · rw [if_pos k2]; exact fun W => markof_signed _ _ _ _ W
      rw [if_neg k2]
      by_cases k3 : 7 ≤ d.kind ∧ d.kind ≤ 11
      · rw [if_pos k3]; exact fun W => markof_unsigned _ _ _ _ W
      rw [if_neg k3]
      by_cases k12 : d.kind = 12
      · rw [if_pos k12]; exact fun W => markof_float _ _ _ _ W
      rw [if_neg k12]
      by_cases k13 : d.kind = 13
      · rw [if_pos k13]; exact fun W => markof_float _ _ _ _ W
      rw [if_neg k13]
      by_cases k14 : d.kind = 14
      · rw [if_pos k14]; exact fun W => markof_pair _ _ _ _ _ W
      rw [if_neg k14]
      by_cases k15 : d.kind = 15
      · rw [if_pos k15]; exact fun W => markof_pair _ _ _ _ _ W
      rw [if_neg k15]
      by_cases k16 : d.kind = 16
      · rw [if_pos k16]; exact fun W => markof_text _ _ _ _ W
      rw [if_neg k16]
      rw [if_pos (by omega)]; exact fun W => markof_octets _ _ _ _ W
    · rw [if_neg k17] at hv
      by_cases k18 : d.kind = 18
      · rw [if_pos k18] at hv
        obtain ⟨na, nc, fa, fc, rfl, _⟩ := hv
        exact fun W => markof_structure _ _ _ _ _ _ _ _ _ W
      rw [if_neg k18] at hv
      by_cases k21 : d.kind = 21
      · rw [if_pos k21] at hv
        obtain ⟨fa, fc, rfl, _⟩ := hv
        exact fun W => markof_dictionary _ _ _ _ _ _ W
      rw [if_neg k21] at hv
      by_cases k22 : d.kind = 22
      · rw [if_pos k22] at hv
        obtain ⟨fa, fc, rfl, _⟩ := hv
        exact fun W => markof_pointer _ _ _ _ _ _ _ W
      rw [if_neg k22] at hv
      obtain ⟨fa, fc, rfl, _⟩ := hv
      exact fun W => markof_list _ _ _ _ _ _ W
theorem ba_nil {s : ByteArray} (h : s.size = 0) : s = ⟨#[]⟩ := by
  obtain ⟨a⟩ := s
  have : a.size = 0 := h
  rw [Array.eq_empty_of_size_eq_zero this]
theorem vtype_any (v : Value) (k : Int) (ty : ByteArray) (h : Int) (hm : MkC v k ty h) (w : World) (hk : KN w) (s : ByteArray) (hs : if ty.size = 0 then 0 ≤ k ∧ kindN[k.toNat]? = some s else s = ty) :
    Calls Tryd.prog 12 #[v] w fun e w' => e = .returned (.string s) ∧ Below w.heap.size w w' := by
  by_cases h0 : ty.size = 0
  · rw [if_pos h0] at hs
    obtain ⟨k', rfl⟩ : ∃ k' : Nat, k = k' := ⟨k.toNat, by omega⟩
    rw [ba_nil h0] at hm
    exact type_own v k' h w s hs.2 hk hm
  · rw [if_neg h0] at hs
    subst hs
    exact type_given v k h w s (by omega) hm
theorem type_there (k : Int) (ty : ByteArray) (h0 : 0 ≤ k) (h1 : k ≤ 22) : ∃ s, if ty.size = 0 then 0 ≤ k ∧ kindN[k.toNat]? = some s else s = ty := by
  by_cases h : ty.size = 0
  · have hl : k.toNat < kindN.length := by show _ < 23; omega
    refine ⟨kindN[k.toNat], ?_⟩
    rw [if_pos h]
    exact ⟨h0, List.getElem?_eq_getElem hl⟩
  · refine ⟨ty, ?_⟩
    rw [if_neg h]
set_option maxRecDepth 1000000 in
theorem nRow_flat2 : ∀ m : List (D × D), nRow (flat2 m) = (m.map fun p => nAll p.1 + nAll p.2).sum
  | [] => rfl
  | p :: t => by
    have h := nRow_flat2 t
    unfold nRow flat2 at *
    simp only [List.flatMap_cons, List.map_append, List.map_cons, List.map_nil, List.sum_append, List.sum_cons, List.sum_nil] at *
    omega
theorem sum2_perm {l m : List (D × D)} (h : l.Perm m) : (l.map fun p => nAll p.1 + nAll p.2).sum = (m.map fun p => nAll p.1 + nAll p.2).sum := by
  induction h with
  | nil => rfl
  | cons x _ ih => simp only [List.map_cons, List.sum_cons]; omega
  | swap x y l => simp only [List.map_cons, List.sum_cons]; omega
  | trans _ _ h1 h2 => exact h1.trans h2
theorem sum2_prs : ∀ l : List D, ((prs2 l).map fun p => nAll p.1 + nAll p.2).sum ≤ nRow l
  | [] => Nat.le_refl _
  | [_] => by simp [prs2]
  | a :: b :: t => by
    have h := sum2_prs t
    unfold nRow at *
    simp only [prs2, List.map_cons, List.sum_cons] at *
    omega
theorem nRow_in : ∀ l : List D, (∀ x ∈ l, nAll (inF x) ≤ nAll x) → nRow (l.map inF) ≤ nRow l
  | [], _ => Nat.le_refl _
  | x :: t, h => by
    have h1 := nRow_in t fun y hy => h y (List.mem_cons_of_mem _ hy)
    have h2 := h x (List.mem_cons_self ..)
    unfold nRow at *
    simp only [List.map_cons, List.sum_cons] at *
    omega
theorem nAll_mem {d x : D} (h : x ∈ d.parts) : nAll x < nAll d := by
  obtain ⟨j, hj⟩ := List.mem_iff_getElem?.1 h
  have := nAll_part hj
  omega
theorem nAll_inN : ∀ (n : Nat) (d : D), nAll d ≤ n → nAll (inF d) ≤ nAll d
  | 0, d, h => by have := nAll_pos d; omega
  | n + 1, d, h => by
    have hr := nRow_in d.parts fun x hx => nAll_inN n x (by have := nAll_mem hx; omega)
    rw [nAll_eq (inF d), nAll_eq d, inF_eq]
    split
    · have : nRow d00.parts = 0 := rfl
      omega
    · show 1 + nRow (if d.kind = 21 then flat2 (srt (d.parts.map inF)) else if great d.kind then d.parts.map inF else []) ≤ _
      split
      · rw [nRow_flat2, sum2_perm (srt_perm _)]
        have := sum2_prs (d.parts.map inF)
        omega
      · split
        · omega
        · have : nRow [] = 0 := rfl
          omega
theorem nAll_inF (d : D) : nAll (inF d) ≤ nAll d := nAll_inN _ d (Nat.le_refl _)

theorem inBits_in (k b : Int) : inBits k (inBits k b) = inBits k b := by
  by_cases h1 : k = 1
  · subst h1
    have e : ∀ b : Int, inBits 1 b = b % 2 := fun b => by unfold inBits; rw [if_pos rfl]
    rw [e, e]; omega
  by_cases h2 : 2 ≤ k ∧ k ≤ 6
  · have e : ∀ b : Int, inBits k b = sgN k b % 18446744073709551616 := fun b => by
      unfold inBits numF
      rw [if_neg (by omega), if_pos (by omega), if_pos (by simp [sgnB]; omega)]
    rw [e (inBits k b), sgN_in k b h2, ← e]
  by_cases h3 : 7 ≤ k ∧ k ≤ 11
  · have e : ∀ b : Int, inBits k b = unN k b := fun b => by
      unfold inBits numF
      rw [if_neg (by omega), if_pos (by omega), if_neg (by simp [sgnB]; omega)]
    rw [e (inBits k b), unN_in k b h3, ← e]
  have n2 : ¬ (2 ≤ k ∧ k ≤ 11) := by omega
  by_cases h4 : k = 12 ∨ k = 14
  · have e : ∀ b : Int, inBits k b = b % 4294967296 := fun b => by
      unfold inBits
      rw [if_neg h1, if_neg n2, if_pos h4]
    rw [e, e]; omega
  by_cases h5 : k = 13 ∨ k = 15 ∨ k = 22
  · have e : ∀ b : Int, inBits k b = b := fun b => by
      unfold inBits
      rw [if_neg h1, if_neg n2, if_neg h4, if_pos h5]
    rw [e, e]
  · have e : ∀ b : Int, inBits k b = 0 := fun b => by
      unfold inBits
      rw [if_neg h1, if_neg n2, if_neg h4, if_neg h5]
    rw [e, e]
theorem inImag_in (k b : Int) : inImag k (inImag k b) = inImag k b := by
  unfold inImag
  repeat' split
  all_goals first | rfl | omega
theorem inText_in (k : Int) (s : ByteArray) : inText k (inText k s) = inText k s := by
  unfold inText
  repeat' split
  all_goals rfl
theorem srt_flat2 (l : List D) : srt (flat2 (srt l)) = srt l := by
  conv => lhs; unfold srt
  rw [prs2_flat2]
  refine List.mergeSort_of_pairwise ?_
  exact (srt_sorted l).imp fun h => by unfold leP; exact decide_eq_true h
theorem inF_again : ∀ (n : Nat) (d : D), nAll d ≤ n → Good8 d → inF (inF d) = inF d
  | 0, d, h, _ => by have := nAll_pos d; omega
  | n + 1, d, h, hg => by
    have hs := hg.self
    by_cases k0 : d.kind = 0
    · rw [inF_eq d, if_pos k0, inF_eq, if_pos (show d00.kind = 0 from rfl)]
    have hv : ∀ x ∈ vp d, inF (inF x) = inF x := fun x hx => by
      obtain ⟨h1, h2⟩ := vp_mem hx
      refine inF_again n x ?_ (hg.part h1 h2)
      obtain ⟨j, hj⟩ := List.mem_iff_getElem?.1 h2
      have := nAll_part hj
      omega
    have hpr := inF_parts d (key_of hs.form)
    have hpp : (inF d).parts.map inF = (vp d).map inF := by
      rw [hpr, List.map_map]
      exact List.map_congr_left fun x hx => hv x hx
    have hkey : d.kind = 21 → ∀ p ∈ prs2 (vp d), rkF (inF p.1) = rkF p.1 := fun h21 p hp => by
      have hvp : vp d = flat2 (srt d.parts) := by unfold vp; rw [if_pos h21]
      rw [hvp, prs2_flat2] at hp
      exact rkF_in _ (prs2_key (key_of hs.form h21) ((srt_perm d.parts).mem_iff.1 hp))
    have e1 : inF d = ⟨d.kind, d.ty, inBits d.kind d.bits, inImag d.kind d.imag, inText d.kind d.text, if d.kind = 18 then d.names else [], if d.kind = 21 then flat2 (srt (d.parts.map inF)) else if great d.kind then d.parts.map inF else [], d.hook⟩ := by rw [inF_eq, if_neg k0]
    have e2 := inF_eq (inF d)
    rw [inF_kind, if_neg k0, hpp] at e2
    rw [e2]
    have hparts : (if d.kind = 21 then flat2 (srt ((vp d).map inF)) else if great d.kind then (vp d).map inF else []) = (inF d).parts := by
      rw [hpr]
      by_cases h21 : d.kind = 21
      · have hvp : vp d = flat2 (srt d.parts) := by unfold vp; rw [if_pos h21]
        rw [if_pos h21, srt_map inF (vp d) (hkey h21), flat2_map]
        conv => lhs; rw [hvp, srt_flat2, ← hvp]
      · rw [if_neg h21]
        by_cases hgr : great d.kind = true
        · rw [if_pos hgr]
        · rw [if_neg hgr]
          have : vp d = [] := by unfold vp; rw [if_neg h21, if_neg hgr]
          rw [this]; rfl
    rw [hparts]
    have f1 : (inF d).ty = d.ty := by rw [e1]
    have f2 : (inF d).bits = inBits d.kind d.bits := by rw [e1]
    have f3 : (inF d).imag = inImag d.kind d.imag := by rw [e1]
    have f4 : (inF d).text = inText d.kind d.text := by rw [e1]
    have f5 : (inF d).names = if d.kind = 18 then d.names else [] := by rw [e1]
    have f6 : (inF d).hook = d.hook := by rw [e1]
    have f7 : (if d.kind = 18 then (inF d).names else []) = (inF d).names := by
      rw [f5]
      by_cases h18 : d.kind = 18
      · simp only [if_pos h18]
      · simp only [if_neg h18]
    rw [f1, f2, f3, f4, f6, f7, inBits_in, inImag_in, inText_in]
    have hk := inF_kind d
    generalize inF d = x at *
    obtain ⟨a1, a2, a3, a4, a5, a6, a7, a8⟩ := x
    simp only at hk f1 f2 f3 f4 f6
    subst hk f1 f6
    rw [← f2, ← f3, ← f4]
theorem inF_idem {d : D} (hg : Good8 d) : inF (inF d) = inF d := inF_again _ d (Nat.le_refl _) hg

theorem nAll_mem0 {d x : D} (h : x ∈ d.parts) : nAll x < nAll d := by
  obtain ⟨j, hj⟩ := List.mem_iff_getElem?.1 h
  have := nAll_part hj
  omega
theorem flatMap_perm_map {α β γ : Type} (f : α → List β) (g : α → List γ) (h : γ → β) : ∀ l : List α, (∀ x ∈ l, (f x).Perm ((g x).map h)) → (l.flatMap f).Perm ((l.flatMap g).map h)
  | [], _ => List.Perm.nil
  | x :: t, hx => by
    rw [List.flatMap_cons, List.flatMap_cons, List.map_append]
    exact (hx x (List.mem_cons_self ..)).append (flatMap_perm_map f g h t fun y hy => hx y (List.mem_cons_of_mem _ hy))
theorem ev_of {d : D} (h : frmB d = true) (h21 : d.kind = 21) : d.parts.length % 2 = 0 := by
  unfold frmB at h
  rw [if_neg (by omega), if_neg (by omega), if_pos h21] at h
  have h2 := (Bool.and_eq_true_iff.1 h).2
  unfold entB at h2
  exact of_decide_eq_true (Bool.and_eq_true_iff.1 h2).2
theorem vp_perm {d : D} (hs : GoodN d) (hg : great d.kind = true) : (vp d).Perm d.parts := by
  unfold vp
  by_cases h21 : d.kind = 21
  · rw [if_pos h21]
    have h1 : (flat2 (srt d.parts)).Perm (flat2 (prs2 d.parts)) := (srt_perm d.parts).flatMap_right _
    rw [flat2_prs2 d.parts (ev_of hs.form h21)] at h1
    exact h1
  · rw [if_neg h21, if_pos hg]
theorem pre_in : ∀ (n : Nat) (d : D) (k : Int), nAll d ≤ n → Good8 d → (pre (inF d) k).Perm ((pre d k).map fun p => (inF p.1, p.2))
  | 0, d, k, h, _ => by have := nAll_pos d; omega
  | n + 1, d, k, h, hg => by
    rw [pre_eq (inF d), pre_eq d, inF_kind, List.map_cons]
    refine List.Perm.cons _ ?_
    by_cases hgr : great d.kind = true
    · rw [if_pos hgr, if_pos hgr, inF_parts d (key_of hg.self.form)]
      unfold preAll
      rw [List.flatMap_map]
      refine ((vp_perm hg.self hgr).flatMap_right _).trans ?_
      refine flatMap_perm_map _ _ _ d.parts fun x hx => ?_
      refine pre_in n x (k + 1) ?_ (hg.part hgr hx)
      have := nAll_mem0 hx
      omega
    · rw [if_neg hgr, if_neg hgr]
      exact List.Perm.nil
theorem nodes_inP {d : D} (hg : Good8 d) : (nodes (inF d)).Perm ((nodes d).map inF) := by
  have h := (pre_in _ d 0 (Nat.le_refl _) hg).map (·.1)
  rw [pre_nodes, List.map_map] at h
  rw [← pre_nodes d 0, List.map_map]
  exact h
theorem evB_of {l : List D} (h : ∀ (i : Nat) (a : D), l[2 * i]? = some a → keyB a.kind = true) : evB l l.length = true := by
  unfold evB
  rw [List.all_eq_true]
  intro i hi
  split
  · rename_i x hx
    by_cases h2 : i % 2 = 1
    · simp [h2]
    · rw [h (i / 2) x (by rw [show 2 * (i / 2) = i by omega]; exact hx)]
      simp
  · rfl
theorem frm_in {x : D} (hs : GoodN x) : frmB (inF x) = true := by
  have hf := hs.form
  by_cases k0 : x.kind = 0
  · rw [inF_eq, if_pos k0]
    rfl
  have hp := inF_parts x (key_of hf)
  have e1 : (inF x).ty = x.ty := by rw [inF_eq, if_neg k0]
  have e2 : (inF x).names = if x.kind = 18 then x.names else [] := by rw [inF_eq, if_neg k0]
  unfold frmB at hf ⊢
  rw [inF_kind, if_neg k0, e1]
  rw [if_neg k0] at hf
  obtain ⟨h1, h2⟩ := Bool.and_eq_true_iff.1 hf
  rw [h1, Bool.true_and]
  by_cases h18 : x.kind = 18
  · rw [if_pos h18] at h2 e2 ⊢
    have hv : vp x = x.parts := by unfold vp; rw [if_neg (by omega), if_pos (by simp [great]; omega)]
    unfold fldB at h2 ⊢
    rw [e2, hp, hv, List.length_map]
    exact h2
  rw [if_neg h18] at h2 ⊢
  by_cases h21 : x.kind = 21
  · rw [if_pos h21] at h2 ⊢
    have hv : vp x = flat2 (srt x.parts) := by unfold vp; rw [if_pos h21]
    unfold entB
    rw [hp, hv]
    rw [Bool.and_eq_true_iff]
    constructor
    · refine evB_of fun i a ha => ?_
      rw [List.getElem?_map] at ha
      obtain ⟨b, hb, rfl⟩ := Option.map_eq_some_iff.1 ha
      rw [inF_kind]
      have hl : i < (srt x.parts).length := by
        have := (List.getElem?_eq_some_iff.1 hb).1
        rw [flat2_len] at this
        omega
      have hq : (srt x.parts)[i]? = some (srt x.parts)[i] := List.getElem?_eq_getElem hl
      have := (flat2_get _ i _ hq).1
      rw [hb] at this
      obtain rfl := Option.some.inj this
      exact prs2_key (key_of hs.form h21) ((srt_perm x.parts).subset (List.getElem_mem hl))
    · rw [List.length_map, flat2_len]
      exact decide_eq_true (by omega)
  rw [if_neg h21] at h2 ⊢
  by_cases h22 : x.kind = 22
  · rw [if_pos h22] at h2 ⊢
    have hv : vp x = x.parts := by unfold vp; rw [if_neg (by omega), if_pos (by simp [great]; omega)]
    rw [hp, hv, List.length_map]
    exact h2
  · rw [if_neg h22]
theorem dupL_in : ∀ l : List (D × D), (∀ p ∈ l, rkF (inF p.1) = rkF p.1) → dupL (l.map (Prod.map inF inF)) = dupL l
  | [], _ => rfl
  | p :: t, h => by
    rw [List.map_cons, dupL, dupL, dupL_in t fun q hq => h q (List.mem_cons_of_mem _ hq), List.any_map]
    congr 1
    have hp := h p (List.mem_cons_self ..)
    have : ∀ q ∈ t, ((fun q => decide (cmpP (Prod.map inF inF p) q = 0)) ∘ Prod.map inF inF) q = (fun q => decide (cmpP p q = 0)) q := fun q hq => by
      show decide (cmpR (rkF (inF p.1)) (rkF (inF q.1)) = 0) = decide (cmpR (rkF p.1) (rkF q.1) = 0)
      rw [hp, h q (List.mem_cons_of_mem _ hq)]
    rw [Bool.eq_iff_iff, List.any_eq_true, List.any_eq_true]
    constructor
    · rintro ⟨q, hq, e⟩
      exact ⟨q, hq, (this q hq).symm.trans e⟩
    · rintro ⟨q, hq, e⟩
      exact ⟨q, hq, (this q hq).trans e⟩
theorem dup1_in {x : D} (hs : GoodN x) : dup1 (inF x) = dup1 x := by
  unfold dup1
  rw [inF_kind]
  by_cases h18 : x.kind = 18
  · have e2 : (inF x).names = x.names := by rw [inF_eq, if_neg (by omega)]; exact if_pos h18
    rw [e2, decide_eq_false (show ¬ x.kind = 21 by omega)]
    simp
  rw [decide_eq_false h18]
  by_cases h21 : x.kind = 21
  · have e3 : (inF x).parts = flat2 (srt (x.parts.map inF)) := by rw [inF_eq, if_neg (by omega)]; exact if_pos h21
    have : dupM (inF x).parts = dupM x.parts := by
      unfold dupM
      rw [e3, prs2_flat2, dupL_perm (srt_perm _), prs2_map]
      exact dupL_in _ fun p hp => rkF_in _ (prs2_key (key_of hs.form h21) hp)
    rw [this]
    simp
  · rw [decide_eq_false h21]
    simp
/-- What is in form is built. -/
theorem berr_in {d : D} (hg : Good8 d) (h0 : bErr d = 0) : bErr (inF d) = 0 := by
  obtain ⟨h1, h2⟩ := (bErr_zero d).1 h0
  have hok := ok_of h1
  have hp := pre_in _ d 0 (Nat.le_refl _) hg
  have hn := nodes_inP hg
  have mem : ∀ y ∈ nodes (inF d), ∃ x ∈ nodes d, inF x = y := fun y hy => List.mem_map.1 (hn.subset hy)
  refine (bErr_zero _).2 ⟨OkD.zero ⟨?_, ?_, ?_, ?_, ?_⟩, ?_⟩
  · rw [hn.length_eq, List.length_map]; exact hok.few
  · intro y hy
    obtain ⟨x, hx, rfl⟩ := mem y hy
    have hf := hok.fits x hx
    unfold fitsB at hf ⊢
    rw [inF_kind]
    by_cases k : x.kind ≠ 16 ∧ x.kind ≠ 17
    · simp [k.1, k.2]
    · have e : (inF x).text = x.text := by
        rw [inF_eq, if_neg (by omega)]
        show inText x.kind x.text = x.text
        unfold inText
        rw [if_pos (by omega)]
      rw [e]; exact hf
  · intro p hp1
    obtain ⟨q, hq, rfl⟩ := List.mem_map.1 (hp.subset hp1)
    exact hok.deep q hq
  · intro y hy
    obtain ⟨x, hx, rfl⟩ := mem y hy
    rw [inF_kind]; exact hok.kind x hx
  · intro y hy
    obtain ⟨x, hx, rfl⟩ := mem y hy
    exact frm_in (hg x hx)
  · unfold dupA at h2 ⊢
    rw [List.any_eq_false] at h2 ⊢
    intro y hy
    obtain ⟨x, hx, rfl⟩ := mem y hy
    rw [dup1_in (hg x hx)]
    exact h2 x hx

set_option maxRecDepth 1000000 in
set_option maxHeartbeats 8000000 in
theorem valuesBack_walk (d : D) (n1 : Nat) (nv1 pv1 : Value) (w : World) (hK : KN w) (hr1 : RdC n1 w nv1 pv1 d) :
    Calls Tryd.prog 3 #[DV d nv1 pv1] w fun e w' => e = .returned (.bool true) ∧ Below w.heap.size w w' := by
  obtain ⟨na, nc, pa, pc, rfl, rfl⟩ := hr1.slices
  obtain ⟨W1, hW1⟩ : ∃ W1, W1 = w.alloc (.cells #[.int .i64 d.kind, .string d.ty, .int .u64 d.bits, .int .u64 d.imag, .string d.text, .slice na d.names.length nc, .slice pa d.parts.length pc, .int .i64 d.hook] 26) := ⟨_, rfl⟩
  have b1 : Below w.heap.size w W1 := by rw [hW1]; exact (Below.refl _ _).alloc (Nat.le_refl _) _
  have a1 : At8 W1 w.heap.size 0 d (.slice na d.names.length nc) (.slice pa d.parts.length pc) := by
    rw [hW1]
    refine ⟨?_, ?_, ?_, ?_, ?_, ?_, ?_, ?_⟩
    all_goals simp [go_sem]
  have hA := built_any d n1 _ _ W1 (hr1.up b1)
  obtain ⟨c0, c1, c2, c3, c4, c5, c6, c7⟩ := a1
  simp only [Nat.zero_add] at c0 c1 c2 c3 c4 c5 c6 c7
  go_enter Tryd.func3, Tryd.ntmps3
  go_upto_region 1 with fail
  rw [← hW1]
  clear hW1
  by_cases HO : okB d
  · replace hA := hA.mono fun e w' h => (⟨h.1, h.2.elim (fun q => q.2) (fun q => absurd HO q.1)⟩ : _ ∧ _)
    go_upto_region 2 with (go_at_call 7; refine hA.mono ?_; rintro e W2 ⟨b2, t1, x1, nv1, pv1, rfl, hv1, hd1⟩; obtain ⟨na1, nc1, pa1, pc1, rfl, rfl⟩ := hd1.slices; obtain ⟨W3, hW3⟩ : ∃ W3, W3 = W2.alloc (.cells #[.int .i64 (inF d).kind, .string (inF d).ty, .int .u64 (inF d).bits, .int .u64 (inF d).imag, .string (inF d).text, .slice na1 (inF d).names.length nc1, .slice pa1 (inF d).parts.length pc1, .int .i64 (inF d).hook] 26) := ⟨_, rfl⟩)
    rw [← hW3]
    have b3 : Below W2.heap.size W2 W3 := by rw [hW3]; exact (Below.refl _ _).alloc (Nat.le_refl _) _
    have bW3 : Below w.heap.size w W3 := (b1.trans (b2.mono b1.size)).trans (b3.mono (Nat.le_trans b1.size b2.size))
    clear hW3 hA c0 c1 c2 c3 c4 c5 c6 c7
    have hg8 := (good_of (rd_nAll n1 hr1) HO.2).1
    have hbi := berr_in hg8 HO.2
    have hid := inF_idem hg8
    have hv3 := hv1.turn (Kept.below (S' := fun _ => True) b3 fun _ _ _ => trivial)
    have hraw1 := vraw_any _ d hg8 _ W3 _ hv3
    go_upto_region 5 with (go_at_call 9; refine hraw1.mono ?_; rintro e W4 ⟨b4, nv2, pv2, rfl, hd2⟩; obtain ⟨na2, nc2, pa2, pc2, rfl, rfl⟩ := hd2.slices; obtain ⟨W5, hW5⟩ : ∃ W5, W5 = W4.alloc (.cells #[.int .i64 (inF d).kind, .string (inF d).ty, .int .u64 (inF d).bits, .int .u64 (inF d).imag, .string (inF d).text, .slice na2 (inF d).names.length nc2, .slice pa2 (inF d).parts.length pc2, .int .i64 (inF d).hook] 26) := ⟨_, rfl⟩)
    rw [← hW5]
    have b5 : Below W4.heap.size W4 W5 := by rw [hW5]; exact (Below.refl _ _).alloc (Nat.le_refl _) _
    have b35 : Below W3.heap.size W3 W5 := b4.trans (b5.mono b4.size)
    have bW5 : Below w.heap.size w W5 := bW3.trans (b35.mono bW3.size)
    have x5 : At8 W5 W4.heap.size 0 (inF d) (.slice na2 (inF d).names.length nc2) (.slice pa2 (inF d).parts.length pc2) := by
      rw [hW5]
      refine ⟨?_, ?_, ?_, ?_, ?_, ?_, ?_, ?_⟩
      all_goals simp [go_sem]
    have hd5 := hd2.plain.up b5
    have hn4 : nAll d < 400 := HO.1
    have hB := (buildA (nAll d) (inF d) _ _ W5 hd5 (by omega)).mono fun e w' h => (⟨h.1, h.2.elim (fun q => q.2) (fun q => absurd hbi q.1)⟩ : _ ∧ _)
    have hgi : Good8 (inF d) := (good_of hd5 hbi).1
    obtain ⟨X1, hX1⟩ : ∃ X1, W4.heap.size = X1 := ⟨_, rfl⟩
    rw [hX1] at x5
    try simp only [hX1]
    clear hW5 hX1
    obtain ⟨c0, c1, c2, c3, c4, c5, c6, c7⟩ := x5
    simp only [Nat.zero_add] at c0 c1 c2 c3 c4 c5 c6 c7
    go_upto_region 6 with (go_at_call 10; refine hB.mono ?_; rintro e W6 ⟨b6, t2, x2, rfl, hv2⟩)
    have x6 : At8 W6 X1 0 (inF d) (.slice na2 (inF d).names.length nc2) (.slice pa2 (inF d).parts.length pc2) := by
      have x5 : At8 W5 X1 0 (inF d) (.slice na2 (inF d).names.length nc2) (.slice pa2 (inF d).parts.length pc2) := ⟨c0, c1, c2, c3, c4, c5, c6, c7⟩
      exact x5.up b6
    have b36 : Below W3.heap.size W3 W6 := b35.trans (b6.mono b35.size)
    have bW6 : Below w.heap.size w W6 := bW5.trans (b6.mono bW5.size)
    have hmk1 := mark_any _ _ _ _ _ hg8.self.lo hv1
    have hmk2 := mark_any _ _ _ _ _ hgi.self.lo hv2
    rw [hid] at hmk2
    have hnA : nAll (inF d) ≤ nAll d := nAll_inF d
    obtain ⟨Yd, hYd⟩ : ∃ Yd, Yd = W6.drew := ⟨_, rfl⟩
    have bY : Below w.heap.size w Yd := by rw [hYd]; exact bW6.drew
    have b3Y : Below W3.heap.size W3 Yd := by rw [hYd]; exact b36.drew
    have b6Y : Below W6.heap.size W6 Yd := by rw [hYd]; exact (Below.refl _ _).drew
    have hsz1 := fun (Z : World) (hZ : Below Yd.heap.size Yd Z) => vsize_any _ d hg8 (fun _ => True) Z _ (hv3.turn (Kept.below (b3Y.trans (hZ.mono b3Y.size)) fun _ _ _ => trivial)) (by omega)
    have hsz2 := fun (Z : World) (hZ : Below Yd.heap.size Yd Z) => vsize_any _ (inF d) hgi (fun _ => True) Z _ (hv2.turn (Kept.below (b6Y.trans (hZ.mono b6Y.size)) fun _ _ _ => trivial)) (by rw [hid]; omega)
    have hraw := fun (Z : World) (hZ : Below Yd.heap.size Yd Z) => (vraw_any _ (inF d) hgi (fun _ => True) Z _ (hv2.turn (Kept.below (b6Y.trans (hZ.mono b6Y.size)) fun _ _ _ => trivial))).mono fun e w' h => (⟨h.1, let ⟨nv, pv, h1, h2⟩ := h.2; ⟨nv, pv, h1, h2.plain⟩⟩ : Below Z.heap.size Z w' ∧ ∃ nv pv, e = .returned (DV (inF (inF d)) nv pv) ∧ RdC (nAll d) w' nv pv (inF (inF d)))
    rw [hid] at hsz2
    simp only [hid] at hraw
    replace hd2 : RdC (nAll d) Yd (.slice na2 (inF d).names.length nc2) (.slice pa2 (inF d).parts.length pc2) (inF d) := hd5.up (b6.trans (b6Y.mono b6.size))
    obtain ⟨sT, hsT⟩ := type_there (inF d).kind (inF d).ty (by rw [inF_kind]; exact hg8.self.lo) (by rw [inF_kind]; exact hg8.self.hi)
    clear HO hv1 hd1 hg8 hr1 hnA hn4 c0 c1 c2 c3 c4 c5 c6 c7 b1 b2 b3 hbi hid hv3 hraw1 hd5 hB hgi hv2 b36 b35 b3Y b6Y bW6 bW5 bW3 b4 b5 b6
    generalize (nAll (inF d) : Int) = qn at hsz1 hsz2
    generalize nAll d = m at *
    generalize inF d = fd at *
    refine wp_region_held_drew (S := fun w' : World => At8 w' X1 0 fd (.slice na2 fd.names.length nc2) (.slice pa2 fd.parts.length pc2)) (by kernel_rfl) (by exact x6) ?_
    rw [← hYd]
    have s5 : (fun w' : World => At8 w' X1 0 fd (.slice na2 fd.names.length nc2) (.slice pa2 fd.parts.length pc2)) Yd := by rw [hYd]; exact x6
    have hup : ∀ {w1 w2 : World}, (fun w' : World => At8 w' X1 0 fd (.slice na2 fd.names.length nc2) (.slice pa2 fd.parts.length pc2)) w1 → Below w1.heap.size w1 w2 → (fun w' : World => At8 w' X1 0 fd (.slice na2 fd.names.length nc2) (.slice pa2 fd.parts.length pc2)) w2 := fun h h' => h.up h'
    clear hYd x6
    intro hS
    refine wpAnyH_take (i := 0) (v := .int .i64 0) rfl (by kernel_rfl) (by kernel_rfl) (by kernel_rfl) (fun _ _ _ h => h) (Or.inl ⟨by rfl, ?_⟩) (by assumption) ?_
    · intro w5 s0
      go_simp
    try simp only [Act.put, List.getElem_toArray, List.getElem_cons_zero, List.getElem_cons_succ, List.setIfInBounds_toArray, List.set_cons_zero, List.set_cons_succ]
    refine wpAnyH_take (i := 1) (v := .bool true) rfl (by kernel_rfl) (by kernel_rfl) (by kernel_rfl) (fun _ _ _ h => h) (Or.inl ⟨by rfl, ?_⟩) (by assumption) ?_
    · intro w5 s0
      go_simp
    try simp only [Act.put, List.getElem_toArray, List.getElem_cons_zero, List.getElem_cons_succ, List.setIfInBounds_toArray, List.set_cons_zero, List.set_cons_succ]
    refine wpAnyH_take (i := 2) (v := .bool true) rfl (by kernel_rfl) (by kernel_rfl) (by kernel_rfl) (fun _ _ _ h => h) (Or.inl ⟨by rfl, ?_⟩) (by assumption) ?_
    · intro w5 s0
      go_simp
    try simp only [Act.put, List.getElem_toArray, List.getElem_cons_zero, List.getElem_cons_succ, List.setIfInBounds_toArray, List.set_cons_zero, List.set_cons_succ]
    refine wpAnyH_take (i := 3) (v := .iface t2 x2) rfl (by kernel_rfl) (by kernel_rfl) (by kernel_rfl) (fun _ _ _ h => h) (Or.inl ⟨by rfl, ?_⟩) (by assumption) ?_
    · intro w5 s0
      go_simp
    try simp only [Act.put, List.getElem_toArray, List.getElem_cons_zero, List.getElem_cons_succ, List.setIfInBounds_toArray, List.set_cons_zero, List.set_cons_succ]
    refine wpAnyH_take (i := 5) (v := .agg #[.int .i64 fd.kind, .string fd.ty, .int .u64 fd.bits, .int .u64 fd.imag, .string fd.text, .slice na2 fd.names.length nc2, .slice pa2 fd.parts.length pc2, .int .i64 fd.hook]) rfl (by kernel_rfl) (by kernel_rfl) (by kernel_rfl) (fun _ _ _ h => h) (Or.inl ⟨by rfl, ?_⟩) (by assumption) ?_
    · intro w5 s0
      obtain ⟨q0, q1, q2, q3, q4, q5, q6, q7⟩ := s0
      simp only [Nat.zero_add] at q0 q1 q2 q3 q4 q5 q6 q7
      go_simp
    try simp only [Act.put, List.getElem_toArray, List.getElem_cons_zero, List.getElem_cons_succ, List.setIfInBounds_toArray, List.set_cons_zero, List.set_cons_succ]
    refine wpAnyH_ready (rs := [4]) (by kernel_rfl) (by simp) ?_
    refine AllReadyH.cons rfl (fun K1 hK1 => ?_) AllReadyH.nil
    go_simp
    refine (hraw _ (Below.refl _ _)).mono ?_
    rintro e Z1 ⟨z1, nv3, pv3, rfl, hd3⟩
    obtain ⟨na3, nc3, pa3, pc3, rfl, rfl⟩ := hd3.slices
    have sZ1 := (hup s5) z1
    refine hK1.out _ _ sZ1 (fun _ => ?_)
    clear hK1
    try simp only [Act.put, List.getElem_toArray, List.getElem_cons_zero, List.getElem_cons_succ, List.setIfInBounds_toArray, List.set_cons_zero, List.set_cons_succ]
    refine wpAnyH_ready (rs := [6]) (by kernel_rfl) (by simp) ?_
    refine AllReadyH.cons rfl (fun K2 hK2 => ?_) AllReadyH.nil
    go_simp
    refine (osame_true _ _ fd _ _ _ _ _ hd3 (hd2.up z1)).mono ?_
    rintro e Z2 ⟨rfl, z2⟩
    have sZ2 := (hup sZ1) z2
    refine hK2.out _ _ sZ2 (fun _ => ?_)
    clear hK2
    try simp only [Act.put, List.getElem_toArray, List.getElem_cons_zero, List.getElem_cons_succ, List.setIfInBounds_toArray, List.set_cons_zero, List.set_cons_succ]
    have g2 : Below Yd.heap.size Yd Z2 := z1.trans (z2.mono z1.size)
    refine wpAnyH_ready (rs := [7]) (by kernel_rfl) (by simp) ?_
    refine AllReadyH.cons rfl (fun K3 hK3 => ?_) AllReadyH.nil
    go_simp
    refine hK3.out _ _ sZ2 (fun _ => ?_)
    clear hK3
    try simp only [Act.put, List.getElem_toArray, List.getElem_cons_zero, List.getElem_cons_succ, List.setIfInBounds_toArray, List.set_cons_zero, List.set_cons_succ]
    refine wpAnyH_ready (rs := [8]) (by kernel_rfl) (by simp) ?_
    refine AllReadyH.cons rfl (fun K4 hK4 => ?_) AllReadyH.nil
    go_simp
    refine hK4.out _ _ sZ2 (fun _ => ?_)
    clear hK4
    try simp only [Act.put, List.getElem_toArray, List.getElem_cons_zero, List.getElem_cons_succ, List.setIfInBounds_toArray, List.set_cons_zero, List.set_cons_succ]
    refine wpAnyH_take (i := 9) (v := .iface t2 x2) rfl (by kernel_rfl) (by kernel_rfl) (by kernel_rfl) (fun _ _ _ h => h) (Or.inl ⟨by rfl, ?_⟩) (by assumption) ?_
    · intro w5 s0
      go_simp
    try simp only [Act.put, List.getElem_toArray, List.getElem_cons_zero, List.getElem_cons_succ, List.setIfInBounds_toArray, List.set_cons_zero, List.set_cons_succ]
    refine wpAnyH_take (i := 11) (v := .iface t1 x1) rfl (by kernel_rfl) (by kernel_rfl) (by kernel_rfl) (fun _ _ _ h => h) (Or.inl ⟨by rfl, ?_⟩) (by assumption) ?_
    · intro w5 s0
      go_simp
    try simp only [Act.put, List.getElem_toArray, List.getElem_cons_zero, List.getElem_cons_succ, List.setIfInBounds_toArray, List.set_cons_zero, List.set_cons_succ]
    refine wpAnyH_ready (rs := [10]) (by kernel_rfl) (by simp) ?_
    refine AllReadyH.cons rfl (fun K5 hK5 => ?_) AllReadyH.nil
    go_simp
    refine (vtype_any _ _ _ _ hmk2 _ (hK.up (bY.trans (g2.mono bY.size))) sT hsT).mono ?_
    rintro e Z3 ⟨rfl, z3⟩
    have sZ3 := (hup sZ2) z3
    refine hK5.out _ _ sZ3 (fun _ => ?_)
    clear hK5
    try simp only [Act.put, List.getElem_toArray, List.getElem_cons_zero, List.getElem_cons_succ, List.setIfInBounds_toArray, List.set_cons_zero, List.set_cons_succ]
    have g3 : Below Yd.heap.size Yd Z3 := g2.trans (z3.mono g2.size)
    refine wpAnyH_ready (rs := [12]) (by kernel_rfl) (by simp) ?_
    refine AllReadyH.cons rfl (fun K6 hK6 => ?_) AllReadyH.nil
    go_simp
    refine (vtype_any _ _ _ _ hmk1 _ (hK.up (bY.trans (g3.mono bY.size))) sT hsT).mono ?_
    rintro e Z4 ⟨rfl, z4⟩
    have sZ4 := (hup sZ3) z4
    refine hK6.out _ _ sZ4 (fun _ => ?_)
    clear hK6
    try simp only [Act.put, List.getElem_toArray, List.getElem_cons_zero, List.getElem_cons_succ, List.setIfInBounds_toArray, List.set_cons_zero, List.set_cons_succ]
    have g4 : Below Yd.heap.size Yd Z4 := g3.trans (z4.mono g3.size)
    refine wpAnyH_ready (rs := [13]) (by kernel_rfl) (by simp) ?_
    refine AllReadyH.cons rfl (fun K7 hK7 => ?_) AllReadyH.nil
    go_simp
    refine hK7.out _ _ sZ4 (fun _ => ?_)
    clear hK7
    try simp only [Act.put, List.getElem_toArray, List.getElem_cons_zero, List.getElem_cons_succ, List.setIfInBounds_toArray, List.set_cons_zero, List.set_cons_succ]
    refine wpAnyH_ready (rs := [14]) (by kernel_rfl) (by simp) ?_
    refine AllReadyH.cons rfl (fun K8 hK8 => ?_) AllReadyH.nil
    go_simp
    refine hK8.out _ _ sZ4 (fun _ => ?_)
    clear hK8
    try simp only [Act.put, List.getElem_toArray, List.getElem_cons_zero, List.getElem_cons_succ, List.setIfInBounds_toArray, List.set_cons_zero, List.set_cons_succ]
    refine wpAnyH_ready (rs := [15]) (by kernel_rfl) (by simp) ?_
    refine AllReadyH.cons rfl (fun K9 hK9 => ?_) AllReadyH.nil
    go_simp
    refine hK9.out _ _ sZ4 (fun _ => ?_)
    clear hK9
    try simp only [Act.put, List.getElem_toArray, List.getElem_cons_zero, List.getElem_cons_succ, List.setIfInBounds_toArray, List.set_cons_zero, List.set_cons_succ]
    refine wpAnyH_take (i := 16) (v := .iface t2 x2) rfl (by kernel_rfl) (by kernel_rfl) (by kernel_rfl) (fun _ _ _ h => h) (Or.inl ⟨by rfl, ?_⟩) (by assumption) ?_
    · intro w5 s0
      go_simp
    try simp only [Act.put, List.getElem_toArray, List.getElem_cons_zero, List.getElem_cons_succ, List.setIfInBounds_toArray, List.set_cons_zero, List.set_cons_succ]
    refine wpAnyH_take (i := 18) (v := .iface t1 x1) rfl (by kernel_rfl) (by kernel_rfl) (by kernel_rfl) (fun _ _ _ h => h) (Or.inl ⟨by rfl, ?_⟩) (by assumption) ?_
    · intro w5 s0
      go_simp
    try simp only [Act.put, List.getElem_toArray, List.getElem_cons_zero, List.getElem_cons_succ, List.setIfInBounds_toArray, List.set_cons_zero, List.set_cons_succ]
    refine wpAnyH_ready (rs := [17]) (by kernel_rfl) (by simp) ?_
    refine AllReadyH.cons rfl (fun K10 hK10 => ?_) AllReadyH.nil
    go_simp
    refine (hsz2 _ g4).mono ?_
    rintro e Z5 ⟨rfl, z5⟩
    have sZ5 := (hup sZ4) z5
    refine hK10.out _ _ sZ5 (fun _ => ?_)
    clear hK10
    try simp only [Act.put, List.getElem_toArray, List.getElem_cons_zero, List.getElem_cons_succ, List.setIfInBounds_toArray, List.set_cons_zero, List.set_cons_succ]
    have g5 : Below Yd.heap.size Yd Z5 := g4.trans (z5.mono g4.size)
    refine wpAnyH_ready (rs := [19]) (by kernel_rfl) (by simp) ?_
    refine AllReadyH.cons rfl (fun K11 hK11 => ?_) AllReadyH.nil
    go_simp
    refine (hsz1 _ g5).mono ?_
    rintro e Z6 ⟨rfl, z6⟩
    have sZ6 := (hup sZ5) z6
    refine hK11.out _ _ sZ6 (fun _ => ?_)
    clear hK11
    try simp only [Act.put, List.getElem_toArray, List.getElem_cons_zero, List.getElem_cons_succ, List.setIfInBounds_toArray, List.set_cons_zero, List.set_cons_succ]
    have g6 : Below Yd.heap.size Yd Z6 := g5.trans (z6.mono g5.size)
    refine wpAnyH_ready (rs := [20]) (by kernel_rfl) (by simp) ?_
    refine AllReadyH.cons rfl (fun K12 hK12 => ?_) AllReadyH.nil
    go_simp
    refine hK12.out _ _ sZ6 (fun _ => ?_)
    clear hK12
    try simp only [Act.put, List.getElem_toArray, List.getElem_cons_zero, List.getElem_cons_succ, List.setIfInBounds_toArray, List.set_cons_zero, List.set_cons_succ]
    refine wpAnyH_ready (rs := [21]) (by kernel_rfl) (by simp) ?_
    refine AllReadyH.cons rfl (fun K13 hK13 => ?_) AllReadyH.nil
    go_simp
    refine hK13.out _ _ sZ6 (fun _ => ?_)
    clear hK13
    try simp only [Act.put, List.getElem_toArray, List.getElem_cons_zero, List.getElem_cons_succ, List.setIfInBounds_toArray, List.set_cons_zero, List.set_cons_succ]
    refine wpAnyH_ready (rs := [22]) (by kernel_rfl) (by simp) ?_
    refine AllReadyH.cons rfl (fun K14 hK14 => ?_) AllReadyH.nil
    go_simp
    refine hK14.out _ _ sZ6 (fun _ => ?_)
    clear hK14
    try simp only [Act.put, List.getElem_toArray, List.getElem_cons_zero, List.getElem_cons_succ, List.setIfInBounds_toArray, List.set_cons_zero, List.set_cons_succ]
    have bZ6 : Below w.heap.size w Z6 := bY.trans (g6.mono bY.size)
    refine wpAnyH_ready (rs := [23]) (by kernel_rfl) (by simp) ?_
    refine AllReadyH.cons rfl (fun K30 hK30 => ?_) AllReadyH.nil
    go_simp
    refine (lives8_any _ (hK.up bZ6)).mono ?_
    rintro e Z9 ⟨rfl, z9⟩
    have sZ9 := (hup sZ6) z9
    refine hK30.out _ _ sZ9 (fun _ => ?_)
    clear hK30
    try simp only [Act.put, List.getElem_toArray, List.getElem_cons_zero, List.getElem_cons_succ, List.setIfInBounds_toArray, List.set_cons_zero, List.set_cons_succ]
    refine wpAnyH_ready (rs := [24]) (by kernel_rfl) (by simp) ?_
    refine AllReadyH.cons rfl (fun K31 hK31 => ?_) AllReadyH.nil
    go_simp
    refine hK31.out _ _ sZ9 (fun _ => ?_)
    clear hK31
    try simp only [Act.put, List.getElem_toArray, List.getElem_cons_zero, List.getElem_cons_succ, List.setIfInBounds_toArray, List.set_cons_zero, List.set_cons_succ]
    refine wpAnyH_ready (rs := [25]) (by kernel_rfl) (by simp) ?_
    refine AllReadyH.cons rfl (fun K32 hK32 => ?_) AllReadyH.nil
    go_simp
    refine hK32.out _ _ sZ9 (fun _ => ?_)
    clear hK32
    try simp only [Act.put, List.getElem_toArray, List.getElem_cons_zero, List.getElem_cons_succ, List.setIfInBounds_toArray, List.set_cons_zero, List.set_cons_succ]
    refine wpAnyH_done (by kernel_rfl) ?_ _
    clear hS
    go_wp2
    go_ret
    exact ⟨rfl, bZ6.trans (z9.mono bZ6.size)⟩
  · replace hA := hA.mono fun e w' h => (⟨h.1, h.2.elim (fun q => absurd q.1 HO) (fun q => q.2)⟩ : _ ∧ _)
    go_upto_region 2 with (go_at_call 7; refine hA.mono ?_; rintro e W2 ⟨b2, rfl⟩; obtain ⟨W3, hW3⟩ : ∃ W3, W3 = W2.alloc (.cells #[.int .i64 0, .string ⟨#[]⟩, .int .u64 0, .int .u64 0, .string ⟨#[]⟩, .slice none 0 0, .slice none 0 0, .int .i64 0] 26) := ⟨_, rfl⟩)
    rw [← hW3]
    have b3 : Below W2.heap.size W2 W3 := by rw [hW3]; exact (Below.refl _ _).alloc (Nat.le_refl _) _
    have bW3 : Below w.heap.size w W3 := (b1.trans (b2.mono b1.size)).trans (b3.mono (Nat.le_trans b1.size b2.size))
    clear hW3 hA HO
    go_wp2_with (go_at_call 8; refine (lives8_any _ (hK.up bW3)).mono ?_; rintro e W6 ⟨rfl, b6⟩)
    go_ret
    exact ⟨rfl, bW3.trans (b6.mono bW3.size)⟩
end Go.Proofs.YtjphklhfigammaaDoor
