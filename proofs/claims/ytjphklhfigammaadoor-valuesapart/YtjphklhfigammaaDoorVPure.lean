/- What check looks for, in the words of lists; descriptors in blocks of which something holds; made at trees without structs and maps. -/
import Derived.Test.YtjphklhfigammaaDoorVMadeQ
namespace Go.Proofs.YtjphklhfigammaaDoor
open Go.RowKit
set_option linter.unusedVariables false
set_option linter.unusedSimpArgs false

theorem runV_free {ok : Int → D → Int → Bool} (h : ∀ s s' d k, ok s d k = ok s' d k) : ∀ (l : List (D × Int)) (s : Int), runV ok 0 s l = none ↔ ∃ p ∈ l, ok 0 p.1 p.2 = false
  | [], s => by simp [runV]
  | (d, k) :: l, s => by
    have hs := h s 0 d k
    rcases Bool.eq_false_or_eq_true (ok 0 d k) with h0 | h0
    · rw [h0] at hs
      have e : runV ok 0 s ((d, k) :: l) = runV ok 0 (s + 0) l := by simp [runV, hs]
      rw [e, runV_free h l (s + 0)]
      constructor
      · rintro ⟨p, hp, h1⟩; exact ⟨p, List.mem_cons_of_mem _ hp, h1⟩
      · rintro ⟨p, hp, h1⟩
        rcases List.mem_cons.1 hp with rfl | hp
        · rw [h0] at h1; cases h1
        · exact ⟨p, hp, h1⟩
    · rw [h0] at hs
      have e : runV ok 0 s ((d, k) :: l) = none := by simp [runV, hs]
      rw [e]
      exact ⟨fun _ => ⟨_, List.mem_cons_self .., h0⟩, fun _ => rfl⟩
theorem runV_one : ∀ (l : List (D × Int)) (s : Int), s ≤ 64 → (runV ok1 1 s l = none ↔ (64 < s + l.length ∨ ∃ p ∈ l, fitsB p.1 = false))
  | [], s, hs => by simp [runV]; omega
  | (d, k) :: l, s, hs => by
    by_cases h1 : s + 1 ≤ 64
    · rcases Bool.eq_false_or_eq_true (fitsB d) with h2 | h2
      · have e : runV ok1 1 s ((d, k) :: l) = runV ok1 1 (s + 1) l := by simp [runV, ok1, h1, h2]
        rw [e, runV_one l (s + 1) h1, List.length_cons]
        constructor
        · rintro (h | ⟨p, hp, h⟩)
          · left; push_cast; omega
          · right; exact ⟨p, List.mem_cons_of_mem _ hp, h⟩
        · rintro (h | ⟨p, hp, h⟩)
          · left; push_cast at h; omega
          · rcases List.mem_cons.1 hp with rfl | hp
            · rw [h2] at h; cases h
            · exact .inr ⟨p, hp, h⟩
      · have e : runV ok1 1 s ((d, k) :: l) = none := by simp [runV, ok1, h2]
        rw [e]
        exact ⟨fun _ => .inr ⟨_, List.mem_cons_self .., h2⟩, fun _ => rfl⟩
    · have e : runV ok1 1 s ((d, k) :: l) = none := by simp [runV, ok1, h1]
      rw [e, List.length_cons]
      exact ⟨fun _ => .inl (by push_cast; omega), fun _ => rfl⟩
/-- check's answer, by what stands in the list. -/
theorem chk0_eq (d : D) : chk0 d = if 64 < (pre d 0).length ∨ (∃ p ∈ pre d 0, fitsB p.1 = false) then 2 else if ∃ p ∈ pre d 0, 8 ≤ p.2 then 6 else if ∃ p ∈ pre d 0, ¬ (0 ≤ p.1.kind ∧ p.1.kind ≤ 22) then 3 else if ∃ p ∈ pre d 0, frmB p.1 = false then 4 else 0 := by
  have e1 : (runV ok1 1 0 (pre d 0) = none) = (64 < (pre d 0).length ∨ ∃ p ∈ pre d 0, fitsB p.1 = false) := by
    rw [runV_one _ 0 (by omega)]
    apply propext
    constructor
    · rintro (h | h)
      · left; omega
      · exact .inr h
    · rintro (h | h)
      · left; omega
      · exact .inr h
  have e2 : (runV ok2 0 0 (pre d 0) = none) = ∃ p ∈ pre d 0, 8 ≤ p.2 := by
    rw [runV_free (fun _ _ _ _ => rfl)]
    simp [ok2]
  have e3 : (runV ok3 0 0 (pre d 0) = none) = ∃ p ∈ pre d 0, ¬ (0 ≤ p.1.kind ∧ p.1.kind ≤ 22) := by
    rw [runV_free (fun _ _ _ _ => rfl)]
    apply propext
    constructor
    · rintro ⟨p, hp, h⟩
      exact ⟨p, hp, by simp [ok3] at h; omega⟩
    · rintro ⟨p, hp, h⟩
      exact ⟨p, hp, by simp [ok3]; omega⟩
  have e4 : (runV ok4 0 0 (pre d 0) = none) = ∃ p ∈ pre d 0, frmB p.1 = false := by
    rw [runV_free (fun _ _ _ _ => rfl)]
    simp [ok4]
  unfold chk0
  simp only [e1, e2, e3, e4]

/-- No cell of a block is frozen. -/
def Uf (W : World) (b : Nat) : Prop := ∀ o, W.frozen? ⟨b, o, none⟩ = false
/-- A cell, and whether it is frozen. -/
def cu (W : World) (b o : Nat) : Option Value × Bool := (W.cell? ⟨b, o, none⟩, W.frozen? ⟨b, o, none⟩)
/-- What is kept, also that it is not frozen. -/
def KeptU (S S' : Nat → Prop) (W W' : World) : Prop := ∀ b, S b → b < W.heap.size → S' b ∧ ∀ o, cu W' b o = cu W b o
theorem KeptU.at {S S' : Nat → Prop} {W W' : World} (h : KeptU S S' W W') {b o : Nat} {v : Value} (hs : S b) (hc : W.cell? ⟨b, o, none⟩ = some v) : S' b ∧ W'.cell? ⟨b, o, none⟩ = some v :=
  let ⟨h1, h2⟩ := h b hs (lt_of_cell hc); ⟨h1, (congrArg Prod.fst (h2 o)).trans hc⟩
theorem KeptU.uf {S S' : Nat → Prop} {W W' : World} (h : KeptU S S' W W') {b : Nat} (hs : S b) (hl : b < W.heap.size) (hu : Uf W b) : Uf W' b := fun o => (congrArg Prod.snd ((h b hs hl).2 o)).trans (hu o)
theorem cu_of_block {W W' : World} {b : Nat} (h : W'.heap[b]? = W.heap[b]?) (o : Nat) : cu W' b o = cu W b o :=
  Prod.ext (World.cell?_of_block (w := W) (a := ⟨b, o, none⟩) h) (World.frozen?_of_block (w := W) h)
theorem KeptU.below {S S' : Nat → Prop} {W W' : World} (h : Below W.heap.size W W') (hS : ∀ b, S b → b < W.heap.size → S' b) : KeptU S S' W W' := fun b hb hl => ⟨hS b hb hl, fun o => cu_of_block (h.block b hl) o⟩
theorem uf_of_heap {W : World} {g : Nat} {c : Array Value} {e : TypeId} (h : W.heap[g]? = some (.cells c e (0, 0))) : Uf W g := fun o => by simp [World.frozen?, h]
/-- The slices of its names and parts are read as the descriptor says, in blocks of which S holds. -/
def RdS : Nat → (Nat → Prop) → World → Value → Value → D → Prop
  | 0, _, _, _, _, _ => False
  | n + 1, S, W, nv, pv, d => Fit d ∧ (∃ a cap, nv = .slice a d.names.length cap ∧ d.names.length ≤ cap ∧ cap ≤ maxLen ∧ ∀ (i : Nat) (s : ByteArray), d.names[i]? = some s → s.size ≤ maxLen ∧ ∃ b off, a = some ⟨b, off, none⟩ ∧ (S b ∧ Uf W b) ∧ W.cell? ⟨b, off + i, none⟩ = some (.string s)) ∧
      ∃ a cap, pv = .slice a d.parts.length cap ∧ d.parts.length ≤ cap ∧ cap ≤ maxLen ∧
      ∀ (i : Nat) (x : D), d.parts[i]? = some x → ∃ b off nv' pv', a = some ⟨b, off, none⟩ ∧ (S b ∧ Uf W b) ∧ At8 W b (off + i * 8) x nv' pv' ∧ RdS n S W nv' pv' x
theorem At8.turn {S S' : Nat → Prop} {W W' : World} (hk : KeptU S S' W W') {b o : Nat} {d : D} {nv pv : Value} (hs : S b) (h : At8 W b o d nv pv) : At8 W' b o d nv pv :=
  ⟨(hk.at hs h.1).2, (hk.at hs h.2.1).2, (hk.at hs h.2.2.1).2, (hk.at hs h.2.2.2.1).2, (hk.at hs h.2.2.2.2.1).2, (hk.at hs h.2.2.2.2.2.1).2, (hk.at hs h.2.2.2.2.2.2.1).2, (hk.at hs h.2.2.2.2.2.2.2).2⟩
theorem RdS.turn {S S' : Nat → Prop} {W W' : World} (hk : KeptU S S' W W') : ∀ {n : Nat} {nv pv : Value} {d : D}, RdS n S W nv pv d → RdS n S' W' nv pv d
  | 0, _, _, _, h => h
  | n + 1, nv, pv, d, h => by
    obtain ⟨h1, ⟨na, nc, n1, n2, n3, n4⟩, a, cap, h3, h4, h5, h6⟩ := h
    refine ⟨h1, ⟨na, nc, n1, n2, n3, fun i s hs => ?_⟩, a, cap, h3, h4, h5, fun i x hx => ?_⟩
    · obtain ⟨k1, b, off, k2, k3, k4⟩ := n4 i s hs
      obtain ⟨k5, k6⟩ := hk.at k3.1 k4
      exact ⟨k1, b, off, k2, ⟨k5, hk.uf k3.1 (lt_of_cell k4) k3.2⟩, k6⟩
    · obtain ⟨b, off, nv', pv', e1, e2, e3, e4⟩ := h6 i x hx
      exact ⟨b, off, nv', pv', e1, ⟨(hk.at e2.1 e3.1).1, hk.uf e2.1 (lt_of_cell e3.1) e2.2⟩, e3.turn hk e2.1, RdS.turn hk e4⟩
theorem RdS.plain {S : Nat → Prop} {W : World} : ∀ {n : Nat} {nv pv : Value} {d : D}, RdS n S W nv pv d → RdC n W nv pv d
  | 0, _, _, _, h => h
  | n + 1, nv, pv, d, h => by
    obtain ⟨h1, ⟨na, nc, n1, n2, n3, n4⟩, a, cap, h3, h4, h5, h6⟩ := h
    refine ⟨h1, ⟨na, nc, n1, n2, n3, fun i s hs => ?_⟩, a, cap, h3, h4, h5, fun i x hx => ?_⟩
    · obtain ⟨k1, b, off, k2, k3, k4⟩ := n4 i s hs
      exact ⟨k1, b, off, k2, k4⟩
    · obtain ⟨b, off, nv', pv', e1, e2, e3, e4⟩ := h6 i x hx
      exact ⟨b, off, nv', pv', e1, e3, RdS.plain e4⟩

theorem flat_fit {n : Nat} {W : World} {nv pv : Value} {d : D} (h : RdC (n + 1) W nv pv d) : Fit d := h.1
/-- made at trees without structs and maps: a value. -/
theorem made_plain (sr : List D → List (D × D)) : ∀ (n : Nat) (d : D), (∀ y ∈ nodes d, 0 ≤ y.kind ∧ y.kind ≤ 22 ∧ y.kind ≠ 18 ∧ y.kind ≠ 21 ∧ y.parts.length ≤ 1000) → ∀ W0, MadeC sr (fun _ => false) n W0 d := by
  intro n
  induction n with
  | zero => intro d _ W0 nv pv W hr; exact hr.elim
  | succ n ih =>
    intro d hg W0 nv pv W hr
    have hr2 := hr.up W.below
    obtain ⟨na, nc, pa, pc, rfl, rfl⟩ := hr.slices
    obtain ⟨k0, k1, k2, k3, k4⟩ := hg d (nodes_self d)
    by_cases h17 : d.kind ≤ 17
    · have hf := hr.1
      refine (made_flat d na pa nc pc W.w k0 h17 hf.2.1.1 hf.2.1.2 hf.2.2.1.1 hf.2.2.1.2).mono ?_
      rintro e W' ⟨rfl, hb⟩
      obtain ⟨t, x, hx⟩ : ∃ t x, mdV d = .iface t x := by
        unfold mdV
        repeat' split
        all_goals exact ⟨_, _, rfl⟩
      exact ⟨hb, .inl ⟨rfl, t, x, by rw [hx], by unfold VlC; rw [if_pos h17, hx]⟩⟩
    · have hgr : great d.kind = true := by simp [great]; omega
      have hall := all_of (sr := sr) (tw := fun _ => false) hr2 k4 fun x hx V => ih x (fun y hy => hg y (nodes_part hgr hx hy)) V
      have hB : d.parts.any (fun _ => false) = false := by simp
      have h3 : d.kind = 19 ∨ d.kind = 20 ∨ d.kind = 22 := by omega
      rcases h3 with h3 | h3 | h3
      · refine (madeq_19 sr _ n d na pa nc pc W.w h3 hall).mono ?_
        rintro e W' ⟨hb, (⟨-, t, y, rfl, hv⟩ | ⟨h, -⟩)⟩
        · exact ⟨hb, .inl ⟨rfl, t, y, rfl, hv⟩⟩
        · rw [hB] at h; cases h
      · refine (madeq_20 sr _ n d na pa nc pc W.w h3 hall).mono ?_
        rintro e W' ⟨hb, (⟨-, t, y, rfl, hv⟩ | ⟨h, -⟩)⟩
        · exact ⟨hb, .inl ⟨rfl, t, y, rfl, hv⟩⟩
        · rw [hB] at h; cases h
      · refine (madeq_22 sr _ n d na pa nc pc W.w h3 hall).mono ?_
        rintro e W' ⟨hb, (⟨-, t, y, rfl, hv⟩ | ⟨h, -⟩)⟩
        · exact ⟨hb, .inl ⟨rfl, t, y, rfl, hv⟩⟩
        · rw [hB] at h; cases h
end Go.Proofs.YtjphklhfigammaaDoor
