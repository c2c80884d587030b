/- A row of descriptors that are taken from elsewhere; the order that the document sorts by. -/
import Derived.Test.YtlgieoabellbmaaGreatDoorVRawP
namespace Go.Proofs.YtlgieoabellbmaaGreatDoor
open Go.RowKit
set_option linter.unusedVariables false
set_option linter.unusedSimpArgs false
def RowE (P : Value → Value → D → Prop) (M : Nat) (W : World) (v : Value) (l : List D) : Prop :=
 ∃ ds : List (D × Value × Value), ds.map (·.1) = l ∧ W.ownsRow M 26 8 v l.length (ds.flatMap c8) ∧ ∀ t ∈ ds, P t.2.1 t.2.2 t.1
section
variable {P : Value → Value → D → Prop} {M : Nat} {W W' : World} {v : Value} {l : List D}
theorem RowE.nil (P : Value → Value → D → Prop) (M : Nat) (W : World) : RowE P M W (.slice none 0 0) [] := ⟨[], rfl, World.ownsRow_nil _ _ _ _, fun t ht => by cases ht⟩
theorem RowE.up (h : RowE P M W v l) (hb : Below W.heap.size W W') : RowE P M W' v l := by
 obtain ⟨ds, e, h1, h2⟩ := h
 exact ⟨ds, e, own_upZ h1 hb, h2⟩
theorem RowE.slice (h : RowE P M W v l) : ∃ a c, v = .slice a l.length c ∧ l.length ≤ c ∧ c ≤ maxLen := by
 obtain ⟨ds, e, h1, h2⟩ := h
 exact own_sliceZ h1
theorem RowE.lt (h : RowE P M W v l) : ∀ k, v.ownBlock = some k → M ≤ k ∧ k < W.heap.size := by
 obtain ⟨ds, e, h1, h2⟩ := h
 exact h1.lt
theorem RowE.imp {P' : Value → Value → D → Prop} (h : RowE P M W v l) (hP : ∀ nv pv d, P nv pv d → P' nv pv d) : RowE P' M W v l := by
 obtain ⟨ds, e, h1, h2⟩ := h
 exact ⟨ds, e, h1, fun t ht => hP _ _ _ (h2 t ht)⟩
theorem RowE.reads (h : RowE P M W v l) : ∃ a cap, v = .slice a l.length cap ∧ l.length ≤ cap ∧ cap ≤ maxLen ∧
  ∀ (i : Nat) (x : D), l[i]? = some x → ∃ b nv' pv', a = some ⟨b, 0, none⟩ ∧ M ≤ b ∧ b < W.heap.size ∧ At8 W b (i * 8) x nv' pv' ∧ P nv' pv' x := by
 obtain ⟨a, c, rfl, h1, h2⟩ := h.slice
 have hlt := h.lt
 obtain ⟨ds, e, ho, hd⟩ := h
 refine ⟨a, c, rfl, h1, h2, fun i x hx => ?_⟩
 rw [← e, List.getElem?_map, Option.map_eq_some_iff] at hx
 obtain ⟨t, ht, rfl⟩ := hx
 have hil : i < l.length := by rw [← e, List.length_map]; exact (List.getElem?_eq_some_iff.1 ht).1
 rcases ho.2 with ⟨h3, h4⟩ | ⟨g, cap, cur, hv, hB, hg, -⟩
 ·omega
 ·obtain ⟨rfl, -, -⟩ := Value.slice.inj hv
  have hc : ∀ k u, (c8 t)[k]? = some u → W.cell? ⟨g, i * 8 + k, none⟩ = some u := fun k u hu => by
   have hk : k < 8 := (List.getElem?_eq_some_iff.1 hu).1
   rw [ho.cellAt _ (by omega)]
   exact flat8_at ds i t ht k u hu
  exact ⟨g, t.2.1, t.2.2, rfl, hB, (hlt g rfl).2, ⟨hc 0 _ rfl, hc 1 _ rfl, hc 2 _ rfl, hc 3 _ rfl, hc 4 _ rfl, hc 5 _ rfl, hc 6 _ rfl, hc 7 _ rfl⟩, hd t (List.mem_of_getElem? ht)⟩
end
theorem run_appE {P : Value → Value → D → Prop} {M : Nat} {W0 : World} {v : Value} {l : List D} (ty : TypeId) (h : RowE P M W0 v l) (ns : List (D × Value × Value)) (hns : ∀ t ∈ ns, P t.2.1 t.2.2 t.1) (h1 : ∀ t ∈ ns, t.2.1.oneCell' = true ∧ t.2.2.oneCell' = true)
  (hl : l.length + ns.length ≤ 100000) (hM : M ≤ W0.heap.size) :
  ∃ v' w', (Builtin.append_ #[24, 24] ty #[v, .slice (some ⟨W0.heap.size, 0, none⟩) ns.length ns.length]).run Tryz.prog (W0.alloc (.cells (ns.flatMap c8).toArray 26)) = .ok v' w' ∧ (∃ ao c, v' = .slice ao (l.length + ns.length) c) ∧ RowE P M w' v' (l ++ ns.map (·.1)) ∧ ∀ N w0, Below N w0 W0 → N ≤ M → Below N w0 w' := by
 obtain ⟨i0, hi, hz0, hz1, hz2⟩ := info_Desc
 obtain ⟨ds, e, q1, q2⟩ := id h
 have hfl : (ns.flatMap c8).length = ns.length * 8 := by
  clear hns h1 hl
  induction ns with
  | nil => rfl
  | cons t r ih => rw [List.flatMap_cons, List.length_append, ih, List.length_cons]; simp; omega
 have al : ∀ j u, (ns.flatMap c8)[j]? = some u → (W0.alloc (.cells (ns.flatMap c8).toArray 26)).cell? ((⟨W0.heap.size, 0, none⟩ : Addr).add j) = some u := by
  intro j u hj
  rw [show ((⟨W0.heap.size, 0, none⟩ : Addr).add j) = ⟨W0.heap.size, j, none⟩ by unfold Addr.add; split <;> simp_all]
  exact (cell_of_row (W0.alloc (.cells (ns.flatMap c8).toArray 26)) W0.heap.size j (ns.flatMap c8).toArray 26 (0, 0) (heap_alloc_new W0 _)).trans (by simpa using hj)
 have one : ∀ u ∈ ns.flatMap c8, u.oneCell' = true := by
  intro u hu
  obtain ⟨t, ht, hu⟩ := List.mem_flatMap.1 hu
  obtain ⟨n1, n2⟩ := h1 t ht
  simp at hu
  rcases hu with rfl | rfl | rfl | rfl | rfl | rfl | rfl | rfl
  all_goals first | rfl | assumption
 obtain ⟨v', w', hr, p2, p3, -, p5⟩ := run_append_own_at (P := Tryz.prog) (W0.alloc (.cells (ns.flatMap c8).toArray 26)) M 24 ty 26 i0 _ 8 112 Tryz.underlying24 hi hz0 hz1 hz2 rfl (by decide) v l.length (ds.flatMap c8) (q1.alloc _) ⟨W0.heap.size, 0, none⟩ ns.length ns.length (ns.flatMap c8) hfl al one (by unfold maxLen; omega) (by omega) (by simp; omega)
 obtain ⟨ao, c, e2, -, -⟩ := own_sliceZ p2
 refine ⟨v', w', hr, ⟨ao, c, e2⟩, ⟨ds ++ ns, by rw [List.map_append, e], ?_, fun t ht => ?_⟩, fun N w0 hb hN => ?_⟩
 ·rw [List.length_append, List.length_map, List.flatMap_append]
  exact p2
 ·rcases List.mem_append.1 ht with ht | ht
  ·exact q2 t ht
  ·exact hns t ht
 ·exact (hb.alloc (by omega) _).grown p3 (by simp; omega) (fun k hk => Nat.le_trans hN (h.lt k hk).1)
theorem wp_appE {P : Value → Value → D → Prop} {o : Oper} {a : Act} {K : Act → World → Prop} {Q : Exit → Act → World → Prop} (s x : Operand) (ho : o.op = .call { callee := .builtin .append, args := #[s, x], argTypes := #[24, 24] })
  {M : Nat} {W0 W : World} {v : Value} {l : List D} (h : RowE P M W0 v l) (ns : List (D × Value × Value)) (hns : ∀ t ∈ ns, P t.2.1 t.2.2 t.1) (h1 : ∀ t ∈ ns, t.2.1.oneCell' = true ∧ t.2.2.oneCell' = true)
  (hs : a.eval s = v) (hx : a.eval x = .slice (some ⟨W0.heap.size, 0, none⟩) ns.length ns.length) (hw : W = W0.alloc (.cells (ns.flatMap c8).toArray 26)) (hl : l.length + ns.length ≤ 100000) (hM : M ≤ W0.heap.size)
  (hk : ∀ v' w', (∃ ao c, v' = .slice ao (l.length + ns.length) c) → RowE P M w' v' (l ++ ns.map (·.1)) → (∀ N w0, Below N w0 W0 → N ≤ M → Below N w0 w') → K (a.put o.dst v') w') : o.wp Tryz.prog a W K Q := by
 obtain ⟨v', w', hr, p1, p2, p3⟩ := run_appE o.type h ns hns h1 hl hM
 subst hw
 unfold Oper.wp execOp
 simp only [ho, resolve, invoke, builtin, Sem.run_bind, Sem.run_pure, Result.andThen_ok, List.map_toArray, List.map_cons, List.map_nil, hs, hx, hr]
 exact hk v' w' p1 p2 p3
theorem wpl_appE {P : Value → Value → D → Prop} {ops : Array Oper} {rest : List Oper} {o : Oper} {a : Act} {Q : Exit → Act → World → Prop} (hgd : o.guard = none) (s x : Operand) (ho : o.op = .call { callee := .builtin .append, args := #[s, x], argTypes := #[24, 24] })
  {M : Nat} {W0 W : World} {v : Value} {l : List D} (h : RowE P M W0 v l) (ns : List (D × Value × Value)) (hns : ∀ t ∈ ns, P t.2.1 t.2.2 t.1) (h1 : ∀ t ∈ ns, t.2.1.oneCell' = true ∧ t.2.2.oneCell' = true)
  (hs : a.eval s = v) (hx : a.eval x = .slice (some ⟨W0.heap.size, 0, none⟩) ns.length ns.length) (hw : W = W0.alloc (.cells (ns.flatMap c8).toArray 26)) (hl : l.length + ns.length ≤ 100000) (hM : M ≤ W0.heap.size)
  (hk : ∀ v' w', (∃ ao c, v' = .slice ao (l.length + ns.length) c) → RowE P M w' v' (l ++ ns.map (·.1)) → (∀ N w0, Below N w0 W0 → N ≤ M → Below N w0 w') → wpList Tryz.prog ops Q rest (a.put o.dst v') w') : wpList Tryz.prog ops Q (o :: rest) a W :=
 wpList_plain hgd fun K hK => wp_appE s x ho h ns hns h1 hs hx hw hl hM fun v' w' a1 a2 a3 => hK _ _ (hk v' w' a1 a2 a3)
def ins (p : D × D) : List (D × D) → List (D × D)
 | [] => [p]
 | q :: t => if cmpP p q < 0 then p :: q :: t else q :: ins p t
theorem ins_perm (p : D × D) : ∀ l, (ins p l).Perm (p :: l)
 | [] => List.Perm.refl _
 | q :: t => by
   unfold ins
   split
   ·exact List.Perm.refl _
   ·exact ((ins_perm p t).cons q).trans (List.Perm.swap _ _ _)
theorem ins_sorted (p : D × D) : ∀ l : List (D × D), l.Pairwise (fun a b => cmpP a b ≤ 0) → (ins p l).Pairwise (fun a b => cmpP a b ≤ 0)
 | [], _ => List.pairwise_singleton _ _
 | q :: t, h => by
   obtain ⟨h1, h2⟩ := List.pairwise_cons.1 h
   unfold ins
   split
   ·rename_i hc
    refine List.pairwise_cons.2 ⟨fun r hr => ?_, h⟩
    rcases List.mem_cons.1 hr with rfl | hr
    ·omega
    ·exact cmpP_trans p q r (by omega) (h1 r hr)
   ·rename_i hc
    refine List.pairwise_cons.2 ⟨fun r hr => ?_, ins_sorted p t h2⟩
    rcases List.mem_cons.1 ((ins_perm p t).subset hr) with rfl | hr
    ·have := cmpP_anti r q; omega
    ·exact h1 r hr
theorem ins_none (p : D × D) : ∀ l : List (D × D), (∀ q ∈ l, ¬ cmpP p q < 0) → ins p l = l ++ [p]
 | [], _ => rfl
 | q :: t, h => by
   unfold ins
   rw [if_neg (h q (List.mem_cons_self ..)), ins_none p t fun r hr => h r (List.mem_cons_of_mem _ hr)]
   rfl
theorem ins_new (p q : D × D) : ∀ l : List (D × D), (∀ r ∈ l, ¬ cmpP p r < 0) → cmpP p q < 0 → ins p (l ++ [q]) = l ++ [p, q]
 | [], _, hq => by simp [ins, hq]
 | r :: t, h, hq => by
   show ins p (r :: (t ++ [q])) = _
   unfold ins
   rw [if_neg (h r (List.mem_cons_self ..)), ins_new p q t (fun x hx => h x (List.mem_cons_of_mem _ hx)) hq]
   rfl
theorem ins_done (p q : D × D) : ∀ l : List (D × D), (∃ r ∈ l, cmpP p r < 0) → ins p (l ++ [q]) = ins p l ++ [q]
 | [], h => by obtain ⟨r, hr, -⟩ := h; cases hr
 | r :: t, h => by
   show ins p (r :: (t ++ [q])) = _
   unfold ins
   split
   ·rfl
   ·rename_i hc
    rw [ins_done p q t]
    ·rfl
    ·obtain ⟨x, hx, hlt⟩ := h
     rcases List.mem_cons.1 hx with rfl | hx
     ·exact absurd hlt hc
     ·exact ⟨x, hx, hlt⟩
def isrt (l : List (D × D)) : List (D × D) := l.foldl (fun acc p => ins p acc) []
theorem isrt_snoc (l : List (D × D)) (p : D × D) : isrt (l ++ [p]) = ins p (isrt l) := by
 unfold isrt
 rw [List.foldl_append]
 rfl
theorem isrt_ok (l : List (D × D)) : (isrt l).Perm l ∧ (isrt l).Pairwise (fun a b => cmpP a b ≤ 0) := by
 unfold isrt
 have : ∀ (l acc : List (D × D)), acc.Pairwise (fun a b => cmpP a b ≤ 0) → (l.foldl (fun acc p => ins p acc) acc).Perm (l ++ acc) ∧ (l.foldl (fun acc p => ins p acc) acc).Pairwise (fun a b => cmpP a b ≤ 0) := by
  intro l
  induction l with
  | nil => intro acc h; exact ⟨List.Perm.refl _, h⟩
  | cons p t ih =>
    intro acc h
    obtain ⟨h1, h2⟩ := ih (ins p acc) (ins_sorted p acc h)
    refine ⟨?_, h2⟩
    rw [List.foldl_cons]
    refine h1.trans ?_
    exact ((ins_perm p acc).append_left t).trans List.perm_middle
 have h := this l [] List.Pairwise.nil
 rw [List.append_nil] at h
 exact h
theorem isrt_srt {l : List D} (hd : dupM l = false) : isrt (prs2 l) = srt l := srt_one (isrt_ok _).1 (isrt_ok _).2 hd
end Go.Proofs.YtlgieoabellbmaaGreatDoor
