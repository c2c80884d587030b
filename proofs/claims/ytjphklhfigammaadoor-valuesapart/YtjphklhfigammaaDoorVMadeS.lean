/- slices.Clone of names; made at structs. -/
import Derived.Test.YtjphklhfigammaaDoorVStruct
namespace Go.Proofs.YtjphklhfigammaaDoor
open Go.RowKit Go.Lib
set_option linter.unusedVariables false
set_option linter.unusedSimpArgs false

theorem info_str : ∃ i0, Tryd.prog.info? 9 = some i0 ∧ i0.zero = some (.string ⟨#[]⟩) ∧ i0.size = 1 ∧ i0.bytes = 16 := by
  have h : (Tryd.prog.info? 9).map (fun i => (i.zero, i.size, i.bytes)) = some (some (.string ⟨#[]⟩), 1, 16) := by kernel_rfl
  obtain ⟨i0, h1, h2⟩ := Option.map_eq_some_iff.1 h
  exact ⟨i0, h1, congrArg (·.1) h2, congrArg (·.2.1) h2, congrArg (·.2.2) h2⟩
theorem own_strs {w : World} {B n : Nat} {v : Value} {l : List ByteArray} (h : w.ownsRow B 9 1 v n (l.map Value.string)) (hn : l.length = n) : ∃ a c, v = .slice a n c ∧ n ≤ c ∧ c ≤ maxLen ∧ StrsS (fun b => B ≤ b) w a l := by
  obtain ⟨a, c, rfl, k1, k2⟩ := own_slice8 h
  refine ⟨a, c, rfl, k1, k2, fun i s hs => ?_⟩
  have hi : i < l.length := (List.getElem?_eq_some_iff.1 hs).1
  rcases h.2 with ⟨-, h0⟩ | ⟨g, cap', cur, hg1, hB, hg, -⟩
  · omega
  · obtain ⟨rfl, -, -⟩ := Value.slice.inj hg1
    refine ⟨g, 0, rfl, hB, ?_⟩
    rw [Nat.zero_add, h.cellAt i (by omega), List.getElem?_map, hs]; rfl
set_option maxRecDepth 1000000 in
set_option maxHeartbeats 4000000 in
theorem clone_any (names : List ByteArray) (nv : Value) (w : World) (hs : Strs w nv names) (h64 : names.length ≤ 1000) :
    Calls Tryd.prog 52 #[nv] w fun e w' => Below w.heap.size w w' ∧ ∃ a c, e = .returned (.slice a names.length c) ∧ names.length ≤ c ∧ c ≤ maxLen ∧ StrsS (fun b => w.heap.size ≤ b) w' a names := by
  obtain ⟨a, cap, rfl, hl1, hl2, hcell⟩ := hs
  cases a with
  | none =>
    have h0 : names = [] := by
      cases names with
      | nil => rfl
      | cons x l =>
        obtain ⟨-, b, off, he, -⟩ := hcell 0 x rfl
        cases he
    subst h0
    refine (Tryd.slices_Clone_nil 0 cap w).mono ?_
    rintro e w' ⟨rfl, rfl⟩
    exact ⟨Below.refl _ _, none, 0, rfl, Nat.le_refl _, Nat.zero_le _, fun i s h => by simp at h⟩
  | some ad =>
    obtain ⟨i0, hi, hz0, hz1, hz2⟩ := info_str
    have hne : ∀ w, (binOp .eql 23 (.slice (some ad) names.length cap) (.slice none 0 0)).run Tryd.prog w = .ok (.bool false) w := fun w => by kernel_rfl
    have hcs : ∀ (j : Nat) (u : Value), (names.map Value.string)[j]? = some u → w.cell? (ad.add j) = some u := by
      intro j u hj
      rw [List.getElem?_map] at hj
      obtain ⟨s, hs, rfl⟩ := Option.map_eq_some_iff.1 hj
      obtain ⟨-, b, off, he, hc⟩ := hcell j s hs
      obtain rfl := Option.some.inj he
      rw [show (⟨b, off, none⟩ : Addr).add j = ⟨b, off + j, none⟩ from by unfold Addr.add; split <;> simp_all]
      exact hc
    have how : (w.alloc (.cells #[] 9)).ownsRow w.heap.size 9 1 (.slice (some ⟨w.heap.size, 0, none⟩) 0 0) 0 [] := ⟨rfl, .inr ⟨w.heap.size, 0, #[], rfl, Nat.le_refl _, (MapKept.heap_alloc w _).1, Nat.le_refl _, Nat.zero_le _, rfl, rfl⟩⟩
    have hba : Below w.heap.size w (w.alloc (.cells #[] 9)) := (Below.refl _ _).alloc (Nat.le_refl _) _
    clear hcell
    go_enter Tryd.func52, Tryd.ntmps52
    go_wp2_with (at_builtin; refine wpList_append_own _ rfl _ _ 23 rfl w.heap.size 9 i0 (.string ⟨#[]⟩) 1 16 Tryd.underlying23 hi hz0 hz1 hz2 rfl (by decide) _ _ _ rfl how ad names.length cap (names.map Value.string) rfl ?c0 ?c1 ?c2 ?c3 ?c4 ?c5 ?_)
    case c0 => simp
    case c1 => exact fun j u hj => (World.cell?_of_block (w := w) (Below.heap_alloc _ _ _ (lt_of_cell (hcs j u hj)))).trans (hcs j u hj)
    case c2 => intro u hu; obtain ⟨s, -, rfl⟩ := List.mem_map.1 hu; rfl
    case c3 => unfold maxLen; omega
    case c4 => omega
    case c5 => simp
    intro v' w1 hown hgrow _
    first | rw [List.nil_append, Nat.zero_add] at hown | skip
    obtain ⟨a', c', rfl, k1, k2, k3⟩ := own_strs hown rfl
    have hb : Below w.heap.size w w1 := hba.grown hgrow (by simp) (fun k hk => by
      have : w.heap.size = k := Option.some.inj hk
      omega)
    clear hown hgrow hne hcs how
    go_wp2
    go_ret
    exact ⟨hb, a', c', rfl, k1, k2, k3⟩

set_option maxRecDepth 1000000 in
set_option maxHeartbeats 4000000 in
theorem madeq_18 (sr : List D → List (D × D)) (tw : D → Bool) (n : Nat) (d : D) (na pa : Option Addr) (nc pc : Nat) (w : World) (hk : d.kind = 18) (hs : Strs w (.slice na d.names.length nc) d.names) (h64 : d.names.length ≤ 1000) (hall : AllC sr tw n w pa pc d.parts) :
    Calls Tryd.prog 26 #[DV d (.slice na d.names.length nc) (.slice pa d.parts.length pc)] w fun e W' => Below w.heap.size w W' ∧
      (((dupN d.names || d.parts.any tw) = false ∧ ∃ t y, e = .returned (.iface t y) ∧ VlC sr (n + 1) (fun b => w.heap.size ≤ b) W' (.iface t y) d) ∨ ((dupN d.names || d.parts.any tw) = true ∧ e = .panicked (PE 5))) := by
  have hvl : ∀ (V W' : World) (ca fa : Option Addr) (cc fc : Nat), w.heap.size ≤ V.heap.size → d.names.length ≤ cc → cc ≤ maxLen → d.parts.length ≤ fc → fc ≤ maxLen → StrsS (fun b => w.heap.size ≤ b) W' ca d.names → Vals (VlC sr n (fun b => V.heap.size ≤ b) W') (fun b => V.heap.size ≤ b) W' fa d.parts → VlC sr (n + 1) (fun b => w.heap.size ≤ b) W' (.iface 83 (.agg #[.int .i64 d.kind, .string d.ty, .int .i64 d.hook, .slice ca d.names.length cc, .slice fa d.parts.length fc])) d := by
    intro V W' ca fa cc fc hV n1 n2 h1 h2 h4 h3
    have hkp : Kept (fun b => V.heap.size ≤ b) (fun b => w.heap.size ≤ b) W' W' := fun b hb _ => ⟨Nat.le_trans hV hb, fun _ => rfl⟩
    unfold VlC
    rw [if_neg (by omega), if_pos (by omega)]
    exact ⟨ca, cc, fa, fc, rfl, n1, n2, h1, h2, h4, h3.turn hkp fun v y h => h.turn hkp⟩
  obtain ⟨kind, ty, bits, imag, text, names, parts, hook⟩ := d
  simp only at hk hs h64 hall hvl ⊢
  subst hk
  obtain ⟨W2, hW2⟩ : ∃ W2, W2 = (w.alloc (.cells #[.int .i64 18, .string ty, .int .u64 bits, .int .u64 imag, .string text, .slice na names.length nc, .slice pa parts.length pc, .int .i64 hook] 26)).alloc (.cells #[.int .i64 18, .string ty, .int .i64 hook] 53) := ⟨_, rfl⟩
  have hbW : Below w.heap.size w W2 := by rw [hW2]; exact ((Below.refl _ _).alloc (Nat.le_refl _) _).alloc (by simp) _
  have f0 : ∀ V, Below W2.heap.size W2 V → (fun w' => w'.cell? ⟨w.heap.size, 6, none⟩ = some (.slice pa parts.length pc) ∧ w'.cell? ⟨w.heap.size + 1, 0, none⟩ = some (.int .i64 18) ∧ w'.cell? ⟨w.heap.size + 1, 1, none⟩ = some (.string ty) ∧ w'.cell? ⟨w.heap.size + 1, 2, none⟩ = some (.int .i64 hook) ∧ w'.cell? ⟨w.heap.size, 5, none⟩ = some (.slice na names.length nc)) V := by
    intro V hV
    refine ⟨?_, ?_, ?_, ?_, ?_⟩
    all_goals exact up_cell hV (by rw [hW2]; simp [go_sem])
  have hat := anytwice_any names _ W2 (hs.up hbW)
  have hbd : Below w.heap.size w W2.drew := hbW.trans (Below.drew (Below.refl _ _))
  have hcl := clone_any names _ W2.drew (hs.up hbd) h64
  clear hs
  generalize dupN names = q at hat ⊢
  cases q with
  | true =>
    go_enter Tryd.func26, Tryd.ntmps26
    go_wp2_with fail
    rw [← hW2]
    refine hat.mono ?_
    rintro e V ⟨rfl, hV⟩
    rw [hV]
    go_wp2_with fail
    refine (must_no _ _).mono ?_
    rintro e V5 ⟨rfl, hV5⟩
    rw [hV5]
    first | exact ⟨rfl, hbW, .inr ⟨rfl, rfl⟩⟩ | exact ⟨rfl, by rw [← hW2]; exact hbW, .inr ⟨rfl, rfl⟩⟩
  | false =>
    go_enter Tryd.func26, Tryd.ntmps26
    go_wp2_with fail
    rw [← hW2]
    refine hat.mono ?_
    rintro e V ⟨rfl, hV⟩
    rw [hV]
    clear hW2 hat hV V
    go_wp2_with fail
    refine (must_ok _ _).mono ?_
    rintro e V5 ⟨rfl, hV5⟩
    rw [hV5]
    clear hV5 V5
    go_wp2
    refine wp_region_held_drew (S := fun w' => w'.cell? ⟨w.heap.size, 6, none⟩ = some (.slice pa parts.length pc) ∧ w'.cell? ⟨w.heap.size + 1, 0, none⟩ = some (.int .i64 18) ∧ w'.cell? ⟨w.heap.size + 1, 1, none⟩ = some (.string ty) ∧ w'.cell? ⟨w.heap.size + 1, 2, none⟩ = some (.int .i64 hook) ∧ w'.cell? ⟨w.heap.size, 5, none⟩ = some (.slice na names.length nc)) (by kernel_rfl) (f0 _ (Below.refl W2.heap.size W2).drew) ?_
    intro hS
    refine wpAnyH_take (i := 0) (v := .agg #[.int .i64 18, .string ty, .int .i64 hook]) rfl (by kernel_rfl) (by kernel_rfl) (by kernel_rfl) (fun _ _ _ h => h) (Or.inl ⟨by rfl, ?_⟩) (by assumption) ?_
    · intro w5 hSw
      obtain ⟨s6, s0, s1, s2, s3⟩ := hSw
      go_simp
    simp only [Act.put, List.setIfInBounds_toArray, List.set_cons_zero, List.set_cons_succ]
    refine wpAnyH_take (i := 1) (v := .pointer (some ⟨w.heap.size, 5, none⟩)) rfl (by kernel_rfl) (by kernel_rfl) (by kernel_rfl) (fun _ _ _ h => h) (Or.inl ⟨by rfl, ?_⟩) (by assumption) ?_
    · intro w5 hSw
      obtain ⟨s6, s0, s1, s2, s3⟩ := hSw
      go_simp
    simp only [Act.put, List.setIfInBounds_toArray, List.set_cons_zero, List.set_cons_succ]
    refine wpAnyH_take (i := 2) (v := .slice na names.length nc) rfl (by kernel_rfl) (by kernel_rfl) (by kernel_rfl) (fun _ _ _ h => h) (Or.inl ⟨by rfl, ?_⟩) (by assumption) ?_
    · intro w5 hSw
      obtain ⟨s6, s0, s1, s2, s3⟩ := hSw
      go_simp
    simp only [Act.put, List.setIfInBounds_toArray, List.set_cons_zero, List.set_cons_succ]
    refine wpAnyH_take (i := 4) (v := .pointer (some ⟨w.heap.size, 6, none⟩)) rfl (by kernel_rfl) (by kernel_rfl) (by kernel_rfl) (fun _ _ _ h => h) (Or.inl ⟨by rfl, ?_⟩) (by assumption) ?_
    · intro w5 hSw
      obtain ⟨s6, s0, s1, s2, s3⟩ := hSw
      go_simp
    simp only [Act.put, List.setIfInBounds_toArray, List.set_cons_zero, List.set_cons_succ]
    refine wpAnyH_take (i := 5) (v := .slice pa parts.length pc) rfl (by kernel_rfl) (by kernel_rfl) (by kernel_rfl) (fun _ _ _ h => h) (Or.inl ⟨by rfl, ?_⟩) (by assumption) ?_
    · intro w5 hSw
      obtain ⟨s6, s0, s1, s2, s3⟩ := hSw
      go_simp
    simp only [Act.put, List.setIfInBounds_toArray, List.set_cons_zero, List.set_cons_succ]
    refine wpAnyH_ready (rs := [3]) (by kernel_rfl) (by simp) ?_
    refine AllReadyH.cons rfl (fun K hK => ?_) AllReadyH.nil
    go_simp
    refine hcl.mono ?_
    rintro e Z1 ⟨hb1, ca, cc, rfl, n1, n2, hst⟩
    have hbV1 : Below W2.heap.size W2 Z1 := (Below.refl W2.heap.size W2).drew.trans hb1
    have hbw1 : Below w.heap.size w Z1 := hbW.trans (hbV1.mono hbW.size)
    have hdr := hall Z1 hbw1
    refine hK.out _ _ (f0 Z1 hbV1) (fun hHeld => ?_)
    refine wpAnyH_ready (rs := [6]) (by kernel_rfl) (by simp) ?_
    refine AllReadyH.cons rfl (fun K4 hK4 => ?_) AllReadyH.nil
    go_simp
    refine hdr.mono ?_
    rintro e Z ⟨hbZ, (⟨htw, fa, fc, rfl, k1, k2, hv⟩ | ⟨htw, rfl⟩)⟩
    · have hbZ2 : Below W2.heap.size W2 Z := hbV1.trans (hbZ.mono hbV1.size)
      have HT : Hid (parts.any tw = false) := htw
      clear htw
      refine hK4.out _ _ (f0 Z hbZ2) (fun hHeld => ?_)
      refine wpAnyH_ready (rs := [7]) (by kernel_rfl) (by simp) ?_
      refine AllReadyH.cons rfl (fun K1 hK1 => ?_) AllReadyH.nil
      go_simp
      refine hK1.out _ _ (f0 Z hbZ2) (fun _ => ?_)
      refine wpAnyH_ready (rs := [8]) (by kernel_rfl) (by simp) ?_
      refine AllReadyH.cons rfl (fun K2 hK2 => ?_) AllReadyH.nil
      go_simp
      refine hK2.out _ _ (f0 Z hbZ2) (fun _ => ?_)
      refine wpAnyH_ready (rs := [9]) (by kernel_rfl) (by simp) ?_
      refine AllReadyH.cons rfl (fun K3 hK3 => ?_) AllReadyH.nil
      go_simp
      refine hK3.out _ _ (f0 Z hbZ2) (fun _ => ?_)
      refine wpAnyH_done (by kernel_rfl) ?_ _
      clear hK hK1 hK2 hK3 hK4 hdr
      go_wp2
      go_ret
      exact ⟨hbW.trans (hbZ2.mono hbW.size), .inl ⟨by simpa using HT.out, 83, .agg #[.int .i64 18, .string ty, .int .i64 hook, .slice ca names.length cc, .slice fa parts.length fc], rfl, hvl Z1 _ _ _ _ _ (Nat.le_trans hbW.size hbV1.size) n1 n2 k1 k2 ((hst.turn (Kept.below hbZ fun b hb _ => hb)).turn fun b hb _ => ⟨Nat.le_trans hbW.size hb, fun _ => rfl⟩) hv⟩⟩
    · exact ⟨rfl, hbw1.trans (hbZ.mono hbw1.size), .inr ⟨by simpa using htw, rfl⟩⟩

end Go.Proofs.YtjphklhfigammaaDoor
